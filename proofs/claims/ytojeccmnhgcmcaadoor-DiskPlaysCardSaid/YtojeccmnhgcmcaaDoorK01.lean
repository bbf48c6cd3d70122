/- Plain: registers, steps, checksums. -/
namespace Go.Proofs.YtojeccmnhgcmcaaDoor.Crc
/-! Plain: registers are numbers. -/
def stp (r : Nat) : Nat := if r % 2 = 1 then r / 2 ^^^ 3988292384 else r / 2
def stps : Nat → Nat → Nat
  | 0, r => r
  | n + 1, r => stps n (stp r)
def takeB (r c : Nat) : Nat := stps 8 (r ^^^ c)
def takes (r : Nat) (l : List Nat) : Nat := l.foldl takeB r
def ones : Nat := 4294967295
def inv (r : Nat) : Nat := ones ^^^ r
def more (s : Nat) (l : List Nat) : Nat := inv (takes (inv s) l)

theorem mod_two_xor (a b : Nat) : (a ^^^ b) % 2 = (a + b) % 2 := by
  have h := @Nat.xor_mod_two_pow a b 1
  rw [show (2 : Nat) ^ 1 = 2 from rfl] at h
  rw [h]
  have ea : a % 2 = 0 ∨ a % 2 = 1 := by omega
  have eb : b % 2 = 0 ∨ b % 2 = 1 := by omega
  rcases ea with ea | ea <;> rcases eb with eb | eb <;> rw [ea, eb]
  · show 0 = _; omega
  · show 1 = _; omega
  · show 1 = _; omega
  · show 0 = _; omega
theorem xor_xor (p r : Nat) : p ^^^ (p ^^^ r) = r := by rw [← Nat.xor_assoc, Nat.xor_self, Nat.zero_xor]
theorem xor_join (p A B C : Nat) : (A ^^^ B) ^^^ (p ^^^ (C ^^^ A)) = p ^^^ (C ^^^ B) := by
  rw [Nat.xor_comm A B, Nat.xor_assoc B A, ← Nat.xor_assoc A, Nat.xor_comm A, Nat.xor_assoc p A, Nat.xor_comm C A, ← Nat.xor_assoc A A, Nat.xor_self, Nat.zero_xor, Nat.xor_comm B, Nat.xor_assoc]
theorem stp_xor (a b : Nat) : stp (a ^^^ b) = stp a ^^^ stp b := by
  unfold stp
  have h1 : (a ^^^ b) / 2 = a / 2 ^^^ b / 2 := Nat.xor_div_two
  have h2 : (a ^^^ b) % 2 = (a + b) % 2 := mod_two_xor a b
  rw [h1, h2]
  have ea : a % 2 = 0 ∨ a % 2 = 1 := by omega
  have eb : b % 2 = 0 ∨ b % 2 = 1 := by omega
  have key : ∀ x y p : Nat, x ^^^ p ^^^ (y ^^^ p) = x ^^^ y := by
    intro x y p
    rw [Nat.xor_assoc, ← Nat.xor_assoc p y p, Nat.xor_comm p y, Nat.xor_assoc y p p, Nat.xor_self, Nat.xor_zero]
  rcases ea with ea | ea <;> rcases eb with eb | eb
  · rw [if_neg (by omega), if_neg (by omega), if_neg (by omega)]
  · rw [if_pos (by omega), if_neg (by omega), if_pos (by omega), Nat.xor_assoc]
  · rw [if_pos (by omega), if_pos (by omega), if_neg (by omega), Nat.xor_assoc, Nat.xor_assoc, Nat.xor_comm (b / 2)]
  · rw [if_neg (by omega), if_pos (by omega), if_pos (by omega), key]

theorem stp_lt (r : Nat) (h : r < 4294967296) : stp r < 4294967296 := by
  unfold stp
  split
  · exact Nat.xor_lt_two_pow (n := 32) (by omega) (by omega)
  · omega
theorem stps_xor (n : Nat) : ∀ a b : Nat, stps n (a ^^^ b) = stps n a ^^^ stps n b := by
  induction n with
  | zero => intro a b; rfl
  | succ n ih => intro a b; simp only [stps]; rw [stp_xor, ih]
theorem stps_lt (n : Nat) : ∀ r : Nat, r < 4294967296 → stps n r < 4294967296 := by
  induction n with
  | zero => intro a h; exact h
  | succ n ih => intro a h; simp only [stps]; exact ih _ (stp_lt a h)
theorem stps_add (m n : Nat) : ∀ r : Nat, stps (m + n) r = stps n (stps m r) := by
  induction m with
  | zero => intro r; rw [Nat.zero_add]; rfl
  | succ m ih => intro r; rw [show m + 1 + n = (m + n) + 1 by omega]; simp only [stps]; rw [ih]
theorem stps_stp (n r : Nat) : stps n (stp r) = stp (stps n r) := by
  have h1 := stps_add 1 n r
  have h2 := stps_add n 1 r
  rw [Nat.add_comm] at h1
  rw [h1] at h2
  exact h2
theorem stps_zero (n : Nat) : stps n 0 = 0 := by
  induction n with
  | zero => rfl
  | succ n ih => exact ih
/-- The steps of powers of two. -/
theorem stp_two (x : Nat) : stp (2 * x) = x := by unfold stp; rw [if_neg (by omega)]; omega
theorem stps_pow (n : Nat) : ∀ k : Nat, stps n (2 ^ (k + n)) = 2 ^ k := by
  induction n with
  | zero => intro k; rfl
  | succ n ih => intro k; simp only [stps]; rw [show 2 ^ (k + (n + 1)) = 2 * 2 ^ (k + n) by rw [← Nat.add_assoc, Nat.pow_succ]; omega, stp_two, ih]
theorem split_bits (r k : Nat) : r = (r / 2 ^ k * 2 ^ k) ^^^ (r % 2 ^ k) := by
  apply Nat.eq_of_testBit_eq
  intro i
  rw [Nat.testBit_xor, Nat.testBit_mul_two_pow, Nat.testBit_mod_two_pow, Nat.testBit_div_two_pow]
  by_cases h : k ≤ i
  · have h' : ¬ i < k := by omega
    simp [h, h', Nat.sub_add_cancel]
  · have h' : i < k := by omega
    simp [h, h']
def halves (i : Nat) : Nat := stps 4 i
theorem four_eq (r : Nat) : stps 4 r = r / 16 ^^^ halves (r % 16) := by
  have h := split_bits r 4
  have e : stps 4 (r / 2 ^ 4 * 2 ^ 4) = r / 16 := by
    simp only [stps]
    rw [show r / 2 ^ 4 * 2 ^ 4 = 2 * (2 * (2 * (2 * (r / 16)))) by omega, stp_two, stp_two, stp_two, stp_two]
  rw [show stps 4 r = stps 4 ((r / 2 ^ 4 * 2 ^ 4) ^^^ (r % 2 ^ 4)) by rw [← h], stps_xor, e]
  rfl

theorem takeB_lt (r c : Nat) (hr : r < 4294967296) (hc : c < 256) : takeB r c < 4294967296 :=
  stps_lt 8 _ (Nat.xor_lt_two_pow (n := 32) (by omega) (by omega))
theorem takes_lt (l : List Nat) : ∀ r : Nat, r < 4294967296 → (∀ c ∈ l, c < 256) → takes r l < 4294967296 := by
  induction l with
  | nil => intro r h _; exact h
  | cons c l ih => intro r h hc; exact ih _ (takeB_lt r c h (hc c (List.mem_cons_self ..))) (fun d hd => hc d (List.mem_cons_of_mem _ hd))
theorem ones_lt : ones < 2 ^ 32 := by decide
theorem inv_lt (r : Nat) (h : r < 4294967296) : inv r < 4294967296 := by
  have := Nat.xor_lt_two_pow (n := 32) ones_lt (y := r) (by omega)
  exact this
theorem inv_eq (r : Nat) : inv r = ones ^^^ r := rfl
theorem inv_inv (r : Nat) : inv (inv r) = r := by rw [inv_eq, inv_eq]; exact xor_xor ones r
theorem more_lt (s : Nat) (l : List Nat) (h : s < 4294967296) (hc : ∀ c ∈ l, c < 256) : more s l < 4294967296 := inv_lt _ (takes_lt l _ (inv_lt _ h) hc)
theorem takes_append (r : Nat) (l m : List Nat) : takes r (l ++ m) = takes (takes r l) m := by unfold takes; rw [List.foldl_append]
theorem takes_xor (l : List Nat) : ∀ r s : Nat, takes (r ^^^ s) l = takes r l ^^^ stps (8 * l.length) s := by
  induction l with
  | nil => intro r s; rfl
  | cons c l ih =>
    intro r s
    show takes (takeB (r ^^^ s) c) l = takes (takeB r c) l ^^^ _
    have e : takeB (r ^^^ s) c = takeB r c ^^^ stps 8 s := by
      unfold takeB
      rw [← stps_xor, Nat.xor_assoc, Nat.xor_assoc, Nat.xor_comm s c]
    rw [e, ih, ← stps_add, List.length_cons, show 8 + 8 * l.length = 8 * (l.length + 1) by omega]
theorem more_append (s : Nat) (l m : List Nat) : more s (l ++ m) = more (more s l) m := by
  unfold more; rw [inv_inv, takes_append]
/-- Joined checksums. -/
theorem join_of (p l1 n : Nat) (m : List Nat) (h0 : ∀ r, takes r m = takes 0 m ^^^ stps n r) :
    stps n (p ^^^ l1) ^^^ (p ^^^ takes p m) = p ^^^ takes l1 m := by
  rw [h0 l1, h0 p, stps_xor]
  exact xor_join _ _ _ _
theorem more_join (l m : List Nat) : stps (8 * m.length) (more 0 l) ^^^ more 0 m = more 0 (l ++ m) := by
  have h0 : ∀ r, takes r m = takes 0 m ^^^ stps (8 * m.length) r := by
    intro r; rw [← takes_xor, Nat.zero_xor]
  rw [more_append]
  have e : inv 0 = ones := by unfold inv; exact Nat.xor_zero _
  unfold more
  rw [inv_inv, e]
  unfold inv
  generalize ones = p
  exact join_of p _ _ m h0
/-! Plain: linear operators, given by what they make of single bits. -/
structure Lin (F : Nat → Nat) : Prop where
  x : ∀ a b, F (a ^^^ b) = F a ^^^ F b
theorem Lin.z {F : Nat → Nat} (h : Lin F) : F 0 = 0 := by
  have := h.x 0 0
  rw [Nat.xor_self, Nat.xor_self] at this; exact this
theorem lin_stps (n : Nat) : Lin (stps n) := ⟨stps_xor n⟩
/-- What the lowest n bits of r add. -/
def ofN (F : Nat → Nat) : Nat → Nat → Nat
  | 0, _ => 0
  | n + 1, r => ofN F n r ^^^ (if r / 2 ^ n % 2 = 1 then F (2 ^ n) else 0)
theorem low_succ (r n : Nat) : r % 2 ^ (n + 1) = r % 2 ^ n ^^^ (if r / 2 ^ n % 2 = 1 then 2 ^ n else 0) := by
  apply Nat.eq_of_testBit_eq
  intro i
  have hb : r.testBit n = decide (r / 2 ^ n % 2 = 1) := by rw [Nat.testBit_eq_decide_div_mod_eq]
  have e : (if r / 2 ^ n % 2 = 1 then 2 ^ n else 0 : Nat).testBit i = (decide (n = i) && r.testBit n) := by
    rw [hb]
    split <;> rename_i h <;> simp [h, Nat.testBit_two_pow]
  rw [Nat.testBit_xor, Nat.testBit_mod_two_pow, Nat.testBit_mod_two_pow, e]
  rcases Nat.lt_trichotomy i n with h | h | h
  · simp [show i < n + 1 by omega, h, show ¬ n = i by omega]
  · subst h; simp
  · simp [show ¬ i < n + 1 by omega, show ¬ i < n by omega, show ¬ n = i by omega]
theorem ofN_eq {F : Nat → Nat} (hF : Lin F) (r n : Nat) : ofN F n r = F (r % 2 ^ n) := by
  induction n with
  | zero => simp [ofN, Nat.mod_one, hF.z]
  | succ n ih =>
    rw [low_succ, hF.x, ← ih]
    show _ ^^^ _ = _
    congr 1
    split
    · rfl
    · exact hF.z.symm
theorem ofN_cong {F G : Nat → Nat} (n r : Nat) (h : ∀ i, i < n → F (2 ^ i) = G (2 ^ i)) : ofN F n r = ofN G n r := by
  induction n with
  | zero => rfl
  | succ n ih => simp only [ofN]; rw [ih (fun i hi => h i (by omega)), h n (by omega)]
theorem ofN_all {F : Nat → Nat} (hF : Lin F) (r : Nat) (h : r < 4294967296) : ofN F 32 r = F r := by
  rw [ofN_eq hF, Nat.mod_eq_of_lt (by omega)]
theorem lin_agree {F G : Nat → Nat} (hF : Lin F) (hG : Lin G) (h : ∀ i, i < 32 → F (2 ^ i) = G (2 ^ i)) (r : Nat) (hr : r < 4294967296) : F r = G r := by
  rw [← ofN_all hF r hr, ← ofN_all hG r hr, ofN_cong 32 r h]

/-! What n rounds of the document's product come to. -/
def tms (a b : Nat) : Nat → Nat
  | 0 => 0
  | n + 1 => tms a b n ^^^ (if b / 2 ^ (31 - n) % 2 = 1 then stps n a else 0)
theorem tms_lin (b n : Nat) : Lin (fun a => tms a b n) := by
  constructor
  intro x y
  induction n with
  | zero => simp [tms]
  | succ n ih =>
    simp only [tms]
    rw [ih]
    have k : ∀ a b c d : Nat, a ^^^ b ^^^ (c ^^^ d) = a ^^^ c ^^^ (b ^^^ d) := by
      intro a b c d
      rw [Nat.xor_assoc, Nat.xor_assoc, ← Nat.xor_assoc b c d, Nat.xor_comm b c, Nat.xor_assoc c b d]
    by_cases h : b / 2 ^ (31 - n) % 2 = 1
    · simp only [if_pos h]; rw [stps_xor, k]
    · simp only [if_neg h, Nat.xor_zero]
theorem tms_stp (a b n : Nat) : tms (stp a) b n = stp (tms a b n) := by
  induction n with
  | zero => simp [tms, stp]
  | succ n ih =>
    simp only [tms]
    rw [ih, stp_xor]
    congr 1
    split
    · exact stps_stp n a
    · rfl
/-- The high bits, from bit 31 down, of b. -/
theorem tms_top (b n : Nat) (hb : b < 4294967296) (hn : n ≤ 32) : tms 2147483648 b n = b / 2 ^ (32 - n) * 2 ^ (32 - n) := by
  induction n with
  | zero => show 0 = _; rw [Nat.div_eq_of_lt (by omega), Nat.zero_mul]
  | succ n ih =>
    simp only [tms]
    rw [ih (by omega)]
    have e : stps n 2147483648 = 2 ^ (31 - n) := by
      have := stps_pow n (31 - n)
      rw [show 31 - n + n = 31 by omega] at this
      exact this
    rw [e]
    have h1 := split_bits (b / 2 ^ (31 - n)) 1
    have h2 : 32 - n = (31 - n) + 1 := by omega
    have h3 : 32 - (n + 1) = 31 - n := by omega
    rw [h2, h3]
    generalize 31 - n = k at *
    have h4 : b / 2 ^ (k + 1) = b / 2 ^ k / 2 := by rw [Nat.pow_succ, Nat.div_div_eq_div_mul]
    rw [h4]
    generalize b / 2 ^ k = c
    have h5 : c / 2 * 2 ^ (k + 1) = (c / 2 * 2) * 2 ^ k := by rw [Nat.pow_succ, Nat.mul_assoc, Nat.mul_comm 2]
    rw [h5]
    apply Nat.eq_of_testBit_eq
    intro i
    have h6 : (if c % 2 = 1 then 2 ^ k else 0 : Nat) = c % 2 * 2 ^ k := by
      split
      · rename_i h; rw [h, Nat.one_mul]
      · rw [show c % 2 = 0 by omega, Nat.zero_mul]
    rw [h6, Nat.testBit_xor, Nat.testBit_mul_two_pow, Nat.testBit_mul_two_pow, Nat.testBit_mul_two_pow]
    have h7 := split_bits c 1
    have h8 : c.testBit (i - k) = ((c / 2 * 2).testBit (i - k) ^^ (c % 2).testBit (i - k)) := by
      rw [← Nat.testBit_xor]; exact congrArg (fun x => Nat.testBit x (i - k)) h7
    rw [h8]
    cases decide (k ≤ i) <;> simp
theorem tms_e (b : Nat) (hb : b < 4294967296) : tms 2147483648 b 32 = b := by
  rw [tms_top b 32 hb (by omega)]; simp
/-- The product with what F makes of the highest bit is what F makes, where F goes with steps. -/
theorem tms_of {F : Nat → Nat} (hF : Lin F) (hs : ∀ a, F (stp a) = stp (F a)) (hb : F 2147483648 < 4294967296) (a : Nat) (ha : a < 4294967296) :
    tms a (F 2147483648) 32 = F a := by
  have hfs : ∀ n a, F (stps n a) = stps n (F a) := by
    intro n
    induction n with
    | zero => intro a; rfl
    | succ n ih => intro a; simp only [stps]; rw [ih, hs]
  have hgs : ∀ n a, tms (stps n a) (F 2147483648) 32 = stps n (tms a (F 2147483648) 32) := by
    intro n
    induction n with
    | zero => intro a; rfl
    | succ n ih => intro a; simp only [stps]; rw [ih, tms_stp]
  refine lin_agree (tms_lin _ 32) hF (fun i hi => ?_) a ha
  have e : (2 : Nat) ^ i = stps (31 - i) 2147483648 := by
    have := stps_pow (31 - i) i
    rw [show i + (31 - i) = 31 by omega] at this
    exact this.symm
  show tms (2 ^ i) _ 32 = _
  rw [e, hgs, hfs, tms_e _ hb]
theorem tms_stps (n a : Nat) (ha : a < 4294967296) : tms a (stps n 2147483648) 32 = stps n a :=
  tms_of (lin_stps n) (fun x => stps_stp n x) (stps_lt n _ (by omega)) a ha
theorem tms_lt (a b n : Nat) (ha : a < 4294967296) : tms a b n < 4294967296 := by
  induction n with
  | zero => show 0 < _; omega
  | succ n ih =>
    simp only [tms]
    refine Nat.xor_lt_two_pow (n := 32) ih ?_
    split
    · exact stps_lt n a ha
    · omega

/-! Changed bits. -/
theorem stp_inj0 (d : Nat) (h : d < 4294967296) (hz : stp d = 0) : d = 0 := by
  unfold stp at hz
  split at hz
  · rename_i h1
    have h2 : d / 2 = 3988292384 := by
      have : d / 2 ^^^ 3988292384 ^^^ 3988292384 = 0 ^^^ 3988292384 := by rw [hz]
      rw [Nat.xor_assoc, Nat.xor_self, Nat.xor_zero, Nat.zero_xor] at this
      exact this
    omega
  · omega
theorem stps_inj0 (n : Nat) : ∀ d : Nat, d < 4294967296 → stps n d = 0 → d = 0 := by
  induction n with
  | zero => intro d _ h; exact h
  | succ n ih => intro d h hz; exact stp_inj0 d h (ih _ (stp_lt d h) hz)
/-- One bit of one byte is changed. -/
theorem takes_flip (l : List Nat) : ∀ (r k j : Nat), k < l.length → j < 8 → takes r (l.set k (l.getD k 0 ^^^ 2 ^ j)) = takes r l ^^^ stps (8 * l.length - (8 * k + j)) 1 := by
  induction l with
  | nil => intro r k j h; exact absurd h (by simp)
  | cons c l ih =>
    intro r k j hk hj
    cases k with
    | zero =>
      show takes (takeB r (c ^^^ 2 ^ j)) l = takes (takeB r c) l ^^^ _
      have e : takeB r (c ^^^ 2 ^ j) = takeB r c ^^^ stps (8 - j) 1 := by
        unfold takeB
        rw [← Nat.xor_assoc, stps_xor]
        have h1 := stps_add j (8 - j) (2 ^ j)
        rw [show j + (8 - j) = 8 by omega] at h1
        have h2 := stps_pow j 0
        rw [Nat.zero_add] at h2
        rw [h1, h2]
      rw [e, takes_xor, ← stps_add, List.length_cons, show 8 - j + 8 * l.length = 8 * (l.length + 1) - (8 * 0 + j) by omega]
    | succ k =>
      simp only [List.length_cons] at hk
      show takes (takeB r c) (l.set k (l.getD k 0 ^^^ 2 ^ j)) = takes (takeB r c) l ^^^ _
      rw [ih _ k j (by omega) hj, List.length_cons, show 8 * l.length - (8 * k + j) = 8 * (l.length + 1) - (8 * (k + 1) + j) by omega]
theorem stps_one (n i : Nat) : stps n 1 = stps (n + i) (2 ^ i) := by
  rw [Nat.add_comm, stps_add]
  have h2 := stps_pow i 0
  rw [Nat.zero_add] at h2
  rw [h2]
/-- Three texts at once. -/
def xor3 : List Nat → List Nat → List Nat → List Nat
  | a :: l, b :: m, c :: n => (a ^^^ b ^^^ c) :: xor3 l m n
  | _, _, _ => []
theorem xor4 (a b c x y z : Nat) : a ^^^ b ^^^ c ^^^ (x ^^^ y ^^^ z) = (a ^^^ x) ^^^ (b ^^^ y) ^^^ (c ^^^ z) := by
  apply Nat.eq_of_testBit_eq
  intro i
  simp only [Nat.testBit_xor]
  cases a.testBit i <;> cases b.testBit i <;> cases c.testBit i <;> cases x.testBit i <;> cases y.testBit i <;> cases z.testBit i <;> rfl
theorem takes_xor3 (l : List Nat) : ∀ (m n : List Nat) (r s t : Nat), m.length = l.length → n.length = l.length →
    takes (r ^^^ s ^^^ t) (xor3 l m n) = takes r l ^^^ takes s m ^^^ takes t n := by
  induction l with
  | nil =>
    intro m n r s t hm hn
    obtain rfl := List.eq_nil_of_length_eq_zero hm
    obtain rfl := List.eq_nil_of_length_eq_zero hn
    rfl
  | cons a l ih =>
    intro m n r s t hm hn
    match m, n, hm, hn with
    | b :: m, c :: n, hm, hn =>
      show takes (takeB (r ^^^ s ^^^ t) (a ^^^ b ^^^ c)) (xor3 l m n) = takes (takeB r a) l ^^^ takes (takeB s b) m ^^^ takes (takeB t c) n
      have e : takeB (r ^^^ s ^^^ t) (a ^^^ b ^^^ c) = takeB r a ^^^ takeB s b ^^^ takeB t c := by
        unfold takeB
        rw [← stps_xor, ← stps_xor, xor4]
      rw [e]
      exact ih m n _ _ _ (by simpa using hm) (by simpa using hn)
theorem inv3 (p a b c : Nat) : (p ^^^ a) ^^^ (p ^^^ b) ^^^ (p ^^^ c) = p ^^^ (a ^^^ b ^^^ c) := by
  apply Nat.eq_of_testBit_eq
  intro i
  simp only [Nat.testBit_xor]
  cases p.testBit i <;> cases a.testBit i <;> cases b.testBit i <;> cases c.testBit i <;> rfl
end Go.Proofs.YtojeccmnhgcmcaaDoor.Crc
