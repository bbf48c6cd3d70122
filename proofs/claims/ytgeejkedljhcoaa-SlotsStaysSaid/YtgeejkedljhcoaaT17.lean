/- SlotsOrder. -/
import Derived.Test.YtgeejkedljhcoaaT15
namespace Go.Proofs.Ytgeejkedljhcoaa.Slt
open Go.RowKit Go.Maps Go.Lib Go.ChangeShapes
set_option linter.unusedVariables false
set_option linter.unusedSimpArgs false
set_option maxRecDepth 100000

theorem min_n (k a n : Nat) (h : min a k = n) (ts : Array TypeId) (t : TypeId) (w : World) :
    (Builtin.min_ ts t #[.int .i64 a, .int .i64 k]).run Try.prog w = .ok (.int .i64 n) w := by
  have e : (if (k : Int) < (a : Int) then (k : Int) else (a : Int)) = (n : Int) := by split <;> omega
  have h3 := run_min_int2 (P := Try.prog) w ts t .i64 .i64 a k
  rw [h3, e]
/-- The text of one byte. -/
def chr (j : Nat) : ByteArray := ⟨#[UInt8.ofNat j]⟩
theorem chr_size (j : Nat) : (chr j).size ≤ 65536 := by show 1 ≤ 65536; decide
theorem conv_chr (W : World) (g c j : Nat) (hj : j < 256) (h : W.cell? ⟨g, 0, none⟩ = some (.int .u8 (j : Nat))) :
    (convert 58 9 (.slice (some ⟨g, 0, none⟩) 1 c)).run Try.prog W = .ok (.string (chr j)) W := by
  exact run_convert_bytes_back W 58 9 5 ⟨g, 0, none⟩ c [UInt8.ofNat j] Try.underlying58 Try.underlying5 Try.underlying9 (fun i hi => by
    have hi0 : i = 0 := by simp at hi; omega
    subst hi0
    rw [addr_add, h]
    have : (UInt8.ofNat j).toNat = j := by rw [UInt8.toNat_ofNat']; exact Nat.mod_eq_of_lt hj
    simp [this])
theorem conv_new (W : World) (j : Nat) (hj : j < 256) (c : Nat) : (convert 58 9 (.slice (some ⟨W.heap.size, 0, none⟩) 1 c)).run Try.prog (W.alloc (.cells #[.int .u8 (j : Nat)] TU8)) = .ok (.string (chr j)) (W.alloc (.cells #[.int .u8 (j : Nat)] TU8)) :=
  conv_chr _ _ _ j hj (cell_of_row _ _ 0 _ _ _ (heap_alloc_new _ _))
/-- The log of the slots f 0, f 1 and so on, each with its own text. -/
def ordS (f : Nat → Nat) : Nat → St
  | 0 => newS
  | k + 1 => putS (ordS f k) (f k) (chr (f k))
theorem ord_facts {f : Nat → Nat} (hf : ∀ i, f i < 64) : ∀ k, OkS (ordS f k) ∧ (ordS f k).b = 0 ∧ (∀ i, i < k → getM (ordS f k).M (f i) = some ⟨f i, chr (f i)⟩) ∧ (∀ j e, getM (ordS f k).M j = some e → ∃ i, i < k ∧ j = f i ∧ e = ⟨f i, chr (f i)⟩) ∧ putE (ordS f k) (f k) (chr (f k)) = 0 := by
  have next : ∀ k, OkS (ordS f k) → (ordS f k).b = 0 → (∀ j e, getM (ordS f k).M j = some e → ∃ i, i < k ∧ j = f i ∧ e = ⟨f i, chr (f i)⟩) → putE (ordS f k) (f k) (chr (f k)) = 0 := fun k h1 h2 h4 => by
    refine one_put h1 h2 (by have := hf k; omega) (chr_size _) ?_
    cases hg : getM (ordS f k).M (f k : Int) with
    | none => exact .inl rfl
    | some e =>
      obtain ⟨i, _, e1, e2⟩ := h4 _ e hg
      have : f k = f i := by omega
      exact .inr ⟨(f i : Int), by rw [e2, this]⟩
  intro k
  induction k with
  | zero =>
    have h4 : ∀ j e, getM (ordS f 0).M j = some e → ∃ i, i < 0 ∧ j = f i ∧ e = ⟨f i, chr (f i)⟩ := fun j e h => by cases h
    exact ⟨ok_new, rfl, fun i h => by omega, h4, next 0 ok_new rfl h4⟩
  | succ k ih =>
    obtain ⟨h1, h2, h3, h4, h5⟩ := ih
    have q1 : OkS (ordS f (k + 1)) := ok_puts h1 _ _
    have q2 : (ordS f (k + 1)).b = 0 := by show (putS _ _ _).b = 0; rw [put_b]; exact h2
    have q3 : ∀ i, i < k + 1 → getM (ordS f (k + 1)).M (f i) = some ⟨f i, chr (f i)⟩ := fun i hi => by
      show getM (putS _ _ _).M _ = _
      rw [put_get h1 h5]
      by_cases e : (f i : Int) = f k
      · rw [if_pos e, show f i = f k by omega]
      · rw [if_neg e]
        exact h3 i (by
          by_cases e2 : i = k
          · rw [e2] at e; exact absurd rfl e
          · omega)
    have q4 : ∀ j e, getM (ordS f (k + 1)).M j = some e → ∃ i, i < k + 1 ∧ j = f i ∧ e = ⟨f i, chr (f i)⟩ := fun j e h => by
      change getM (putS _ _ _).M _ = _ at h
      rw [put_get h1 h5] at h
      split at h
      · rename_i hj
        cases h
        exact ⟨k, by omega, hj, rfl⟩
      · obtain ⟨i, g1, g2⟩ := h4 j e h
        exact ⟨i, by omega, g2⟩
    exact ⟨q1, q2, q3, q4, next (k + 1) q1 q2 q4⟩
theorem ord_rev {f g : Nat → Nat} {n : Nat} (hf : ∀ i, f i < 64) (hg : ∀ i, g i < 64) (h : ∀ i, i < n → g i = f (n - 1 - i)) : ordS g n = ordS f n := by
  obtain ⟨a1, a2, a3, a4, _⟩ := ord_facts hf n
  obtain ⟨b1, b2, b3, b4, _⟩ := ord_facts hg n
  have hM : (ordS g n).M = (ordS f n).M := ext_M b1.srt a1.srt fun j => by
    cases hb : getM (ordS g n).M j with
    | some e =>
      obtain ⟨i, i1, rfl, rfl⟩ := b4 j e hb
      rw [h i i1, a3 (n - 1 - i) (by omega)]
    | none =>
      cases ha : getM (ordS f n).M j with
      | none => rfl
      | some e =>
        obtain ⟨i, i1, rfl, rfl⟩ := a4 j e ha
        have := b3 (n - 1 - i) (by omega)
        rw [h (n - 1 - i) (by omega), show n - 1 - (n - 1 - i) = i by omega, hb] at this
        cases this
  generalize ordS g n = s at *
  generalize ordS f n = t at *
  obtain ⟨sb, sM⟩ := s
  obtain ⟨tb, tM⟩ := t
  simp only at hM a2 b2
  rw [hM, a2, b2]
/-- Whether one of the numbers is q. -/
def anyQ (f : Nat → Nat) (n q : Nat) : Bool := (List.range n).any fun i => f i == q
theorem any_t {f : Nat → Nat} {n q i : Nat} (hi : i < n) (h : f i = q) : anyQ f n q = true := by
  unfold anyQ
  rw [List.any_eq_true]
  exact ⟨i, List.mem_range.2 hi, by simpa using h⟩
theorem any_f {f : Nat → Nat} {n q : Nat} (h : ∀ i, i < n → f i ≠ q) : anyQ f n q = false := by
  unfold anyQ
  rw [List.any_eq_false]
  intro i hi
  simpa using h i (List.mem_range.1 hi)
theorem ord_has {f : Nat → Nat} (hf : ∀ i, f i < 64) (n q : Nat) : (getM (ordS f n).M (q : Int)).isSome = anyQ f n q := by
  obtain ⟨_, _, a3, a4, _⟩ := ord_facts hf n
  cases hg : getM (ordS f n).M (q : Int) with
  | some e =>
    obtain ⟨i, i1, i2, _⟩ := a4 _ e hg
    rw [any_t (q := q) i1 (by omega)]
    rfl
  | none =>
    rw [any_f (q := q) fun i hi e => by
      have := a3 i hi
      rw [e, hg] at this
      cases this]
    rfl
theorem closure_any (c : Nat) (q v : Nat) (hv : v ≤ 255) (w : World) (hc : w.cell? ⟨c, 0, none⟩ = some (.int .i64 q)) :
    Calls Try.prog 33 #[.int .u8 (v : Nat), .pointer (some ⟨c, 0, none⟩)] w fun e w' => e = .returned (.bool (decide (v % 64 = q))) ∧ w = w' := by
  have k1 : (v : Int).tmod 64 = ((v % 64 : Nat) : Int) := (Int.ofNat_tmod v 64).symm
  have k2 : IntKind.u8.wrap ((v % 64 : Nat) : Int) = ((v % 64 : Nat) : Int) := by rw [IntKind.wrap_u8]; omega
  have k3 : IntKind.i64.wrap ((v % 64 : Nat) : Int) = ((v % 64 : Nat) : Int) := by rw [IntKind.wrap_i64]; omega
  generalize v % 64 = r at *
  by_cases h : r = q
  · subst h
    go_enter Try.func33, Try.ntmps33
    go_wp2
    go_ret
    exact ⟨by simp, rfl⟩
  · have h1 : ((r : Int) == (q : Int)) = false := by simp; omega
    have h2 : ((r : Int) = (q : Int)) = False := by simp; omega
    have h3 : (r = q) = False := by simp; omega
    have e := Lib.hid (show decide (r = q) = false from decide_eq_false h)
    clear h
    go_enter Try.func33, Try.ntmps33
    go_wp2
    go_ret
    exact ⟨by rw [e.out]; simp, rfl⟩
set_option maxHeartbeats 1000000 in
theorem index_any {w0 : World} (a1 : Option Addr) (n cap : Nat) (S : Nat → Nat) (h1 : ∀ w, Below w0.heap.size w0 w → ∀ i, i < n → ∃ b off, a1 = some ⟨b, off, none⟩ ∧ w.cell? ⟨b, off + i, none⟩ = some (.int .u8 (S i : Nat))) (hS : ∀ i, S i ≤ 255) (hn : n ≤ 200) (c q : Nat) (w : World) (hb : Below w0.heap.size w0 w) (hc : w.cell? ⟨c, 0, none⟩ = some (.int .i64 q)) :
    Calls Try.prog 56 #[.slice a1 n cap, .func (.func 33) #[] #[.pointer (some ⟨c, 0, none⟩)]] w fun e w' => (∃ k : Int, e = .returned (.int .i64 k) ∧ decide (0 ≤ k) = anyQ (fun i => S i % 64) n q) ∧ w = w' := by
  have hcell := Lib.hid (h1 w hb)
  have hCl := Lib.hid (fun v hv => closure_any c q v hv w hc)
  clear h1
  go_enter Try.func56, Try.ntmps56
  go_wp2
  go_loop [8] (fun i => ∃ k : Nat, k ≤ n ∧ i = .int .i64 k ∧ ∀ j, j < k → S j % 64 ≠ q) (fun i => n - nOf i)
  case atStart => exact ⟨0, Nat.zero_le _, rfl, fun j h => by omega⟩
  case round =>
    obtain ⟨k, hk, rfl, hall⟩ := hrel
    replace hall := Lib.hid hall
    by_cases hlt : k < n
    · obtain ⟨b, off, rfl, hd⟩ := hcell.out k hlt
      have hC := Lib.hid (hCl.out (S k) (hS k))
      have i1 : decide ((k : Int) < (n : Int)) = true := by simp; omega
      have i2 : 0 ≤ (k : Int) := by omega
      have i3 : (k : Int) < (n : Int) := by omega
      have hw : IntKind.i64.wrap ((k : Int) + 1) = (k : Int) + 1 := by rw [IntKind.wrap_i64]; omega
      by_cases hm : S k % 64 = q
      · rw [decide_eq_true hm] at hC
        have hr := Lib.hid (any_t (f := fun i => S i % 64) hlt hm)
        generalize S k = v at *
        clear hm hcell hCl
        go_wp2_with (go_at_call 33; refine hC.out.mono ?_; rintro e w' ⟨rfl, rfl⟩)
        go_ret
        exact ⟨⟨_, rfl, by rw [hr.out]; simp⟩, rfl⟩
      · rw [decide_eq_false hm] at hC
        have hall2 : Hid (∀ j, j < k + 1 → S j % 64 ≠ q) := Lib.hid fun j hj => by
          by_cases e : j = k
          · rw [e]; exact hm
          · exact hall.out j (by omega)
        generalize S k = v at *
        clear hm hcell hCl
        go_wp2_with (go_at_call 33; refine hC.out.mono ?_; rintro e w' ⟨rfl, rfl⟩)
        go_round
        case rel => exact ⟨k + 1, by omega, by go_num, hall2.out⟩
        case measure => simp [nOf]; omega
    · have hkn : n = k := by omega
      subst hkn
      have i1 : decide ((n : Int) < (n : Int)) = false := by simp
      have hr := Lib.hid (any_f (f := fun i => S i % 64) hall.out)
      clear hcell hCl
      go_wp2
      go_ret
      exact ⟨⟨_, rfl, by rw [hr.out]; rfl⟩, rfl⟩
theorem contains_any {w0 : World} (a1 : Option Addr) (n cap : Nat) (S : Nat → Nat) (h1 : ∀ w, Below w0.heap.size w0 w → ∀ i, i < n → ∃ b off, a1 = some ⟨b, off, none⟩ ∧ w.cell? ⟨b, off + i, none⟩ = some (.int .u8 (S i : Nat))) (hS : ∀ i, S i ≤ 255) (hn : n ≤ 200) (c q : Nat) (w : World) (hb : Below w0.heap.size w0 w) (hc : w.cell? ⟨c, 0, none⟩ = some (.int .i64 q)) :
    Calls Try.prog 32 #[.slice a1 n cap, .func (.func 33) #[] #[.pointer (some ⟨c, 0, none⟩)]] w fun e w' => e = .returned (.bool (anyQ (fun i => S i % 64) n q)) ∧ w = w' := by
  have HI := Lib.hid (index_any a1 n cap S h1 hS hn c q w hb hc)
  clear h1
  generalize anyQ (fun i => S i % 64) n q = B at *
  go_enter Try.func32, Try.ntmps32
  go_wp2_with (go_at_call 56; refine HI.out.mono ?_; rintro e w' ⟨⟨k, rfl, hk⟩, rfl⟩)
  go_ret
  exact ⟨rfl, rfl⟩
end Go.Proofs.Ytgeejkedljhcoaa.Slt
