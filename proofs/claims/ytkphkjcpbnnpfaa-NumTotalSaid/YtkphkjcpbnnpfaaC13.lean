/- Contracts of num.Sum and of the document's Sum over lists; the walk of NumLists. -/
import Derived.Test.YtkphkjcpbnnpfaaC12
namespace Go.Proofs.Ytkphkjcpbnnpfaa.Num
open Go.RowKit Go.ChangeShapes
set_option linter.unusedVariables false

def sumE (l : List Int) : Int := if 10000 < l.length then 12 else er (sumB l)
def sumV (l : List Int) : Int := if 10000 < l.length then 0 else vl (sumB l) l.sum

theorem sum_list (v : Value) (l : List Int) (w : World) (h : IsList w v l) (hz : ∀ i, i < l.length → I64 (l.getD i 0)) :
    Calls Try.prog 24 #[v] w fun e w' => e = .returned (.tuple #[.int .i64 (sumV l), .int .i64 (sumE l)]) ∧ Below w.heap.size w w' := by
  obtain ⟨a, cap, rfl, hc⟩ := h
  by_cases h1 : 10000 < l.length
  · have := sum_many a l.length cap w h1
    simpa [sumV, sumE, h1] using this
  · rcases Nat.eq_zero_or_pos l.length with h0 | hp
    · obtain rfl : l = [] := List.eq_nil_of_length_eq_zero h0
      exact sum_none a cap w
    · obtain ⟨b, off, rfl, hd⟩ := hc hp
      have := sum_some b off cap l w hp (by omega) hd hz
      simpa [sumV, sumE, h1] using this

/-! The document's Sum. -/
def hs : List Int → Int | [] => 0 | z :: l => z / 4294967296 + hs l
def ls : List Int → Int | [] => 0 | z :: l => z % 4294967296 + ls l
theorem hs_app (a b : List Int) : hs (a ++ b) = hs a + hs b := by induction a with | nil => simp [hs] | cons z l ih => simp [hs, ih]; omega
theorem ls_app (a b : List Int) : ls (a ++ b) = ls a + ls b := by induction a with | nil => simp [ls] | cons z l ih => simp [ls, ih]; omega
theorem hl_sum (l : List Int) : hs l * 4294967296 + ls l = l.sum := by
  induction l with
  | nil => simp [hs, ls]
  | cons z l ih => simp only [hs, ls, List.sum_cons, ← ih]; omega
theorem hs_bd : ∀ (l : List Int), (∀ z ∈ l, Ok z) → -(268435456 * (l.length : Int)) ≤ hs l ∧ hs l ≤ 268435456 * (l.length : Int)
  | [], _ => by simp [hs]
  | z :: l, h => by
    have h1 := hs_bd l (fun y hy => h y (List.mem_cons_of_mem _ hy))
    have h2 := h z (List.mem_cons_self ..)
    unfold Ok at h2
    simp only [hs, List.length_cons]
    omega
theorem ls_bd : ∀ (l : List Int), 0 ≤ ls l ∧ ls l ≤ 4294967295 * (l.length : Int)
  | [] => by simp [ls]
  | z :: l => by
    have h1 := ls_bd l
    simp only [ls, List.length_cons]
    omega
theorem take_succ_g (l : List Int) (k : Nat) (hk : k < l.length) : l.take (k + 1) = l.take k ++ [l.getD k 0] := by
  rw [List.take_succ_eq_append_getElem hk]
  simp [List.getD_eq_getElem?_getD, List.getElem?_eq_getElem hk]
theorem and_low_i64 (z : Int) : bits .and .i64 z 4294967295 = z % 4294967296 := by
  show IntKind.i64.wrap ((BitVec.ofInt 64 z &&& BitVec.ofInt 64 4294967295).toNat : Int) = _
  rw [BitVec.toNat_and, BitVec.toNat_ofInt, BitVec.toNat_ofInt]
  have e : ((4294967295 : Int) % ((2 ^ 64 : Nat) : Int)).toNat = 2 ^ 32 - 1 := by decide
  rw [e, Nat.and_two_pow_sub_one_eq_mod, IntKind.wrap_i64]
  omega

/-- What the document's Sum has behind k numbers. -/
def SumTo (l : List Int) (k : Nat) (h lw i : Value) : Prop := k ≤ l.length ∧ i = .int .i64 k ∧ h = .int .i64 (hs (l.take k)) ∧ lw = .int .i64 (ls (l.take k)) ∧ ∀ z ∈ l.take k, Ok z

set_option maxHeartbeats 2000000 in
theorem rsum_some (b off cap : Nat) (l : List Int) (w : World) (hne : 0 < l.length) (hlen : l.length ≤ 10000)
    (hr : ∀ i, i < l.length → w.cell? ⟨b, off + i, none⟩ = some (.int .i64 (l.getD i 0))) :
    Calls Try.prog 25 #[.slice (some ⟨b, off, none⟩) l.length cap] w fun e w' => e = .returned (.tuple #[.int .i64 (vl (sumB l) l.sum), .int .i64 (er (sumB l))]) ∧ w = w' := by
  have Hr := Lib.hid hr
  clear hr
  have h9 : decide (10000 < (l.length : Int)) = false := by simp; omega
  go_enter Try.func25, Try.ntmps25
  go_wp2
  go_loop [4, 5, 6] (fun h lw i => ∃ k : Nat, SumTo l k h lw i) (fun _ _ i => l.length - (intOf i).toNat)
  case atStart => exact ⟨0, Nat.zero_le _, rfl, rfl, rfl, by simp⟩
  case round =>
    obtain ⟨k, hk, rfl, rfl, rfl, hall⟩ := hrel
    have hb1 := hs_bd _ hall
    have hb2 := ls_bd (l.take k)
    have hl1 : (l.take k).length ≤ 10000 := by rw [List.length_take]; omega
    by_cases hlt : k < l.length
    · have hc := Hr.out k hlt
      by_cases hok : Ok (l.getD k 0)
      · have e1 : hs (l.take (k + 1)) = hs (l.take k) + l.getD k 0 / 4294967296 := by rw [take_succ_g l k hlt, hs_app]; simp [hs]
        have e2 : ls (l.take (k + 1)) = ls (l.take k) + l.getD k 0 % 4294967296 := by rw [take_succ_g l k hlt, ls_app]; simp [ls]
        have e3 := mem_take hlt hall hok
        have hnext : SumTo l (k + 1) (.int .i64 (hs (l.take k) + l.getD k 0 / 4294967296)) (.int .i64 (ls (l.take k) + l.getD k 0 % 4294967296)) (.int .i64 ((k + 1 : Nat) : Int)) := ⟨by omega, rfl, by rw [e1], by rw [e2], e3⟩
        clear e1 e2 e3
        have hq : -268435456 ≤ l.getD k 0 / 4294967296 ∧ l.getD k 0 / 4294967296 ≤ 268435456 := by unfold Ok at hok; omega
        have hok := Lib.hid hok
        generalize l.getD k 0 = z at *
        have ha := and_low_i64 z
        generalize hs (l.take k) = H at *
        generalize ls (l.take k) = L at *
        have hb1' : -2684354560000 ≤ H ∧ H ≤ 2684354560000 := by omega
        have hb2' : 0 ≤ L ∧ L ≤ 42949672950000 := by omega
        clear hb1 hb2 hl1 hall
        go_wp2_with (first | (go_at_call 16; refine (rcheck_ok _ _ hok.out).mono ?_; rintro e w' ⟨rfl, rfl⟩))
        go_round
        case rel => exact ⟨k + 1, hnext⟩
        case measure => simp [intOf]; omega
      · have hbad := Lib.hid (sumB_bad hlt hok)
        have hok := Lib.hid hok
        generalize l.getD k 0 = z at *
        generalize hs (l.take k) = H at *
        generalize ls (l.take k) = L at *
        clear hb1 hb2 hl1 hall
        go_wp2_with (first | (go_at_call 16; refine (rcheck_no _ _ hok.out).mono ?_; rintro e w' ⟨rfl, rfl⟩))
        go_ret2
        exact ⟨by rw [hbad.out]; rfl, rfl⟩
    · obtain rfl : k = l.length := by omega
      rw [List.take_length] at *
      have hsum := hl_sum l
      have hgood := sumB_good hall
      generalize hs l = H at *
      generalize ls l = L at *
      have hb1' : -2684354560000 ≤ H ∧ H ≤ 2684354560000 := by omega
      have hb2' : 0 ≤ L ∧ L ≤ 42949672950000 := by omega
      clear hb1 hb2 hl1 hall
      have ha := and_low_i64 L
      obtain ⟨M, hM⟩ : ∃ M, H + L / 4294967296 = M := ⟨_, rfl⟩
      obtain ⟨R, hR⟩ : ∃ R, L % 4294967296 = R := ⟨_, rfl⟩
      rw [hR] at ha
      have hsum2 : M * 4294967296 + R = l.sum := by omega
      have hMb : -2684354570000 ≤ M ∧ M ≤ 2684354570000 := by omega
      have hRb : 0 ≤ R ∧ R ≤ 4294967295 := by omega
      clear hsum hb1' hb2'
      rcases (by omega : M < -268435456 ∨ 268435456 < M ∨ (M = 268435456 ∧ 0 < R) ∨ (M = 268435456 ∧ R = 0) ∨ (-268435456 ≤ M ∧ M < 268435456)) with c | c | ⟨rfl, c⟩ | ⟨rfl, rfl⟩ | ⟨c1, c2⟩
      · have hfin := Lib.hid (hgood.trans (okB_f (by unfold Ok; omega)))
        clear hgood hsum2
        go_wp2
        go_ret2
        exact ⟨by rw [hfin.out]; rfl, rfl⟩
      · have hfin := Lib.hid (hgood.trans (okB_f (by unfold Ok; omega)))
        clear hgood hsum2
        go_wp2
        go_ret2
        exact ⟨by rw [hfin.out]; rfl, rfl⟩
      · have hfin := Lib.hid (hgood.trans (okB_f (by unfold Ok; omega)))
        clear hgood hsum2
        go_wp2
        go_ret2
        exact ⟨by rw [hfin.out]; rfl, rfl⟩
      · have hfin := Lib.hid (hgood.trans (okB_t (by unfold Ok; omega)))
        have hs2 := Lib.hid hsum2
        clear hgood hsum2
        go_wp2
        go_ret2
        exact ⟨by rw [hfin.out, ← hs2.out]; rfl, rfl⟩
      · have hfin := Lib.hid (hgood.trans (okB_t (by unfold Ok; omega)))
        have hs2 := Lib.hid hsum2
        have b1 : (M == 268435456) = false := beq_eq_false_iff_ne.2 (by omega)
        clear hgood hsum2
        go_wp2
        go_ret2
        exact ⟨by rw [hfin.out, ← hs2.out]; rfl, rfl⟩

theorem rsum_none (a : Option Addr) (cap : Nat) (w : World) :
    Calls Try.prog 25 #[.slice a 0 cap] w fun e w' => e = .returned (.tuple #[.int .i64 0, .int .i64 0]) ∧ w = w' := by
  have ha := and_low_i64 0
  simp only [Int.zero_emod] at ha
  go_enter Try.func25, Try.ntmps25
  go_wp2
  refine wp_loop_rounds 1 ?_
  rw [rounds_succ]
  go_wp2
  go_ret2
  exact ⟨rfl, rfl⟩
theorem rsum_many (a : Option Addr) (n cap : Nat) (w : World) (h : 10000 < n) :
    Calls Try.prog 25 #[.slice a n cap] w fun e w' => e = .returned (.tuple #[.int .i64 0, .int .i64 12]) ∧ w = w' := by
  go_enter Try.func25, Try.ntmps25
  go_wp2
  go_ret2
  exact ⟨rfl, rfl⟩
theorem rsum_list (v : Value) (l : List Int) (w : World) (h : IsList w v l) :
    Calls Try.prog 25 #[v] w fun e w' => e = .returned (.tuple #[.int .i64 (sumV l), .int .i64 (sumE l)]) ∧ w = w' := by
  obtain ⟨a, cap, rfl, hc⟩ := h
  by_cases h1 : 10000 < l.length
  · simpa [sumV, sumE, h1] using rsum_many a l.length cap w h1
  · rcases Nat.eq_zero_or_pos l.length with h0 | hp
    · obtain rfl : l = [] := List.eq_nil_of_length_eq_zero h0
      exact rsum_none a cap w
    · obtain ⟨b, off, rfl, hd⟩ := hc hp
      simpa [sumV, sumE, h1] using rsum_some b off cap l w hp (by omega) hd

/-! NumLists -/
/-- A slice of integers that came in: nil, or a row of cells. -/
def IsRow (k : IntKind) (w : World) (a : Option Addr) (len cap : Nat) (zs : List Int) : Prop :=
  (a = none ∧ len = 0 ∧ cap = 0 ∧ zs = []) ∨
  ∃ x, a = some x ∧ len ≤ cap ∧ cap ≤ maxLen ∧ zs.length = cap ∧ (∀ i, i < zs.length → w.cell? (x.add i) = some (.int k (zs.getD i 0))) ∧ ∀ n ∈ zs, (Lit.int k n).wf = true
theorem row_list {w : World} {a : Option Addr} {len cap : Nat} {zs : List Int} (h : IsRow .i64 w a len cap zs) :
    IsList w (.slice a len cap) (zs.take len) ∧ (zs.take len).length = len ∧ ∀ i, i < len → I64 ((zs.take len).getD i 0) := by
  rcases h with ⟨rfl, rfl, rfl, rfl⟩ | ⟨⟨b, off, spot⟩, rfl, hl, hm, hz, hcell, hwz⟩
  · exact ⟨⟨none, 0, rfl, fun hp => by simp at hp⟩, rfl, fun i hi => by omega⟩
  · have e : (zs.take len).length = len := by rw [List.length_take]; omega
    have eg : ∀ i, i < len → (zs.take len).getD i 0 = zs.getD i 0 := fun i hi => by
      simp [List.getD_eq_getElem?_getD, hi]
    refine ⟨⟨_, cap, by rw [e], fun hp => ?_⟩, e, fun i hi => ?_⟩
    · rw [e] at hp
      have h0 := hcell 0 (by omega)
      have hspot : spot = none := by simpa [Addr.add] using World.cell?_spot h0
      subst hspot
      refine ⟨b, off, rfl, fun i hi => ?_⟩
      rw [e] at hi
      rw [eg i hi]
      have := hcell i (by omega)
      rwa [addr_add] at this
    · rw [eg i hi]
      refine wf_i64 (hwz _ ?_)
      rw [List.getD_eq_getElem?_getD, List.getElem?_eq_getElem (by omega)]
      exact List.getElem_mem _

theorem rep_get (l : List Int) (c : Nat) (h : ∀ i, i < l.length → I64 (l.getD i 0)) : ∀ i, i < (rep l c).length → I64 ((rep l c).getD i 0) := by
  intro i hi
  have hmem : (rep l c)[i] ∈ l := by
    have := List.getElem_mem hi
    unfold rep at this
    rw [List.mem_flatten] at this
    obtain ⟨x, hx, hy⟩ := this
    rw [List.eq_of_mem_replicate hx] at hy
    exact hy
  rw [List.getD_eq_getElem?_getD, List.getElem?_eq_getElem hi]
  obtain ⟨j, hj, e⟩ := List.getElem_of_mem hmem
  have := h j hj
  rw [List.getD_eq_getElem?_getD, List.getElem?_eq_getElem hj] at this
  rw [← e]
  exact this

end Go.Proofs.Ytkphkjcpbnnpfaa.Num
