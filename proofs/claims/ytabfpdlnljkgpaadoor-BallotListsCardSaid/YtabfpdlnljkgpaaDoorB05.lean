/- Texts of ballots: Text, number, Parse. -/
import Derived.Test.YtabfpdlnljkgpaaDoorB04
namespace Go.Proofs.YtabfpdlnljkgpaaDoor.Bal
open Go.RowKit Go.Lib
set_option linter.unusedVariables false
set_option linter.unusedSimpArgs false
set_option maxRecDepth 20000

/-- The text of a ballot. -/
def tB (r m : Nat) : List UInt8 := decDigits r ++ 46 :: decDigits m
theorem dec_len : ∀ (k a : Nat), 1 ≤ k → a < 10 ^ k → (decDigits a).length ≤ k := by
  intro k
  induction k with
  | zero => intro a h; omega
  | succ k ih =>
    intro a _ h
    rw [decDigits]
    split
    · simp
    · rename_i h10
      have hk : 1 ≤ k := by
        rcases Nat.eq_zero_or_pos k with h0 | h0
        · subst h0; simp at h; omega
        · exact h0
      have := ih (a / 10) hk (by rw [Nat.pow_succ] at h; omega)
      simp
      omega
theorem tB_len {r m : Nat} (hr : r ≤ 1073741824) (hm : m ≤ 6) : (tB r m).length ≤ 20 := by
  have h1 := dec_len 10 r (by omega) (by omega)
  have h2 := dec_len 1 m (by omega) (by omega)
  unfold tB
  simp
  omega
theorem bOk_nat {r m : Int} (h : bOk 7 r m) : ∃ R M : Nat, r = R ∧ m = M ∧ R ≤ 1073741824 ∧ M ≤ 6 := by
  unfold bOk at h
  exact ⟨r.toNat, m.toNat, by omega, by omega, by omega, by omega⟩
def txS (r m : Int) : List UInt8 := if bOk 7 r m then tB r.toNat m.toNat else []

/-- The ballot's box, and the library's variables. -/
structure Tx (w : World) (r m : Int) (W : World) : Prop where
  b : Bx w w.heap.size r m W
  hv : Hv W
theorem Tx.later {w W W' : World} {r m : Int} (h : Tx w r m W) (hb : Below W.heap.size W W') : Tx w r m W' := ⟨h.b.later hb, h.hv.later hb⟩
theorem Tx.drew {w W : World} {r m : Int} (h : Tx w r m W) : Tx w r m W.drew := h.later (Below.refl _ _).drew
theorem Tx.cells {w W : World} {r m : Int} (h : Tx w r m W) : W.cell? ⟨w.heap.size, 0, none⟩ = some (.int .i64 r) ∧ W.cell? ⟨w.heap.size, 1, none⟩ = some (.int .i64 m) ∧ Tx w r m W := ⟨h.b.cells.1, h.b.cells.2.1, h⟩
theorem tx_new {w : World} (hH : Hv w) (r m : Int) : Tx w r m (w.alloc (.cells #[.int .i64 r, .int .i64 m] TB)) := ⟨bx_new w r m, hH.later (alloc_b _ _)⟩
theorem text_ok (r m : Nat) (h : bOk 7 r m) (w : World) (hH : Hv w) :
    Calls Tryd.prog 21 #[.agg #[.int .i64 r, .int .i64 m]] w fun e w' => e = .returned (.tuple #[.string (tx (tB r m)), .int .i64 0]) ∧ Below w.heap.size w w' := by
  have hc := fun W => check_any r m 7 W
  rw [ck_ok h (by omega)] at hc
  replace hc := Lib.hid hc
  have hx := tx_new hH r m
  obtain ⟨c0, c1, _⟩ := hx.cells
  have hb : r ≤ 1073741824 ∧ m ≤ 6 := by unfold bOk at h; omega
  have hla := dec_len 10 r (by omega) (by omega)
  have hlb := dec_len 1 m (by omega) (by omega)
  rw [← tx_size] at hla hlb
  have hT : tx (decDigits r) ++ tx [46] ++ tx (decDigits m) = tx (tB r m) := by
    rw [tx_app, tx_app]
    simp [tB, List.append_assoc]
  replace hT := Lib.hid hT
  have hIa := fun w hH => itoa_any r (by omega) w hH
  have hIb := fun w hH => itoa_any m (by omega) w hH
  replace hIa := Lib.hid hIa
  replace hIb := Lib.hid hIb
  generalize hA : tx (decDigits r) = A at *
  generalize hB : tx (decDigits m) = B at *
  clear hA hB h hb
  have m1 : ¬ 9223372036854775807 < A.size + 1 := by omega
  have m2 : ¬ 9223372036854775807 < A.size + 1 + B.size := by omega
  have HE : Hid (∀ W, Tx w r m W → W.cell? ⟨w.heap.size, 0, none⟩ = some (.int .i64 r) ∧ W.cell? ⟨w.heap.size, 1, none⟩ = some (.int .i64 m) ∧ Tx w r m W) := fun W h => h.cells
  go_enter Tryd.func21, Tryd.ntmps21
  go_wp2_with (go_at_call 14; refine (hc.out _).mono ?_; rintro e w1 ⟨rfl, hb1⟩)
  have hx1 := hx.later hb1
  clear hb1 hx hc c0 c1
  go_region_held3 (fun W => W.cell? ⟨w.heap.size, 0, none⟩ = some (.int .i64 r) ∧ W.cell? ⟨w.heap.size, 1, none⟩ = some (.int .i64 m) ∧ Tx w r m W)
    ((first | exact HE.out _ hx1.drew | exact HE.out _ (by assumption) | exact HE.out _ (Tx.later hx1.drew (by assumption)) | assumption))
    (first
      | (go_at_call_of 36 (Value.int .i64 r); refine (hIa.out _ hx1.drew.hv).mono ?_; rintro e w2 ⟨rfl, hb3⟩; have hx2 := hx1.drew.later hb3)
      | (go_at_call_of 36 (Value.int .i64 m); refine (hIb.out _ hx2.hv).mono ?_; rintro e w3 ⟨rfl, hb4⟩; have hx3 := hx2.later hb4))
  go_wp2
  go_ret2
  exact ⟨congrArg (fun s => Ending.returned (.tuple #[.string s, .int .i64 0])) hT.out, (Tx.b (by assumption)).bel⟩
theorem text_any (r m : Int) (w : World) (hH : Hv w) :
    Calls Tryd.prog 21 #[.agg #[.int .i64 r, .int .i64 m]] w fun e w' => e = .returned (.tuple #[.string (tx (txS r m)), .int .i64 (ckB r m 7)]) ∧ Below w.heap.size w w' := by
  by_cases h : bOk 7 r m
  · rw [show txS r m = tB r.toNat m.toNat from if_pos h, ck_ok h (by omega)]
    obtain ⟨R, M, rfl, rfl, h1, h2⟩ := bOk_nat h
    exact text_ok R M h w hH
  · rw [show txS r m = [] from if_neg h, ck_no h]
    have hc := fun W => check_any r m 7 W
    rw [ck_no h] at hc
    replace hc := Lib.hid hc
    have hx := bx_new w r m
    obtain ⟨c0, c1, _, _⟩ := hx.cells
    go_enter Tryd.func21, Tryd.ntmps21
    go_wp2_with (go_at_call 14; refine (hc.out _).mono ?_; rintro e w1 ⟨rfl, hb1⟩)
    go_ret2
    exact ⟨rfl, (hx.later hb1).bel⟩
theorem number_is (l : List UInt8) (hl : l.length ≤ 1000) (w : World) (hH : Hv w) :
    Calls Tryd.prog 39 #[.string (tx l)] w fun e w' => e = .returned (.int .i64 (atV l)) ∧ Below w.heap.size w w' := by
  have hA := Lib.hid (fun w hH => atoi_any l (by omega) w hH)
  go_enter Tryd.func39, Tryd.ntmps39
  go_wp2_with (go_at_call 43; refine (hA.out _ hH).mono ?_; rintro e w1 ⟨ev, rfl, hk, hb1⟩)
  go_ret
  exact ⟨rfl, hb1⟩

/-! What a text is read as. -/
def IsT (s : List UInt8) (r m : Int) : Prop := bOk 7 r m ∧ tB r.toNat m.toNat = s
theorem atV_dec (u : Nat) (h : u < 9223372036854775808) : atV (decDigits u) = u := by unfold atV; rw [atoi_dec u h]
theorem cutB_app (l r : List UInt8) (c : UInt8) (h : ∀ x ∈ l, ¬ x = c) : cutB (l ++ c :: r) c = (l, r, true) := by
  induction l with
  | nil => show cutB (c :: r) c = _; unfold cutB; rw [if_pos rfl]
  | cons x l ih =>
    show cutB (x :: (l ++ c :: r)) c = _
    unfold cutB
    rw [if_neg (h x List.mem_cons_self), ih (fun y hy => h y (List.mem_cons_of_mem _ hy))]
theorem dig_ne {u : Nat} : ∀ x ∈ decDigits u, ¬ x = 46 := by
  intro x hx e
  subst e
  have := decDigits_dig u 46 hx
  revert this
  decide
theorem cut_tB (r m : Nat) : cutB (tB r m) 46 = (decDigits r, decDigits m, true) := cutB_app _ _ _ dig_ne
theorem isT_read {s : List UInt8} {r m : Int} (h : IsT s r m) : atV (cutB s 46).1 = r ∧ atV (cutB s 46).2.1 = m := by
  obtain ⟨h1, rfl⟩ := h
  obtain ⟨R, M, rfl, rfl, h2, h3⟩ := bOk_nat h1
  rw [Int.toNat_natCast, Int.toNat_natCast, cut_tB]
  exact ⟨atV_dec R (by omega), atV_dec M (by omega)⟩
theorem isT_one {s : List UInt8} {r m r' m' : Int} (h : IsT s r m) (h' : IsT s r' m') : r = r' ∧ m = m' := by
  obtain ⟨a, b⟩ := isT_read h
  obtain ⟨a', b'⟩ := isT_read h'
  exact ⟨a.symm.trans a', b.symm.trans b'⟩
/-- What Parse reads. -/
def pOk (s : List UInt8) : Bool := decide (bOk 7 (atV (cutB s 46).1) (atV (cutB s 46).2.1) ∧ tB (atV (cutB s 46).1).toNat (atV (cutB s 46).2.1).toNat = s)
def pA (s : List UInt8) : Int := if pOk s then atV (cutB s 46).1 else 0
def pB (s : List UInt8) : Int := if pOk s then atV (cutB s 46).2.1 else 0
def pE (s : List UInt8) : Int := if pOk s then 0 else 10
theorem p_isT {s : List UInt8} {r m : Int} (h : IsT s r m) : pA s = r ∧ pB s = m ∧ pE s = 0 := by
  obtain ⟨a, b⟩ := isT_read h
  have e : pOk s = true := by unfold pOk; rw [a, b]; exact decide_eq_true h
  exact ⟨by unfold pA; rw [if_pos e, a], by unfold pB; rw [if_pos e, b], by unfold pE; rw [if_pos e]⟩
theorem p_no {s : List UInt8} (h : ∀ r m, ¬ IsT s r m) : pA s = 0 ∧ pB s = 0 ∧ pE s = 10 := by
  have e : pOk s = false := decide_eq_false (fun x => h _ _ x)
  exact ⟨by unfold pA; rw [e]; rfl, by unfold pB; rw [e]; rfl, by unfold pE; rw [e]; rfl⟩
theorem p_cases (s : List UInt8) : (IsT s (pA s) (pB s) ∧ pE s = 0) ∨ ((∀ r m, ¬ IsT s r m) ∧ pA s = 0 ∧ pB s = 0 ∧ pE s = 10) := by
  by_cases h : ∃ r m, IsT s r m
  · obtain ⟨r, m, h⟩ := h
    obtain ⟨a, b, c⟩ := p_isT h
    exact .inl ⟨by rw [a, b]; exact h, c⟩
  · have h' : ∀ r m, ¬ IsT s r m := fun r m x => h ⟨r, m, x⟩
    exact .inr ⟨h', p_no h'⟩
end Go.Proofs.YtabfpdlnljkgpaaDoor.Bal
