/- Check; a box with a range; later and earlier. -/
import Derived.Test.YtiahjacjpakkdaaS07
namespace Go.Proofs.Ytiahjacjpakkdaa.Rng
open Go.RowKit Go.Lib
set_option linter.unusedVariables false
set_option linter.unusedSimpArgs false
set_option maxRecDepth 20000

abbrev TR : TypeId := 25
/-- A range as a value. -/
def rv (r : Rg) : Value := .agg #[.string (tx r.f), .string (tx r.t)]
def okE (r : Rg) : Int := if okR r then 0 else 2
/-- A box with a range's two texts, and what was there ahead of it. -/
structure Bx (w : World) (q : Nat) (s t : ByteArray) (w' : World) : Prop where
  blk : w'.heap[q]? = some (.cells #[.string s, .string t] TR (0, 0))
  bel : Below w.heap.size w w'
theorem Bx.lt {w w' : World} {q : Nat} {s t : ByteArray} (h : Bx w q s t w') : q < w'.heap.size := (Array.getElem?_eq_some_iff.1 h.blk).1
theorem Bx.later {w w' w2 : World} {q : Nat} {s t : ByteArray} (h : Bx w q s t w') (hb : Below w'.heap.size w' w2) : Bx w q s t w2 :=
  ⟨(hb.block q h.lt).trans h.blk, h.bel.trans (hb.mono h.bel.size)⟩
theorem Bx.drew {w w' : World} {q : Nat} {s t : ByteArray} (h : Bx w q s t w') : Bx w q s t w'.drew := h.later (Below.refl _ _).drew
theorem Bx.cells {w w' : World} {q : Nat} {s t : ByteArray} (h : Bx w q s t w') :
    w'.cell? ⟨q, 0, none⟩ = some (.string s) ∧ w'.cell? ⟨q, 1, none⟩ = some (.string t) :=
  ⟨cell_of_row w' q 0 _ TR _ h.blk, cell_of_row w' q 1 _ TR _ h.blk⟩
theorem bx_new (w : World) (s t : ByteArray) : Bx w w.heap.size s t (w.alloc (.cells #[.string s, .string t] TR)) :=
  ⟨heap_alloc_new _ _, (Below.refl _ _).alloc (Nat.le_refl _) _⟩

theorem check_any (r : Rg) (w : World) :
    Calls Try.prog 27 #[.agg #[.string (tx r.f), .string (tx r.t)]] w fun e w' => e = .returned (.int .i64 (okE r)) ∧ Below w.heap.size w w' := by
  obtain ⟨f, t⟩ := r
  show Calls Try.prog 27 #[.agg #[.string (tx f), .string (tx t)]] w _
  have hF := Lib.hid (fun W => isEnd_any f W)
  have hT := Lib.hid (fun W => isEnd_any t W)
  have b1 : Op.bytesLess (tx f).toList (tx t).toList = bl f t := by rw [tx_l, tx_l]; rfl
  have hr := Lib.hid (show okE ⟨f, t⟩ = if endOk f && endOk t && (t.isEmpty || bl f t) then 0 else 2 from rfl)
  have hx := bx_new w (tx f) (tx t)
  by_cases ht : t = []
  · have b2 : (tx t).toList = [] := by rw [tx_l]; exact ht
    have he : t.isEmpty = true := by rw [ht]; rfl
    rw [he] at hr
    have b3 : bl f t = false := by rw [ht]; exact bl_nil f
    rw [b3] at b1 hr
    clear b3 he ht
    generalize okE ⟨f, t⟩ = c at *
    generalize endOk f = p at *
    generalize endOk t = q at *
    generalize tx f = s at *
    generalize tx t = u at *
    cases p <;> cases q
    all_goals
      go_enter Try.func27, Try.ntmps27
      go_wp2_with (first
        | (go_at_call_of 46 (Value.string s); refine (hF.out _).mono ?_; rintro e w1 ⟨rfl, hb1⟩; have hx1 := hx.later hb1; obtain ⟨c0, c1⟩ := hx1.cells)
        | (go_at_call_of 46 (Value.string u); refine (hT.out _).mono ?_; rintro e w2 ⟨rfl, hb2⟩; have hx2 := hx1.later hb2; obtain ⟨d0, d1⟩ := hx2.cells))
      go_ret
      exact ⟨by rw [hr.out]; rfl, Bx.bel (by assumption)⟩
  · have b2 : (tx t).toList.isEmpty = false := by rw [tx_l]; simpa using ht
    have b2' : ((tx t).toList == []) = false := by rw [tx_l]; simpa using ht
    have he : t.isEmpty = false := by simpa using ht
    rw [he] at hr
    clear he ht
    generalize okE ⟨f, t⟩ = c at *
    generalize endOk f = p at *
    generalize endOk t = q at *
    generalize bl f t = z at *
    generalize tx f = s at *
    generalize tx t = u at *
    cases p <;> cases q <;> cases z
    all_goals
      go_enter Try.func27, Try.ntmps27
      go_wp2_with (first
        | (go_at_call_of 46 (Value.string s); refine (hF.out _).mono ?_; rintro e w1 ⟨rfl, hb1⟩; have hx1 := hx.later hb1; obtain ⟨c0, c1⟩ := hx1.cells)
        | (go_at_call_of 46 (Value.string u); refine (hT.out _).mono ?_; rintro e w2 ⟨rfl, hb2⟩; have hx2 := hx1.later hb2; obtain ⟨d0, d1⟩ := hx2.cells))
      go_ret
      exact ⟨by rw [hr.out]; rfl, Bx.bel (by assumption)⟩

end Go.Proofs.Ytiahjacjpakkdaa.Rng
