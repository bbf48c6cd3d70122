/- DedupTakes: whether a memo is in the range (its closure). -/
import Derived.Test.YtbgjiokocjnjhaaD22
namespace Go.Proofs.Ytbgjiokocjnjhaa.Ded
open Go.RowKit Go.Lib Go.Shelf
open Rng (tx tx_of okR hasR bl)
open Eff (TE effOk)
set_option linter.unusedVariables false
set_option linter.unusedSimpArgs false
set_option maxRecDepth 100000
/-- What the closure says of a key. -/
def inV (r : Rng.Rg) (k : List UInt8) : Bool := !bl k r.f && (decide (r.t = []) || bl k r.t)
theorem in_any (m : Mm) (h : MmOk m) (r : Rng.Rg) (rb : Nat) (w : World) (hb : w.heap[rb]? = some (rgBx r)) :
    Calls Try.prog 30 #[mmA m, .pointer (some ⟨rb, 0, none⟩)] w fun e w' => e = .returned (.bool (inV r (enM m).ky)) ∧ Below w.heap.size w w' := by
  have HO := Lib.hid (fun W => of_any m h W)
  unfold Ofd at HO
  have hlt0 := (Array.getElem?_eq_some_iff.1 hb).1
  have hal := alloc_b w (.cells #[.int .u8 m.s, .int .u8 m.p, .int .u8 m.k, .int .i32 m.n, .int .u8 m.e] TMm)
  have hb1 : (w.alloc (.cells #[.int .u8 m.s, .int .u8 m.p, .int .u8 m.k, .int .i32 m.n, .int .u8 m.e] TMm)).heap[rb]? = some (rgBx r) := (hal.block _ hlt0).trans hb
  have HB := Lib.hid hb1
  have HA := Lib.hid hal
  have b1 : Op.bytesLess (tx (enM m).ky).toList (tx r.f).toList = bl (enM m).ky r.f := by rw [Rng.tx_l, Rng.tx_l]; rfl
  have b3 : Op.bytesLess (tx (enM m).ky).toList (tx r.t).toList = bl (enM m).ky r.t := by rw [Rng.tx_l, Rng.tx_l]; rfl
  clear hb hb1 hal hlt0
  generalize hk : enM m = x at *
  obtain ⟨f, t⟩ := r
  unfold inV
  simp only at *
  go_enter Try.func30, Try.ntmps30
  go_wp2_with fail
  refine (HO.out _).mono ?_
  rintro e V ⟨rfl, hv⟩
  have hbV := (hv.block rb (Array.getElem?_eq_some_iff.1 HB.out).1).trans HB.out
  have hl0 : rb < V.heap.size := (Array.getElem?_eq_some_iff.1 hbV).1
  have hl1 : rb < V.heap.size + 1 := by omega
  have c0 : V.cell? ⟨rb, 0, none⟩ = some (.string (tx f)) := cell_of_row V _ 0 _ TRg _ hbV
  have c1 : V.cell? ⟨rb, 1, none⟩ = some (.string (tx t)) := cell_of_row V _ 1 _ TRg _ hbV
  have HV := Lib.hid (HA.out.trans (hv.mono HA.out.size))
  clear hv hbV HB HA HO
  have hF := Lib.hid (HV.out.trans (((alloc_b V (.cells #[.int .i64 x.ef.s, .int .i64 x.ef.t, .int .i64 x.ef.p] TE)).alloc (by simp) (.cells #[.int .i64 x.er, .int .i64 x.nm, .string (tx x.da)] TRp)).mono HV.out.size))
  have ht : ((tx t).toList = []) = (t = []) := by rw [Rng.tx_l]
  have hte : (tx t).toList.isEmpty = decide (t = []) := by rw [Rng.tx_l]; cases t <;> rfl
  go_wp2
  all_goals go_ret
  all_goals refine ⟨?_, hF.out⟩
  all_goals simp_all
end Go.Proofs.Ytbgjiokocjnjhaa.Ded
