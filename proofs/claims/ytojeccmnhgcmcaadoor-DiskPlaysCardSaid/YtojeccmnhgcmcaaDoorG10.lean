/- Cut, Check. -/
import Derived.Test.YtojeccmnhgcmcaaDoorG09
namespace Go.Proofs.YtojeccmnhgcmcaaDoor.Frame
open Go.RowKit Go.ChangeShapes
open Crc (Hv more more_lt ret_u32)
set_option linter.unusedVariables false
set_option linter.unusedSimpArgs false
attribute [local go_sem] Oper.semAt_some

theorem records_any (a : Option Addr) (n cap : Nat) (w : World) : Calls Tryd.prog 57 #[.slice a n cap] w fun e w' => e = .returned (.func (.func 62) #[] #[.pointer (some ⟨w.heap.size, 0, none⟩)]) ∧ w' = w.alloc (.cells #[.slice a n cap] 29) := by
  go_enter Tryd.func57, Tryd.ntmps57
  go_wp2
  go_ret
  exact ⟨rfl, rfl⟩
theorem records_stops (F : Nat → Prop) (v : Value) (b : List Nat) (w : World) (hv : Bs w F v b) (hF : ∀ k, F k → k < w.heap.size) (hH : Hv w) (hlen : b.length ≤ 100000000) (Bn : Nat) (hBn : Bn < w.heap.size) (hBox : w.cell? ⟨Bn, 0, none⟩ = some v) :
    SeqStopsK Fence.wide 3 Tryd.prog 62 #[.pointer (some ⟨Bn, 0, none⟩)] (encI (w := w) (F := F) (b := b)) (Held (Gs F Bn)) (fun ys => conts ys = chain b ∧ Row 0 ys) (fun _ => True) (chain b).length w :=
  fun l J Jx W hW hJ hJx hY h0 => records_in F v b w hv hF hH hlen Bn hBn hBox l J Jx W hW hJ hJx hY h0
theorem held_put {G : Nat → Prop} {n : Nat} (hG : ∀ k, G k → k < n) (W : World) (l : Nat) (o o' : Obj) (hl : n ≤ l) (_ : W.heap[l]? = some o) (_ : o.isCells = false) (_ : o.isWalk = false) : Held G W (W.putObj l o') := by
  refine ⟨(grownBy_putObj' W l o').size, fun k hk => ?_⟩
  have h1 := hG k hk
  rcases Nat.lt_or_ge k W.heap.size with h | h
  · exact (grownBy_putObj' W l o').block k h (by intro e; injection e with e; omega)
  · have h2 : (W.putObj l o').heap.size = W.heap.size := by simp [World.putObj]
    rw [Array.getElem?_eq_none (by omega), Array.getElem?_eq_none (by omega)]

/-- The state between two rounds of Cut. -/
structure CAt (w : World) {w0 : World} {F : Nat → Prop} {b : List Nat} (pre : List (Item w0 F b)) (W : World) : Prop where
  box : Boxed W w.heap.size 3 (.int .i64 (pre.length : Nat))
  bel : Below w.heap.size w W
theorem cat_from {w w0 : World} {F : Nat → Prop} {b : List Nat} (B : Nat) (hB : w.heap.size < B) : OwnFrom B (fun (pre : List (Item w0 F b)) W => CAt w pre W) := by
  rintro pre W W' row ⟨h1, h2⟩ hg hr
  refine ⟨h1.kept hg fun e => ?_, h2.grown hg h2.size fun r e => ?_⟩
  · have := (hr _ e.symm).1; omega
  · have := (hr r e).1; omega
theorem world2 (w : World) (o : Obj) (u : Value) (T : TypeId) : ((w.alloc o).alloc (.cells #[u] T)).cell? ⟨w.heap.size + 1, 0, none⟩ = some u := by
  have := Boxed.new (w.alloc o) T u
  rw [World.size_alloc] at this
  exact this.cell
/-- How many records the first n bytes have. -/
def cutN (b : List Nat) (n : Int) : Nat := if n < 0 ∨ (b.length : Int) < n then 0 else (chain (b.take n.toNat)).length
def cutE (b : List Nat) (n : Int) : Nat := if n < 0 ∨ (b.length : Int) < n then 3 else 0
/-! Where the last record ends. -/
def endp {w : World} {F : Nat → Prop} {b : List Nat} (k : Nat) (ys : List (Item w F b)) : Nat := (ys.getLast?.map fun x => x.k + (8 + x.c.length)).getD k
theorem endp_snoc {w : World} {F : Nat → Prop} {b : List Nat} (k : Nat) (ys : List (Item w F b)) (x : Item w F b) : endp k (ys ++ [x]) = x.k + (8 + x.c.length) := by simp [endp]
theorem Row.endp {w : World} {F : Nat → Prop} {b : List Nat} : ∀ (k : Nat) (ys : List (Item w F b)), Row k ys → Frame.endp k ys = k + tot (conts ys)
  | k, [], _ => rfl
  | k, y :: ys, h => by
    have ih := Row.endp _ ys h.2
    have e : Frame.endp k (y :: ys) = Frame.endp (y.k + (8 + y.c.length)) ys := by
      unfold Frame.endp
      rw [List.getLast?_cons]
      cases ys.getLast? <;> rfl
    rw [e, h.1, ih]
    show _ = k + (8 + y.c.length + tot (conts ys))
    omega
/-- What Check gives back. -/
def checkE (b : List Nat) : Nat := if tot (chain b) = b.length then 0 else restE (b.drop (tot (chain b)))
structure EAt (w : World) {w0 : World} {F : Nat → Prop} {b : List Nat} (pre : List (Item w0 F b)) (W : World) : Prop where
  box : Boxed W w.heap.size 3 (.int .i64 (endp 0 pre : Nat))
  bel : Below w.heap.size w W
  siz : w.heap.size + 2 ≤ W.heap.size
theorem eat_from {w w0 : World} {F : Nat → Prop} {b : List Nat} (B : Nat) (hB : w.heap.size < B) : OwnFrom B (fun (pre : List (Item w0 F b)) W => EAt w pre W) := by
  rintro pre W W' row ⟨h1, h2, h3⟩ hg hr
  refine ⟨h1.kept hg fun e => ?_, h2.grown hg h2.size fun r e => ?_, Nat.le_trans h3 hg.size⟩
  · have := (hr _ e.symm).1; omega
  · have := (hr r e).1; omega
end Go.Proofs.YtojeccmnhgcmcaaDoor.Frame
