/- What a step makes greater (AcceptGrows). -/
import Derived.Test.YtolflaeiacbknaaA18
namespace Go.Proofs.Ytolflaeiacbknaa.Acc
open Go.RowKit Go.Maps Go.Lib
open Bal (TB alloc_b)
set_option linter.unusedVariables false
set_option linter.unusedSimpArgs false
set_option maxRecDepth 100000

theorem ord_pp {a b x y : Int} : 0 < Bal.ordV a b x y ↔ (x < a ∨ (a = x ∧ y < b)) := by
  unfold Bal.ordV Bal.fdV compareInt
  by_cases h1 : a < x
  · simp [h1]; omega
  · by_cases h2 : x < a
    · simp [h1, h2]
    · have : a = x := by omega
      subst this
      by_cases h3 : b < y
      · simp [h3]; omega
      · by_cases h4 : y < b
        · simp [h3, h4]
        · simp [h3, h4]
theorem order_o {a b x y o : Int} (h : Bal.ordV a b x y = o) (W : World) :
    Calls Try.prog 34 #[.agg #[.int .i64 a, .int .i64 b], .agg #[.int .i64 x, .int .i64 y]] W fun e w' => e = .returned (.int .i64 o) ∧ Below W.heap.size W w' := by
  subst h
  exact Bal.order_any a b x y W
theorem ord_self (r m : Int) : ¬ Bal.ordV r m r m < 0 := by rw [ord_nn]; omega
/-- No entry's ballot is greater than the promised one. -/
def Bo (s : St) : Prop := ∀ e ∈ s.M, ¬ 0 < Bal.ordV e.r e.m s.r s.m
theorem Bo.lift {e : Et} {r m x y : Int} (h : ¬ 0 < Bal.ordV e.r e.m r m) (h2 : ¬ Bal.ordV x y r m < 0) : ¬ 0 < Bal.ordV e.r e.m x y ∧ ¬ Bal.ordV x y e.r e.m < 0 := by
  rw [ord_pp] at h ⊢
  rw [ord_nn] at h2 ⊢
  constructor <;> omega
structure Grow (s t : St) : Prop where
  up : ¬ Bal.ordV t.r t.m s.r s.m < 0
  base : s.b ≤ t.b
  bo : Bo t
  gone : ∀ e ∈ s.M, e.s < t.b → getM t.M e.s = none
  there : ∀ e ∈ s.M, ¬ e.s < t.b → ∃ e', getM t.M e.s = some e' ∧ ¬ Bal.ordV e'.r e'.m e.r e.m < 0
theorem grow_id {s : St} (h : OkS s) (hb : Bo s) : Grow s s :=
  ⟨ord_self _ _, by omega, hb, fun e he hl => by have := (h.ent e he).1; omega, fun e he _ => ⟨e, (get_iff h.srt _ _).2 ⟨he, rfl⟩, ord_self _ _⟩⟩
theorem grow_pro {s : St} (h : OkS s) (hb : Bo s) (x y f : Int) : Grow s (proS s x y f) := by
  by_cases hc : proE s x y f = 0
  · have e : proS s x y f = ⟨s.n, x, y, s.b, s.M⟩ := if_pos hc
    have ho : ¬ Bal.ordV x y s.r s.m < 0 := by
      intro hl
      unfold proE at hc
      by_cases hg : Gd s.n x y ∧ 0 ≤ f ∧ f ≤ 4096
      · rw [if_pos hg, if_pos hl] at hc; cases hc
      · rw [if_neg hg] at hc; cases hc
    rw [e]
    exact ⟨ho, Int.le_refl _, fun e he => (Bo.lift (hb e he) ho).1, fun e he hl => by have := (h.ent e he).1; have hl : e.s < s.b := hl; omega, fun e he _ => ⟨e, (get_iff h.srt _ _).2 ⟨he, rfl⟩, ord_self _ _⟩⟩
  · have e : proS s x y f = s := if_neg hc
    rw [e]
    exact grow_id h hb
theorem grow_acc {s : St} (h : OkS s) (hb : Bo s) (x y k : Int) (v : ByteArray) : Grow s (accS s x y k v) := by
  by_cases hc : accE s x y k v = 0
  · have e : accS s x y k v = ⟨s.n, x, y, s.b, putM s.M ⟨k, x, y, v⟩⟩ := if_pos hc
    have ho : ¬ Bal.ordV x y s.r s.m < 0 := by
      intro hl
      unfold accE at hc
      by_cases hg : Gd s.n x y ∧ 0 ≤ k ∧ k < 4096
      · rw [if_pos hg] at hc
        by_cases h2 : 65536 < v.size
        · rw [if_pos h2] at hc; cases hc
        · rw [if_neg h2, if_pos hl] at hc; cases hc
      · rw [if_neg hg] at hc; cases hc
    rw [e]
    refine ⟨ho, Int.le_refl _, fun e he => ?_, fun e he hl => by have := (h.ent e he).1; have hl : e.s < s.b := hl; omega, fun e he _ => ?_⟩
    · rcases mem_put.1 he with rfl | ⟨he, _⟩
      · rw [ord_pp]; show ¬ (x < x ∨ (x = x ∧ y < y)); omega
      · exact (Bo.lift (hb e he) ho).1
    · show ∃ e', getM (putM s.M ⟨k, x, y, v⟩) e.s = some e' ∧ _
      rw [get_put h.srt]
      by_cases hk : e.s = k
      · exact ⟨_, if_pos hk, (Bo.lift (hb e he) ho).2⟩
      · exact ⟨e, (if_neg hk).trans ((get_iff h.srt _ _).2 ⟨he, rfl⟩), ord_self _ _⟩
  · have e : accS s x y k v = s := if_neg hc
    rw [e]
    exact grow_id h hb
theorem grow_for {s : St} (h : OkS s) (hb : Bo s) (u : Int) : Grow s (forS s u) := by
  have h' := ok_for h u
  by_cases hu : 0 ≤ u ∧ u ≤ 4096
  · rw [for_pos s hu] at h' ⊢
    refine ⟨ord_self _ _, by show s.b ≤ max s.b u; omega, fun e he => hb e (mem_fr.1 he).1, fun e he hl => get_below h' hl, fun e he hl => ⟨e, (get_iff h'.srt _ _).2 ⟨mem_fr.2 ⟨he, ?_⟩, rfl⟩, ord_self _ _⟩⟩
    have hl : ¬ e.s < max s.b u := hl
    omega
  · have e : forS s u = s := if_neg hu
    rw [e]
    exact grow_id h hb
/-- An acceptor, a ballot in a box, a list of one's own. -/
structure Gw (w : World) (sa ma : Nat) (s : St) (p : Nat) (r m : Int) (base : Nat) (L : List Et) (v : Value) (W : World) : Prop where
  a : WAt w sa ma s W
  bx : W.heap[p]? = some (.cells #[.int .i64 r, .int .i64 m] TB (0, 0))
  own : OwE base L v W
section
variable {w W W' : World} {sa ma p base : Nat} {s s' : St} {r m : Int} {L : List Et} {v : Value}
theorem Gw.later (h : Gw w sa ma s p r m base L v W) (hb : Below W.heap.size W W') : Gw w sa ma s p r m base L v W' :=
  ⟨h.a.later hb, (hb.block _ (Array.getElem?_eq_some_iff.1 h.bx).1).trans h.bx, h.own.later hb⟩
theorem Gw.step (h : Gw w sa ma s p r m base L v W) (hA : WAt w sa ma s' W') (hK : Keeps (fun k => k = sa ∨ k = ma) W W') : Gw w sa ma s' p r m base L v W' :=
  ⟨hA, box_kept h.a.ax h.bx (by decide) hK, h.own.apart h.a.ax hK⟩
theorem Gw.cells (h : Gw w sa ma s p r m base L v W) : W.cell? ⟨p, 0, none⟩ = some (.int .i64 r) ∧ W.cell? ⟨p, 1, none⟩ = some (.int .i64 m) :=
  ⟨cell_of_row W _ 0 _ TB _ h.bx, cell_of_row W _ 1 _ TB _ h.bx⟩
end
theorem srt_at {M : List Et} (h : Srt M) {i j : Nat} {x y : Et} (hi : M[i]? = some x) (hj : M[j]? = some y) (hij : i < j) : x.s < y.s := by
  obtain ⟨a, ha⟩ := List.getElem?_eq_some_iff.1 hi
  obtain ⟨b, hb⟩ := List.getElem?_eq_some_iff.1 hj
  subst ha hb
  exact List.pairwise_iff_getElem.1 h i j a b hij
end Go.Proofs.Ytolflaeiacbknaa.Acc
