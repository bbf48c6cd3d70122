/- A range over an iterator whose last word speaks of the world that it leaves (it yields what it has made itself). -/
import Derived.Test.YtojeccmnhgcmcaaDoorH04
namespace Go.Proofs.YtojeccmnhgcmcaaDoor.Dsk
open Go.RowKit Go.ChangeShapes _root_.Go.Proofs.YtojeccmnhgcmcaaDoor.Frame
open _root_.Go.Proofs.YtojeccmnhgcmcaaDoor.Crc (Hv more more_lt ret_u32)
set_option linter.unusedVariables false
set_option linter.unusedSimpArgs false
set_option maxRecDepth 100000

/-- The iterator g, called in whatever world behind w: when all rounds go on, S says what came and how it lies in the world behind. -/
def Yields {α : Type} (g : Nat) (lb : Array Value) (enc : α → Value) (Kp : World → World → Prop) (S : List α → World → Prop) (N : Nat) (w : World) : Prop :=
  ∀ (l : Nat) (J : List α → World → Prop) (W : World), Below w.heap.size w W → AbidesFrom W.heap.size J →
    (∀ pre x W1, J pre W1 → pre.length < N → YieldAt Fence.wide 2 Tryd.prog l #[enc x] W1 fun e W' => e = .returned (.bool true) ∧ J (pre ++ [x]) W' ∧ Kp W1 W') →
    J [] W → CallsIn Fence.wide 3 Tryd.prog g (#[.func (.yield l) #[] #[]] ++ lb) W fun e W' => (∃ v, e = .returned v) ∧ ∃ xs, S xs W' ∧ J xs W'
/-- A round's end. -/
def Round (R : World → Prop) : Exit → Act → World → Prop
  | .normal, _, W => R W
  | _, _, _ => False
theorem range_yields {α : Type} {g : Operand} {p : Tmp} {assign body : Code} {Q : Exit → Act → World → Prop} {a : Act} {w : World} {gf : Nat} {lb : Array Value} {enc : α → Value} {Kp : World → World → Prop} {S : List α → World → Prop} {N : Nat} {w0 : World}
    (hg : a.eval g = .func (.func gf) #[] lb) (hFg : Fence.wide.fn gf) (eg : ∀ args w, (callFunc gf args).run Tryd.prog w = .ok (.enter gf args) w)
    (hseq : Yields gf lb enc Kp S N w0) (hKt : ∀ {A B C : World}, Kp A B → Kp B C → Kp A C) (hKb : ∀ (W : World) (l : Nat) (o o' : Obj), w.heap.size ≤ l → W.heap[l]? = some o → o.isCells = false → Kp W (W.putObj l o'))
    (hSb : ∀ (xs : List α) (W : World) (l : Nat) (o o' : Obj), w.heap.size ≤ l → W.heap[l]? = some o → o.isCells = false → S xs W → S xs (W.putObj l o'))
    (hb0 : Below w0.heap.size w0 w) (I : List α → World → Prop) (hI : OwnFrom w.heap.size I) (h0 : I [] w) (A : α → Act)
    (hassign : ∀ (l : Nat) (x : α) (W : World) (K : Act → World → Prop), K (A x) W → assign.wpIn (Fence.wide.inRound l) 2 Tryd.prog (Exit.then K fun _ _ _ => False) { tmps := a.tmps.setIfInBounds p (enc x), defers := [] } W)
    (hbody : ∀ (l : Nat) (pre : List α) (x : α) (W : World), w.heap.size ≤ l → I pre W → pre.length < N → body.wpIn (Fence.wide.inRound l) 2 Tryd.prog (Round fun W' => KeepsFrom w.heap.size W W' ∧ Kp W W' ∧ I (pre ++ [x]) W') (A x) W)
    (hdone : ∀ (D : Nat) (xs : List α) (W : World), w.heap.size ≤ D → S xs W → I xs W → W.heap[D]? = some (.deferred (some [])) → Q .normal { a with defers := { target := .collected D, args := #[] } :: a.defers } W) :
    (Code.rangeFunc g #[p] assign body).wpIn Fence.wide 4 Tryd.prog Q a w := by
  refine wpIn_rangeFunc fun fn hfn => ?_
  have eD := World.alloc_heap_new w (.deferred (some []))
  let rec0 : LoopState → Loop := fun st => { state := st, pending := none, fn := fn, tmps := a.tmps, params := #[p], assign := assign, body := body, defers := w.heap.size }
  let D := w.heap.size
  let l := w.heap.size + 1
  let V := (w.alloc (.deferred (some []))).alloc (.loop (rec0 .ready))
  have vL : V.heap[l]? = some (.loop (rec0 .ready)) := by
    have := World.alloc_heap_new (w.alloc (.deferred (some []))) (.loop (rec0 .ready))
    rwa [World.size_alloc] at this
  have vD : V.heap[D]? = some (.deferred (some [])) := (Below.heap_alloc _ _ _ (by simp [D])).trans eD
  have vb : Below w0.heap.size w0 V := hb0.trans ((((Below.refl _ w).alloc (Nat.le_refl _) _).alloc (by simp) _).mono hb0.size)
  have vI : I [] V := hI.alloc _ (hI.alloc _ h0)
  have vz : V.heap.size = w.heap.size + 2 := by simp [V]
  refine ⟨l, [{ target := .collected D, args := #[] }], V, { target := .fn (.func gf) lb, args := #[.func (.yield l) #[] #[]] }, V, gf, #[.func (.yield l) #[] #[]] ++ lb, V, ?_, ?_, ?_, ?_, fun _ => (by decide), ?_⟩
  · exact run_enterLoop_outer _ _ _ _ _
  · simp only [resolve, hg]
    simp [go_sem]
  · intro f hf
    simp [Target.leads] at hf
    subst hf
    exact hFg
  · simp [invoke, go_sem, eg]
  · have hup : ∀ {W W' : World} {row : Option Nat}, (∀ r, row = some r → V.heap.size ≤ r ∧ ∃ o : Obj, W.heap[r]? = some o ∧ o.isWalk = true) → ∀ r, row = some r → w.heap.size ≤ r ∧ ∃ o : Obj, W.heap[r]? = some o ∧ o.isCells = false := by
      intro W W' row hr r e
      obtain ⟨h1, o, h2, h3⟩ := hr r e
      exact ⟨by omega, o, h2, Obj.not_cells_of_walk h3⟩
    refine (hseq l (fun pre W => I pre W ∧ W.heap[l]? = some (.loop (rec0 .ready)) ∧ W.heap[D]? = some (.deferred (some []))) V vb ?_ ?_ ⟨vI, vL, vD⟩).mono ?_
    · rintro s W W' row ⟨h1, h2, h3⟩ hgr hr
      exact ⟨hI s W W' row h1 hgr (hup (W' := W') hr), (grownBy_keeps hgr (fun r e => (hr r e).2) h2 rfl).trans h2, (grownBy_keeps hgr (fun r e => (hr r e).2) h3 rfl).trans h3⟩
    · rintro pre x W ⟨h1, h2, h3⟩ hlt
      have hlW : l < W.heap.size := (Array.getElem?_eq_some_iff.1 h2).1
      have hy := run_yield (P := Tryd.prog) (args := #[enc x]) h2 rfl
      have ef : ((rec0 .ready).params.zip #[enc x]).foldl (fun tmps (t, a) => tmps.setIfInBounds t a) (rec0 .ready).tmps = a.tmps.setIfInBounds p (enc x) := by simp [rec0]
      rw [ef] at hy
      refine ⟨fn, _, assign, body, hy, roundIn_of_wpIn hfn ?_⟩
      refine hassign l x W _ ?_
      refine ⟨_, run_beginRound h2 rfl, ?_⟩
      have b2 : (W.putObj l (.loop (rec0 .busy))).heap[l]? = some (.loop (rec0 .busy)) := World.putObj_heap_same hlW
      have b3 : (W.putObj l (.loop (rec0 .busy))).heap[D]? = some (.deferred (some [])) := (World.putObj_heap_other (by simp [D, l])).trans h3
      have bK : Kp W (W.putObj l (.loop (rec0 .busy))) := hKb _ _ _ _ (by simp [l]) h2 rfl
      refine wpIn_mono (hbody l pre x _ (by simp [l]) (hI.putObj _ h1 (by simp [l]) h2 rfl) hlt) ?_
      rintro e a3 W3 hp
      cases e with
      | normal =>
        obtain ⟨hk3, hkp3, hi3⟩ := hp
        have c2 := hk3.same _ _ (by simp [l]) b2 rfl
        have c3 := hk3.same _ _ (by simp [D]) b3 rfl
        refine ⟨_, _, run_endRound none c2, rfl, ⟨hI.putObj _ hi3 (by simp [l]) c2 rfl, ?_, ?_⟩, hKt bK (hKt hkp3 (hKb _ _ _ _ (by simp [l]) c2 rfl))⟩
        · exact World.putObj_heap_same (Array.getElem?_eq_some_iff.1 c2).1
        · exact (World.putObj_heap_other (by simp [D, l])).trans c3
      | ret => exact hp.elim
      | exit id => exact hp.elim
      | goto t => exact hp.elim
      | panic ch => exact hp.elim
      | outgrown => exact hp.elim
    · rintro e W2 ⟨⟨v, rfl⟩, xs, hS, h1, h2, h3⟩
      refine ⟨none, _, run_endLoop h2 (by simp [rec0]), ?_⟩
      exact hdone D xs _ (Nat.le_refl _) (hSb _ _ _ _ _ (by simp [l]) h2 rfl hS) (hI.putObj _ h1 (by simp [l]) h2 rfl) ((World.putObj_heap_other (by simp [D, l])).trans h3)
end Go.Proofs.YtojeccmnhgcmcaaDoor.Dsk
