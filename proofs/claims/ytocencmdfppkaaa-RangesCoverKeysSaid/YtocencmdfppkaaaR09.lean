/- Without. -/
import Derived.Test.YtocencmdfppkaaaR08
import Derived.Maps.AppendAt
import Derived.Deep.RegionLaw
import Derived.Outline
namespace Go.Proofs.Ytocencmdfppkaaa.Rng
open Go.RowKit Go.Lib
set_option linter.unusedVariables false
set_option linter.unusedSimpArgs false
set_option maxRecDepth 100000

/-- The cells of a list of ranges. -/
def flat (l : List Rg) : List Value := l.flatMap fun r => [.string (tx r.f), .string (tx r.t)]
theorem flat_app (a b : List Rg) : flat (a ++ b) = flat a ++ flat b := by unfold flat; rw [List.flatMap_append]
theorem flat_len (l : List Rg) : (flat l).length = l.length * 2 := by
  induction l with
  | nil => rfl
  | cons z zs ih => show (flat zs).length + 1 + 1 = (zs.length + 1) * 2; omega
theorem flat_get (l : List Rg) : ∀ (i : Nat) (r : Rg), l[i]? = some r → (flat l)[i * 2]? = some (.string (tx r.f)) ∧ (flat l)[i * 2 + 1]? = some (.string (tx r.t)) := by
  induction l with
  | nil => intro i r h; simp at h
  | cons z zs ih =>
    intro i r h
    have e : flat (z :: zs) = .string (tx z.f) :: .string (tx z.t) :: flat zs := rfl
    cases i with
    | zero => cases h; exact ⟨rfl, rfl⟩
    | succ i =>
      obtain ⟨h1, h2⟩ := ih i r (by simpa using h)
      rw [e, show (i + 1) * 2 = i * 2 + 1 + 1 by omega]
      exact ⟨by simpa using h1, by simpa using h2⟩
theorem flat_one (l : List Rg) : ∀ u ∈ flat l, u.oneCell' = true := by
  intro u hu
  unfold flat at hu
  rw [List.mem_flatMap] at hu
  obtain ⟨r, _, hr⟩ := hu
  simp only [List.mem_cons, List.not_mem_nil, or_false] at hr
  rcases hr with rfl | rfl <;> rfl
/-- A slice of the call's own that holds a list of ranges. -/
def Ow (base : Nat) (l : List Rg) (v : Value) (w : World) : Prop := w.ownsRow base TR 2 v l.length (flat l)
theorem Ow.rs {base : Nat} {l : List Rg} {v : Value} {w : World} (h : Ow base l v w) : Rs w v l := by
  obtain ⟨_, ⟨rfl, h0⟩ | ⟨g, cap, cur, rfl, hb, hh, hle, _, hsz, hx⟩⟩ := h
  · exact ⟨none, 0, by rw [h0], fun hp => by omega⟩
  · refine ⟨_, cap, rfl, fun _ => ⟨g, 0, rfl, fun i r hr => ?_⟩⟩
    obtain ⟨h1, h2⟩ := flat_get l i r hr
    have hi : i < l.length := (List.getElem?_eq_some_iff.1 hr).1
    rw [← hx, List.getElem?_take] at h1 h2
    rw [if_pos (by omega)] at h1 h2
    rw [Nat.zero_add]
    exact ⟨(cell_of_row w g _ cur TR _ hh).trans (by simpa using h1), (cell_of_row w g _ cur TR _ hh).trans (by simpa using h2)⟩
theorem Ow.form {base : Nat} {l : List Rg} {v : Value} {w : World} (h : Ow base l v w) : ∃ a cap, v = .slice a l.length cap := by
  rcases h.2 with ⟨rfl, h0⟩ | ⟨g, cap, cur, rfl, _⟩
  · exact ⟨none, 0, by rw [h0]⟩
  · exact ⟨_, cap, rfl⟩
theorem Ow.later {base : Nat} {l : List Rg} {v : Value} {w w' : World} (h : Ow base l v w) (hb : Below w.heap.size w w') : Ow base l v w' := by
  refine ⟨h.1, ?_⟩
  rcases h.2 with hn | ⟨g, cap, cur, rfl, hbg, hg, rest⟩
  · exact .inl hn
  · exact .inr ⟨g, cap, cur, rfl, hbg, (hb.block g (Array.getElem?_eq_some_iff.1 hg).1).trans hg, rest⟩
theorem Ow.base {base base' : Nat} {l : List Rg} {v : Value} {w : World} (h : Ow base l v w) (hb : base' ≤ base) : Ow base' l v w := by
  refine ⟨h.1, ?_⟩
  rcases h.2 with hn | ⟨g, cap, cur, rfl, hbg, hg, rest⟩
  · exact .inl hn
  · exact .inr ⟨g, cap, cur, rfl, by omega, hg, rest⟩
theorem Ow.nil (base : Nat) (w : World) : Ow base [] (.slice none 0 0) w := World.ownsRow_nil w base TR 2
theorem info_rg : (Try.prog.info? TR).map (fun i => (i.zero, i.size, i.bytes)) = some (some (.agg #[.string ⟨#[]⟩, .string ⟨#[]⟩]), 2, 32) := by kernel_rfl
theorem addr_add (g o j : Nat) : (⟨g, o, none⟩ : Addr).add j = ⟨g, o + j, none⟩ := by simp [Addr.add]
theorem run_append_rg (base : Nat) (w : World) (ty : TypeId) (v : Value) (l : List Rg) (hown : Ow base l v w) (g c : Nat) (r : Rg)
    (h0 : w.cell? ⟨g, 0, none⟩ = some (.string (tx r.f))) (h1 : w.cell? ⟨g, 1, none⟩ = some (.string (tx r.t))) (hn : l.length ≤ 100000000) (hbase : base ≤ w.heap.size) :
    ∃ v' w', (Builtin.append_ #[36, 36] ty #[v, .slice (some ⟨g, 0, none⟩) 1 c]).run Try.prog w = .ok v' w' ∧ Ow base (l ++ [r]) v' w' ∧ w.grownBy w' v.ownBlock := by
  obtain ⟨i0, hi, hz0, hz1, hz2⟩ := info_parts info_rg
  obtain ⟨v', w', h1', h2, h3, _, h5⟩ := run_append_own_at (P := Try.prog) w base 36 ty TR i0 (.agg #[.string ⟨#[]⟩, .string ⟨#[]⟩]) 2 32 Try.underlying36 hi hz0 hz1 hz2 rfl (by decide) v l.length (flat l) hown ⟨g, 0, none⟩ 1 c [.string (tx r.f), .string (tx r.t)] rfl (fun j u hu => by
    rw [addr_add, Nat.zero_add]
    match j, hu with
    | 0, hu => cases hu; exact h0
    | 1, hu => cases hu; exact h1) (fun u hu => by
      simp only [List.mem_cons, List.not_mem_nil, or_false] at hu
      rcases hu with rfl | rfl <;> rfl) (by unfold maxLen; omega) (by omega) hbase
  refine ⟨v', w', h1', ?_, h3⟩
  show w'.ownsRow base TR 2 v' (l ++ [r]).length (flat (l ++ [r]))
  rw [flat_app, List.length_append]
  exact h2
theorem step_append_rg {ops : Array Oper} {o : Oper} {a : Act} {w : World} {K : Act → World → Prop} {Q : Exit → Act → World → Prop} {E : Prop} (hgd : o.guard = none) (s x : Operand)
    (ho : o.op = .call { callee := .builtin .append, args := #[s, x], argTypes := #[36, 36] })
    (base : Nat) (v : Value) (l : List Rg) (hs : a.eval s = v) (hown : Ow base l v w) (g c : Nat) (r : Rg) (hx : a.eval x = .slice (some ⟨g, 0, none⟩) 1 c)
    (h0 : w.cell? ⟨g, 0, none⟩ = some (.string (tx r.f))) (h1 : w.cell? ⟨g, 1, none⟩ = some (.string (tx r.t))) (hn : l.length ≤ 100000000) (hbase : base ≤ w.heap.size)
    (h : ∀ v' w', Ow base (l ++ [r]) v' w' → w.grownBy w' v.ownBlock → K (a.put o.dst v') w') :
    if Region.wanted o (yielded ops a.tmps) = true then Oper.wp Try.prog o a w K Q else E := by
  have hw : Region.wanted o (yielded ops a.tmps) = true := by simp [Region.wanted, hgd]
  rw [if_pos hw]
  obtain ⟨v', w', hrun, h1, h2⟩ := run_append_rg base w o.type v l hown g c r h0 h1 hn hbase
  unfold Oper.wp execOp
  simp only [ho, resolve, invoke, builtin, Sem.run_bind, Sem.run_pure, Result.andThen_ok, List.map_toArray, List.map_cons, List.map_nil, hs, hx, hrun]
  exact h v' w' h1 h2
/-- Two boxes. -/
structure Tw (w : World) (s t u v : ByteArray) (w' : World) : Prop where
  b0 : w'.heap[w.heap.size]? = some (.cells #[.string s, .string t] TR (0, 0))
  b1 : w'.heap[w.heap.size + 1]? = some (.cells #[.string u, .string v] TR (0, 0))
  bel : Below w.heap.size w w'
theorem Tw.lt {w w' : World} {s t u v : ByteArray} (h : Tw w s t u v w') : w.heap.size + 1 < w'.heap.size := (Array.getElem?_eq_some_iff.1 h.b1).1
theorem Tw.later {w w' w2 : World} {s t u v : ByteArray} (h : Tw w s t u v w') (hb : Below w'.heap.size w' w2) : Tw w s t u v w2 := by
  have := h.lt
  exact ⟨(hb.block _ (by omega)).trans h.b0, (hb.block _ (by omega)).trans h.b1, h.bel.trans (hb.mono h.bel.size)⟩
theorem Tw.grown {w w' w2 : World} {s t u v : ByteArray} {l : List Rg} {vv : Value} (h : Tw w s t u v w') (ho : Ow (w.heap.size + 2) l vv w') (hg : w'.grownBy w2 vv.ownBlock) : Tw w s t u v w2 := by
  have hl := h.lt
  have hne : ∀ k, k < w.heap.size + 2 → some k ≠ vv.ownBlock := fun k hk e => by have := (World.ownsRow.lt ho k e.symm).1; omega
  refine ⟨(hg.block _ (by omega) (hne _ (by omega))).trans h.b0, (hg.block _ (by omega) (hne _ (by omega))).trans h.b1, h.bel.grown hg h.bel.size fun k e => ?_⟩
  have := (World.ownsRow.lt ho k e).1; omega
theorem Tw.cells {w w' : World} {s t u v : ByteArray} (h : Tw w s t u v w') :
    w'.cell? ⟨w.heap.size, 0, none⟩ = some (.string s) ∧ w'.cell? ⟨w.heap.size, 1, none⟩ = some (.string t) ∧ w'.cell? ⟨w.heap.size + 1, 0, none⟩ = some (.string u) ∧ w'.cell? ⟨w.heap.size + 1, 1, none⟩ = some (.string v) ∧ Tw w s t u v w' :=
  ⟨cell_of_row w' _ 0 _ TR _ h.b0, cell_of_row w' _ 1 _ TR _ h.b0, cell_of_row w' _ 0 _ TR _ h.b1, cell_of_row w' _ 1 _ TR _ h.b1, h⟩
theorem tw_new (w : World) (s t u v : ByteArray) : Tw w s t u v ((w.alloc (.cells #[.string s, .string t] TR)).alloc (.cells #[.string u, .string v] TR)) := by
  refine ⟨?_, ?_, ((Below.refl _ _).alloc (Nat.le_refl _) _).alloc (by simp) _⟩
  · rw [heap_alloc_old _ _ (by simp)]; exact heap_alloc_new _ _
  · have := heap_alloc_new (w.alloc (.cells #[.string s, .string t] TR)) (.cells #[.string u, .string v] TR)
    simpa using this
theorem ends_b (v : Int) (w : World) :
    Calls Try.prog 37 #[.int .i64 v] w fun e w' => ∃ p, e = .returned (.func (.func 53) #[] #[.pointer (some p)]) ∧ w'.cell? p = some (.int .i64 v) ∧ Below w.heap.size w w' := by
  refine (ends_any v w).mono ?_
  rintro e w' ⟨rfl, rfl⟩
  exact ⟨_, rfl, by simp [go_sem], alloc_b _ _⟩
/-- The call gives back a slice of its own that holds l, and an error. -/
def Gives (w : World) (l : List Rg) (c : Int) (e : Ending) (w' : World) : Prop := ∃ v, e = .returned (.tuple #[v, .int .i64 c]) ∧ Ow w.heap.size l v w' ∧ Below w.heap.size w w'

set_option maxHeartbeats 8000000 in
theorem without_00 (a b : Rg) (h : okL [a, b] = 0) (d1 : decide (cmpE (-1) a.f b.f < 0) = false) (d2 : decide (cmpE 1 b.t a.t < 0) = false) (w : World) :
    Calls Try.prog 23 #[.agg #[.string (tx a.f), .string (tx a.t)], .agg #[.string (tx b.f), .string (tx b.t)]] w (Gives w [] 0) := by
  have hx := tw_new w (tx a.f) (tx a.t) (tx b.f) (tx b.t)
  have hA := fun v W hv => all_any v [a, b] W hv (by simp)
  rw [h] at hA
  replace hA := Lib.hid hA
  have hx1 := hx.later (alloc_b _ (.cells #[.string (tx a.f), .string (tx a.t), .string (tx b.f), .string (tx b.t)] TR))
  have hq := heap_alloc_new ((w.alloc (.cells #[.string (tx a.f), .string (tx a.t)] TR)).alloc (.cells #[.string (tx b.f), .string (tx b.t)] TR)) (.cells #[.string (tx a.f), .string (tx a.t), .string (tx b.f), .string (tx b.t)] TR)
  have hRs := Lib.hid (two_rs _ _ a b hq)
  clear hq
  simp only [World.size_alloc] at hRs
  obtain ⟨c0, c1, c2, c3, _⟩ := hx.cells
  have HE : Hid (∀ W, Tw w (tx a.f) (tx a.t) (tx b.f) (tx b.t) W → W.cell? ⟨w.heap.size, 0, none⟩ = some (.string (tx a.f)) ∧ W.cell? ⟨w.heap.size, 1, none⟩ = some (.string (tx a.t)) ∧ W.cell? ⟨w.heap.size + 1, 0, none⟩ = some (.string (tx b.f)) ∧ W.cell? ⟨w.heap.size + 1, 1, none⟩ = some (.string (tx b.t)) ∧ Tw w (tx a.f) (tx a.t) (tx b.f) (tx b.t) W) := fun W h => h.cells
  have hE1 := Lib.hid (fun p W h => end1_any (-1) a.f b.f p W (by decide) (by decide) h)
  have hE2 := Lib.hid (fun p W h => end1_any 1 b.t a.t p W (by decide) (by decide) h)
  have hM := Lib.hid (fun W => earlier_any a.t b.f W)
  have hL := Lib.hid (fun W => later_any a.f b.t W)
  generalize cmpE (-1) a.f b.f = q1 at *
  generalize cmpE 1 b.t a.t = q2 at *
  generalize hs : tx a.f = s at *
  generalize ht : tx a.t = t at *
  generalize hu : tx b.f = u at *
  generalize hv : tx b.t = v at *
  generalize hy : tx (earlierV a.t b.f) = y at *
  generalize hz : tx (laterV a.f b.t) = z at *
  replace hs := Lib.hid hs
  replace ht := Lib.hid ht
  replace hy := Lib.hid hy
  replace hz := Lib.hid hz
  clear hu hv
  go_enter Try.func23, Try.ntmps23
  go_wp2_with (go_at_call 38; refine (hA.out _ _ hRs.out).mono ?_; rintro e w1 ⟨rfl, hb1⟩; have hx2 := hx1.later hb1)
  clear c0 c1 c2 c3 hx hx1 hb1 hRs hA
  have o1 : Ow (w.heap.size + 2) [] (.slice none 0 0) w1 := Ow.nil _ _
  obtain ⟨o1v, ho1v⟩ : ∃ v, v = Value.slice none 0 0 := ⟨_, rfl⟩
  have hx2d := hx2.later (Below.refl _ _).drew
  refine wp_region_held_drew (S := (fun W => W.cell? ⟨w.heap.size, 0, none⟩ = some (.string s) ∧ W.cell? ⟨w.heap.size, 1, none⟩ = some (.string t) ∧ W.cell? ⟨w.heap.size + 1, 0, none⟩ = some (.string u) ∧ W.cell? ⟨w.heap.size + 1, 1, none⟩ = some (.string v) ∧ Tw w s t u v W)) (by kernel_rfl) (HE.out _ hx2d) (fun hS => ?_)
  try simp only [Act.put, List.setIfInBounds_toArray, List.set_cons_zero, List.set_cons_succ]
  generalize hwd : w1.drew = w1d at *
  clear hwd
  refine wpAnyH_take (i := 1) (v := .pointer (some ⟨w.heap.size, 0, none⟩)) rfl (by kernel_rfl) (by kernel_rfl) (by kernel_rfl) (fun _ _ _ h => h) (Or.inl ⟨by kernel_rfl, by intro w' hSw; obtain ⟨s0, s1, s2, s3, s4⟩ := hSw; go_simp⟩) hS ?_
  try simp only [Act.put, List.setIfInBounds_toArray, List.set_cons_zero, List.set_cons_succ]
  refine wpAnyH_take (i := 2) (v := .string s) rfl (by kernel_rfl) (by kernel_rfl) (by kernel_rfl) (fun _ _ _ h => h) (Or.inl ⟨by kernel_rfl, by intro w' hSw; obtain ⟨s0, s1, s2, s3, s4⟩ := hSw; go_simp⟩) hS ?_
  try simp only [Act.put, List.setIfInBounds_toArray, List.set_cons_zero, List.set_cons_succ]
  refine wpAnyH_take (i := 3) (v := .pointer (some ⟨w.heap.size + 1, 0, none⟩)) rfl (by kernel_rfl) (by kernel_rfl) (by kernel_rfl) (fun _ _ _ h => h) (Or.inl ⟨by kernel_rfl, by intro w' hSw; obtain ⟨s0, s1, s2, s3, s4⟩ := hSw; go_simp⟩) hS ?_
  try simp only [Act.put, List.setIfInBounds_toArray, List.set_cons_zero, List.set_cons_succ]
  refine wpAnyH_take (i := 4) (v := .string u) rfl (by kernel_rfl) (by kernel_rfl) (by kernel_rfl) (fun _ _ _ h => h) (Or.inl ⟨by kernel_rfl, by intro w' hSw; obtain ⟨s0, s1, s2, s3, s4⟩ := hSw; go_simp⟩) hS ?_
  try simp only [Act.put, List.setIfInBounds_toArray, List.set_cons_zero, List.set_cons_succ]
  refine wpAnyH_ready (rs := [0]) (by kernel_rfl) (by simp) ?_
  refine AllReadyH.cons rfl (fun K hK => ?_) AllReadyH.nil
  go_simp
  go_at_call 37
  refine (ends_b _ _).mono ?_
  rintro e w2 ⟨p2, rfl, hp2, hb2⟩
  have h2 := hx2d.later hb2
  refine hK.out _ _ (HE.out _ h2) (fun hS => ?_)
  clear hK K
  try simp only [Act.put, List.setIfInBounds_toArray, List.set_cons_zero, List.set_cons_succ]
  refine wpAnyH_ready (rs := [5]) (by kernel_rfl) (by simp) ?_
  refine AllReadyH.cons rfl (fun K hK => ?_) AllReadyH.nil
  go_simp
  go_at_call 53
  refine (hE1.out _ _ hp2).mono ?_
  rintro e w' ⟨rfl, rfl⟩
  refine hK.out _ _ (HE.out _ h2) (fun hS => ?_)
  clear hK K
  try simp only [Act.put, List.setIfInBounds_toArray, List.set_cons_zero, List.set_cons_succ]
  refine wpAnyH_ready (rs := [6]) (by kernel_rfl) (by simp) ?_
  refine AllReadyH.cons rfl (fun K hK => ?_) AllReadyH.nil
  go_simp
  refine hK.out _ _ hS (fun hS => ?_)
  clear hK K
  try simp only [Act.put, List.setIfInBounds_toArray, List.set_cons_zero, List.set_cons_succ]
  refine wpAnyH_done (by kernel_rfl) ?_ _
  clear hS
  clear hp2
  have oA : Ow (w.heap.size + 2) [] (.slice none 0 0) w2 := Ow.nil _ _
  clear o1 ho1v o1v
  go_wp2
  have h2d := h2.later (Below.refl _ _).drew
  refine wp_region_held_drew (S := (fun W => W.cell? ⟨w.heap.size, 0, none⟩ = some (.string s) ∧ W.cell? ⟨w.heap.size, 1, none⟩ = some (.string t) ∧ W.cell? ⟨w.heap.size + 1, 0, none⟩ = some (.string u) ∧ W.cell? ⟨w.heap.size + 1, 1, none⟩ = some (.string v) ∧ Tw w s t u v W)) (by kernel_rfl) (HE.out _ h2d) (fun hS => ?_)
  try simp only [Act.put, List.setIfInBounds_toArray, List.set_cons_zero, List.set_cons_succ]
  generalize hwd : w2.drew = w2d at *
  clear hwd
  refine wpAnyH_take (i := 1) (v := .pointer (some ⟨w.heap.size + 1, 1, none⟩)) rfl (by kernel_rfl) (by kernel_rfl) (by kernel_rfl) (fun _ _ _ h => h) (Or.inl ⟨by kernel_rfl, by intro w' hSw; obtain ⟨s0, s1, s2, s3, s4⟩ := hSw; go_simp⟩) hS ?_
  try simp only [Act.put, List.setIfInBounds_toArray, List.set_cons_zero, List.set_cons_succ]
  refine wpAnyH_take (i := 2) (v := .string v) rfl (by kernel_rfl) (by kernel_rfl) (by kernel_rfl) (fun _ _ _ h => h) (Or.inl ⟨by kernel_rfl, by intro w' hSw; obtain ⟨s0, s1, s2, s3, s4⟩ := hSw; go_simp⟩) hS ?_
  try simp only [Act.put, List.setIfInBounds_toArray, List.set_cons_zero, List.set_cons_succ]
  refine wpAnyH_take (i := 3) (v := .pointer (some ⟨w.heap.size, 1, none⟩)) rfl (by kernel_rfl) (by kernel_rfl) (by kernel_rfl) (fun _ _ _ h => h) (Or.inl ⟨by kernel_rfl, by intro w' hSw; obtain ⟨s0, s1, s2, s3, s4⟩ := hSw; go_simp⟩) hS ?_
  try simp only [Act.put, List.setIfInBounds_toArray, List.set_cons_zero, List.set_cons_succ]
  refine wpAnyH_take (i := 4) (v := .string t) rfl (by kernel_rfl) (by kernel_rfl) (by kernel_rfl) (fun _ _ _ h => h) (Or.inl ⟨by kernel_rfl, by intro w' hSw; obtain ⟨s0, s1, s2, s3, s4⟩ := hSw; go_simp⟩) hS ?_
  try simp only [Act.put, List.setIfInBounds_toArray, List.set_cons_zero, List.set_cons_succ]
  refine wpAnyH_ready (rs := [0]) (by kernel_rfl) (by simp) ?_
  refine AllReadyH.cons rfl (fun K hK => ?_) AllReadyH.nil
  go_simp
  go_at_call 37
  refine (ends_b _ _).mono ?_
  rintro e w4 ⟨p4, rfl, hp4, hb4⟩
  have h4 := h2d.later hb4
  refine hK.out _ _ (HE.out _ h4) (fun hS => ?_)
  clear hK K
  try simp only [Act.put, List.setIfInBounds_toArray, List.set_cons_zero, List.set_cons_succ]
  refine wpAnyH_ready (rs := [5]) (by kernel_rfl) (by simp) ?_
  refine AllReadyH.cons rfl (fun K hK => ?_) AllReadyH.nil
  go_simp
  go_at_call 53
  refine (hE2.out _ _ hp4).mono ?_
  rintro e w' ⟨rfl, rfl⟩
  refine hK.out _ _ (HE.out _ h4) (fun hS => ?_)
  clear hK K
  try simp only [Act.put, List.setIfInBounds_toArray, List.set_cons_zero, List.set_cons_succ]
  refine wpAnyH_ready (rs := [6]) (by kernel_rfl) (by simp) ?_
  refine AllReadyH.cons rfl (fun K hK => ?_) AllReadyH.nil
  go_simp
  refine hK.out _ _ hS (fun hS => ?_)
  clear hK K
  try simp only [Act.put, List.setIfInBounds_toArray, List.set_cons_zero, List.set_cons_succ]
  refine wpAnyH_done (by kernel_rfl) ?_ _
  clear hS
  clear hp4
  have oB : Ow (w.heap.size + 2) ([] : List Rg) (.slice none 0 0) w4 := Ow.nil _ _
  go_wp2
  go_ret2
  exact ⟨_, rfl, Ow.base (base := w.heap.size + 2) oB (by omega), h4.bel⟩
set_option maxHeartbeats 8000000 in
theorem without_10 (a b : Rg) (h : okL [a, b] = 0) (d1 : decide (cmpE (-1) a.f b.f < 0) = true) (d2 : decide (cmpE 1 b.t a.t < 0) = false) (w : World) :
    Calls Try.prog 23 #[.agg #[.string (tx a.f), .string (tx a.t)], .agg #[.string (tx b.f), .string (tx b.t)]] w (Gives w [⟨a.f, earlierV a.t b.f⟩] 0) := by
  have hx := tw_new w (tx a.f) (tx a.t) (tx b.f) (tx b.t)
  have hA := fun v W hv => all_any v [a, b] W hv (by simp)
  rw [h] at hA
  replace hA := Lib.hid hA
  have hx1 := hx.later (alloc_b _ (.cells #[.string (tx a.f), .string (tx a.t), .string (tx b.f), .string (tx b.t)] TR))
  have hq := heap_alloc_new ((w.alloc (.cells #[.string (tx a.f), .string (tx a.t)] TR)).alloc (.cells #[.string (tx b.f), .string (tx b.t)] TR)) (.cells #[.string (tx a.f), .string (tx a.t), .string (tx b.f), .string (tx b.t)] TR)
  have hRs := Lib.hid (two_rs _ _ a b hq)
  clear hq
  simp only [World.size_alloc] at hRs
  obtain ⟨c0, c1, c2, c3, _⟩ := hx.cells
  have HE : Hid (∀ W, Tw w (tx a.f) (tx a.t) (tx b.f) (tx b.t) W → W.cell? ⟨w.heap.size, 0, none⟩ = some (.string (tx a.f)) ∧ W.cell? ⟨w.heap.size, 1, none⟩ = some (.string (tx a.t)) ∧ W.cell? ⟨w.heap.size + 1, 0, none⟩ = some (.string (tx b.f)) ∧ W.cell? ⟨w.heap.size + 1, 1, none⟩ = some (.string (tx b.t)) ∧ Tw w (tx a.f) (tx a.t) (tx b.f) (tx b.t) W) := fun W h => h.cells
  have hE1 := Lib.hid (fun p W h => end1_any (-1) a.f b.f p W (by decide) (by decide) h)
  have hE2 := Lib.hid (fun p W h => end1_any 1 b.t a.t p W (by decide) (by decide) h)
  have hM := Lib.hid (fun W => earlier_any a.t b.f W)
  have hL := Lib.hid (fun W => later_any a.f b.t W)
  generalize cmpE (-1) a.f b.f = q1 at *
  generalize cmpE 1 b.t a.t = q2 at *
  generalize hs : tx a.f = s at *
  generalize ht : tx a.t = t at *
  generalize hu : tx b.f = u at *
  generalize hv : tx b.t = v at *
  generalize hy : tx (earlierV a.t b.f) = y at *
  generalize hz : tx (laterV a.f b.t) = z at *
  replace hs := Lib.hid hs
  replace ht := Lib.hid ht
  replace hy := Lib.hid hy
  replace hz := Lib.hid hz
  clear hu hv
  go_enter Try.func23, Try.ntmps23
  go_wp2_with (go_at_call 38; refine (hA.out _ _ hRs.out).mono ?_; rintro e w1 ⟨rfl, hb1⟩; have hx2 := hx1.later hb1)
  clear c0 c1 c2 c3 hx hx1 hb1 hRs hA
  have o1 : Ow (w.heap.size + 2) [] (.slice none 0 0) w1 := Ow.nil _ _
  obtain ⟨o1v, ho1v⟩ : ∃ v, v = Value.slice none 0 0 := ⟨_, rfl⟩
  have hx2d := hx2.later (Below.refl _ _).drew
  refine wp_region_held_drew (S := (fun W => W.cell? ⟨w.heap.size, 0, none⟩ = some (.string s) ∧ W.cell? ⟨w.heap.size, 1, none⟩ = some (.string t) ∧ W.cell? ⟨w.heap.size + 1, 0, none⟩ = some (.string u) ∧ W.cell? ⟨w.heap.size + 1, 1, none⟩ = some (.string v) ∧ Tw w s t u v W)) (by kernel_rfl) (HE.out _ hx2d) (fun hS => ?_)
  try simp only [Act.put, List.setIfInBounds_toArray, List.set_cons_zero, List.set_cons_succ]
  generalize hwd : w1.drew = w1d at *
  clear hwd
  refine wpAnyH_take (i := 1) (v := .pointer (some ⟨w.heap.size, 0, none⟩)) rfl (by kernel_rfl) (by kernel_rfl) (by kernel_rfl) (fun _ _ _ h => h) (Or.inl ⟨by kernel_rfl, by intro w' hSw; obtain ⟨s0, s1, s2, s3, s4⟩ := hSw; go_simp⟩) hS ?_
  try simp only [Act.put, List.setIfInBounds_toArray, List.set_cons_zero, List.set_cons_succ]
  refine wpAnyH_take (i := 2) (v := .string s) rfl (by kernel_rfl) (by kernel_rfl) (by kernel_rfl) (fun _ _ _ h => h) (Or.inl ⟨by kernel_rfl, by intro w' hSw; obtain ⟨s0, s1, s2, s3, s4⟩ := hSw; go_simp⟩) hS ?_
  try simp only [Act.put, List.setIfInBounds_toArray, List.set_cons_zero, List.set_cons_succ]
  refine wpAnyH_take (i := 3) (v := .pointer (some ⟨w.heap.size + 1, 0, none⟩)) rfl (by kernel_rfl) (by kernel_rfl) (by kernel_rfl) (fun _ _ _ h => h) (Or.inl ⟨by kernel_rfl, by intro w' hSw; obtain ⟨s0, s1, s2, s3, s4⟩ := hSw; go_simp⟩) hS ?_
  try simp only [Act.put, List.setIfInBounds_toArray, List.set_cons_zero, List.set_cons_succ]
  refine wpAnyH_take (i := 4) (v := .string u) rfl (by kernel_rfl) (by kernel_rfl) (by kernel_rfl) (fun _ _ _ h => h) (Or.inl ⟨by kernel_rfl, by intro w' hSw; obtain ⟨s0, s1, s2, s3, s4⟩ := hSw; go_simp⟩) hS ?_
  try simp only [Act.put, List.setIfInBounds_toArray, List.set_cons_zero, List.set_cons_succ]
  refine wpAnyH_ready (rs := [0]) (by kernel_rfl) (by simp) ?_
  refine AllReadyH.cons rfl (fun K hK => ?_) AllReadyH.nil
  go_simp
  go_at_call 37
  refine (ends_b _ _).mono ?_
  rintro e w2 ⟨p2, rfl, hp2, hb2⟩
  have h2 := hx2d.later hb2
  refine hK.out _ _ (HE.out _ h2) (fun hS => ?_)
  clear hK K
  try simp only [Act.put, List.setIfInBounds_toArray, List.set_cons_zero, List.set_cons_succ]
  refine wpAnyH_ready (rs := [5]) (by kernel_rfl) (by simp) ?_
  refine AllReadyH.cons rfl (fun K hK => ?_) AllReadyH.nil
  go_simp
  go_at_call 53
  refine (hE1.out _ _ hp2).mono ?_
  rintro e w' ⟨rfl, rfl⟩
  refine hK.out _ _ (HE.out _ h2) (fun hS => ?_)
  clear hK K
  try simp only [Act.put, List.setIfInBounds_toArray, List.set_cons_zero, List.set_cons_succ]
  refine wpAnyH_ready (rs := [6]) (by kernel_rfl) (by simp) ?_
  refine AllReadyH.cons rfl (fun K hK => ?_) AllReadyH.nil
  go_simp
  refine hK.out _ _ hS (fun hS => ?_)
  clear hK K
  try simp only [Act.put, List.setIfInBounds_toArray, List.set_cons_zero, List.set_cons_succ]
  refine wpAnyH_done (by kernel_rfl) ?_ _
  clear hS
  clear hp2
  have oA : Ow (w.heap.size + 2) [] (.slice none 0 0) w2 := Ow.nil _ _
  clear o1 ho1v o1v
  go_wp2
  have h2d := h2.later (Below.refl _ _).drew
  have oAd := Ow.later oA (Below.refl _ _).drew
  refine wp_region_held_drew (S := (fun W => W.cell? ⟨w.heap.size, 0, none⟩ = some (.string s) ∧ W.cell? ⟨w.heap.size, 1, none⟩ = some (.string t) ∧ W.cell? ⟨w.heap.size + 1, 0, none⟩ = some (.string u) ∧ W.cell? ⟨w.heap.size + 1, 1, none⟩ = some (.string v) ∧ Tw w s t u v W)) (by kernel_rfl) (HE.out _ h2d) (fun hS => ?_)
  try simp only [Act.put, List.setIfInBounds_toArray, List.set_cons_zero, List.set_cons_succ]
  generalize hwd : w2.drew = w2d at *
  clear hwd
  refine wpAnyH_take (i := 0) (v := .slice none 0 0) rfl (by kernel_rfl) (by kernel_rfl) (by kernel_rfl) (fun _ _ _ h => h) (Or.inl ⟨by kernel_rfl, by intro w' hSw; obtain ⟨s0, s1, s2, s3, s4⟩ := hSw; go_simp⟩) hS ?_
  try simp only [Act.put, List.setIfInBounds_toArray, List.set_cons_zero, List.set_cons_succ]
  refine wpAnyH_take (i := 1) (v := .pointer (some ⟨w.heap.size, 0, none⟩)) rfl (by kernel_rfl) (by kernel_rfl) (by kernel_rfl) (fun _ _ _ h => h) (Or.inl ⟨by kernel_rfl, by intro w' hSw; obtain ⟨s0, s1, s2, s3, s4⟩ := hSw; go_simp⟩) hS ?_
  try simp only [Act.put, List.setIfInBounds_toArray, List.set_cons_zero, List.set_cons_succ]
  refine wpAnyH_take (i := 2) (v := .string s) rfl (by kernel_rfl) (by kernel_rfl) (by kernel_rfl) (fun _ _ _ h => h) (Or.inl ⟨by kernel_rfl, by intro w' hSw; obtain ⟨s0, s1, s2, s3, s4⟩ := hSw; go_simp⟩) hS ?_
  try simp only [Act.put, List.setIfInBounds_toArray, List.set_cons_zero, List.set_cons_succ]
  refine wpAnyH_take (i := 3) (v := .pointer (some ⟨w.heap.size, 1, none⟩)) rfl (by kernel_rfl) (by kernel_rfl) (by kernel_rfl) (fun _ _ _ h => h) (Or.inl ⟨by kernel_rfl, by intro w' hSw; obtain ⟨s0, s1, s2, s3, s4⟩ := hSw; go_simp⟩) hS ?_
  try simp only [Act.put, List.setIfInBounds_toArray, List.set_cons_zero, List.set_cons_succ]
  refine wpAnyH_take (i := 4) (v := .string t) rfl (by kernel_rfl) (by kernel_rfl) (by kernel_rfl) (fun _ _ _ h => h) (Or.inl ⟨by kernel_rfl, by intro w' hSw; obtain ⟨s0, s1, s2, s3, s4⟩ := hSw; go_simp⟩) hS ?_
  try simp only [Act.put, List.setIfInBounds_toArray, List.set_cons_zero, List.set_cons_succ]
  refine wpAnyH_take (i := 5) (v := .pointer (some ⟨w.heap.size + 1, 0, none⟩)) rfl (by kernel_rfl) (by kernel_rfl) (by kernel_rfl) (fun _ _ _ h => h) (Or.inl ⟨by kernel_rfl, by intro w' hSw; obtain ⟨s0, s1, s2, s3, s4⟩ := hSw; go_simp⟩) hS ?_
  try simp only [Act.put, List.setIfInBounds_toArray, List.set_cons_zero, List.set_cons_succ]
  refine wpAnyH_take (i := 6) (v := .string u) rfl (by kernel_rfl) (by kernel_rfl) (by kernel_rfl) (fun _ _ _ h => h) (Or.inl ⟨by kernel_rfl, by intro w' hSw; obtain ⟨s0, s1, s2, s3, s4⟩ := hSw; go_simp⟩) hS ?_
  try simp only [Act.put, List.setIfInBounds_toArray, List.set_cons_zero, List.set_cons_succ]
  refine wpAnyH_ready (rs := [7]) (by kernel_rfl) (by simp) ?_
  refine AllReadyH.cons rfl (fun K hK => ?_) AllReadyH.nil
  go_simp
  go_at_call 40
  refine (hM.out _).mono ?_
  rintro e w3 ⟨rfl, hb3⟩
  have h3 := h2d.later hb3
  have o3 := Ow.later oAd hb3
  refine hK.out _ _ (HE.out _ h3) (fun hS => ?_)
  clear hK K
  try simp only [Act.put, List.setIfInBounds_toArray, List.set_cons_zero, List.set_cons_succ]
  refine wpAnyH_take (i := 8) (v := .agg #[.string s, .string y]) rfl (by kernel_rfl) (by kernel_rfl) (by kernel_rfl) (fun _ _ _ h => h) (Or.inl ⟨by kernel_rfl, by intro w' hSw; obtain ⟨s0, s1, s2, s3, s4⟩ := hSw; go_simp⟩) hS ?_
  try simp only [Act.put, List.setIfInBounds_toArray, List.set_cons_zero, List.set_cons_succ]
  refine wpAnyH_ready (rs := [9]) (by kernel_rfl) (by simp) ?_
  refine AllReadyH.cons rfl (fun K hK => ?_) AllReadyH.nil
  go_simp
  have h3b := h3.later (alloc_b _ (.cells #[.string s, .string y] TR))
  have o3b := Ow.later o3 (alloc_b _ (.cells #[.string s, .string y] TR))
  have k3 := (show B2 _ _ _ _ from B2.new w3 s y).cells
  generalize hwq : w3.alloc (.cells #[.string s, .string y] TR) = w3b at *
  generalize hBq : w3.heap.size = B3 at *
  clear hwq hBq
  refine hK.out _ _ (HE.out _ h3b) (fun hS => ?_)
  clear hK K
  try simp only [Act.put, List.setIfInBounds_toArray, List.set_cons_zero, List.set_cons_succ]
  refine wpAnyH_ready (rs := [10]) (by kernel_rfl) (by simp) ?_
  refine AllReadyH.cons rfl (fun K hK => ?_) AllReadyH.nil
  refine step_append_rg rfl _ _ rfl (w.heap.size + 2) (.slice none 0 0) ([] : List Rg) rfl o3b B3 1 ⟨a.f, earlierV a.t b.f⟩ rfl (by show _ = some (Value.string (tx a.f)); rw [hs.out]; exact k3.1) (by show _ = some (Value.string (tx (earlierV a.t b.f))); rw [hy.out]; exact k3.2.1) (by simp) (by have := h3b.lt; omega) ?_
  intro v3 w3c o3c hg3
  have h3c := Tw.grown h3b o3b hg3
  refine hK.out _ _ (HE.out _ h3c) (fun hS => ?_)
  clear hK K
  try simp only [Act.put, List.setIfInBounds_toArray, List.set_cons_zero, List.set_cons_succ]
  refine wpAnyH_ready (rs := [11]) (by kernel_rfl) (by simp) ?_
  refine AllReadyH.cons rfl (fun K hK => ?_) AllReadyH.nil
  go_simp
  refine hK.out _ _ hS (fun hS => ?_)
  clear hK K
  try simp only [Act.put, List.setIfInBounds_toArray, List.set_cons_zero, List.set_cons_succ]
  refine wpAnyH_done (by kernel_rfl) ?_ _
  clear hS
  go_wp2
  have o3cd := Ow.later o3c (Below.refl _ _).drew
  have h3cd := h3c.later (Below.refl _ _).drew
  refine wp_region_held_drew (S := (fun W => W.cell? ⟨w.heap.size, 0, none⟩ = some (.string s) ∧ W.cell? ⟨w.heap.size, 1, none⟩ = some (.string t) ∧ W.cell? ⟨w.heap.size + 1, 0, none⟩ = some (.string u) ∧ W.cell? ⟨w.heap.size + 1, 1, none⟩ = some (.string v) ∧ Tw w s t u v W)) (by kernel_rfl) (HE.out _ h3cd) (fun hS => ?_)
  try simp only [Act.put, List.setIfInBounds_toArray, List.set_cons_zero, List.set_cons_succ]
  generalize hwd : w3c.drew = w3cd at *
  clear hwd
  refine wpAnyH_take (i := 1) (v := .pointer (some ⟨w.heap.size + 1, 1, none⟩)) rfl (by kernel_rfl) (by kernel_rfl) (by kernel_rfl) (fun _ _ _ h => h) (Or.inl ⟨by kernel_rfl, by intro w' hSw; obtain ⟨s0, s1, s2, s3, s4⟩ := hSw; go_simp⟩) hS ?_
  try simp only [Act.put, List.setIfInBounds_toArray, List.set_cons_zero, List.set_cons_succ]
  refine wpAnyH_take (i := 2) (v := .string v) rfl (by kernel_rfl) (by kernel_rfl) (by kernel_rfl) (fun _ _ _ h => h) (Or.inl ⟨by kernel_rfl, by intro w' hSw; obtain ⟨s0, s1, s2, s3, s4⟩ := hSw; go_simp⟩) hS ?_
  try simp only [Act.put, List.setIfInBounds_toArray, List.set_cons_zero, List.set_cons_succ]
  refine wpAnyH_take (i := 3) (v := .pointer (some ⟨w.heap.size, 1, none⟩)) rfl (by kernel_rfl) (by kernel_rfl) (by kernel_rfl) (fun _ _ _ h => h) (Or.inl ⟨by kernel_rfl, by intro w' hSw; obtain ⟨s0, s1, s2, s3, s4⟩ := hSw; go_simp⟩) hS ?_
  try simp only [Act.put, List.setIfInBounds_toArray, List.set_cons_zero, List.set_cons_succ]
  refine wpAnyH_take (i := 4) (v := .string t) rfl (by kernel_rfl) (by kernel_rfl) (by kernel_rfl) (fun _ _ _ h => h) (Or.inl ⟨by kernel_rfl, by intro w' hSw; obtain ⟨s0, s1, s2, s3, s4⟩ := hSw; go_simp⟩) hS ?_
  try simp only [Act.put, List.setIfInBounds_toArray, List.set_cons_zero, List.set_cons_succ]
  refine wpAnyH_ready (rs := [0]) (by kernel_rfl) (by simp) ?_
  refine AllReadyH.cons rfl (fun K hK => ?_) AllReadyH.nil
  go_simp
  go_at_call 37
  refine (ends_b _ _).mono ?_
  rintro e w4 ⟨p4, rfl, hp4, hb4⟩
  have h4 := h3cd.later hb4
  refine hK.out _ _ (HE.out _ h4) (fun hS => ?_)
  clear hK K
  try simp only [Act.put, List.setIfInBounds_toArray, List.set_cons_zero, List.set_cons_succ]
  refine wpAnyH_ready (rs := [5]) (by kernel_rfl) (by simp) ?_
  refine AllReadyH.cons rfl (fun K hK => ?_) AllReadyH.nil
  go_simp
  go_at_call 53
  refine (hE2.out _ _ hp4).mono ?_
  rintro e w' ⟨rfl, rfl⟩
  refine hK.out _ _ (HE.out _ h4) (fun hS => ?_)
  clear hK K
  try simp only [Act.put, List.setIfInBounds_toArray, List.set_cons_zero, List.set_cons_succ]
  refine wpAnyH_ready (rs := [6]) (by kernel_rfl) (by simp) ?_
  refine AllReadyH.cons rfl (fun K hK => ?_) AllReadyH.nil
  go_simp
  refine hK.out _ _ hS (fun hS => ?_)
  clear hK K
  try simp only [Act.put, List.setIfInBounds_toArray, List.set_cons_zero, List.set_cons_succ]
  refine wpAnyH_done (by kernel_rfl) ?_ _
  clear hS
  clear hp4
  have oB : Ow (w.heap.size + 2) [⟨a.f, earlierV a.t b.f⟩] (v3) w4 := Ow.later o3cd hb4
  go_wp2
  go_ret2
  exact ⟨_, rfl, Ow.base (base := w.heap.size + 2) oB (by omega), h4.bel⟩
set_option maxHeartbeats 8000000 in
theorem without_01 (a b : Rg) (h : okL [a, b] = 0) (d1 : decide (cmpE (-1) a.f b.f < 0) = false) (d2 : decide (cmpE 1 b.t a.t < 0) = true) (w : World) :
    Calls Try.prog 23 #[.agg #[.string (tx a.f), .string (tx a.t)], .agg #[.string (tx b.f), .string (tx b.t)]] w (Gives w [⟨laterV a.f b.t, a.t⟩] 0) := by
  have hx := tw_new w (tx a.f) (tx a.t) (tx b.f) (tx b.t)
  have hA := fun v W hv => all_any v [a, b] W hv (by simp)
  rw [h] at hA
  replace hA := Lib.hid hA
  have hx1 := hx.later (alloc_b _ (.cells #[.string (tx a.f), .string (tx a.t), .string (tx b.f), .string (tx b.t)] TR))
  have hq := heap_alloc_new ((w.alloc (.cells #[.string (tx a.f), .string (tx a.t)] TR)).alloc (.cells #[.string (tx b.f), .string (tx b.t)] TR)) (.cells #[.string (tx a.f), .string (tx a.t), .string (tx b.f), .string (tx b.t)] TR)
  have hRs := Lib.hid (two_rs _ _ a b hq)
  clear hq
  simp only [World.size_alloc] at hRs
  obtain ⟨c0, c1, c2, c3, _⟩ := hx.cells
  have HE : Hid (∀ W, Tw w (tx a.f) (tx a.t) (tx b.f) (tx b.t) W → W.cell? ⟨w.heap.size, 0, none⟩ = some (.string (tx a.f)) ∧ W.cell? ⟨w.heap.size, 1, none⟩ = some (.string (tx a.t)) ∧ W.cell? ⟨w.heap.size + 1, 0, none⟩ = some (.string (tx b.f)) ∧ W.cell? ⟨w.heap.size + 1, 1, none⟩ = some (.string (tx b.t)) ∧ Tw w (tx a.f) (tx a.t) (tx b.f) (tx b.t) W) := fun W h => h.cells
  have hE1 := Lib.hid (fun p W h => end1_any (-1) a.f b.f p W (by decide) (by decide) h)
  have hE2 := Lib.hid (fun p W h => end1_any 1 b.t a.t p W (by decide) (by decide) h)
  have hM := Lib.hid (fun W => earlier_any a.t b.f W)
  have hL := Lib.hid (fun W => later_any a.f b.t W)
  generalize cmpE (-1) a.f b.f = q1 at *
  generalize cmpE 1 b.t a.t = q2 at *
  generalize hs : tx a.f = s at *
  generalize ht : tx a.t = t at *
  generalize hu : tx b.f = u at *
  generalize hv : tx b.t = v at *
  generalize hy : tx (earlierV a.t b.f) = y at *
  generalize hz : tx (laterV a.f b.t) = z at *
  replace hs := Lib.hid hs
  replace ht := Lib.hid ht
  replace hy := Lib.hid hy
  replace hz := Lib.hid hz
  clear hu hv
  go_enter Try.func23, Try.ntmps23
  go_wp2_with (go_at_call 38; refine (hA.out _ _ hRs.out).mono ?_; rintro e w1 ⟨rfl, hb1⟩; have hx2 := hx1.later hb1)
  clear c0 c1 c2 c3 hx hx1 hb1 hRs hA
  have o1 : Ow (w.heap.size + 2) [] (.slice none 0 0) w1 := Ow.nil _ _
  obtain ⟨o1v, ho1v⟩ : ∃ v, v = Value.slice none 0 0 := ⟨_, rfl⟩
  have hx2d := hx2.later (Below.refl _ _).drew
  refine wp_region_held_drew (S := (fun W => W.cell? ⟨w.heap.size, 0, none⟩ = some (.string s) ∧ W.cell? ⟨w.heap.size, 1, none⟩ = some (.string t) ∧ W.cell? ⟨w.heap.size + 1, 0, none⟩ = some (.string u) ∧ W.cell? ⟨w.heap.size + 1, 1, none⟩ = some (.string v) ∧ Tw w s t u v W)) (by kernel_rfl) (HE.out _ hx2d) (fun hS => ?_)
  try simp only [Act.put, List.setIfInBounds_toArray, List.set_cons_zero, List.set_cons_succ]
  generalize hwd : w1.drew = w1d at *
  clear hwd
  refine wpAnyH_take (i := 1) (v := .pointer (some ⟨w.heap.size, 0, none⟩)) rfl (by kernel_rfl) (by kernel_rfl) (by kernel_rfl) (fun _ _ _ h => h) (Or.inl ⟨by kernel_rfl, by intro w' hSw; obtain ⟨s0, s1, s2, s3, s4⟩ := hSw; go_simp⟩) hS ?_
  try simp only [Act.put, List.setIfInBounds_toArray, List.set_cons_zero, List.set_cons_succ]
  refine wpAnyH_take (i := 2) (v := .string s) rfl (by kernel_rfl) (by kernel_rfl) (by kernel_rfl) (fun _ _ _ h => h) (Or.inl ⟨by kernel_rfl, by intro w' hSw; obtain ⟨s0, s1, s2, s3, s4⟩ := hSw; go_simp⟩) hS ?_
  try simp only [Act.put, List.setIfInBounds_toArray, List.set_cons_zero, List.set_cons_succ]
  refine wpAnyH_take (i := 3) (v := .pointer (some ⟨w.heap.size + 1, 0, none⟩)) rfl (by kernel_rfl) (by kernel_rfl) (by kernel_rfl) (fun _ _ _ h => h) (Or.inl ⟨by kernel_rfl, by intro w' hSw; obtain ⟨s0, s1, s2, s3, s4⟩ := hSw; go_simp⟩) hS ?_
  try simp only [Act.put, List.setIfInBounds_toArray, List.set_cons_zero, List.set_cons_succ]
  refine wpAnyH_take (i := 4) (v := .string u) rfl (by kernel_rfl) (by kernel_rfl) (by kernel_rfl) (fun _ _ _ h => h) (Or.inl ⟨by kernel_rfl, by intro w' hSw; obtain ⟨s0, s1, s2, s3, s4⟩ := hSw; go_simp⟩) hS ?_
  try simp only [Act.put, List.setIfInBounds_toArray, List.set_cons_zero, List.set_cons_succ]
  refine wpAnyH_ready (rs := [0]) (by kernel_rfl) (by simp) ?_
  refine AllReadyH.cons rfl (fun K hK => ?_) AllReadyH.nil
  go_simp
  go_at_call 37
  refine (ends_b _ _).mono ?_
  rintro e w2 ⟨p2, rfl, hp2, hb2⟩
  have h2 := hx2d.later hb2
  refine hK.out _ _ (HE.out _ h2) (fun hS => ?_)
  clear hK K
  try simp only [Act.put, List.setIfInBounds_toArray, List.set_cons_zero, List.set_cons_succ]
  refine wpAnyH_ready (rs := [5]) (by kernel_rfl) (by simp) ?_
  refine AllReadyH.cons rfl (fun K hK => ?_) AllReadyH.nil
  go_simp
  go_at_call 53
  refine (hE1.out _ _ hp2).mono ?_
  rintro e w' ⟨rfl, rfl⟩
  refine hK.out _ _ (HE.out _ h2) (fun hS => ?_)
  clear hK K
  try simp only [Act.put, List.setIfInBounds_toArray, List.set_cons_zero, List.set_cons_succ]
  refine wpAnyH_ready (rs := [6]) (by kernel_rfl) (by simp) ?_
  refine AllReadyH.cons rfl (fun K hK => ?_) AllReadyH.nil
  go_simp
  refine hK.out _ _ hS (fun hS => ?_)
  clear hK K
  try simp only [Act.put, List.setIfInBounds_toArray, List.set_cons_zero, List.set_cons_succ]
  refine wpAnyH_done (by kernel_rfl) ?_ _
  clear hS
  clear hp2
  have oA : Ow (w.heap.size + 2) [] (.slice none 0 0) w2 := Ow.nil _ _
  clear o1 ho1v o1v
  go_wp2
  have h2d := h2.later (Below.refl _ _).drew
  refine wp_region_held_drew (S := (fun W => W.cell? ⟨w.heap.size, 0, none⟩ = some (.string s) ∧ W.cell? ⟨w.heap.size, 1, none⟩ = some (.string t) ∧ W.cell? ⟨w.heap.size + 1, 0, none⟩ = some (.string u) ∧ W.cell? ⟨w.heap.size + 1, 1, none⟩ = some (.string v) ∧ Tw w s t u v W)) (by kernel_rfl) (HE.out _ h2d) (fun hS => ?_)
  try simp only [Act.put, List.setIfInBounds_toArray, List.set_cons_zero, List.set_cons_succ]
  generalize hwd : w2.drew = w2d at *
  clear hwd
  refine wpAnyH_take (i := 1) (v := .pointer (some ⟨w.heap.size + 1, 1, none⟩)) rfl (by kernel_rfl) (by kernel_rfl) (by kernel_rfl) (fun _ _ _ h => h) (Or.inl ⟨by kernel_rfl, by intro w' hSw; obtain ⟨s0, s1, s2, s3, s4⟩ := hSw; go_simp⟩) hS ?_
  try simp only [Act.put, List.setIfInBounds_toArray, List.set_cons_zero, List.set_cons_succ]
  refine wpAnyH_take (i := 2) (v := .string v) rfl (by kernel_rfl) (by kernel_rfl) (by kernel_rfl) (fun _ _ _ h => h) (Or.inl ⟨by kernel_rfl, by intro w' hSw; obtain ⟨s0, s1, s2, s3, s4⟩ := hSw; go_simp⟩) hS ?_
  try simp only [Act.put, List.setIfInBounds_toArray, List.set_cons_zero, List.set_cons_succ]
  refine wpAnyH_take (i := 3) (v := .pointer (some ⟨w.heap.size, 1, none⟩)) rfl (by kernel_rfl) (by kernel_rfl) (by kernel_rfl) (fun _ _ _ h => h) (Or.inl ⟨by kernel_rfl, by intro w' hSw; obtain ⟨s0, s1, s2, s3, s4⟩ := hSw; go_simp⟩) hS ?_
  try simp only [Act.put, List.setIfInBounds_toArray, List.set_cons_zero, List.set_cons_succ]
  refine wpAnyH_take (i := 4) (v := .string t) rfl (by kernel_rfl) (by kernel_rfl) (by kernel_rfl) (fun _ _ _ h => h) (Or.inl ⟨by kernel_rfl, by intro w' hSw; obtain ⟨s0, s1, s2, s3, s4⟩ := hSw; go_simp⟩) hS ?_
  try simp only [Act.put, List.setIfInBounds_toArray, List.set_cons_zero, List.set_cons_succ]
  refine wpAnyH_ready (rs := [0]) (by kernel_rfl) (by simp) ?_
  refine AllReadyH.cons rfl (fun K hK => ?_) AllReadyH.nil
  go_simp
  go_at_call 37
  refine (ends_b _ _).mono ?_
  rintro e w4 ⟨p4, rfl, hp4, hb4⟩
  have h4 := h2d.later hb4
  refine hK.out _ _ (HE.out _ h4) (fun hS => ?_)
  clear hK K
  try simp only [Act.put, List.setIfInBounds_toArray, List.set_cons_zero, List.set_cons_succ]
  refine wpAnyH_ready (rs := [5]) (by kernel_rfl) (by simp) ?_
  refine AllReadyH.cons rfl (fun K hK => ?_) AllReadyH.nil
  go_simp
  go_at_call 53
  refine (hE2.out _ _ hp4).mono ?_
  rintro e w' ⟨rfl, rfl⟩
  refine hK.out _ _ (HE.out _ h4) (fun hS => ?_)
  clear hK K
  try simp only [Act.put, List.setIfInBounds_toArray, List.set_cons_zero, List.set_cons_succ]
  refine wpAnyH_ready (rs := [6]) (by kernel_rfl) (by simp) ?_
  refine AllReadyH.cons rfl (fun K hK => ?_) AllReadyH.nil
  go_simp
  refine hK.out _ _ hS (fun hS => ?_)
  clear hK K
  try simp only [Act.put, List.setIfInBounds_toArray, List.set_cons_zero, List.set_cons_succ]
  refine wpAnyH_done (by kernel_rfl) ?_ _
  clear hS
  clear hp4
  have oB : Ow (w.heap.size + 2) ([] : List Rg) (.slice none 0 0) w4 := Ow.nil _ _
  go_wp2
  have h4d := h4.later (Below.refl _ _).drew
  have oBd := Ow.later oB (Below.refl _ _).drew
  refine wp_region_held_drew (S := (fun W => W.cell? ⟨w.heap.size, 0, none⟩ = some (.string s) ∧ W.cell? ⟨w.heap.size, 1, none⟩ = some (.string t) ∧ W.cell? ⟨w.heap.size + 1, 0, none⟩ = some (.string u) ∧ W.cell? ⟨w.heap.size + 1, 1, none⟩ = some (.string v) ∧ Tw w s t u v W)) (by kernel_rfl) (HE.out _ h4d) (fun hS => ?_)
  try simp only [Act.put, List.setIfInBounds_toArray, List.set_cons_zero, List.set_cons_succ]
  generalize hwd : w4.drew = w4d at *
  clear hwd
  refine wpAnyH_take (i := 0) (v := .slice none 0 0) rfl (by kernel_rfl) (by kernel_rfl) (by kernel_rfl) (fun _ _ _ h => h) (Or.inl ⟨by kernel_rfl, by intro w' hSw; obtain ⟨s0, s1, s2, s3, s4⟩ := hSw; go_simp⟩) hS ?_
  try simp only [Act.put, List.setIfInBounds_toArray, List.set_cons_zero, List.set_cons_succ]
  refine wpAnyH_take (i := 1) (v := .pointer (some ⟨w.heap.size, 0, none⟩)) rfl (by kernel_rfl) (by kernel_rfl) (by kernel_rfl) (fun _ _ _ h => h) (Or.inl ⟨by kernel_rfl, by intro w' hSw; obtain ⟨s0, s1, s2, s3, s4⟩ := hSw; go_simp⟩) hS ?_
  try simp only [Act.put, List.setIfInBounds_toArray, List.set_cons_zero, List.set_cons_succ]
  refine wpAnyH_take (i := 2) (v := .string s) rfl (by kernel_rfl) (by kernel_rfl) (by kernel_rfl) (fun _ _ _ h => h) (Or.inl ⟨by kernel_rfl, by intro w' hSw; obtain ⟨s0, s1, s2, s3, s4⟩ := hSw; go_simp⟩) hS ?_
  try simp only [Act.put, List.setIfInBounds_toArray, List.set_cons_zero, List.set_cons_succ]
  refine wpAnyH_take (i := 3) (v := .pointer (some ⟨w.heap.size + 1, 1, none⟩)) rfl (by kernel_rfl) (by kernel_rfl) (by kernel_rfl) (fun _ _ _ h => h) (Or.inl ⟨by kernel_rfl, by intro w' hSw; obtain ⟨s0, s1, s2, s3, s4⟩ := hSw; go_simp⟩) hS ?_
  try simp only [Act.put, List.setIfInBounds_toArray, List.set_cons_zero, List.set_cons_succ]
  refine wpAnyH_take (i := 4) (v := .string v) rfl (by kernel_rfl) (by kernel_rfl) (by kernel_rfl) (fun _ _ _ h => h) (Or.inl ⟨by kernel_rfl, by intro w' hSw; obtain ⟨s0, s1, s2, s3, s4⟩ := hSw; go_simp⟩) hS ?_
  try simp only [Act.put, List.setIfInBounds_toArray, List.set_cons_zero, List.set_cons_succ]
  refine wpAnyH_take (i := 6) (v := .pointer (some ⟨w.heap.size, 1, none⟩)) rfl (by kernel_rfl) (by kernel_rfl) (by kernel_rfl) (fun _ _ _ h => h) (Or.inl ⟨by kernel_rfl, by intro w' hSw; obtain ⟨s0, s1, s2, s3, s4⟩ := hSw; go_simp⟩) hS ?_
  try simp only [Act.put, List.setIfInBounds_toArray, List.set_cons_zero, List.set_cons_succ]
  refine wpAnyH_take (i := 7) (v := .string t) rfl (by kernel_rfl) (by kernel_rfl) (by kernel_rfl) (fun _ _ _ h => h) (Or.inl ⟨by kernel_rfl, by intro w' hSw; obtain ⟨s0, s1, s2, s3, s4⟩ := hSw; go_simp⟩) hS ?_
  try simp only [Act.put, List.setIfInBounds_toArray, List.set_cons_zero, List.set_cons_succ]
  refine wpAnyH_ready (rs := [5]) (by kernel_rfl) (by simp) ?_
  refine AllReadyH.cons rfl (fun K hK => ?_) AllReadyH.nil
  go_simp
  go_at_call 39
  refine (hL.out _).mono ?_
  rintro e w5 ⟨rfl, hb5⟩
  have h5 := h4d.later hb5
  have o5 := Ow.later oBd hb5
  refine hK.out _ _ (HE.out _ h5) (fun hS => ?_)
  clear hK K
  try simp only [Act.put, List.setIfInBounds_toArray, List.set_cons_zero, List.set_cons_succ]
  refine wpAnyH_take (i := 8) (v := .agg #[.string z, .string t]) rfl (by kernel_rfl) (by kernel_rfl) (by kernel_rfl) (fun _ _ _ h => h) (Or.inl ⟨by kernel_rfl, by intro w' hSw; obtain ⟨s0, s1, s2, s3, s4⟩ := hSw; go_simp⟩) hS ?_
  try simp only [Act.put, List.setIfInBounds_toArray, List.set_cons_zero, List.set_cons_succ]
  refine wpAnyH_ready (rs := [9]) (by kernel_rfl) (by simp) ?_
  refine AllReadyH.cons rfl (fun K hK => ?_) AllReadyH.nil
  go_simp
  have h5b := h5.later (alloc_b _ (.cells #[.string z, .string t] TR))
  have o5b := Ow.later o5 (alloc_b _ (.cells #[.string z, .string t] TR))
  have k5 := (show B2 _ _ _ _ from B2.new w5 z t).cells
  generalize hwq : w5.alloc (.cells #[.string z, .string t] TR) = w5b at *
  generalize hBq : w5.heap.size = B5 at *
  clear hwq hBq
  refine hK.out _ _ (HE.out _ h5b) (fun hS => ?_)
  clear hK K
  try simp only [Act.put, List.setIfInBounds_toArray, List.set_cons_zero, List.set_cons_succ]
  refine wpAnyH_ready (rs := [10]) (by kernel_rfl) (by simp) ?_
  refine AllReadyH.cons rfl (fun K hK => ?_) AllReadyH.nil
  refine step_append_rg rfl _ _ rfl (w.heap.size + 2) (.slice none 0 0) ([] : List Rg) rfl o5b B5 1 ⟨laterV a.f b.t, a.t⟩ rfl (by show _ = some (Value.string (tx (laterV a.f b.t))); rw [hz.out]; exact k5.1) (by show _ = some (Value.string (tx a.t)); rw [ht.out]; exact k5.2.1) (by simp) (by have := h5b.lt; omega) ?_
  intro v5 w5c o5c hg5
  have h5c := Tw.grown h5b o5b hg5
  refine hK.out _ _ (HE.out _ h5c) (fun hS => ?_)
  clear hK K
  try simp only [Act.put, List.setIfInBounds_toArray, List.set_cons_zero, List.set_cons_succ]
  refine wpAnyH_ready (rs := [11]) (by kernel_rfl) (by simp) ?_
  refine AllReadyH.cons rfl (fun K hK => ?_) AllReadyH.nil
  go_simp
  refine hK.out _ _ hS (fun hS => ?_)
  clear hK K
  try simp only [Act.put, List.setIfInBounds_toArray, List.set_cons_zero, List.set_cons_succ]
  refine wpAnyH_done (by kernel_rfl) ?_ _
  clear hS
  go_wp2
  go_ret2
  exact ⟨_, rfl, Ow.base (base := w.heap.size + 2) o5c (by omega), h5c.bel⟩
set_option maxHeartbeats 8000000 in
theorem without_11 (a b : Rg) (h : okL [a, b] = 0) (d1 : decide (cmpE (-1) a.f b.f < 0) = true) (d2 : decide (cmpE 1 b.t a.t < 0) = true) (w : World) :
    Calls Try.prog 23 #[.agg #[.string (tx a.f), .string (tx a.t)], .agg #[.string (tx b.f), .string (tx b.t)]] w (Gives w [⟨a.f, earlierV a.t b.f⟩, ⟨laterV a.f b.t, a.t⟩] 0) := by
  have hx := tw_new w (tx a.f) (tx a.t) (tx b.f) (tx b.t)
  have hA := fun v W hv => all_any v [a, b] W hv (by simp)
  rw [h] at hA
  replace hA := Lib.hid hA
  have hx1 := hx.later (alloc_b _ (.cells #[.string (tx a.f), .string (tx a.t), .string (tx b.f), .string (tx b.t)] TR))
  have hq := heap_alloc_new ((w.alloc (.cells #[.string (tx a.f), .string (tx a.t)] TR)).alloc (.cells #[.string (tx b.f), .string (tx b.t)] TR)) (.cells #[.string (tx a.f), .string (tx a.t), .string (tx b.f), .string (tx b.t)] TR)
  have hRs := Lib.hid (two_rs _ _ a b hq)
  clear hq
  simp only [World.size_alloc] at hRs
  obtain ⟨c0, c1, c2, c3, _⟩ := hx.cells
  have HE : Hid (∀ W, Tw w (tx a.f) (tx a.t) (tx b.f) (tx b.t) W → W.cell? ⟨w.heap.size, 0, none⟩ = some (.string (tx a.f)) ∧ W.cell? ⟨w.heap.size, 1, none⟩ = some (.string (tx a.t)) ∧ W.cell? ⟨w.heap.size + 1, 0, none⟩ = some (.string (tx b.f)) ∧ W.cell? ⟨w.heap.size + 1, 1, none⟩ = some (.string (tx b.t)) ∧ Tw w (tx a.f) (tx a.t) (tx b.f) (tx b.t) W) := fun W h => h.cells
  have hE1 := Lib.hid (fun p W h => end1_any (-1) a.f b.f p W (by decide) (by decide) h)
  have hE2 := Lib.hid (fun p W h => end1_any 1 b.t a.t p W (by decide) (by decide) h)
  have hM := Lib.hid (fun W => earlier_any a.t b.f W)
  have hL := Lib.hid (fun W => later_any a.f b.t W)
  generalize cmpE (-1) a.f b.f = q1 at *
  generalize cmpE 1 b.t a.t = q2 at *
  generalize hs : tx a.f = s at *
  generalize ht : tx a.t = t at *
  generalize hu : tx b.f = u at *
  generalize hv : tx b.t = v at *
  generalize hy : tx (earlierV a.t b.f) = y at *
  generalize hz : tx (laterV a.f b.t) = z at *
  replace hs := Lib.hid hs
  replace ht := Lib.hid ht
  replace hy := Lib.hid hy
  replace hz := Lib.hid hz
  clear hu hv
  go_enter Try.func23, Try.ntmps23
  go_wp2_with (go_at_call 38; refine (hA.out _ _ hRs.out).mono ?_; rintro e w1 ⟨rfl, hb1⟩; have hx2 := hx1.later hb1)
  clear c0 c1 c2 c3 hx hx1 hb1 hRs hA
  have o1 : Ow (w.heap.size + 2) [] (.slice none 0 0) w1 := Ow.nil _ _
  obtain ⟨o1v, ho1v⟩ : ∃ v, v = Value.slice none 0 0 := ⟨_, rfl⟩
  have hx2d := hx2.later (Below.refl _ _).drew
  refine wp_region_held_drew (S := (fun W => W.cell? ⟨w.heap.size, 0, none⟩ = some (.string s) ∧ W.cell? ⟨w.heap.size, 1, none⟩ = some (.string t) ∧ W.cell? ⟨w.heap.size + 1, 0, none⟩ = some (.string u) ∧ W.cell? ⟨w.heap.size + 1, 1, none⟩ = some (.string v) ∧ Tw w s t u v W)) (by kernel_rfl) (HE.out _ hx2d) (fun hS => ?_)
  try simp only [Act.put, List.setIfInBounds_toArray, List.set_cons_zero, List.set_cons_succ]
  generalize hwd : w1.drew = w1d at *
  clear hwd
  refine wpAnyH_take (i := 1) (v := .pointer (some ⟨w.heap.size, 0, none⟩)) rfl (by kernel_rfl) (by kernel_rfl) (by kernel_rfl) (fun _ _ _ h => h) (Or.inl ⟨by kernel_rfl, by intro w' hSw; obtain ⟨s0, s1, s2, s3, s4⟩ := hSw; go_simp⟩) hS ?_
  try simp only [Act.put, List.setIfInBounds_toArray, List.set_cons_zero, List.set_cons_succ]
  refine wpAnyH_take (i := 2) (v := .string s) rfl (by kernel_rfl) (by kernel_rfl) (by kernel_rfl) (fun _ _ _ h => h) (Or.inl ⟨by kernel_rfl, by intro w' hSw; obtain ⟨s0, s1, s2, s3, s4⟩ := hSw; go_simp⟩) hS ?_
  try simp only [Act.put, List.setIfInBounds_toArray, List.set_cons_zero, List.set_cons_succ]
  refine wpAnyH_take (i := 3) (v := .pointer (some ⟨w.heap.size + 1, 0, none⟩)) rfl (by kernel_rfl) (by kernel_rfl) (by kernel_rfl) (fun _ _ _ h => h) (Or.inl ⟨by kernel_rfl, by intro w' hSw; obtain ⟨s0, s1, s2, s3, s4⟩ := hSw; go_simp⟩) hS ?_
  try simp only [Act.put, List.setIfInBounds_toArray, List.set_cons_zero, List.set_cons_succ]
  refine wpAnyH_take (i := 4) (v := .string u) rfl (by kernel_rfl) (by kernel_rfl) (by kernel_rfl) (fun _ _ _ h => h) (Or.inl ⟨by kernel_rfl, by intro w' hSw; obtain ⟨s0, s1, s2, s3, s4⟩ := hSw; go_simp⟩) hS ?_
  try simp only [Act.put, List.setIfInBounds_toArray, List.set_cons_zero, List.set_cons_succ]
  refine wpAnyH_ready (rs := [0]) (by kernel_rfl) (by simp) ?_
  refine AllReadyH.cons rfl (fun K hK => ?_) AllReadyH.nil
  go_simp
  go_at_call 37
  refine (ends_b _ _).mono ?_
  rintro e w2 ⟨p2, rfl, hp2, hb2⟩
  have h2 := hx2d.later hb2
  refine hK.out _ _ (HE.out _ h2) (fun hS => ?_)
  clear hK K
  try simp only [Act.put, List.setIfInBounds_toArray, List.set_cons_zero, List.set_cons_succ]
  refine wpAnyH_ready (rs := [5]) (by kernel_rfl) (by simp) ?_
  refine AllReadyH.cons rfl (fun K hK => ?_) AllReadyH.nil
  go_simp
  go_at_call 53
  refine (hE1.out _ _ hp2).mono ?_
  rintro e w' ⟨rfl, rfl⟩
  refine hK.out _ _ (HE.out _ h2) (fun hS => ?_)
  clear hK K
  try simp only [Act.put, List.setIfInBounds_toArray, List.set_cons_zero, List.set_cons_succ]
  refine wpAnyH_ready (rs := [6]) (by kernel_rfl) (by simp) ?_
  refine AllReadyH.cons rfl (fun K hK => ?_) AllReadyH.nil
  go_simp
  refine hK.out _ _ hS (fun hS => ?_)
  clear hK K
  try simp only [Act.put, List.setIfInBounds_toArray, List.set_cons_zero, List.set_cons_succ]
  refine wpAnyH_done (by kernel_rfl) ?_ _
  clear hS
  clear hp2
  have oA : Ow (w.heap.size + 2) [] (.slice none 0 0) w2 := Ow.nil _ _
  clear o1 ho1v o1v
  go_wp2
  have h2d := h2.later (Below.refl _ _).drew
  have oAd := Ow.later oA (Below.refl _ _).drew
  refine wp_region_held_drew (S := (fun W => W.cell? ⟨w.heap.size, 0, none⟩ = some (.string s) ∧ W.cell? ⟨w.heap.size, 1, none⟩ = some (.string t) ∧ W.cell? ⟨w.heap.size + 1, 0, none⟩ = some (.string u) ∧ W.cell? ⟨w.heap.size + 1, 1, none⟩ = some (.string v) ∧ Tw w s t u v W)) (by kernel_rfl) (HE.out _ h2d) (fun hS => ?_)
  try simp only [Act.put, List.setIfInBounds_toArray, List.set_cons_zero, List.set_cons_succ]
  generalize hwd : w2.drew = w2d at *
  clear hwd
  refine wpAnyH_take (i := 0) (v := .slice none 0 0) rfl (by kernel_rfl) (by kernel_rfl) (by kernel_rfl) (fun _ _ _ h => h) (Or.inl ⟨by kernel_rfl, by intro w' hSw; obtain ⟨s0, s1, s2, s3, s4⟩ := hSw; go_simp⟩) hS ?_
  try simp only [Act.put, List.setIfInBounds_toArray, List.set_cons_zero, List.set_cons_succ]
  refine wpAnyH_take (i := 1) (v := .pointer (some ⟨w.heap.size, 0, none⟩)) rfl (by kernel_rfl) (by kernel_rfl) (by kernel_rfl) (fun _ _ _ h => h) (Or.inl ⟨by kernel_rfl, by intro w' hSw; obtain ⟨s0, s1, s2, s3, s4⟩ := hSw; go_simp⟩) hS ?_
  try simp only [Act.put, List.setIfInBounds_toArray, List.set_cons_zero, List.set_cons_succ]
  refine wpAnyH_take (i := 2) (v := .string s) rfl (by kernel_rfl) (by kernel_rfl) (by kernel_rfl) (fun _ _ _ h => h) (Or.inl ⟨by kernel_rfl, by intro w' hSw; obtain ⟨s0, s1, s2, s3, s4⟩ := hSw; go_simp⟩) hS ?_
  try simp only [Act.put, List.setIfInBounds_toArray, List.set_cons_zero, List.set_cons_succ]
  refine wpAnyH_take (i := 3) (v := .pointer (some ⟨w.heap.size, 1, none⟩)) rfl (by kernel_rfl) (by kernel_rfl) (by kernel_rfl) (fun _ _ _ h => h) (Or.inl ⟨by kernel_rfl, by intro w' hSw; obtain ⟨s0, s1, s2, s3, s4⟩ := hSw; go_simp⟩) hS ?_
  try simp only [Act.put, List.setIfInBounds_toArray, List.set_cons_zero, List.set_cons_succ]
  refine wpAnyH_take (i := 4) (v := .string t) rfl (by kernel_rfl) (by kernel_rfl) (by kernel_rfl) (fun _ _ _ h => h) (Or.inl ⟨by kernel_rfl, by intro w' hSw; obtain ⟨s0, s1, s2, s3, s4⟩ := hSw; go_simp⟩) hS ?_
  try simp only [Act.put, List.setIfInBounds_toArray, List.set_cons_zero, List.set_cons_succ]
  refine wpAnyH_take (i := 5) (v := .pointer (some ⟨w.heap.size + 1, 0, none⟩)) rfl (by kernel_rfl) (by kernel_rfl) (by kernel_rfl) (fun _ _ _ h => h) (Or.inl ⟨by kernel_rfl, by intro w' hSw; obtain ⟨s0, s1, s2, s3, s4⟩ := hSw; go_simp⟩) hS ?_
  try simp only [Act.put, List.setIfInBounds_toArray, List.set_cons_zero, List.set_cons_succ]
  refine wpAnyH_take (i := 6) (v := .string u) rfl (by kernel_rfl) (by kernel_rfl) (by kernel_rfl) (fun _ _ _ h => h) (Or.inl ⟨by kernel_rfl, by intro w' hSw; obtain ⟨s0, s1, s2, s3, s4⟩ := hSw; go_simp⟩) hS ?_
  try simp only [Act.put, List.setIfInBounds_toArray, List.set_cons_zero, List.set_cons_succ]
  refine wpAnyH_ready (rs := [7]) (by kernel_rfl) (by simp) ?_
  refine AllReadyH.cons rfl (fun K hK => ?_) AllReadyH.nil
  go_simp
  go_at_call 40
  refine (hM.out _).mono ?_
  rintro e w3 ⟨rfl, hb3⟩
  have h3 := h2d.later hb3
  have o3 := Ow.later oAd hb3
  refine hK.out _ _ (HE.out _ h3) (fun hS => ?_)
  clear hK K
  try simp only [Act.put, List.setIfInBounds_toArray, List.set_cons_zero, List.set_cons_succ]
  refine wpAnyH_take (i := 8) (v := .agg #[.string s, .string y]) rfl (by kernel_rfl) (by kernel_rfl) (by kernel_rfl) (fun _ _ _ h => h) (Or.inl ⟨by kernel_rfl, by intro w' hSw; obtain ⟨s0, s1, s2, s3, s4⟩ := hSw; go_simp⟩) hS ?_
  try simp only [Act.put, List.setIfInBounds_toArray, List.set_cons_zero, List.set_cons_succ]
  refine wpAnyH_ready (rs := [9]) (by kernel_rfl) (by simp) ?_
  refine AllReadyH.cons rfl (fun K hK => ?_) AllReadyH.nil
  go_simp
  have h3b := h3.later (alloc_b _ (.cells #[.string s, .string y] TR))
  have o3b := Ow.later o3 (alloc_b _ (.cells #[.string s, .string y] TR))
  have k3 := (show B2 _ _ _ _ from B2.new w3 s y).cells
  generalize hwq : w3.alloc (.cells #[.string s, .string y] TR) = w3b at *
  generalize hBq : w3.heap.size = B3 at *
  clear hwq hBq
  refine hK.out _ _ (HE.out _ h3b) (fun hS => ?_)
  clear hK K
  try simp only [Act.put, List.setIfInBounds_toArray, List.set_cons_zero, List.set_cons_succ]
  refine wpAnyH_ready (rs := [10]) (by kernel_rfl) (by simp) ?_
  refine AllReadyH.cons rfl (fun K hK => ?_) AllReadyH.nil
  refine step_append_rg rfl _ _ rfl (w.heap.size + 2) (.slice none 0 0) ([] : List Rg) rfl o3b B3 1 ⟨a.f, earlierV a.t b.f⟩ rfl (by show _ = some (Value.string (tx a.f)); rw [hs.out]; exact k3.1) (by show _ = some (Value.string (tx (earlierV a.t b.f))); rw [hy.out]; exact k3.2.1) (by simp) (by have := h3b.lt; omega) ?_
  intro v3 w3c o3c hg3
  have h3c := Tw.grown h3b o3b hg3
  refine hK.out _ _ (HE.out _ h3c) (fun hS => ?_)
  clear hK K
  try simp only [Act.put, List.setIfInBounds_toArray, List.set_cons_zero, List.set_cons_succ]
  refine wpAnyH_ready (rs := [11]) (by kernel_rfl) (by simp) ?_
  refine AllReadyH.cons rfl (fun K hK => ?_) AllReadyH.nil
  go_simp
  refine hK.out _ _ hS (fun hS => ?_)
  clear hK K
  try simp only [Act.put, List.setIfInBounds_toArray, List.set_cons_zero, List.set_cons_succ]
  refine wpAnyH_done (by kernel_rfl) ?_ _
  clear hS
  go_wp2
  have o3cd := Ow.later o3c (Below.refl _ _).drew
  have h3cd := h3c.later (Below.refl _ _).drew
  refine wp_region_held_drew (S := (fun W => W.cell? ⟨w.heap.size, 0, none⟩ = some (.string s) ∧ W.cell? ⟨w.heap.size, 1, none⟩ = some (.string t) ∧ W.cell? ⟨w.heap.size + 1, 0, none⟩ = some (.string u) ∧ W.cell? ⟨w.heap.size + 1, 1, none⟩ = some (.string v) ∧ Tw w s t u v W)) (by kernel_rfl) (HE.out _ h3cd) (fun hS => ?_)
  try simp only [Act.put, List.setIfInBounds_toArray, List.set_cons_zero, List.set_cons_succ]
  generalize hwd : w3c.drew = w3cd at *
  clear hwd
  refine wpAnyH_take (i := 1) (v := .pointer (some ⟨w.heap.size + 1, 1, none⟩)) rfl (by kernel_rfl) (by kernel_rfl) (by kernel_rfl) (fun _ _ _ h => h) (Or.inl ⟨by kernel_rfl, by intro w' hSw; obtain ⟨s0, s1, s2, s3, s4⟩ := hSw; go_simp⟩) hS ?_
  try simp only [Act.put, List.setIfInBounds_toArray, List.set_cons_zero, List.set_cons_succ]
  refine wpAnyH_take (i := 2) (v := .string v) rfl (by kernel_rfl) (by kernel_rfl) (by kernel_rfl) (fun _ _ _ h => h) (Or.inl ⟨by kernel_rfl, by intro w' hSw; obtain ⟨s0, s1, s2, s3, s4⟩ := hSw; go_simp⟩) hS ?_
  try simp only [Act.put, List.setIfInBounds_toArray, List.set_cons_zero, List.set_cons_succ]
  refine wpAnyH_take (i := 3) (v := .pointer (some ⟨w.heap.size, 1, none⟩)) rfl (by kernel_rfl) (by kernel_rfl) (by kernel_rfl) (fun _ _ _ h => h) (Or.inl ⟨by kernel_rfl, by intro w' hSw; obtain ⟨s0, s1, s2, s3, s4⟩ := hSw; go_simp⟩) hS ?_
  try simp only [Act.put, List.setIfInBounds_toArray, List.set_cons_zero, List.set_cons_succ]
  refine wpAnyH_take (i := 4) (v := .string t) rfl (by kernel_rfl) (by kernel_rfl) (by kernel_rfl) (fun _ _ _ h => h) (Or.inl ⟨by kernel_rfl, by intro w' hSw; obtain ⟨s0, s1, s2, s3, s4⟩ := hSw; go_simp⟩) hS ?_
  try simp only [Act.put, List.setIfInBounds_toArray, List.set_cons_zero, List.set_cons_succ]
  refine wpAnyH_ready (rs := [0]) (by kernel_rfl) (by simp) ?_
  refine AllReadyH.cons rfl (fun K hK => ?_) AllReadyH.nil
  go_simp
  go_at_call 37
  refine (ends_b _ _).mono ?_
  rintro e w4 ⟨p4, rfl, hp4, hb4⟩
  have h4 := h3cd.later hb4
  refine hK.out _ _ (HE.out _ h4) (fun hS => ?_)
  clear hK K
  try simp only [Act.put, List.setIfInBounds_toArray, List.set_cons_zero, List.set_cons_succ]
  refine wpAnyH_ready (rs := [5]) (by kernel_rfl) (by simp) ?_
  refine AllReadyH.cons rfl (fun K hK => ?_) AllReadyH.nil
  go_simp
  go_at_call 53
  refine (hE2.out _ _ hp4).mono ?_
  rintro e w' ⟨rfl, rfl⟩
  refine hK.out _ _ (HE.out _ h4) (fun hS => ?_)
  clear hK K
  try simp only [Act.put, List.setIfInBounds_toArray, List.set_cons_zero, List.set_cons_succ]
  refine wpAnyH_ready (rs := [6]) (by kernel_rfl) (by simp) ?_
  refine AllReadyH.cons rfl (fun K hK => ?_) AllReadyH.nil
  go_simp
  refine hK.out _ _ hS (fun hS => ?_)
  clear hK K
  try simp only [Act.put, List.setIfInBounds_toArray, List.set_cons_zero, List.set_cons_succ]
  refine wpAnyH_done (by kernel_rfl) ?_ _
  clear hS
  clear hp4
  have oB : Ow (w.heap.size + 2) [⟨a.f, earlierV a.t b.f⟩] (v3) w4 := Ow.later o3cd hb4
  go_wp2
  have h4d := h4.later (Below.refl _ _).drew
  have oBd := Ow.later oB (Below.refl _ _).drew
  refine wp_region_held_drew (S := (fun W => W.cell? ⟨w.heap.size, 0, none⟩ = some (.string s) ∧ W.cell? ⟨w.heap.size, 1, none⟩ = some (.string t) ∧ W.cell? ⟨w.heap.size + 1, 0, none⟩ = some (.string u) ∧ W.cell? ⟨w.heap.size + 1, 1, none⟩ = some (.string v) ∧ Tw w s t u v W)) (by kernel_rfl) (HE.out _ h4d) (fun hS => ?_)
  try simp only [Act.put, List.setIfInBounds_toArray, List.set_cons_zero, List.set_cons_succ]
  generalize hwd : w4.drew = w4d at *
  clear hwd
  refine wpAnyH_take (i := 0) (v := v3) rfl (by kernel_rfl) (by kernel_rfl) (by kernel_rfl) (fun _ _ _ h => h) (Or.inl ⟨by kernel_rfl, by intro w' hSw; obtain ⟨s0, s1, s2, s3, s4⟩ := hSw; go_simp⟩) hS ?_
  try simp only [Act.put, List.setIfInBounds_toArray, List.set_cons_zero, List.set_cons_succ]
  refine wpAnyH_take (i := 1) (v := .pointer (some ⟨w.heap.size, 0, none⟩)) rfl (by kernel_rfl) (by kernel_rfl) (by kernel_rfl) (fun _ _ _ h => h) (Or.inl ⟨by kernel_rfl, by intro w' hSw; obtain ⟨s0, s1, s2, s3, s4⟩ := hSw; go_simp⟩) hS ?_
  try simp only [Act.put, List.setIfInBounds_toArray, List.set_cons_zero, List.set_cons_succ]
  refine wpAnyH_take (i := 2) (v := .string s) rfl (by kernel_rfl) (by kernel_rfl) (by kernel_rfl) (fun _ _ _ h => h) (Or.inl ⟨by kernel_rfl, by intro w' hSw; obtain ⟨s0, s1, s2, s3, s4⟩ := hSw; go_simp⟩) hS ?_
  try simp only [Act.put, List.setIfInBounds_toArray, List.set_cons_zero, List.set_cons_succ]
  refine wpAnyH_take (i := 3) (v := .pointer (some ⟨w.heap.size + 1, 1, none⟩)) rfl (by kernel_rfl) (by kernel_rfl) (by kernel_rfl) (fun _ _ _ h => h) (Or.inl ⟨by kernel_rfl, by intro w' hSw; obtain ⟨s0, s1, s2, s3, s4⟩ := hSw; go_simp⟩) hS ?_
  try simp only [Act.put, List.setIfInBounds_toArray, List.set_cons_zero, List.set_cons_succ]
  refine wpAnyH_take (i := 4) (v := .string v) rfl (by kernel_rfl) (by kernel_rfl) (by kernel_rfl) (fun _ _ _ h => h) (Or.inl ⟨by kernel_rfl, by intro w' hSw; obtain ⟨s0, s1, s2, s3, s4⟩ := hSw; go_simp⟩) hS ?_
  try simp only [Act.put, List.setIfInBounds_toArray, List.set_cons_zero, List.set_cons_succ]
  refine wpAnyH_take (i := 6) (v := .pointer (some ⟨w.heap.size, 1, none⟩)) rfl (by kernel_rfl) (by kernel_rfl) (by kernel_rfl) (fun _ _ _ h => h) (Or.inl ⟨by kernel_rfl, by intro w' hSw; obtain ⟨s0, s1, s2, s3, s4⟩ := hSw; go_simp⟩) hS ?_
  try simp only [Act.put, List.setIfInBounds_toArray, List.set_cons_zero, List.set_cons_succ]
  refine wpAnyH_take (i := 7) (v := .string t) rfl (by kernel_rfl) (by kernel_rfl) (by kernel_rfl) (fun _ _ _ h => h) (Or.inl ⟨by kernel_rfl, by intro w' hSw; obtain ⟨s0, s1, s2, s3, s4⟩ := hSw; go_simp⟩) hS ?_
  try simp only [Act.put, List.setIfInBounds_toArray, List.set_cons_zero, List.set_cons_succ]
  refine wpAnyH_ready (rs := [5]) (by kernel_rfl) (by simp) ?_
  refine AllReadyH.cons rfl (fun K hK => ?_) AllReadyH.nil
  go_simp
  go_at_call 39
  refine (hL.out _).mono ?_
  rintro e w5 ⟨rfl, hb5⟩
  have h5 := h4d.later hb5
  have o5 := Ow.later oBd hb5
  refine hK.out _ _ (HE.out _ h5) (fun hS => ?_)
  clear hK K
  try simp only [Act.put, List.setIfInBounds_toArray, List.set_cons_zero, List.set_cons_succ]
  refine wpAnyH_take (i := 8) (v := .agg #[.string z, .string t]) rfl (by kernel_rfl) (by kernel_rfl) (by kernel_rfl) (fun _ _ _ h => h) (Or.inl ⟨by kernel_rfl, by intro w' hSw; obtain ⟨s0, s1, s2, s3, s4⟩ := hSw; go_simp⟩) hS ?_
  try simp only [Act.put, List.setIfInBounds_toArray, List.set_cons_zero, List.set_cons_succ]
  refine wpAnyH_ready (rs := [9]) (by kernel_rfl) (by simp) ?_
  refine AllReadyH.cons rfl (fun K hK => ?_) AllReadyH.nil
  go_simp
  have h5b := h5.later (alloc_b _ (.cells #[.string z, .string t] TR))
  have o5b := Ow.later o5 (alloc_b _ (.cells #[.string z, .string t] TR))
  have k5 := (show B2 _ _ _ _ from B2.new w5 z t).cells
  generalize hwq : w5.alloc (.cells #[.string z, .string t] TR) = w5b at *
  generalize hBq : w5.heap.size = B5 at *
  clear hwq hBq
  refine hK.out _ _ (HE.out _ h5b) (fun hS => ?_)
  clear hK K
  try simp only [Act.put, List.setIfInBounds_toArray, List.set_cons_zero, List.set_cons_succ]
  refine wpAnyH_ready (rs := [10]) (by kernel_rfl) (by simp) ?_
  refine AllReadyH.cons rfl (fun K hK => ?_) AllReadyH.nil
  refine step_append_rg rfl _ _ rfl (w.heap.size + 2) (v3) [⟨a.f, earlierV a.t b.f⟩] rfl o5b B5 1 ⟨laterV a.f b.t, a.t⟩ rfl (by show _ = some (Value.string (tx (laterV a.f b.t))); rw [hz.out]; exact k5.1) (by show _ = some (Value.string (tx a.t)); rw [ht.out]; exact k5.2.1) (by simp) (by have := h5b.lt; omega) ?_
  intro v5 w5c o5c hg5
  have h5c := Tw.grown h5b o5b hg5
  refine hK.out _ _ (HE.out _ h5c) (fun hS => ?_)
  clear hK K
  try simp only [Act.put, List.setIfInBounds_toArray, List.set_cons_zero, List.set_cons_succ]
  refine wpAnyH_ready (rs := [11]) (by kernel_rfl) (by simp) ?_
  refine AllReadyH.cons rfl (fun K hK => ?_) AllReadyH.nil
  go_simp
  refine hK.out _ _ hS (fun hS => ?_)
  clear hK K
  try simp only [Act.put, List.setIfInBounds_toArray, List.set_cons_zero, List.set_cons_succ]
  refine wpAnyH_done (by kernel_rfl) ?_ _
  clear hS
  go_wp2
  go_ret2
  exact ⟨_, rfl, Ow.base (base := w.heap.size + 2) o5c (by omega), h5c.bel⟩
theorem without_bad (a b : Rg) (h : okL [a, b] = 2) (w : World) :
    Calls Try.prog 23 #[.agg #[.string (tx a.f), .string (tx a.t)], .agg #[.string (tx b.f), .string (tx b.t)]] w (Gives w [] 2) := by
  have hx := tw_new w (tx a.f) (tx a.t) (tx b.f) (tx b.t)
  have hA := fun v W hv => all_any v [a, b] W hv (by simp)
  rw [h] at hA
  replace hA := Lib.hid hA
  have hx1 := hx.later (alloc_b _ (.cells #[.string (tx a.f), .string (tx a.t), .string (tx b.f), .string (tx b.t)] TR))
  have hq := heap_alloc_new ((w.alloc (.cells #[.string (tx a.f), .string (tx a.t)] TR)).alloc (.cells #[.string (tx b.f), .string (tx b.t)] TR)) (.cells #[.string (tx a.f), .string (tx a.t), .string (tx b.f), .string (tx b.t)] TR)
  have hRs := Lib.hid (two_rs _ _ a b hq)
  clear hq
  simp only [World.size_alloc] at hRs
  obtain ⟨c0, c1, c2, c3, _⟩ := hx.cells
  generalize tx a.f = s at *
  generalize tx a.t = t at *
  generalize tx b.f = u at *
  generalize tx b.t = v at *
  go_enter Try.func23, Try.ntmps23
  go_wp2_with (go_at_call 38; refine (hA.out _ _ hRs.out).mono ?_; rintro e w1 ⟨rfl, hb1⟩; have hx2 := hx1.later hb1)
  go_ret2
  exact ⟨_, rfl, Ow.nil _ _, hx2.bel⟩
theorem without_any (a b : Rg) (w : World) :
    Calls Try.prog 23 #[.agg #[.string (tx a.f), .string (tx a.t)], .agg #[.string (tx b.f), .string (tx b.t)]] w (Gives w (withR a b).1 (withR a b).2) := by
  unfold withR wo1 wo2
  cases h : (okR a && okR b) with
  | false => exact without_bad a b (by rw [okL2, h]; rfl) w
  | true =>
    have h0 : okL [a, b] = 0 := by rw [okL2, h]; rfl
    by_cases h1 : cmpE (-1) a.f b.f < 0 <;> by_cases h2 : cmpE 1 b.t a.t < 0
    · rw [if_pos h1, if_pos h2]; exact without_11 a b h0 (decide_eq_true h1) (decide_eq_true h2) w
    · rw [if_pos h1, if_neg h2]; exact without_10 a b h0 (decide_eq_true h1) (decide_eq_false h2) w
    · rw [if_neg h1, if_pos h2]; exact without_01 a b h0 (decide_eq_false h1) (decide_eq_true h2) w
    · rw [if_neg h1, if_neg h2]; exact without_00 a b h0 (decide_eq_false h1) (decide_eq_false h2) w
end Go.Proofs.Ytocencmdfppkaaa.Rng
