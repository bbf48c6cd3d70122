/- Gaps. -/
import Derived.Test.YtgeejkedljhcoaaT06
namespace Go.Proofs.Ytgeejkedljhcoaa.Slt
open Go.RowKit Go.Maps Go.Lib
set_option linter.unusedVariables false
set_option linter.unusedSimpArgs false
set_option maxRecDepth 20000
attribute [local go_sem] Oper.semAt_some

/-- The k numbers from n on. -/
def rng (n : Int) : Nat → List Int
  | 0 => []
  | k + 1 => rng n k ++ [n + (k : Nat)]
theorem rng_len (n : Int) : ∀ k, (rng n k).length = k
  | 0 => rfl
  | k + 1 => by show (rng n k ++ _).length = _; rw [List.length_append, rng_len n k]; rfl
/-- The next slot, and the gaps so far. -/
def gapF (b : Int) (L : List Et) : Int × List Int := L.foldl (fun p e => (e.s + 1, p.2 ++ rng p.1 (e.s - p.1).toNat)) (b, [])
theorem gap_snoc (b : Int) (L : List Et) (e : Et) : gapF b (L ++ [e]) = (e.s + 1, (gapF b L).2 ++ rng (gapF b L).1 (e.s - (gapF b L).1).toNat) := by
  unfold gapF
  rw [List.foldl_append]
  rfl
def gapV (s : St) : List Int := (gapF s.b s.M).2
theorem gap_next {b : Int} (hb : 0 ≤ b ∧ b ≤ 4096) : ∀ (ys : List Em), 0 ≤ (gapF b (vals ys)).1 ∧ (gapF b (vals ys)).1 ≤ 4096 := by
  intro ys
  rcases List.eq_nil_or_concat ys with rfl | ⟨p, y, rfl⟩
  · exact hb
  · rw [List.concat_eq_append, vals_snoc, gap_snoc]
    have := y.property
    exact ⟨by show 0 ≤ y.val.s + 1; omega, by show y.val.s + 1 ≤ 4096; omega⟩
theorem gap_len {b : Int} (hb : 0 ≤ b ∧ b ≤ 4096) : ∀ (n : Nat) (ys : List Em), ys.length = n → (gapF b (vals ys)).2.length ≤ n * 4096
  | 0, ys, h => by
    have : ys = [] := List.eq_nil_of_length_eq_zero h
    subst this
    exact Nat.le_refl _
  | n + 1, ys, h => by
    rcases List.eq_nil_or_concat ys with rfl | ⟨p, y, rfl⟩
    · cases h
    · rw [List.concat_eq_append] at h ⊢
      rw [List.length_append] at h
      have ih := gap_len hb n p (by simpa using h)
      have h1 := gap_next hb p
      rw [vals_snoc, gap_snoc, List.length_append, rng_len]
      have := y.property
      omega
structure Gt (w w0 : World) (q0 q1 : Nat) (x : Int) (L : List Int) (W : World) : Prop where
  bel : Below w.heap.size w W
  kq0 : Kq (fun k => k = q0 ∨ k = q1) w0.heap.size w0 W
  row : ∃ v, W.heap[q0]? = some (.cells #[v] TIs (0, 0)) ∧ OwI w0.heap.size L v W
  nxt : W.heap[q1]? = some (.cells #[.int .i64 x] TI (0, 0))
theorem Gt.later {w w0 : World} {q0 q1 : Nat} {x : Int} {L : List Int} {W V : World} (h : Gt w w0 q0 q1 x L W) (hb : Below W.heap.size W V) : Gt w w0 q0 q1 x L V := by
  obtain ⟨v, h1, h2⟩ := h.row
  exact ⟨h.bel.trans (hb.mono h.bel.size), h.kq0.trans (Kq.of_below hb h.kq0.1), ⟨v, (hb.block _ (Array.getElem?_eq_some_iff.1 h1).1).trans h1, rows_later h2 hb⟩, (hb.block _ (Array.getElem?_eq_some_iff.1 h.nxt).1).trans h.nxt⟩
theorem gt_from {β : Type} {w w0 : World} {q0 q1 : Nat} (hq : w.heap.size ≤ q0 ∧ q0 < w0.heap.size) (hq1 : w.heap.size ≤ q1 ∧ q1 < w0.heap.size) (hw : w.heap.size ≤ w0.heap.size) (g : β → Int) (f : β → List Int) : OwnFrom w0.heap.size (fun (pre : β) W => Gt w w0 q0 q1 (g pre) (f pre) W) := by
  rintro pre W W' row ⟨h1, h2, ⟨v, h3, h4⟩, h5⟩ hg hr
  refine ⟨h1.grown hg h1.size (fun k e => by have := (hr k e).1; omega), h2.trans ⟨hg.size, fun k hk hn => hg.block k (Nat.lt_of_lt_of_le hk h2.1) (fun e => by have := (hr k e.symm).1; omega)⟩, ⟨v, (hg.block q0 (Array.getElem?_eq_some_iff.1 h3).1 (fun e => by have := (hr q0 e.symm).1; omega)).trans h3, ?_⟩,
    (hg.block q1 (Array.getElem?_eq_some_iff.1 h5).1 (fun e => by have := (hr q1 e.symm).1; omega)).trans h5⟩
  refine rows_kept h4 fun k hk => hg.block k (World.ownsRow.lt h4 k hk).2 (fun e => ?_)
  obtain ⟨_, o, ho, hc⟩ := hr k e.symm
  rcases h4.2 with ⟨rfl, _⟩ | ⟨g, cap, cur, rfl, _, hgb, _⟩
  · cases hk
  · injection hk with hk
    subst hk
    rw [hgb] at ho
    cases ho
    cases hc
def cOf : Option Value → Nat
  | some (.int _ k) => k.toNat
  | _ => 0
/-- An append of the next slot, and the step to the one behind. -/
theorem Gt.grow {w w0 : World} {q0 q1 : Nat} {j : Int} {L : List Int} {V w1 : World} {u v' : Value} {o : Obj} (h : Gt w w0 q0 q1 j L V) (hq : w.heap.size ≤ q0 ∧ q0 < w0.heap.size) (hq1 : w.heap.size ≤ q1 ∧ q1 < w0.heap.size) (hne : q1 ≠ q0)
    (hu : V.heap[q0]? = some (.cells #[u] TIs (0, 0))) (h1 : w1.ownsRow w0.heap.size TI 1 v' (L.length + 1) (ints L ++ [.int .i64 j])) (h2 : (V.alloc o).grownBy w1 u.ownBlock) :
    w1.heap[q0]? = some (.cells #[u] TIs (0, 0)) ∧ w1.heap[q1]? = some (.cells #[.int .i64 j] TI (0, 0)) ∧ Gt w w0 q0 q1 (j + 1) (L ++ [j]) ((w1.setCell ⟨q0, 0, none⟩ v').setCell ⟨q1, 0, none⟩ (.int .i64 (j + 1))) ∧
    KeepsOthers V ((w1.setCell ⟨q0, 0, none⟩ v').setCell ⟨q1, 0, none⟩ (.int .i64 (j + 1))) ∧ Kq (fun k => k = q0 ∨ k = q1) w0.heap.size V ((w1.setCell ⟨q0, 0, none⟩ v').setCell ⟨q1, 0, none⟩ (.int .i64 (j + 1))) := by
  obtain ⟨v, g1, g2⟩ := h.row
  obtain rfl : u = v := by
    rw [hu] at g1
    injection g1 with g1
    injection g1 with g1 _
    injection g1 with g1
    injection g1 with g1 _
  obtain ⟨a1, a2, a3, a4, a5, a6, a7⟩ := app_facts (n0 := w0.heap.size) (fun k => k = q0 ∨ k = q1) hu g2 hq.2 (Nat.le_refl _) h.kq0.1 (.inl rfl) h1 h2
  have hl1 : q1 < V.heap.size := (Array.getElem?_eq_some_iff.1 h.nxt).1
  have b1 := (a6 q1 hq1.2 hne hl1).trans h.nxt
  have b0 : w1.heap[q1]? = some (.cells #[.int .i64 j] TI (0, 0)) := (Below.heap_setCell _ _ _ q1 hne).symm.trans b1
  have hsz : ∀ (X : World) (a : Addr) (v : Value), (X.setCell a v).heap.size = X.heap.size := fun X a v => by simp [World.setCell]
  have hKq : Kq (fun k => k = q0 ∨ k = q1) w0.heap.size V ((w1.setCell ⟨q0, 0, none⟩ v').setCell ⟨q1, 0, none⟩ (.int .i64 (j + 1))) :=
    a5.trans ⟨by simp only [hsz]; exact Nat.le_refl _, fun k hk hf => Below.heap_setCell _ _ _ k (fun e => hf (.inr e))⟩
  refine ⟨a1, b0, ⟨?_, h.kq0.trans hKq, ⟨v', (Below.heap_setCell _ _ _ q0 (Ne.symm hne)).trans a2, ?_⟩, heap_setCell_same _ q1 0 _ TI _ b1⟩, a4.trans (KeepsOthers.setCell _ _ _), hKq⟩
  · exact (h.bel.trans (a7 w.heap.size hq.1)).setCell (p := ⟨q1, 0, none⟩) hq1.1 _
  · unfold OwI
    rw [List.length_append, ints_app]
    exact rows_kept a3 fun k hk => Below.heap_setCell _ _ _ k (by have := (World.ownsRow.lt a3 k hk).1; show k ≠ q1; omega)
theorem Gt.put {w w0 : World} {q0 q1 : Nat} {j : Int} {L : List Int} {V : World} (h : Gt w w0 q0 q1 j L V) (hq1 : w.heap.size ≤ q1 ∧ q1 < w0.heap.size) (hne : q1 ≠ q0) (x : Int) :
    Gt w w0 q0 q1 x L (V.setCell ⟨q1, 0, none⟩ (.int .i64 x)) ∧ KeepsOthers V (V.setCell ⟨q1, 0, none⟩ (.int .i64 x)) ∧ Kq (fun k => k = q0 ∨ k = q1) w0.heap.size V (V.setCell ⟨q1, 0, none⟩ (.int .i64 x)) := by
  obtain ⟨v, g1, g2⟩ := h.row
  have hsz : (V.setCell ⟨q1, 0, none⟩ (.int .i64 x)).heap.size = V.heap.size := by simp [World.setCell]
  have hKq : Kq (fun k => k = q0 ∨ k = q1) w0.heap.size V (V.setCell ⟨q1, 0, none⟩ (.int .i64 x)) := ⟨by rw [hsz]; exact Nat.le_refl _, fun k hk hf => Below.heap_setCell _ _ _ k (fun e => hf (.inr e))⟩
  exact ⟨⟨h.bel.setCell (p := ⟨q1, 0, none⟩) hq1.1 _, h.kq0.trans hKq, ⟨v, (Below.heap_setCell _ _ _ q0 (Ne.symm hne)).trans g1, rows_kept g2 fun k hk => Below.heap_setCell _ _ _ k (by have := (World.ownsRow.lt g2 k hk).1; show k ≠ q1; omega)⟩,
    heap_setCell_same _ q1 0 _ TI _ h.nxt⟩, KeepsOthers.setCell _ _ _, hKq⟩
set_option maxRecDepth 100000 in
set_option maxHeartbeats 4000000 in
theorem gaps_any {sb mb : Nat} {s : St} (w : World) (x : Ax w sb mb s) :
    Calls Try.prog 28 #[.pointer (some ⟨sb, 0, none⟩)] w fun e w' => ∃ v, e = .returned v ∧ OwI w.heap.size (gapV s) v w' ∧ Below w.heap.size w w' := by
  obtain ⟨GV, hGV⟩ : ∃ GV, gapV s = GV := ⟨_, rfl⟩
  rw [hGV]
  replace hGV := Lib.hid hGV
  have hV := Lib.hid x.valid
  have x1 := x.alloc (.cells #[.slice none 0 0] TIs)
  obtain ⟨c0, _⟩ := x1.cells
  obtain ⟨c1, _⟩ := (x1.alloc (.cells #[.int .i64 s.b] TI)).cells
  refine (callsIn_wide (n := 4)).1 ?_
  refine callsIn_of_wp_marks Try.func28 rfl trivial ?_ rfl
  simp only [Try.ntmps28, List.size_toArray, List.length_cons, List.length_nil, Nat.reduceAdd, Nat.reduceSub, Array.replicate_succ, Array.replicate_zero, List.push_toArray, List.append_toArray, List.nil_append, List.cons_append]
  gi_wp2_with (first
    | (refine ⟨trivial, ?_⟩; gi_at_call 41; refine (callsIn_wide.2 hV.out).mono ?_; rintro e w' ⟨rfl, rfl⟩)
    | (refine ⟨trivial, ?_⟩; gi_at_call 49; refine (callsIn_wide.2 (from_any _ _ _)).mono ?_; rintro e w' ⟨rfl, rfl⟩))
  obtain ⟨w0, hw0⟩ : ∃ w0, ((((w.alloc (.cells #[.slice none 0 0] TIs)).alloc (.cells #[.int .i64 s.b] TI)).alloc (.cells #[.pointer (some ⟨sb, 0, none⟩)] 25)).alloc (.cells #[.int .i64 s.b] TI)) = w0 := ⟨_, rfl⟩
  have hz0 : w0.heap.size = w.heap.size + 4 := by rw [← hw0]; simp
  have hx0 : Ax w0 sb mb s := by rw [← hw0]; exact ((x1.alloc _).alloc _).alloc _
  have hbel0 : Below w.heap.size w w0 := by rw [← hw0]; exact ((((Below.refl _ _).alloc (Nat.le_refl _) _).alloc (by simp) _).alloc (by simp; omega) _).alloc (by simp; omega) _
  have hb0 : w0.heap[w.heap.size]? = some (.cells #[.slice none 0 0] TIs (0, 0)) := by
    rw [← hw0]
    exact (((Boxed.new w TIs (.slice none 0 0)).alloc (.cells #[.int .i64 s.b] TI)).alloc (.cells #[.pointer (some ⟨sb, 0, none⟩)] 25)).alloc (.cells #[.int .i64 s.b] TI)
  have hb1 : w0.heap[w.heap.size + 1]? = some (.cells #[.int .i64 s.b] TI (0, 0)) := by
    rw [← hw0]
    have := ((Boxed.new (w.alloc (.cells #[.slice none 0 0] TIs)) TI (.int .i64 s.b)).alloc (.cells #[.pointer (some ⟨sb, 0, none⟩)] 25)).alloc (.cells #[.int .i64 s.b] TI)
    rw [World.size_alloc] at this
    exact this
  have hc1 : w0.cell? ⟨w.heap.size + 1 + 1, 0, none⟩ = some (.pointer (some ⟨sb, 0, none⟩)) := by
    rw [← hw0]
    have := (Boxed.new ((w.alloc (.cells #[.slice none 0 0] TIs)).alloc (.cells #[.int .i64 s.b] TI)) 25 (.pointer (some ⟨sb, 0, none⟩))).alloc (.cells #[.int .i64 s.b] TI)
    rw [World.size_alloc, World.size_alloc] at this
    exact this.cell
  have hc2 : w0.cell? ⟨w.heap.size + 1 + 1 + 1, 0, none⟩ = some (.int .i64 s.b) := by
    rw [← hw0]
    have := (Boxed.new (((w.alloc (.cells #[.slice none 0 0] TIs)).alloc (.cells #[.int .i64 s.b] TI)).alloc (.cells #[.pointer (some ⟨sb, 0, none⟩)] 25)) TI (.int .i64 s.b))
    rw [World.size_alloc, World.size_alloc, World.size_alloc] at this
    exact this.cell
  change Code.wpIn _ _ _ _ _ _ ((((w.alloc (.cells #[.slice none 0 0] TIs)).alloc (.cells #[.int .i64 s.b] TI)).alloc (.cells #[.pointer (some ⟨sb, 0, none⟩)] 25)).alloc (.cells #[.int .i64 s.b] TI))
  rw [hw0]
  clear hw0 c0 c1 hV
  have hxl := x.lt
  obtain ⟨q0, hq0⟩ : ∃ q0, w.heap.size = q0 := ⟨_, rfl⟩
  obtain ⟨q1, hq1⟩ : ∃ q1, w.heap.size + 1 = q1 := ⟨_, rfl⟩
  obtain ⟨q2, hq2⟩ : ∃ q2, w.heap.size + 1 + 1 = q2 := ⟨_, rfl⟩
  obtain ⟨q3, hq3⟩ : ∃ q3, w.heap.size + 1 + 1 + 1 = q3 := ⟨_, rfl⟩
  rw [hq3, hq2, hq1, hq0]
  rw [hq0] at hb0
  rw [hq1] at hb1
  rw [hq2] at hc1
  rw [hq3] at hc2
  have hqq : w.heap.size ≤ q0 ∧ q0 < w0.heap.size := ⟨by omega, by omega⟩
  have hqr : w.heap.size ≤ q1 ∧ q1 < w0.heap.size := ⟨by omega, by omega⟩
  have hne : q1 ≠ q0 := by omega
  have hst := from_stops (fun k => k = q0 ∨ k = q1) w0 hx0 q2 q3 hc1 hc2 (by omega) (by omega) (by omega)
  have h00 : Gt w w0 q0 q1 (gapF s.b (vals ([] : List Em))).1 (gapF s.b (vals ([] : List Em))).2 w0 := ⟨hbel0, Kq.refl _ _ _, ⟨_, hb0, OwI.nil _ _⟩, hb1⟩
  have hszw := hbel0.size
  have hml := x.ok.len
  have hbb := x.ok.hb
  have hgv : Hid (∀ ys : List Em, vals ys = s.M → (gapF s.b (vals ys)).2 = GV) := Lib.hid fun ys h => by rw [h, ← hGV.out]; rfl
  have hgn := Lib.hid (fun ys : List Em => gap_next hbb ys)
  have hgl := Lib.hid (fun ys : List Em => gap_len hbb _ ys rfl)
  clear hb0 hb1 hc1 hc2 hx0 x1 x
  generalize s.b = b at *
  have hDq := Lib.hid (show q1 + 2 < w0.heap.size from by omega)
  replace hz0 := Lib.hid hz0
  have hne2 : (q1 = q0) = False := by simpa using hne
  have hne3 : (q0 = q1) = False := by simp; omega
  clear hq0 hq1 hq2 hq3
  refine wpIn_rangeFunc_ownF rfl (by omega) (gf := 59) (lb := #[.pointer (some ⟨q2, 0, none⟩), .pointer (some ⟨q3, 0, none⟩)]) rfl trivial (enters_of Try.func59 (by kernel_rfl) rfl)
    hst (fun h k => h.trans k) (fun W l o o' hl ho hc _ => ⟨by simp [World.putObj], fun k hk hn => (grownBy_putObj' W l o').block k (by have := (Array.getElem?_eq_some_iff.1 ho).1; omega) (fun e => by injection e with e; omega)⟩) (Below.refl _ _) (fun _ => rfl)
    (fun (pre : List Em) W => Gt w w0 q0 q1 (gapF b (vals pre)).1 (gapF b (vals pre)).2 W) (fun _ _ _ => False)
    (gt_from hqq hqr hszw _ _) (fun _ _ _ _ _ hs _ _ => hs) h00
    (fun x => { tmps := #[.pointer (some ⟨sb, 0, none⟩), undef, .slice none 0 0, .pointer (some ⟨q0, 0, none⟩), .pointer (some ⟨q1, 0, none⟩), .int .i64 x.val.s, .pointer (some ⟨sb, 0, none⟩), .bool true, .bool false, .pointer (some ⟨sb, 0, none⟩), .pointer (some ⟨sb, 0, none⟩), .pointer (some ⟨sb, 0, none⟩), .int .i64 b, .pointer (some ⟨sb, 0, none⟩), .pointer (some ⟨sb, 0, none⟩), .pointer (some ⟨sb, 0, none⟩), .pointer (some ⟨sb, 0, none⟩), .int .i64 b, .func (.func 59) #[] #[.pointer (some ⟨q2, 0, none⟩), .pointer (some ⟨q3, 0, none⟩)], .int .i64 x.val.s, .string x.val.k, undef, undef, undef, undef, undef, undef, undef, undef, undef, undef, undef, undef], defers := [] })
    ?assign ?body ?done ?stop
  case assign =>
    intro l' x W K hK
    gi_wp2
    simpa using hK
  case body =>
    rintro l' pre y W hM hlt
    have hsn := Lib.hid (show gapF b (vals (pre ++ [y])) = (y.val.s + 1, (gapF b (vals pre)).2 ++ rng (gapF b (vals pre)).1 (y.val.s - (gapF b (vals pre)).1).toNat) by rw [vals_snoc, gap_snoc])
    have hn1 := hgn.out pre
    have hl1 := hgl.out pre
    have hl2 : (gapF b (vals pre)).2.length ≤ 4097 * 4096 := Nat.le_trans hl1 (Nat.mul_le_mul_right _ (by omega))
    clear hl1
    generalize (gapF b (vals pre)).1 = N at *
    generalize (gapF b (vals pre)).2 = L at *
    obtain ⟨e, he1, he2⟩ := y
    obtain ⟨es, ev⟩ := e
    simp only at he1 he2
    have hM0 := Lib.hid (show Gt w w0 q0 q1 N (L ++ rng N (N - N).toNat) W by rw [Int.sub_self]; show Gt w w0 q0 q1 N (L ++ []) W; rw [List.append_nil]; exact hM)
    clear hM hst hgv hgn hgl h00
    have hsn2 := Lib.hid (show gapF b (vals (pre ++ [(⟨⟨es, ev⟩, he1, he2⟩ : Em)])) = (es + 1, L ++ rng N (es - N).toNat) from hsn.out)
    clear hsn
    gi_wp2
    gi_loopw [] (fun wr => ∃ j : Int, N ≤ j ∧ (j ≤ es ∨ j = N) ∧ Gt w w0 q0 q1 j (L ++ rng N (j - N).toNat) wr ∧ KeepsOthers W wr ∧ Kq (fun k => k = q0 ∨ k = q1) w0.heap.size W wr) (fun wr => 4097 - cOf (wr.cell? ⟨q1, 0, none⟩))
    case atStart => exact ⟨N, Int.le_refl _, .inr rfl, hM0.out, KeepsOthers.refl _, Kq.refl _ _ _⟩
    case round =>
      clear hM0
      obtain ⟨j, hj0, hj1, hG, hko, hkq⟩ := hrel
      obtain ⟨v, hv, hO⟩ := hG.row
      have dn := cell_of_row wr q1 0 _ TI _ hG.nxt
      simp only [List.getElem?_toArray, List.getElem?_cons_zero] at dn
      have hLl : (L ++ rng N (j - N).toNat).length ≤ 100000000 := by rw [List.length_append, rng_len]; omega
      obtain ⟨LL, hLL⟩ : ∃ LL, L ++ rng N (j - N).toNat = LL := ⟨_, rfl⟩
      rw [hLL] at hG hO hLl
      obtain ⟨a, cap, rfl⟩ := rows_form hO
      obtain ⟨m, hm⟩ : ∃ m, LL.length = m := ⟨_, rfl⟩
      rw [hm] at hv hO hLl
      have dv := cell_of_row wr q0 0 _ TIs _ hv
      simp only [List.getElem?_toArray, List.getElem?_cons_zero] at dv
      by_cases hlt2 : j < es
      · have i1 : decide (j < es) = true := decide_eq_true hlt2
        have hw : IntKind.i64.wrap (j + 1) = j + 1 := by rw [IntKind.wrap_i64]; omega
        have hrow : wr.ownsRow w0.heap.size TI 1 (.slice a m cap) m (ints LL) := by have := hO; unfold OwI at this; rw [hm] at this; exact this
        have hO2 := Lib.hid (rows_later hrow (alloc_b wr (.cells #[.int .i64 j] TI)))
        have hca := Lib.hid (heap_alloc_new wr (.cells #[.int .i64 j] TI))
        have hsz := Lib.hid (show w0.heap.size ≤ (wr.alloc (.cells #[.int .i64 j] TI)).heap.size by rw [World.size_alloc]; have := hG.kq0.1; omega)
        have hgr := Lib.hid (fun (v' : Value) (w1 : World) (h1 : w1.ownsRow w0.heap.size TI 1 v' (m + 1) (ints LL ++ [.int .i64 j])) (h2 : (wr.alloc (.cells #[.int .i64 j] TI)).grownBy w1 (Value.slice a m cap).ownBlock) =>
          hG.grow hqq hqr hne hv (by rw [hm]; exact h1) h2)
        have hnew := Lib.hid (show LL ++ [j] = L ++ rng N (j + 1 - N).toNat by
          rw [← hLL, show (j + 1 - N).toNat = (j - N).toNat + 1 by omega]
          show _ = L ++ (rng N (j - N).toNat ++ [N + ((j - N).toNat : Nat)])
          rw [List.append_assoc, show N + (((j - N).toNat : Nat) : Int) = j by omega])
        have hLl2 := Lib.hid hLl
        have hdn := Lib.hid dn
        clear hG hO hrow hv hLL hm hLl
        replace hko := Lib.hid hko
        gi_wp2_with (gi_at_builtin; refine appendIn_i rfl _ _ rfl w0.heap.size _ m _ rfl hO2.out wr.heap.size _ j rfl hca.out hLl2.out hsz.out ?_; intro v' w1 hown' hgrow; obtain ⟨g1, g2, g3, g4, g5⟩ := hgr.out _ _ hown' hgrow; obtain ⟨ga, gcap, rfl⟩ := rows_form hown'; have c4 := cell_of_row w1 q0 0 _ TIs _ g1; have f4 := frozen_of_row w1 q0 0 _ TIs g1; have c5 := cell_of_row w1 q1 0 _ TI _ g2; have f5 := frozen_of_row w1 q1 0 _ TI g2; replace g3 := Lib.hid g3)
        refine ⟨⟨j + 1, by omega, .inl (by omega), by rw [← hnew.out]; exact g3.out, hko.out.trans g4, hkq.trans g5⟩, ?_⟩
        have hc9 := cell_of_row _ q1 0 _ TI _ g3.out.nxt
        rw [hdn.out]
        rw [hc9]
        show 4097 - (j + 1).toNat < 4097 - j.toNat
        omega
      · have i1 : decide (j < es) = false := decide_eq_false hlt2
        have hw : IntKind.i64.wrap (es + 1) = es + 1 := by rw [IntKind.wrap_i64]; omega
        have f5 := frozen_of_row wr q1 0 _ TI hG.nxt
        obtain ⟨g1, g2, g3⟩ := hG.put hqr hne (es + 1)
        have hLe : LL = L ++ rng N (es - N).toNat := by
          rw [← hLL]
          rcases hj1 with h | h
          · rw [show j = es by omega]
          · rw [h, show (N - N).toNat = (es - N).toNat by omega]
        have hfin := Lib.hid (show Gt w w0 q0 q1 (gapF b (vals (pre ++ [(⟨⟨es, ev⟩, he1, he2⟩ : Em)]))).1 (gapF b (vals (pre ++ [(⟨⟨es, ev⟩, he1, he2⟩ : Em)]))).2 (wr.setCell ⟨q1, 0, none⟩ (.int .i64 (es + 1))) by rw [hsn2.out, ← hLe]; exact g1)
        clear hG hO hv hLL hm hLl g1 hLe
        gi_wp2
        exact ⟨hko.trans g2, hkq.trans g3, hfin.out⟩
  case done =>
    rintro D ys W hD hys hM hK
    rw [hgv.out ys hys] at hM
    obtain ⟨hb, hk0, ⟨v, hv, hr⟩, _⟩ := hM
    obtain ⟨a, m, cap, rfl⟩ : ∃ a m cap, v = .slice a m cap := by
      obtain ⟨a, c, e⟩ := rows_form hr
      exact ⟨a, _, c, e⟩
    have dv := (Boxed.cell (show Boxed W q0 TIs (.slice a m cap) from hv))
    have hfinal : Hid (OwI w.heap.size GV (.slice a m cap) (W.putObj D (.deferred none)) ∧ Below w.heap.size w (W.putObj D (.deferred none))) := Lib.hid (by
      have hg := grownBy_putObj' W D (.deferred none)
      refine ⟨rows_base (rows_kept hr fun k hk => hg.block k (World.ownsRow.lt hr k hk).2 fun e => ?_) hszw, hb.grown hg hb.size (fun k e => by cases e; omega)⟩
      cases e
      rcases hr.2 with ⟨h1, _⟩ | ⟨g, cap', cur, h1, _, hgb, _⟩
      · rw [h1] at hk; cases hk
      · rw [h1] at hk
        injection hk with hk
        have hk : g = D := hk
        subst hk
        rw [hgb] at hK
        cases hK)
    clear hgv hgn hgl hst hr hb hk0
    simp only [Exit.inBlock, Exit.then]
    go_at_K
    gi_wp2
    refine ⟨by simp, .inl ⟨_, _, rfl, run_takeDeferred hK, ?_⟩⟩
    exact ⟨.slice a m cap, by simp [results, Try.results28, go_sem], _, rfl, hfinal.out⟩
  case stop =>
    intro D c pre W _ _ hf
    exact hf.elim
end Go.Proofs.Ytgeejkedljhcoaa.Slt
