/- A writer's methods: New, valid, Uint, Int, Text, Bool, Bytes, Len. -/
import Derived.Test.YtnkmiigcglddmaaW04
namespace Go.Proofs.Ytnkmiigcglddmaa.Wire
open Go.RowKit Go.ChangeShapes
set_option linter.unusedVariables false
set_option linter.unusedSimpArgs false
attribute [local go_sem] Oper.semAt_some

theorem valid_any (p : Nat) (b : Bool) (w : World) (h : w.cell? ⟨p, 0, none⟩ = some (.bool b)) :
    Calls Try.prog 49 #[.pointer (some ⟨p, 0, none⟩)] w fun e w' => e = .returned (.bool b) ∧ w = w' := by
  go_enter Try.func49, Try.ntmps49
  go_wp2
  go_ret
  exact ⟨rfl, rfl⟩
theorem valid_nil (w : World) : Calls Try.prog 49 #[.pointer none] w fun e w' => e = .returned (.bool false) ∧ w = w' := by
  go_enter Try.func49, Try.ntmps49
  go_wp2
  go_ret
  exact ⟨rfl, rfl⟩

/-- What a writing leaves: the writer has the bytes l. -/
def Wrote (T : TypeId) (w : World) (p : Nat) (F : Nat → Prop) (l : List Nat) (e : Ending) (w' : World) : Prop :=
  e = .returned (.tuple #[]) ∧ (∃ v, WrAt T w' p (More F w w') v l) ∧ Keeps F w w'
abbrev TW : TypeId := 46
theorem tw_ne : TW ≠ 5 := by decide

theorem WrAt.still {T : TypeId} {w w' : World} {p : Nat} {F : Nat → Prop} {v : Value} {l : List Nat} (h : WrAt T w p F v l) (hp : w'.heap[p]? = w.heap[p]?) (hv : ∀ g, v.ownBlock = some g → w'.heap[g]? = w.heap[g]?) (hz : w.heap.size ≤ w'.heap.size) : WrAt T w' p F v l :=
  ⟨hp.trans h.blk, own_kept h.own hv, h.h8, h.fp, h.fv, fun k hk => Nat.lt_of_lt_of_le (h.lt k hk) hz⟩
theorem own_cells {w : World} {base n : Nat} {e : TypeId} {v : Value} {xs : List Value} (h : w.ownsRow base e 1 v n xs) : ∀ (g : Nat) (o : Obj), v.ownBlock = some g → w.heap[g]? = some o → o.isCells = true := by
  intro g o hg ho
  rcases h.2 with ⟨rfl, _⟩ | ⟨g', cap, cur, rfl, _, hh, _⟩
  · cases hg
  · have : g' = g := by simpa [Value.ownBlock] using hg
    subst this
    rw [hh] at ho
    cases ho
    rfl
theorem WrAt.turned {T : TypeId} {w w' : World} {p : Nat} {F : Nat → Prop} {v : Value} {l : List Nat} {row : Option Nat} (h : WrAt T w p F v l) (hg : w.grownBy w' row)
    (hr : ∀ r, row = some r → ∃ o : Obj, w.heap[r]? = some o ∧ o.isCells = false) : WrAt T w' p F v l := by
  refine h.still (hg.block p (blk_lt h.blk) fun e => ?_) (fun g hv => hg.block g (own_lt h.own g hv).2 fun e => ?_) hg.size
  · obtain ⟨o, ho, hc⟩ := hr p e.symm
    rw [h.blk] at ho; cases ho; cases hc
  · obtain ⟨o, ho, hc⟩ := hr g e.symm
    rw [own_cells h.own g o hv ho] at hc; cases hc
theorem WrAt.wide {T : TypeId} {w : World} {p : Nat} {F G : Nat → Prop} {v : Value} {l : List Nat} (h : WrAt T w p F v l) (hF : ∀ k, F k → G k) (hG : ∀ k, G k → k < w.heap.size) : WrAt T w p G v l :=
  ⟨h.blk, h.own, h.h8, hF p h.fp, fun g hg => hF g (h.fv g hg), hG⟩
theorem More.le {F : Nat → Prop} {w a b : World} (h : a.heap.size ≤ b.heap.size) (k : Nat) (hk : More F w a k) : More F w b k := hk.imp id fun h1 => ⟨h1.1, by omega⟩
theorem More.lt {F : Nat → Prop} {w a : World} (hF : ∀ k, F k → k < w.heap.size) (h : w.heap.size ≤ a.heap.size) (k : Nat) (hk : More F w a k) : k < a.heap.size := by
  rcases hk with hk | hk
  · have := hF k hk; omega
  · exact hk.2
theorem WrAt.behind {W w1 : World} {p : Nat} {F : Nat → Prop} {v : Value} {l : List Nat} {o : Obj} (h : WrAt TW W p F v l) (hg : ((W.alloc o).drew).grownBy w1 v.ownBlock) : w1.heap[p]? = some (.cells #[.bool true, v] TW (0, 0)) := by
  have h1 : (W.alloc o).drew.heap[p]? = some (.cells #[.bool true, v] TW (0, 0)) := (Below.heap_alloc W o p (blk_lt h.blk)).trans h.blk
  exact (hg.block p (blk_lt h1) (fun e => h.ne tw_ne e.symm)).trans h1
/-- The state between two rounds of Uint: the box of the receiver, and the writer. -/
structure Mid (w : World) (p : Nat) (F : Nat → Prop) (l : List Nat) (pre : List (Fin 256)) (W : World) : Prop where
  box : Boxed W w.heap.size 25 (.pointer (some ⟨p, 0, none⟩))
  wr : ∃ v, WrAt TW W p (More F w W) v (l ++ pre.map Fin.val)
  kp : Keeps F w W
theorem mid_from {w : World} {p : Nat} {F : Nat → Prop} {l : List Nat} (hF : ∀ k, F k → k < w.heap.size) (B : Nat) (hB : w.heap.size ≤ B) : OwnFrom B (Mid w p F l) := by
  rintro pre W W' row h hg hr
  obtain ⟨v, hw⟩ := h.wr
  have hk : Keeps F w W' := h.kp.grown hg fun g e => .inr (by have := (hr g e).1; omega)
  refine ⟨h.box.kept hg fun e => ?_, ⟨v, (hw.turned hg fun r e => (hr r e).2).wide (More.le hg.size) (More.lt hF hk.size)⟩, hk⟩
  obtain ⟨_, o, ho, hc⟩ := hr _ e.symm
  rw [show W.heap[w.heap.size]? = _ from h.box] at ho
  cases ho; cases hc

theorem Mid.boxed {w : World} {p : Nat} {F : Nat → Prop} {l : List Nat} {pre : List (Fin 256)} {W w1 : World} {v : Value} {o : Obj} (h : Mid w p F l pre W) (hw : WrAt TW W p (More F w W) v (l ++ pre.map Fin.val)) (hg : (W.alloc o).drew.grownBy w1 v.ownBlock) :
    w1.cell? ⟨w.heap.size, 0, none⟩ = some (.pointer (some ⟨p, 0, none⟩)) := by
  have hb : Below W.heap.size W (W.alloc o).drew := ((Below.refl _ _).alloc (Nat.le_refl _) o).drew
  have hx1 : Boxed (W.alloc o).drew w.heap.size 25 (.pointer (some ⟨p, 0, none⟩)) := (hb.block _ (Boxed.lt h.box)).trans h.box
  exact (hx1.kept hg (hx1.not_row (by decide) (own_kept hw.own (fun k hk => hb.block k (own_lt hw.own k hk).2)))).cell
/-- Behind an append of one byte, and the store. -/
theorem Mid.next {w : World} {p : Nat} {F : Nat → Prop} {l : List Nat} {pre : List (Fin 256)} {W w1 : World} {v v' : Value} {x : Fin 256} {B : Nat} {o : Obj} (hF : ∀ k, F k → k < w.heap.size) (h : Mid w p F l pre W) (hw : WrAt TW W p (More F w W) v (l ++ pre.map Fin.val))
    (ho : w1.ownsRow 0 5 1 v' ((l ++ pre.map Fin.val).length + 1) (bv (l ++ pre.map Fin.val) ++ bv [x.val])) (hg : (W.drew.alloc o).grownBy w1 v.ownBlock) (hl : v'.ownBlock = v.ownBlock ∨ v'.ownBlock = some (W.drew.alloc o).heap.size) :
    KeepsFrom B W (w1.setCell ⟨p, 1, none⟩ v') ∧ True ∧ Mid w p F l (pre ++ [x]) (w1.setCell ⟨p, 1, none⟩ v') := by
  have e : bv (l ++ pre.map Fin.val) ++ bv [x.val] = bv (l ++ (pre ++ [x]).map Fin.val) := by rw [bv_app]; simp
  have e2 : (l ++ pre.map Fin.val).length + 1 = (l ++ (pre ++ [x]).map Fin.val).length := by simp; omega
  rw [e, e2] at ho
  have hb : Below W.heap.size W (W.drew.alloc o) := (Below.refl _ _).drew.alloc (Nat.le_refl _) o
  have h8 : ∀ c ∈ l ++ (pre ++ [x]).map Fin.val, c < 256 := by
    intro c hc
    rw [List.map_append, ← List.append_assoc] at hc
    rcases List.mem_append.1 hc with hc | hc
    · exact hw.h8 c hc
    · simp at hc; subst hc; exact x.isLt
  obtain ⟨s1, s2⟩ := hw.stored tw_ne (Keeps.of_below hb) (Same.of_below hb hw.lt) hg ho h8 hl rfl
  have hk : Keeps F w (w1.setCell ⟨p, 1, none⟩ v') := h.kp.next s2
  have hsz := s2.size
  refine ⟨?_, trivial, ?_, ⟨v', s1.wide (fun k hk' => ?_) (More.lt hF hk.size)⟩, hk⟩
  · refine KeepsOthers.from ?_ B
    refine (((KeepsOthers.drew W).trans (KeepsOthers.alloc _ o)).trans (KeepsOthers.of_grownBy hg fun j ob ej hj => ?_)).trans (KeepsOthers.setCell _ _ _)
    exact own_cells (own_kept hw.own (fun k hk => hb.block k (own_lt hw.own k hk).2)) j ob ej hj
  · have hne : w.heap.size ≠ p := by
      intro e
      have h1 : W.heap[w.heap.size]? = _ := h.box
      rw [e, hw.blk] at h1
      injection h1 with h1
      injection h1 with h1
      simp at h1
    have hx1 : Boxed (W.drew.alloc o) w.heap.size 25 (.pointer (some ⟨p, 0, none⟩)) := (hb.block _ (Boxed.lt h.box)).trans h.box
    have hown := own_kept hw.own (w' := W.drew.alloc o) (fun k hk => hb.block k (own_lt hw.own k hk).2)
    have hx2 : Boxed w1 w.heap.size 25 (.pointer (some ⟨p, 0, none⟩)) := hx1.kept hg (hx1.not_row (by decide) hown)
    exact (Below.heap_setCell w1 ⟨p, 1, none⟩ v' w.heap.size hne).trans hx2
  · rcases hk' with hk' | hk'
    · exact More.le hsz k hk'
    · exact .inr ⟨by have := h.kp.size; omega, hk'.2⟩

theorem bs_byte (W : World) (x : Fin 256) : Bs (W.alloc (.cells #[.int .u8 (x.val : Int)] 5)).drew (fun _ => True) (.slice (some ⟨W.heap.size, 0, none⟩) 1 1) [x.val] :=
  ⟨fun c hc => by simp at hc; subst hc; exact x.isLt, _, 1, rfl, Nat.le_refl _, fun _ => ⟨W.heap.size, 0, rfl, trivial, fun i hi => by
    have : i = 0 := by simp at hi; omega
    subst this
    exact Boxed.cell (Boxed.new W 5 (.int .u8 (x.val : Int)))⟩⟩
set_option maxRecDepth 100000 in
set_option maxHeartbeats 2000000 in
theorem uint_any (p : Nat) (F : Nat → Prop) (v : Value) (l : List Nat) (n : Nat) (w : World) (h : WrAt TW w p F v l) (hn : n < 18446744073709551616) (hl : l.length ≤ 100000000) :
    Calls Try.prog 30 #[.pointer (some ⟨p, 0, none⟩), .int .u64 n] w (Wrote TW w p F (l ++ digs n)) := by
  refine (callsIn_wide (n := 4)).1 ?_
  refine callsIn_of_wp_marks Try.func30 rfl trivial ?_ rfl
  simp only [Try.ntmps30, List.size_toArray, List.length_cons, List.length_nil, Nat.reduceAdd, Nat.reduceSub, Array.replicate_succ, Array.replicate_zero, List.push_toArray, List.append_toArray, List.nil_append, List.cons_append]
  have hc := h.made
  have hpl := h.lt p h.fp
  have bX := Boxed.new w 25 (.pointer (some ⟨p, 0, none⟩))
  have HF := Lib.hid h.lt
  have hb1 : Below w.heap.size w ((w.alloc (.cells #[.pointer (some ⟨p, 0, none⟩)] 25)).alloc (.cells #[.int .u64 n] 29)) := ((Below.refl _ w).alloc (Nat.le_refl _) _).alloc (by simp) _
  have hmid : Mid w p F l [] ((w.alloc (.cells #[.pointer (some ⟨p, 0, none⟩)] 25)).alloc (.cells #[.int .u64 n] 29)) :=
    ⟨bX.alloc _, ⟨v, (by rw [List.map_nil, List.append_nil]; exact (h.below hb1).wide (fun k hk => Or.inl hk) (More.lt h.lt hb1.size))⟩, Keeps.of_below hb1⟩
  gi_wp2_with (first
    | (refine ⟨trivial, ?_⟩; gi_at_call 49; refine (callsIn_wide.2 (valid_any p true _ (by simp [go_sem, hc, hpl]))).mono ?_; rintro e w' ⟨rfl, rfl⟩)
    | (refine ⟨trivial, ?_⟩; gi_at_call 58; refine (callsIn_wide.2 (digits_any n _)).mono ?_; rintro e w' ⟨rfl, rfl⟩))
  have hmid := Lib.hid hmid
  have hbn := Boxed.new (w.alloc (.cells #[.pointer (some ⟨p, 0, none⟩)] 25)) 29 (.int .u64 n)
  rw [World.size_alloc] at hbn
  refine wpIn_rangeFunc_ownG rfl (by omega) (gf := 79) (lb := #[.pointer (some ⟨w.heap.size + 1, 0, none⟩)]) rfl trivial (enters_of Try.func79 (by kernel_rfl) rfl)
    (digits_stops n hn (w.heap.size + 1) _ hbn.cell) (fun _ _ => trivial) (fun _ _ _ _ _ _ _ _ => trivial) (Below.refl _ _) (fun _ => rfl)
    (Mid w p F l) (fun _ _ _ => False) (mid_from HF.out _ (by simp; omega)) (fun _ _ _ _ _ hs _ _ => hs) hmid.out
    (fun x => { tmps := #[.pointer (some ⟨p, 0, none⟩), .int .u64 n, .pointer (some ⟨w.heap.size, 0, none⟩), undef, .int .u8 (x.val : Int), .pointer (some ⟨p, 0, none⟩), .bool true, .bool false, .int .u64 n, .func (.func 79) #[] #[.pointer (some ⟨w.heap.size + 1, 0, none⟩)], .int .u8 (x.val : Int), undef, undef, undef, undef, undef, undef, undef, undef, undef, undef], defers := [] }) ?assign ?body ?done ?stop
  case assign =>
    intro l' x W K hK
    gi_wp2
    exact hK
  case body =>
    rintro l' pre x W hM hlt
    obtain ⟨v1, hw1⟩ := hM.wr
    have c1 := Boxed.cell hM.box
    have c2 := hw1.all
    have hpW := blk_lt hw1.blk
    have hxW := Boxed.lt hM.box
    have hM := Lib.hid hM
    have hW := Lib.hid hw1
    obtain ⟨k, hk⟩ : ∃ k, (l ++ pre.map Fin.val).length = k := ⟨_, rfl⟩
    have hkl : k ≤ 100000010 := by rw [← hk]; simp; omega
    have ho0 := Lib.hid (show (W.alloc (.cells #[.int .u8 (x.val : Int)] 5)).drew.ownsRow 0 5 1 v1 k (bv (l ++ pre.map Fin.val)) by rw [← hk]; exact own_kept hw1.own (fun k hk => Below.heap_alloc W _ k (own_lt hw1.own k hk).2))
    have HN := Lib.hid (fun (w1 : World) (g cap : Nat) (ho : w1.ownsRow 0 5 1 (.slice (some ⟨g, 0, none⟩) (k + 1) cap) (k + 1) (bv (l ++ pre.map Fin.val) ++ bv [x.val])) (hg : (W.alloc (.cells #[.int .u8 (x.val : Int)] 5)).drew.grownBy w1 v1.ownBlock) hl' =>
      hM.out.next (B := ((w.alloc (.cells #[.pointer (some ⟨p, 0, none⟩)] 25)).alloc (.cells #[.int .u64 n] 29)).heap.size) (o := .cells #[.int .u8 (x.val : Int)] 5) HF.out hW.out (v' := .slice (some ⟨g, 0, none⟩) (k + 1) cap) (by rw [hk]; exact ho) hg hl')
    clear hw1 hk
    gi_wp2
    refine region_round (S := fun w' => w'.cell? ⟨w.heap.size, 0, none⟩ = some (.pointer (some ⟨p, 0, none⟩))) (by kernel_rfl) (plainOps_no (by kernel_rfl)) (fun _ _ h => h) ?_
    have hS1 : (W.alloc (.cells #[.int .u8 (x.val : Int)] 5)).drew.cell? ⟨w.heap.size, 0, none⟩ = some (.pointer (some ⟨p, 0, none⟩)) := (Boxed.alloc hM.out.box _).cell
    have hS : W.drew.cell? ⟨w.heap.size, 0, none⟩ = some (.pointer (some ⟨p, 0, none⟩)) := c1
    refine wpAnyH_take (i := 0) (v := .pointer (some ⟨p, 0, none⟩)) rfl (by kernel_rfl) (by kernel_rfl) (by kernel_rfl) (fun _ _ _ h => h) (Or.inl ⟨by rfl, by intro w' hSw; go_simp⟩) hS ?_
    simp only [Act.put, List.setIfInBounds_toArray, List.set_cons_zero, List.set_cons_succ]
    refine wpAnyH_take (i := 1) (v := .pointer (some ⟨p, 0, none⟩)) rfl (by kernel_rfl) (by kernel_rfl) (by kernel_rfl) (fun _ _ _ h => h) (Or.inl ⟨by rfl, by intro w' hSw; go_simp⟩) hS ?_
    simp only [Act.put, List.setIfInBounds_toArray, List.set_cons_zero, List.set_cons_succ]
    refine wpAnyH_take (i := 2) (v := .pointer (some ⟨p, 0, none⟩)) rfl (by kernel_rfl) (by kernel_rfl) (by kernel_rfl) (fun _ _ _ h => h) (Or.inl ⟨by rfl, by intro w' hSw; go_simp⟩) hS ?_
    simp only [Act.put, List.setIfInBounds_toArray, List.set_cons_zero, List.set_cons_succ]
    refine wpAnyH_take (i := 3) (v := .pointer (some ⟨p, 1, none⟩)) rfl (by kernel_rfl) (by kernel_rfl) (by kernel_rfl) (fun _ _ _ h => h) (Or.inl ⟨by rfl, by intro w' hSw; go_simp⟩) hS ?_
    simp only [Act.put, List.setIfInBounds_toArray, List.set_cons_zero, List.set_cons_succ]
    refine wpAnyH_take (i := 5) (v := .int .u8 (x.val : Int)) rfl (by kernel_rfl) (by kernel_rfl) (by kernel_rfl) (fun _ _ _ h => h) (Or.inl ⟨by rfl, by intro w' hSw; go_simp⟩) hS ?_
    simp only [Act.put, List.setIfInBounds_toArray, List.set_cons_zero, List.set_cons_succ]
    refine wpAnyH_ready (rs := [4, 6]) (by kernel_rfl) (by simp) ?_
    refine AllReadyH.cons rfl (fun K hK => ?_) (AllReadyH.cons rfl (fun K hK => ?_) AllReadyH.nil)
    · go_simp
      refine hK.out _ _ hS (fun _ => ?_)
      clear hK K
      refine wpAnyH_ready (rs := [6]) (by kernel_rfl) (by simp) ?_
      refine AllReadyH.cons rfl (fun K hK => ?_) AllReadyH.nil
      go_simp
      refine hK.out _ _ hS1 (fun _ => ?_)
      clear hK K
      refine wpAnyH_ready (rs := [7]) (by kernel_rfl) (by simp) ?_
      refine AllReadyH.cons rfl (fun K hK => ?_) AllReadyH.nil
      refine step_append_b rfl _ _ rfl 0 v1 k _ rfl ho0.out (fun _ => True) (some ⟨W.heap.size, 0, none⟩) 1 1 [x.val] rfl (bs_byte W x) (by omega) (by simp) ?_
      intro v' w1 ho hg hl'
      obtain ⟨g', cap', rfl⟩ := ownsRow_succ ho
      have hb1 := hW.out.behind hg
      have c3 := blk_cell hb1 1 _ rfl
      have f3 := blk_frozen hb1 1
      have hS2 := hM.out.boxed hW.out hg
      refine hK.out _ _ hS2 (fun _ => ?_)
      clear hK K
      simp only [Act.put, List.setIfInBounds_toArray, List.set_cons_zero, List.set_cons_succ]
      refine wpAnyH_take (i := 8) (v := .pointer (some ⟨p, 0, none⟩)) rfl (by kernel_rfl) (by kernel_rfl) (by kernel_rfl) (fun _ _ _ h => h) (Or.inl ⟨by rfl, by intro w' hSw; go_simp⟩) hS2 ?_
      simp only [Act.put, List.setIfInBounds_toArray, List.set_cons_zero, List.set_cons_succ]
      refine wpAnyH_take (i := 9) (v := .pointer (some ⟨p, 1, none⟩)) rfl (by kernel_rfl) (by kernel_rfl) (by kernel_rfl) (fun _ _ _ h => h) (Or.inl ⟨by rfl, by intro w' hSw; go_simp⟩) hS2 ?_
      simp only [Act.put, List.setIfInBounds_toArray, List.set_cons_zero, List.set_cons_succ]
      refine wpAnyH_ready (rs := [10]) (by kernel_rfl) (by simp) ?_
      refine AllReadyH.cons rfl (fun K hK => ?_) AllReadyH.nil
      go_simp
      have hfin := HN.out w1 g' cap' ho hg hl'
      refine hK.out _ _ (Boxed.cell hfin.2.2.box) (fun _ => ?_)
      clear hK K
      refine wpAnyH_done (by kernel_rfl) ?_ _
      exact hfin
    · go_simp
      refine hK.out _ _ hS1 (fun _ => ?_)
      clear hK K
      refine wpAnyH_ready (rs := [4]) (by kernel_rfl) (by simp) ?_
      refine AllReadyH.cons rfl (fun K hK => ?_) AllReadyH.nil
      go_simp
      refine hK.out _ _ hS1 (fun _ => ?_)
      clear hK K
      refine wpAnyH_ready (rs := [7]) (by kernel_rfl) (by simp) ?_
      refine AllReadyH.cons rfl (fun K hK => ?_) AllReadyH.nil
      refine step_append_b rfl _ _ rfl 0 v1 k _ rfl ho0.out (fun _ => True) (some ⟨W.heap.size, 0, none⟩) 1 1 [x.val] rfl (bs_byte W x) (by omega) (by simp) ?_
      intro v' w1 ho hg hl'
      obtain ⟨g', cap', rfl⟩ := ownsRow_succ ho
      have hb1 := hW.out.behind hg
      have c3 := blk_cell hb1 1 _ rfl
      have f3 := blk_frozen hb1 1
      have hS2 := hM.out.boxed hW.out hg
      refine hK.out _ _ hS2 (fun _ => ?_)
      clear hK K
      simp only [Act.put, List.setIfInBounds_toArray, List.set_cons_zero, List.set_cons_succ]
      refine wpAnyH_take (i := 8) (v := .pointer (some ⟨p, 0, none⟩)) rfl (by kernel_rfl) (by kernel_rfl) (by kernel_rfl) (fun _ _ _ h => h) (Or.inl ⟨by rfl, by intro w' hSw; go_simp⟩) hS2 ?_
      simp only [Act.put, List.setIfInBounds_toArray, List.set_cons_zero, List.set_cons_succ]
      refine wpAnyH_take (i := 9) (v := .pointer (some ⟨p, 1, none⟩)) rfl (by kernel_rfl) (by kernel_rfl) (by kernel_rfl) (fun _ _ _ h => h) (Or.inl ⟨by rfl, by intro w' hSw; go_simp⟩) hS2 ?_
      simp only [Act.put, List.setIfInBounds_toArray, List.set_cons_zero, List.set_cons_succ]
      refine wpAnyH_ready (rs := [10]) (by kernel_rfl) (by simp) ?_
      refine AllReadyH.cons rfl (fun K hK => ?_) AllReadyH.nil
      go_simp
      have hfin := HN.out w1 g' cap' ho hg hl'
      refine hK.out _ _ (Boxed.cell hfin.2.2.box) (fun _ => ?_)
      clear hK K
      refine wpAnyH_done (by kernel_rfl) ?_ _
      exact hfin
  case done =>
    rintro D ys W hD hys hM hK
    gi_wp2
    refine ⟨by simp, .inl ⟨_, _, rfl, run_takeDeferred hK, ?_⟩⟩
    have hD' : w.heap.size ≤ D := by simp at hD; omega
    have hM2 := mid_from HF.out w.heap.size (Nat.le_refl _) ys W (W.putObj D (.deferred none)) (some D) hM (grownBy_putObj' W D _) (fun r e => by cases e; exact ⟨hD', _, hK, rfl⟩)
    obtain ⟨v2, hw2⟩ := hM2.wr
    rw [hys] at hw2
    exact ⟨_, results_none rfl _ _ _, rfl, ⟨v2, hw2⟩, hM2.kp⟩
  case stop =>
    rintro D c pre W _ _ h _
    exact h.elim
end Go.Proofs.Ytnkmiigcglddmaa.Wire
