/- divide, Take. -/
import Derived.Test.YtbgjiokocjnjhaaD11
namespace Go.Proofs.Ytbgjiokocjnjhaa.Ded
open Go.RowKit Go.Lib Go.Shelf
open Rng (tx nameOk hasR okR)
open Eff (TE)
set_option linter.unusedVariables false
set_option linter.unusedSimpArgs false
set_option maxRecDepth 100000
variable {base : Nat} {w : World} {b : Nat} {v : Value} {n : Int} {L : List En}

abbrev TRg : TypeId := 25
abbrev rgBx (r : Rng.Rg) : Obj := .cells #[.string (tx r.f), .string (tx r.t)] TRg (0, 0)
theorem cl_any (x : En) (rb : Nat) (r : Rng.Rg) (m : Bool) (w : World) (hb : w.heap[rb]? = some (rgBx r)) (hm : hasR r x.ky = m) :
    Calls Try.prog 40 #[enA x, .pointer (some ⟨rb, 0, none⟩)] w fun e w' => e = .returned (.bool m) ∧ Below w.heap.size w w' := by
  have hH := fun W => Rng.has_rng r x.ky W
  rw [hm] at hH
  replace hH := Lib.hid hH
  have hb0 : Below w.heap.size w (w.alloc (.cells (ec x).toArray TN)) := alloc_b _ _
  have hlt : rb < w.heap.size := (Array.getElem?_eq_some_iff.1 hb).1
  have c0 : w.cell? ⟨rb, 0, none⟩ = some (.string (tx r.f)) := cell_of_row w _ 0 _ TRg _ hb
  have c1 : w.cell? ⟨rb, 1, none⟩ = some (.string (tx r.t)) := cell_of_row w _ 1 _ TRg _ hb
  have HB := Lib.hid hb0
  clear hb0 hb hm
  go_enter Try.func40, Try.ntmps40
  go_wp2_with (go_at_call 41; refine (hH.out _).mono ?_; rintro e w2 ⟨rfl, h2⟩)
  go_ret
  exact ⟨rfl, HB.out.trans (h2.mono HB.out.size)⟩
structure VAt (base : Nat) (w : World) (v : Value) (L : List En) (rb : Nat) (r : Rng.Rg) (k : Nat) (v1 v2 : Value) (W : World) : Prop where
  row : Ow base L v W
  o1 : Ow w.heap.size ((L.take k).filter fun x => hasR r x.ky) v1 W
  o2 : Ow w.heap.size ((L.take k).filter fun x => !hasR r x.ky) v2 W
  ne : ∀ j, v1.ownBlock = some j → v2.ownBlock ≠ some j
  bel : Below w.heap.size w W
  lt : ∀ j, v.ownBlock = some j → j < w.heap.size
  rg : w.heap[rb]? = some (rgBx r)
theorem VAt.later {rb : Nat} {r : Rng.Rg} {k : Nat} {v1 v2 : Value} {W W' : World} (h : VAt base w v L rb r k v1 v2 W) (hb : Below W.heap.size W W') : VAt base w v L rb r k v1 v2 W' :=
  ⟨h.row.later hb, h.o1.later hb, h.o2.later hb, h.ne, h.bel.trans (hb.mono h.bel.size), h.lt, h.rg⟩
theorem VAt.rgw {rb : Nat} {r : Rng.Rg} {k : Nat} {v1 v2 : Value} {W : World} (h : VAt base w v L rb r k v1 v2 W) : W.heap[rb]? = some (rgBx r) :=
  (h.bel.block rb (Array.getElem?_eq_some_iff.1 h.rg).1).trans h.rg
theorem VAt.step1 {rb : Nat} {r : Rng.Rg} {k : Nat} {v1 v2 v' : Value} {W w' : World} {x : En} (h : VAt base w v L rb r k v1 v2 W) (hx : L[k]? = some x) (hp : hasR r x.ky = true)
    (hO : Ow w.heap.size (((L.take k).filter fun x => hasR r x.ky) ++ [x]) v' w') (hG : W.grownBy w' v1.ownBlock) (hv : v'.ownBlock = v1.ownBlock ∨ v'.ownBlock = some W.heap.size) : VAt base w v L rb r (k + 1) v' v2 w' := by
  have hk : k < L.length := (List.getElem?_eq_some_iff.1 hx).1
  have hxe : L[k] = x := by rw [List.getElem?_eq_getElem hk] at hx; simpa using hx
  have hws := h.bel.size
  refine ⟨h.row.kept fun j hj => hG.block j (by have := h.lt j hj; omega) (fun e => ?_), ?_, ?_, fun j hj e => ?_, h.bel.grown hG hws (fun j e => (h.o1.lt j e).1), h.lt, h.rg⟩
  · have h1 := h.lt j hj
    have h2 := (h.o1.lt j e.symm).1
    omega
  · rw [List.take_succ_eq_append_getElem hk, hxe, List.filter_append, List.filter_cons_of_pos (by simpa using hp), List.filter_nil]
    exact hO
  · rw [List.take_succ_eq_append_getElem hk, hxe, List.filter_append, List.filter_cons_of_neg (by simp [hp]), List.filter_nil, List.append_nil]
    exact h.o2.kept fun j hj => hG.block j (h.o2.lt j hj).2 (fun e => h.ne j e.symm hj)
  · rcases hv with hv | hv
    · exact h.ne j (by rw [← hv]; exact hj) e
    · have := (h.o2.lt j e).2
      rw [hv] at hj
      injection hj with hj
      omega
theorem VAt.step2 {rb : Nat} {r : Rng.Rg} {k : Nat} {v1 v2 v' : Value} {W w' : World} {x : En} (h : VAt base w v L rb r k v1 v2 W) (hx : L[k]? = some x) (hp : hasR r x.ky = false)
    (hO : Ow w.heap.size (((L.take k).filter fun x => !hasR r x.ky) ++ [x]) v' w') (hG : W.grownBy w' v2.ownBlock) (hv : v'.ownBlock = v2.ownBlock ∨ v'.ownBlock = some W.heap.size) : VAt base w v L rb r (k + 1) v1 v' w' := by
  have hk : k < L.length := (List.getElem?_eq_some_iff.1 hx).1
  have hxe : L[k] = x := by rw [List.getElem?_eq_getElem hk] at hx; simpa using hx
  have hws := h.bel.size
  refine ⟨h.row.kept fun j hj => hG.block j (by have := h.lt j hj; omega) (fun e => ?_), ?_, ?_, fun j hj e => ?_, h.bel.grown hG hws (fun j e => (h.o2.lt j e).1), h.lt, h.rg⟩
  · have h1 := h.lt j hj
    have h2 := (h.o2.lt j e.symm).1
    omega
  · rw [List.take_succ_eq_append_getElem hk, hxe, List.filter_append, List.filter_cons_of_neg (by simp [hp]), List.filter_nil, List.append_nil]
    exact h.o1.kept fun j hj => hG.block j (h.o1.lt j hj).2 (fun e => h.ne j hj e.symm)
  · rw [List.take_succ_eq_append_getElem hk, hxe, List.filter_append, List.filter_cons_of_pos (by simp [hp]), List.filter_nil]
    exact hO
  · rcases hv with hv | hv
    · exact h.ne j hj (by rw [← hv]; exact e)
    · have := (h.o1.lt j hj).2
      rw [hv] at e
      injection e with e
      omega
def Divd (L : List En) (r : Rng.Rg) (w : World) (e : Ending) (w' : World) : Prop :=
  ∃ v1 v2, e = .returned (.tuple #[v1, v2]) ∧ Ow w.heap.size (L.filter fun x => hasR r x.ky) v1 w' ∧ Ow w.heap.size (L.filter fun x => !hasR r x.ky) v2 w' ∧ Below w.heap.size w w'
set_option maxHeartbeats 1000000 in
theorem divide_any (v : Value) (L : List En) (rb : Nat) (r : Rng.Rg) (w : World) (hown : Ow base L v w) (hn : L.length ≤ 100000000) (hrb : w.heap[rb]? = some (rgBx r)) :
    Calls Try.prog 39 #[v, .func (.func 40) #[] #[.pointer (some ⟨rb, 0, none⟩)]] w (Divd L r w) := by
  have E0 : VAt base w v L rb r 0 (.slice none 0 0) (.slice none 0 0) w := ⟨hown, by simpa using Ow.nil _ _, by simpa using Ow.nil _ _, (fun j hj => by cases hj), Below.refl _ _, (fun j hj => (hown.lt j hj).2), hrb⟩
  replace E0 := Lib.hid E0
  obtain ⟨a, c, rfl⟩ := hown.form
  clear hown hrb
  go_enter Try.func39, Try.ntmps39
  go_wp2
  go_loopw [4, 5, 10] (fun s4 s5 s10 wr => ∃ k : Nat, s10 = .int .i64 k ∧ k ≤ L.length ∧ Hid (VAt base w (.slice a L.length c) L rb r k s4 s5 wr)) (fun _ _ s10 _ => L.length - (intOf s10).toNat)
  case atStart => exact ⟨0, rfl, Nat.zero_le _, E0⟩
  case round =>
    obtain ⟨k, rfl, hkl, E1⟩ := hrel
    by_cases hlt : k < L.length
    · obtain ⟨x, hx⟩ : ∃ x, L[k]? = some x := ⟨_, List.getElem?_eq_getElem hlt⟩
      have HX := Lib.hid hx
      clear hx
      obtain ⟨hfl, ⟨h0, h00⟩ | ⟨g, cap, cur, h1, hgb, hgg, hle, hm, hsz, ht⟩⟩ := E1.out.row
      · omega
      injection h1 with e1 e2 e3
      subst e1 e3
      obtain ⟨s0, s1, s2, s3, s4, s5, s6⟩ := row7 (cap := 0) hgg ht HX.out
      clear hgg ht hsz hfl
      have hbx : Below wr.heap.size wr (wr.alloc (.cells (ec x).toArray TN)) := alloc_b _ _
      have hblk : (wr.alloc (.cells (ec x).toArray TN)).heap[wr.heap.size]? = some (.cells (ec x).toArray TN (0, 0)) := heap_alloc_new _ _
      have HC : Hid (∀ m, hasR r x.ky = m → Calls Try.prog 40 #[enA x, .pointer (some ⟨rb, 0, none⟩)] (wr.alloc (.cells (ec x).toArray TN)) fun e w' => e = .returned (.bool m) ∧ Below (wr.alloc (.cells (ec x).toArray TN)).heap.size (wr.alloc (.cells (ec x).toArray TN)) w') :=
        Lib.hid fun m hm => cl_any x rb r m _ (E1.out.later hbx).rgw hm
      have HN : Hid (∀ w2, Below (wr.alloc (.cells (ec x).toArray TN)).heap.size (wr.alloc (.cells (ec x).toArray TN)) w2 → w2.heap[wr.heap.size]? = some (.cells (ec x).toArray TN (0, 0))) :=
        Lib.hid fun w2 h2 => (h2.block _ (Array.getElem?_eq_some_iff.1 hblk).1).trans hblk
      have HL : Hid (∀ w2, Below (wr.alloc (.cells (ec x).toArray TN)).heap.size (wr.alloc (.cells (ec x).toArray TN)) w2 → VAt base w (.slice (some ⟨g, 0, none⟩) L.length c) L rb r k u4 u5 (w2.alloc (.cells (ec x).toArray TN))) :=
        Lib.hid fun w2 h2 => ((E1.out.later hbx).later h2).later (alloc_b _ _)
      have hfl : ∀ q : En → Bool, ((L.take k).filter q).length ≤ 100000000 := fun q => by
        have := List.length_filter_le q (L.take k)
        rw [List.length_take] at this
        omega
      replace hfl := Lib.hid hfl
      clear hbx hblk
      cases hp : hasR r x.ky with
      | true =>
        have HA : Hid (∀ w2, Below (wr.alloc (.cells (ec x).toArray TN)).heap.size (wr.alloc (.cells (ec x).toArray TN)) w2 → ∃ v' w', (Builtin.append_ #[TNs, TNs] TNs #[u4, .slice (some ⟨w2.heap.size, 0, none⟩) 1 1]).run Try.prog (w2.alloc (.cells (ec x).toArray TN)) = .ok v' w' ∧ VAt base w (.slice (some ⟨g, 0, none⟩) L.length c) L rb r (k + 1) v' u5 w') := Lib.hid fun w2 h2 => by
          have hV := HL.out w2 h2
          obtain ⟨v', w', hr, hO, hG, hv⟩ := run_append_en w.heap.size _ TNs u4 _ hV.o1 w2.heap.size 1 x (heap_alloc_new _ _) (hfl.out _) hV.bel.size
          exact ⟨v', w', hr, hV.step1 HX.out hp hO hG hv⟩
        have HC2 := Lib.hid (HC.out true hp)
        obtain ⟨a1, m1, c1, rfl⟩ := ow_form3 E1.out.o1
        clear hp HC E1 HL
        go_wp2_with (first
          | (go_at_call 40; refine HC2.out.mono ?_; rintro e w2 ⟨rfl, h2⟩; obtain ⟨v', w', hr, hV⟩ := HA.out w2 h2; have hr := Lib.hid hr; have hV := Lib.hid hV; obtain ⟨f0, f1, f2, f3, f4, f5, f6⟩ := (NBx.mk (w0 := w2) (HN.out w2 h2) (Below.refl _ _)).cells; clear h2)
          | (at_builtin; refine Lib.wpList_append_run _ rfl _ _ _ _ rfl _ _ rfl rfl _ _ hr.out ?_))
        go_roundw
        case rel => exact ⟨k + 1, by go_num, by omega, hV⟩
        case measure => simp [intOf]; omega
      | false =>
        have HA : Hid (∀ w2, Below (wr.alloc (.cells (ec x).toArray TN)).heap.size (wr.alloc (.cells (ec x).toArray TN)) w2 → ∃ v' w', (Builtin.append_ #[TNs, TNs] TNs #[u5, .slice (some ⟨w2.heap.size, 0, none⟩) 1 1]).run Try.prog (w2.alloc (.cells (ec x).toArray TN)) = .ok v' w' ∧ VAt base w (.slice (some ⟨g, 0, none⟩) L.length c) L rb r (k + 1) u4 v' w') := Lib.hid fun w2 h2 => by
          have hV := HL.out w2 h2
          obtain ⟨v', w', hr, hO, hG, hv⟩ := run_append_en w.heap.size _ TNs u5 _ hV.o2 w2.heap.size 1 x (heap_alloc_new _ _) (hfl.out _) hV.bel.size
          exact ⟨v', w', hr, hV.step2 HX.out hp hO hG hv⟩
        have HC2 := Lib.hid (HC.out false hp)
        obtain ⟨a1, m1, c1, rfl⟩ := ow_form3 E1.out.o2
        clear hp HC E1 HL
        go_wp2_with (first
          | (go_at_call 40; refine HC2.out.mono ?_; rintro e w2 ⟨rfl, h2⟩; obtain ⟨v', w', hr, hV⟩ := HA.out w2 h2; have hr := Lib.hid hr; have hV := Lib.hid hV; obtain ⟨f0, f1, f2, f3, f4, f5, f6⟩ := (NBx.mk (w0 := w2) (HN.out w2 h2) (Below.refl _ _)).cells; clear h2)
          | (at_builtin; refine Lib.wpList_append_run _ rfl _ _ _ _ rfl _ _ rfl rfl _ _ hr.out ?_))
        go_roundw
        case rel => exact ⟨k + 1, by go_num, by omega, hV⟩
        case measure => simp [intOf]; omega
    · obtain rfl : k = L.length := by omega
      have hE : Hid (Divd L r w (.returned (.tuple #[u4, u5])) wr) := Lib.hid ⟨u4, u5, rfl, by have := E1.out.o1; rwa [List.take_length] at this, by have := E1.out.o2; rwa [List.take_length] at this, E1.out.bel⟩
      go_wp2
      go_ret2
      exact hE.out
theorem Ow.wide {base base' : Nat} {l : List En} {v : Value} {w : World} (h : Ow base l v w) (hb : base' ≤ base) : Ow base' l v w := by
  refine ⟨h.1, ?_⟩
  rcases h.2 with hn | ⟨g, cap, cur, rfl, hbg, hg, rest⟩
  · exact .inl hn
  · exact .inr ⟨g, cap, cur, rfl, by omega, hg, rest⟩
abbrev rgA (r : Rng.Rg) : Value := .agg #[.string (tx r.f), .string (tx r.t)]
def TakeNo (c : Int) (w : World) (e : Ending) (w' : World) : Prop := e = .returned (.tuple #[.slice none 0 0, .int .i64 c]) ∧ Below w.heap.size w w'
theorem take_nv {p : Value} (r : Rng.Rg) (h : Nv p w) : Calls Try.prog 14 #[p, rgA r] w (TakeNo 1 w) := by
  have hb : Below w.heap.size w (w.alloc (.cells #[.string (tx r.f), .string (tx r.t)] TRg)) := alloc_b _ _
  have HV := Lib.hid (h.later hb).valid
  replace hb := Lib.hid hb
  clear h
  go_enter Try.func14, Try.ntmps14
  go_wp2_with (go_at_call 37; refine HV.out.mono ?_; rintro e w2 ⟨rfl, rfl⟩)
  go_ret2
  exact ⟨rfl, hb.out⟩
theorem take_bad (r : Rng.Rg) (h : Dx base w b v n L) (hr : okR r = false) : Calls Try.prog 14 #[.pointer (some ⟨b, 0, none⟩), rgA r] w (TakeNo 2 w) := by
  have hb : Below w.heap.size w (w.alloc (.cells #[.string (tx r.f), .string (tx r.t)] TRg)) := alloc_b _ _
  have HV := Lib.hid (h.later hb).valid
  have HC := fun W => Rng.check_any r W
  rw [show Rng.okE r = 2 by unfold Rng.okE; rw [hr]; rfl] at HC
  replace HC := Lib.hid HC
  replace hb := Lib.hid hb
  clear h hr
  go_enter Try.func14, Try.ntmps14
  go_wp2_with (first
    | (go_at_call 37; refine HV.out.mono ?_; rintro e w2 ⟨rfl, rfl⟩)
    | (go_at_call 38; refine (HC.out _).mono ?_; rintro e w2 ⟨rfl, h2⟩))
  go_ret2
  exact ⟨rfl, hb.out.trans (h2.mono hb.out.size)⟩
abbrev ins (r : Rng.Rg) (L : List En) : List En := L.filter fun x => hasR r x.ky
abbrev outs (r : Rng.Rg) (L : List En) : List En := L.filter fun x => !hasR r x.ky
/-- The table behind a Take. -/
def TakeOk (base : Nat) (b : Nat) (n : Int) (L : List En) (r : Rng.Rg) (w : World) (e : Ending) (w' : World) : Prop :=
  ∃ v1 v', e = .returned (.tuple #[v1, .int .i64 0]) ∧ Fw w.heap.size (effs (ins r L)) v1 w' ∧ Dx base w' b v' n (outs r L) ∧ But w w' b (.slice none 0 0) ∧ (∀ j, v1.ownBlock = some j → w.heap.size ≤ j ∧ v'.ownBlock ≠ some j) ∧ (∀ j, v'.ownBlock = some j → w.heap.size ≤ j)
theorem take_fin {r : Rng.Rg} {w2 w3 w5 : World} {v2 v' : Value} (D2 : Dx base w2 b v n L) (B2 : Below w.heap.size w w2) (hbw : base ≤ w.heap.size) (hlt : b < w.heap.size) (hO2 : Ow w2.heap.size (outs r L) v2 w3) (B3 : Below w2.heap.size w2 w3)
    (hF : Fw (w3.setCell ⟨b, 2, none⟩ v2).heap.size (effs (ins r L)) v' w5) (B5 : Below (w3.setCell ⟨b, 2, none⟩ v2).heap.size (w3.setCell ⟨b, 2, none⟩ v2) w5) : TakeOk base b n L r w (.returned (.tuple #[v', .int .i64 0])) w5 := by
  have hs2 := B2.size
  have hs3 := B3.size
  have hs4 : (w3.setCell ⟨b, 2, none⟩ v2).heap.size = w3.heap.size := by simp
  have hb3 : w3.heap[b]? = some (.cells #[.bool true, .int .i64 n, v] TD (0, 0)) := (B3.block b (by omega)).trans D2.blk
  have hb4 : (w3.setCell ⟨b, 2, none⟩ v2).heap[b]? = some (.cells #[.bool true, .int .i64 n, v2] TD (0, 0)) := by
    rw [heap_setCell_same w3 b 2 _ TD v2 hb3]
    simp
  have hlt2 := fun j e => (hO2.lt j e)
  have hn2 : ∀ j, v2.ownBlock = some j → j ≠ b := fun j e => by have := (hlt2 j e).1; omega
  have hO4 : Ow w2.heap.size (outs r L) v2 (w3.setCell ⟨b, 2, none⟩ v2) := hO2.kept fun k hk => heap_setCell_other w3 ⟨b, 2, none⟩ k v2 (hn2 k hk)
  have hle := List.length_filter_le (fun x : En => !hasR r x.ky) L
  refine ⟨v', v2, rfl, ?_, ⟨(B5.block b (by omega)).trans hb4, (hO4.wide (by omega)).later B5, fun e => hn2 b e rfl, D2.hb, D2.srt.filter _, fun x hx => D2.ok x (List.mem_filter.1 hx).1, (by have := D2.len; have h2 : (outs r L).length ≤ L.length := hle; generalize (outs r L).length = q at *; omega), D2.max⟩, ⟨?_, ?_, ?_, ?_, fun k hk hkb _ => ?_⟩, fun j hj => ⟨?_, fun e => ?_⟩, fun j hj => ?_⟩
  · refine ⟨hF.1, ?_⟩
    rcases hF.2 with hn | ⟨g, cap, cur, rfl, hbg, hg, rest⟩
    · exact .inl hn
    · exact .inr ⟨g, cap, cur, rfl, by omega, hg, rest⟩
  · exact B5.os.trans (B3.os.trans B2.os)
  · exact B5.tape.trans (B3.tape.trans B2.tape)
  · exact B5.output.trans (B3.output.trans B2.output)
  · have := B5.size
    omega
  · rw [B5.block k (by omega), heap_setCell_other w3 ⟨b, 2, none⟩ k v2 hkb, B3.block k (by omega), B2.block k hk]
  · have := (hF.lt j hj).1
    omega
  · have h1 := (hF.lt j hj).1
    have h2 := (hlt2 j e).2
    omega
  · have := (hlt2 j hj).1
    omega
set_option maxHeartbeats 1000000 in
theorem take_any (r : Rng.Rg) (h : Dx base w b v n L) (hbw : base ≤ w.heap.size) (hr : okR r = true) : Calls Try.prog 14 #[.pointer (some ⟨b, 0, none⟩), rgA r] w (TakeOk base b n L r w) := by
  have hb : Below w.heap.size w (w.alloc (.cells #[.string (tx r.f), .string (tx r.t)] TRg)) := alloc_b _ _
  have D0 := h.later hb
  have HV := Lib.hid D0.valid
  have HC := fun W => Rng.check_any r W
  rw [show Rng.okE r = 0 by unfold Rng.okE; rw [hr]; rfl] at HC
  replace HC := Lib.hid HC
  have hrg : (w.alloc (.cells #[.string (tx r.f), .string (tx r.t)] TRg)).heap[w.heap.size]? = some (rgBx r) := heap_alloc_new _ _
  have HD : Hid (∀ w2, Below (w.alloc (.cells #[.string (tx r.f), .string (tx r.t)] TRg)).heap.size (w.alloc (.cells #[.string (tx r.f), .string (tx r.t)] TRg)) w2 → Dx base w2 b v n L ∧ w2.heap[w.heap.size]? = some (rgBx r) ∧ Below w.heap.size w w2) :=
    Lib.hid fun w2 h2 => ⟨D0.later h2, (h2.block _ (Array.getElem?_eq_some_iff.1 hrg).1).trans hrg, hb.trans (h2.mono hb.size)⟩
  have hlt := h.lt
  clear h hr D0 hrg hb
  go_enter Try.func14, Try.ntmps14
  go_wp2_with (first
    | (go_at_call 37; refine HV.out.mono ?_; rintro e w2 ⟨rfl, rfl⟩)
    | (go_at_call 38; refine (HC.out _).mono ?_; rintro e w2 ⟨rfl, h2⟩; obtain ⟨D2, R2, B2⟩ := HD.out w2 h2; have D2 := Lib.hid D2; have R2 := Lib.hid R2; have B2 := Lib.hid B2; clear h2; obtain ⟨c0, c1, c2⟩ := D2.out.cells; clear c0 c1)
    | (go_at_call 39; refine (divide_any v L w.heap.size r _ D2.out.row (by have := D2.out.small; omega) R2.out).mono ?_; rintro e w3 ⟨v1, v2, rfl, hO1, hO2, B3⟩; clear c2; obtain ⟨a2, m2, k2, rfl⟩ := ow_form3 hO2; have D3 := Lib.hid (D2.out.later B3); have hO1 := Lib.hid hO1; have hO2 := Lib.hid hO2; have B3 := Lib.hid B3; obtain ⟨c0, c1, c2⟩ := D3.out.cells; have hfz := D3.out.froz.2.2; clear c0 c1)
    | (go_at_call 42; refine (effects_any v1 (ins r L) _ (hO1.out.kept (fun k hk => heap_setCell_other w3 ⟨b, 2, none⟩ k _ (by have h1 := (hO1.out.lt k hk).1; have h2 := B2.out.size; show k ≠ b; omega))) (Nat.le_trans (List.length_filter_le _ L) (by have := D2.out.small; omega))).mono ?_; rintro e w5 ⟨v5, rfl, hF, B5⟩; have hE := Lib.hid (take_fin D2.out B2.out hbw hlt hO2.out B3.out hF B5); clear hF B5))
  go_ret2
  exact hE.out
end Go.Proofs.Ytbgjiokocjnjhaa.Ded
