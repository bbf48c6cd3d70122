/- Forget. -/
import Derived.Test.YtpaoaagphacclaaA06
namespace Go.Proofs.Ytpaoaagphacclaa.Acc
open Go.RowKit Go.Maps Go.Lib
open Bal (TB bOk ckB ordV alloc_b)
set_option linter.unusedVariables false
set_option linter.unusedSimpArgs false
set_option maxRecDepth 20000

/-- What is left when some slots were deleted. -/
def butM (M : List Et) (ks : List Int) : List Et := M.filter fun e => !(ks.contains e.s)
theorem but_nil (M : List Et) : butM M [] = M := by unfold butM; rw [List.filter_eq_self]; intro p _; rfl
theorem but_del (M : List Et) (ks : List Int) (k : Int) : delM (butM M ks) k = butM M (ks ++ [k]) := by
  unfold delM butM
  rw [List.filter_filter]
  congr 1
  funext e
  rw [List.contains_append]
  by_cases h : e.s = k
  · simp [h]
  · simp [h]
theorem but_all (M : List Et) (u : Int) : butM M (keysM (M.filter fun e => decide (e.s < u))) = frM M u := by
  unfold butM frM
  refine List.filter_congr fun e he => ?_
  by_cases h : e.s < u
  · have h1 : (keysM (M.filter fun e => decide (e.s < u))).contains e.s = true := by
      rw [List.contains_iff_mem]
      exact List.mem_map.2 ⟨e, List.mem_filter.2 ⟨he, decide_eq_true h⟩, rfl⟩
    rw [h1, decide_eq_false (by omega)]
    rfl
  · have h1 : (keysM (M.filter fun e => decide (e.s < u))).contains e.s = false := by
      rw [← Bool.not_eq_true, List.contains_iff_mem]
      intro hm
      obtain ⟨p, hp, hps⟩ := List.mem_map.1 hm
      have := of_decide_eq_true (List.mem_filter.1 hp).2
      omega
    rw [h1, decide_eq_true (by omega)]
    rfl
def ForIs (w : World) (sb mb : Nat) (s : St) (u : Int) (e : Ending) (w' : World) : Prop :=
  e = .returned (.int .i64 (forE u)) ∧ Ax w' sb mb (forS s u) ∧ Keeps (fun k => k = sb ∨ k = mb) w w'
/-- The acceptor on the way: its box (with the new base), what is left in its map. -/
structure FAt (w : World) (sb mb : Nat) (s : St) (u : Int) (M : List Et) (W : World) : Prop where
  box : W.heap[sb]? = some (.cells #[.int .i64 s.n, .int .i64 s.r, .int .i64 s.m, .int .i64 (max s.b u), .map (some mb)] TA (0, 0))
  own : W.ownsMap Try.prog TI rdE mb M.length (DM M)
  kp : Keeps (fun k => k = sb ∨ k = mb) w W
theorem FAt.later {w W W' : World} {sb mb : Nat} {s : St} {u : Int} {M : List Et} (h : FAt w sb mb s u M W) (hb : Below W.heap.size W W') : FAt w sb mb s u M W' := by
  refine ⟨(hb.block _ (Array.getElem?_eq_some_iff.1 h.box).1).trans h.box, ?_, h.kp.later hb⟩
  obtain ⟨es, clock, hh, F', hs, hD⟩ := h.own
  exact ⟨es, clock, (hb.block mb h.own.lt).trans hh, F', hs, hD⟩
theorem FAt.c4 {w W : World} {sb mb : Nat} {s : St} {u : Int} {M : List Et} (h : FAt w sb mb s u M W) : W.cell? ⟨sb, 4, none⟩ = some (.map (some mb)) := cell_of_row W sb 4 _ TA _ h.box
theorem wpList_del {ops : Array Oper} {rest : List Oper} {o : Oper} {a : Act} {w W : World} {Q : Exit → Act → World → Prop} (hg : o.guard = none) (m q : Operand) (hop : o.op = Op.call { callee := Callee.builtin Builtin.delete, args := #[m, q], argTypes := #[TM, TI] })
    {sb mb : Nat} {s : St} {u : Int} {M : List Et} (h : FAt w sb mb s u M W) (hne : sb ≠ mb) (hm : a.eval m = .map (some mb)) {k : Int} (hk : (Lit.int .i64 k).wf = true) (hq : a.eval q = .int .i64 k)
    (hK : ∀ W', FAt w sb mb s u (delM M k) W' → W.grownBy W' (some mb) → wpList Try.prog ops Q rest (a.put o.dst (.tuple #[])) W') : wpList Try.prog ops Q (o :: rest) a W := by
  refine wpList_delete_own W hg m q TM TI hop TE keyI Try.underlying52 rdE mb M.length (DM M) hm h.own _ _ hq (key_of hk) ?_
  intro W' ho ht
  rw [del_DM] at ho
  refine hK W' ⟨?_, own_tight ho, h.kp.grown ht.grown fun g e => by injection e with e; exact .inl (.inr e.symm)⟩ ht.grown
  exact (ht.grown.block sb (Array.getElem?_eq_some_iff.1 h.box).1 (fun e => by injection e with e; exact hne e)).trans h.box
set_option maxHeartbeats 2000000 in
theorem forget_any {sb mb : Nat} {s : St} (u : Int) (w : World) (h : Ax w sb mb s) :
    Calls Try.prog 21 #[.pointer (some ⟨sb, 0, none⟩), .int .i64 u] w (ForIs w sb mb s u) := by
  have x1 := h.alloc (.cells #[.int .i64 u] TI)
  have hb1 := alloc_b w (.cells #[.int .i64 u] TI)
  have HV := Lib.hid x1.valid
  have HS := Lib.hid (fun W => start_any u W)
  have q0 := cell_of_row _ _ 0 _ TI _ (heap_alloc_new w (.cells #[.int .i64 u] TI))
  by_cases hu : 0 ≤ u ∧ u ≤ 4096
  · have bu : decide (0 ≤ u ∧ u ≤ 4096) = true := decide_eq_true hu
    generalize decide (0 ≤ u ∧ u ≤ 4096) = g at *
    subst bu
    have hr : forE u = 0 := if_pos hu
    have hs : forS s u = ⟨s.n, s.r, s.m, max s.b u, frM s.M u⟩ := if_pos hu
    have hokf := ok_for h.ok u
    rw [hs] at hokf
    have hne := h.ne
    have hfin : Hid (∀ W, FAt w sb mb s u (frM s.M u) W → ForIs w sb mb s u (.returned (.int .i64 0)) W) := Lib.hid fun W hW =>
      ⟨by rw [hr], by rw [hs]; exact ⟨hW.box, hW.own, hokf⟩, hW.kp⟩
    have hlt := h.lt
    have hqs : w.heap.size ≠ sb := by omega
    have hszS : (w.setCell ⟨sb, 3, none⟩ (.int .i64 (max s.b u))).heap.size = w.heap.size := by simp [World.setCell]
    have hF3 : FAt w sb mb s u s.M (((w.setCell ⟨sb, 3, none⟩ (.int .i64 (max s.b u))).alloc (.cells #[.int .i64 u] TI)).drew) := by
      have f1 : FAt w sb mb s u s.M (w.setCell ⟨sb, 3, none⟩ (.int .i64 (max s.b u))) :=
        ⟨heap_setCell_same _ sb 3 _ TA _ h.box, h.own.setCell (Ne.symm hne) _, (Keeps.refl _ w).setCell (p := ⟨sb, 3, none⟩) (.inl (.inl rfl)) _⟩
      exact (f1.later (alloc_b _ _)).later (Below.refl _ _).drew
    have hq3 := heap_alloc_new (w.setCell ⟨sb, 3, none⟩ (.int .i64 (max s.b u))) (.cells #[.int .i64 u] TI)
    rw [hszS] at hq3
    replace hq3 := Lib.hid (cell_of_row (((w.setCell ⟨sb, 3, none⟩ (.int .i64 (max s.b u))).alloc (.cells #[.int .i64 u] TI)).drew) _ 0 _ TI _ hq3)
    replace hF3 := Lib.hid hF3
    have HSl := Lib.hid (fun W (hW : FAt w sb mb s u s.M W) hq => slotsF_any (sb := sb) (mb := mb) (M := s.M) w.heap.size u W hW.c4 hW.own h.ok.len h.ok.srt hq)
    have hent := Lib.hid (fun (i : Nat) (k : Int) (hk : (keysM (s.M.filter fun e => decide (e.s < u)))[i]? = some k) => by
      obtain ⟨e, he, hes⟩ := List.mem_map.1 (List.mem_of_getElem? hk)
      obtain ⟨h2, h3, _⟩ := h.ok.ent e (List.mem_filter.1 he).1
      have := h.ok.hb.1
      exact (wf64 (by omega) (by omega) : (Lit.int .i64 k).wf = true))
    have hall := Lib.hid (but_all s.M u)
    have hml := h.ok.len
    have c3 := x1.drew.cells.2.2.2.1
    have f3 := x1.drew.frozen 3
    have q0' := q0
    clear hu hs hokf hr x1 h hb1
    go_enter Try.func21, Try.ntmps21
    go_wp2_with (first
      | (go_at_call 38; refine HV.out.mono ?_; rintro e w' ⟨rfl, rfl⟩)
      | (go_at_call 40; refine (HS.out _).mono ?_; rintro e w' ⟨rfl, rfl⟩))
    go_region
    generalize ((w.setCell ⟨sb, 3, none⟩ (.int .i64 (max s.b u))).alloc (.cells #[.int .i64 u] TI)).drew = W3 at *
    go_wp2_with fail
    go_at_call 46
    refine (HSl.out _ hF3.out hq3.out).mono ?_
    rintro e w4 ⟨v, rfl, hO, hb4⟩
    have hF4 := hF3.out.later hb4
    obtain ⟨ks, hks⟩ : ∃ ks, ks = keysM (s.M.filter fun e => decide (e.s < u)) := ⟨_, rfl⟩
    have hnl : ks.length ≤ 4096 := by rw [hks]; unfold keysM; rw [List.length_map]; exact Nat.le_trans (List.length_filter_le _ _) hml
    rw [← hks] at hO hent hall
    obtain ⟨a, cap, rfl⟩ := rows_form hO
    have hmlt : mb < W3.heap.size := hF3.out.own.lt
    have hOc := Lib.hid (fun (k : Nat) (e : Int) (he : ks[k]? = some e) => by
      have hlt := (List.getElem?_eq_some_iff.1 he).1
      obtain ⟨g, cap', hv, hbg, hg, hc⟩ := hO.cells (by omega)
      exact (⟨g, by injection hv with h1 h2 h3, hg, by omega, hc k e he⟩ : ∃ g, a = some ⟨g, 0, none⟩ ∧ g < w4.heap.size ∧ g ≠ mb ∧ w4.cell? ⟨g, k, none⟩ = some (.int .i64 e)))
    clear hO hb4 hks hF3 hq3 HSl
    generalize hn : ks.length = n at *
    replace hn := Lib.hid hn
    replace hF4 := Lib.hid hF4
    go_wp2
    go_loopw [26] (fun i wr => ∃ k : Nat, k ≤ n ∧ i = .int .i64 k ∧ FAt w sb mb s u (butM s.M (ks.take k)) wr ∧ Keeps (fun k => k = mb) w4 wr) (fun i _ => n - (intOf i).toNat)
    case atStart => exact ⟨0, Nat.zero_le _, rfl, by rw [List.take_zero, but_nil]; exact hF4.out, Keeps.refl _ _⟩
    case round =>
      obtain ⟨k, hk, rfl, hF, hK⟩ := hrel
      by_cases hlt2 : k < n
      · obtain ⟨e, he⟩ : ∃ e, ks[k]? = some e := ⟨_, List.getElem?_eq_getElem (by have := hn.out; omega)⟩
        obtain ⟨g, rfl, hg, hgm, hc⟩ := hOc.out k e he
        have hwf := hent.out k e he
        have c0 : wr.cell? ⟨g, k, none⟩ = some (.int .i64 e) := (World.cell?_of_block (w := w4) (a := ⟨g, k, none⟩) (hK.block g hg hgm)).trans hc
        have htk : ks.take (k + 1) = ks.take k ++ [e] := by rw [List.take_add_one, he]; rfl
        have hnext := Lib.hid (but_del s.M (ks.take k) e)
        rw [← htk] at hnext
        have c4 := hF.c4
        have i1 : 0 ≤ (k : Int) := by omega
        have i2 : (k : Int) < (n : Int) := by omega
        replace hF := Lib.hid hF
        replace hwf := Lib.hid hwf
        clear hc he htk
        go_wp2_with (refine wpList_del rfl _ _ rfl hF.out hne rfl hwf.out rfl ?_; intro w5 hF5 hg5)
        go_roundw
        case rel => exact ⟨k + 1, by omega, by go_num, by rw [hnext.out] at hF5; exact hF5, hK.grown hg5 fun g e => by injection e with e; exact .inl e.symm⟩
        case measure => simp [intOf]; omega
      · have hkn : k = n := by omega
        subst hkn
        have e1 : ks.take k = ks := by rw [← hn.out]; exact List.take_length
        rw [e1, hall.out] at hF
        replace hF := Lib.hid (hfin.out _ hF)
        go_wp2
        go_ret
        exact hF.out
  · have bu : decide (0 ≤ u ∧ u ≤ 4096) = false := decide_eq_false hu
    generalize decide (0 ≤ u ∧ u ≤ 4096) = g at *
    subst bu
    have hr : forE u = 2 := if_neg hu
    have hs : forS s u = s := if_neg hu
    have hfin : Hid (ForIs w sb mb s u (.returned (.int .i64 2)) (w.alloc (.cells #[.int .i64 u] TI))) := Lib.hid ⟨by rw [hr], by rw [hs]; exact x1, Keeps.of_below hb1⟩
    clear hu hs hr x1 h hb1
    go_enter Try.func21, Try.ntmps21
    go_wp2_with (first
      | (go_at_call 38; refine HV.out.mono ?_; rintro e w' ⟨rfl, rfl⟩)
      | (go_at_call 40; refine (HS.out _).mono ?_; rintro e w' ⟨rfl, rfl⟩))
    go_ret
    exact hfin.out
end Go.Proofs.Ytpaoaagphacclaa.Acc
