/- List, Forget, Accepted, Copy. -/
import Derived.Test.YtpaoaagphacclaaA04
namespace Go.Proofs.Ytpaoaagphacclaa.Acc
open Go.RowKit Go.Maps Go.Lib
open Bal (TB bOk ckB ordV alloc_b)
set_option linter.unusedVariables false
set_option linter.unusedSimpArgs false
set_option maxRecDepth 20000

theorem OwI.cells {base : Nat} {L : List Int} {v : Value} {w : World} (h : OwI base L v w) (hp : 0 < L.length) : ∃ g cap, v = .slice (some ⟨g, 0, none⟩) L.length cap ∧ base ≤ g ∧ g < w.heap.size ∧
    ∀ i e, L[i]? = some e → w.cell? ⟨g, i, none⟩ = some (.int .i64 e) := by
  rcases h.2 with ⟨_, h0⟩ | ⟨g, cap, cur, rfl, hbg, hg, h1, h2, h3, h4⟩
  · omega
  · refine ⟨g, cap, rfl, hbg, (Array.getElem?_eq_some_iff.1 hg).1, fun i e he => ?_⟩
    have hi : i < L.length := (List.getElem?_eq_some_iff.1 he).1
    have e1 : (ints L)[i]? = some (.int .i64 e) := by simp [ints, he]
    rw [← h4, List.getElem?_take_of_lt (by omega)] at e1
    rw [← e1]
    simp [World.cell?, hg]
theorem look_plain {w : World} {mb n : Nat} {M : List Et} (h : w.ownsMap Try.prog TI rdE mb n (DM M)) {k : Int} (hk : (Lit.int .i64 k).wf = true) {e : Et} (hr : getM M k = some e) :
    (Instr.lookup TM (.map (some mb)) (.int .i64 k) false).run Try.prog w = .ok (vE e) w := by
  obtain ⟨v, ps, hrun, hv⟩ := h.lookup (t := TM) keyI Try.underlying52 (zero_e w) (zd := eD zE) (rdE_mk zE) (key_of hk)
  rw [at_DM, hr] at hv
  rw [hrun, rdE_inv hv]
abbrev gE (r : Option Et) : Et := match r with | some e => e | none => zE
theorem look_at {w : World} {mb n : Nat} {M : List Et} (h : w.ownsMap Try.prog TI rdE mb n (DM M)) {k : Int} (hk : (Lit.int .i64 k).wf = true) {r : Option Et} (hr : getM M k = r) :
    (Instr.lookup TM (.map (some mb)) (.int .i64 k) true).run Try.prog w = .ok (.tuple #[vE (gE r), .bool r.isSome]) w := by
  obtain ⟨v, ps, hrun, hv⟩ := h.look_ok (t := TM) keyI Try.underlying52 (zero_e w) (zd := eD zE) (rdE_mk zE) (key_of hk)
  rw [at_DM, hr] at hv
  rw [hrun, has_DM, hr]
  cases r with
  | none => rw [rdE_inv hv]
  | some c => rw [rdE_inv hv]
set_option maxHeartbeats 2000000 in
theorem list_any {sb mb : Nat} {s : St} (q : Int) (w : World) (x : Ax w sb mb s) :
    Calls Try.prog 31 #[.pointer (some ⟨sb, 0, none⟩), .int .i64 q] w fun e w' =>
      ∃ v, e = .returned v ∧ OwE w.heap.size (frM s.M q) v w' ∧ Below w.heap.size w w' := by
  have x1 := x.alloc (.cells #[.int .i64 q] TI)
  have hV := Lib.hid x1.valid
  have hb1 := alloc_b w (.cells #[.int .i64 q] TI)
  have hS := Lib.hid (slotsL_any w.heap.size q _ x1.cells.2.2.2.2 x1.own x1.ok.len x1.ok.srt (cell_of_row _ _ 0 _ TI _ (heap_alloc_new w (.cells #[.int .i64 q] TI))))
  have hL : ∀ k e, (frM s.M q)[k]? = some e → getM s.M e.s = some e ∧ (Lit.int .i64 e.s).wf = true := fun k e he => by
    have h1 := (mem_fr.1 (List.mem_of_getElem? he)).1
    refine ⟨(get_iff x.ok.srt _ _).2 ⟨h1, rfl⟩, ?_⟩
    obtain ⟨h2, h3, _⟩ := x.ok.ent e h1
    have := x.ok.hb.1
    exact wf64 (by omega) (by omega)
  have hlen : (frM s.M q).length ≤ 4096 := Nat.le_trans (fr_len _ _) x.ok.len
  change Hid (Calls _ _ _ _ fun e w' => ∃ v, e = .returned v ∧ OwI _ (keysM (frM s.M q)) v w' ∧ _) at hS
  obtain ⟨L, hLL⟩ : ∃ L, L = frM s.M q := ⟨_, rfl⟩
  rw [← hLL] at hS hL hlen ⊢
  clear hLL
  replace hL := Lib.hid hL
  replace x1 := Lib.hid x1
  replace hb1 := Lib.hid hb1
  have hsz1 : Hid ((w.alloc (.cells #[.int .i64 q] TI)).heap.size = w.heap.size + 1) := Lib.hid (by show (w.heap.push _).size = _; rw [Array.size_push])
  clear x
  go_enter Try.func31, Try.ntmps31
  go_wp2_with (go_at_call 38; refine hV.out.mono ?_; rintro e w' ⟨rfl, rfl⟩)
  go_at_call 46
  refine hS.out.mono ?_
  rintro e w2 ⟨v, rfl, hO, hb2⟩
  have hkl : (keysM L).length = L.length := List.length_map _
  obtain ⟨a, cap, rfl⟩ := rows_form hO
  rw [hkl]
  have hOc := Lib.hid (fun (k : Nat) (e : Et) (he : L[k]? = some e) => by
    have hlt := (List.getElem?_eq_some_iff.1 he).1
    obtain ⟨g, cap', hv, hbg, hg, hc⟩ := hO.cells (by rw [hkl]; omega)
    exact (⟨g, by injection hv with h1 h2 h3, hg, hc k e.s (by simp [keysM, he])⟩ : ∃ g, a = some ⟨g, 0, none⟩ ∧ g < w2.heap.size ∧ w2.cell? ⟨g, k, none⟩ = some (.int .i64 e.s)))
  have x2 := Lib.hid (x1.out.later hb2)
  have hb2' := Lib.hid (below2 hb1.out hb2)
  have hW2 := Lib.hid (show w.heap.size ≤ w2.heap.size from (below2 hb1.out hb2).size)
  clear hO hb2 hkl
  generalize hn : L.length = n at *
  replace hn := Lib.hid hn
  go_wp2
  go_loopw [5, 15] (fun l i wr => ∃ k : Nat, k ≤ n ∧ i = .int .i64 k ∧ OwE w2.heap.size (L.take k) l wr ∧ Below w2.heap.size w2 wr) (fun _ i _ => n - (intOf i).toNat)
  case atStart => exact ⟨0, Nat.zero_le _, rfl, OwE.nil _ _, Below.refl _ _⟩
  case round =>
    obtain ⟨k, hk, rfl, hO, hB⟩ := hrel
    replace hO := Lib.hid hO
    by_cases hlt : k < n
    · obtain ⟨e, he⟩ : ∃ e, L[k]? = some e := ⟨_, List.getElem?_eq_getElem (by have := hn.out; omega)⟩
      obtain ⟨g, rfl, hg, hc⟩ := hOc.out k e he
      obtain ⟨hgm, hwf⟩ := hL.out k e he
      have c0 := (hB.cell (p := ⟨g, k, none⟩) hg).trans hc
      have xr := x2.out.later hB
      have hlook := look_plain xr.own hwf hgm
      obtain ⟨_, _, _, _, c4⟩ := xr.cells
      have htk : L.take (k + 1) = L.take k ++ [e] := by rw [List.take_add_one, he]; rfl
      replace htk := Lib.hid htk
      have i1 : 0 ≤ (k : Int) := by omega
      have i2 : (k : Int) < (n : Int) := by omega
      have hOa : OwE w2.heap.size (L.take k) _ (wr.alloc (.cells #[.int .i64 e.s, .int .i64 e.r, .int .i64 e.m, .string e.v] TE)) := rows_later hO.out (alloc_b _ _)
      have hca : (wr.alloc (.cells #[.int .i64 e.s, .int .i64 e.r, .int .i64 e.m, .string e.v] TE)).heap[wr.heap.size]? = some (.cells (ec e).toArray TE (0, 0)) := heap_alloc_new _ _
      have htl : Hid ((L.take k).length ≤ 100000) := Lib.hid (by rw [List.length_take]; have := hn.out; omega)
      have hsza : Hid (w2.heap.size ≤ (wr.alloc (.cells #[.int .i64 e.s, .int .i64 e.r, .int .i64 e.m, .string e.v] TE)).heap.size) := Lib.hid (hB.alloc hB.size _).size
      have hBa := Lib.hid (hB.alloc hB.size (.cells #[.int .i64 e.s, .int .i64 e.r, .int .i64 e.m, .string e.v] TE))
      replace hOa := Lib.hid hOa
      replace hca := Lib.hid hca
      clear hc he xr hwf hgm
      go_wp2_with (at_builtin; refine wpList_append_e rfl _ _ rfl w2.heap.size _ _ rfl hOa.out wr.heap.size _ e rfl hca.out htl.out hsza.out ?_; intro v4 w4 hO4 hg4)
      go_roundw
      case rel => exact ⟨k + 1, by omega, by go_num, by rw [htk.out]; exact hO4, own_below hOa.out hg4 hBa.out (Nat.le_refl _)⟩
      case measure => simp [intOf]; omega
    · have hkn : k = n := by omega
      subst hkn
      go_wp2
      go_ret
      refine ⟨_, rfl, ?_, hb2'.out.trans (hB.mono hb2'.out.size)⟩
      have e1 : L.take k = L := by rw [← hn.out]; exact List.take_length
      have := hO.out
      rw [e1] at this
      exact rows_base this hW2.out
set_option maxHeartbeats 2000000 in
theorem accepted_any {sb mb : Nat} {s : St} (k : Int) (w : World) (x : Ax w sb mb s) (hk : (Lit.int .i64 k).wf = true) (r : Option Et) (hr : getM s.M k = r) :
    Calls Try.prog 25 #[.pointer (some ⟨sb, 0, none⟩), .int .i64 k] w fun e w' =>
      e = .returned (.tuple #[vE (gE r), .bool r.isSome]) ∧ Below w.heap.size w w' := by
  have x1 := x.alloc (.cells #[.int .i64 0, .int .i64 0, .int .i64 0, .string ⟨#[]⟩] TE)
  have hV := Lib.hid x1.valid
  have hlook := look_at x1.own hk hr
  obtain ⟨_, _, _, _, c4⟩ := x1.cells
  clear x1 x hr
  generalize r.isSome = b at *
  generalize gE r = e at *
  obtain ⟨es, er, em, ev⟩ := e
  have hsz1 : ((w.alloc (.cells #[.int .i64 0, .int .i64 0, .int .i64 0, .string ⟨#[]⟩] TE)).heap.size = w.heap.size + 1) := (by show (w.heap.push _).size = _; rw [Array.size_push])
  have key : ∀ W, W = (((w.alloc (.cells #[.int .i64 es, .int .i64 er, .int .i64 em, .string ev] TE)).alloc (.cells #[.int .i64 es, .int .i64 er, .int .i64 em, .string ev] TE))) →
     W.heap[w.heap.size]? = some (.cells #[.int .i64 es, .int .i64 er, .int .i64 em, .string ev] TE (0, 0)) ∧ Below w.heap.size w W := by
    rintro W rfl
    have hb1 := alloc_b w (.cells #[.int .i64 es, .int .i64 er, .int .i64 em, .string ev] TE)
    refine ⟨?_, hb1.alloc hb1.size _⟩
    rw [Below.heap_alloc _ _ _ (by rw [World.size_alloc]; omega)]
    exact heap_alloc_new _ _
  replace key := Lib.hid key
  replace hsz1 := Lib.hid hsz1
  go_enter Try.func25, Try.ntmps25
  go_wp2_with (go_at_call 38; refine hV.out.mono ?_; rintro e w' ⟨rfl, rfl⟩)
  obtain ⟨h1, h2⟩ := key.out _ rfl
  have d0 := cell_of_row _ _ 0 _ TE _ h1
  have d1 := cell_of_row _ _ 1 _ TE _ h1
  have d2 := cell_of_row _ _ 2 _ TE _ h1
  have d3 := cell_of_row _ _ 3 _ TE _ h1
  refine bodyPost_ret (v := .tuple #[vE ⟨es, er, em, ev⟩, .bool b]) ?_ rfl ⟨rfl, h2⟩
  simp [results, Try.results25, go_sem, d0, d1, d2, d3]

/-! Copy. -/
structure CAt (w : World) (sb mb : Nat) (s : St) (W : World) : Prop where
  ax : Ax W sb mb s
  bel : Below w.heap.size w W
theorem CAt.later {w W W' : World} {sb mb : Nat} {s : St} (h : CAt w sb mb s W) (hb : Below W.heap.size W W') : CAt w sb mb s W' := ⟨h.ax.later hb, h.bel.trans (hb.mono h.bel.size)⟩
abbrev SC (w : World) (sb mb : Nat) (s : St) (W : World) : Prop :=
  W.cell? ⟨sb, 0, none⟩ = some (.int .i64 s.n) ∧ W.cell? ⟨sb, 1, none⟩ = some (.int .i64 s.r) ∧ W.cell? ⟨sb, 2, none⟩ = some (.int .i64 s.m) ∧ W.cell? ⟨sb, 3, none⟩ = some (.int .i64 s.b) ∧ W.cell? ⟨sb, 4, none⟩ = some (.map (some mb)) ∧ CAt w sb mb s W
theorem CAt.sc {w W : World} {sb mb : Nat} {s : St} (h : CAt w sb mb s W) : SC w sb mb s W := ⟨h.ax.cells.1, h.ax.cells.2.1, h.ax.cells.2.2.1, h.ax.cells.2.2.2.1, h.ax.cells.2.2.2.2, h⟩
def Copd (s : St) (w : World) (e : Ending) (w' : World) : Prop := ∃ sb' mb', e = .returned (.pointer (some ⟨sb', 0, none⟩)) ∧ w.heap.size ≤ sb' ∧ w.heap.size ≤ mb' ∧ Ax w' sb' mb' s ∧ Below w.heap.size w w'
set_option maxHeartbeats 1000000 in
theorem copy_any {sb mb : Nat} {s : St} (w : World) (h : Ax w sb mb s) : Calls Try.prog 23 #[.pointer (some ⟨sb, 0, none⟩)] w (Copd s w) := by
  have HV := Lib.hid h.valid
  have C0 : CAt w sb mb s w := ⟨h, Below.refl _ _⟩
  replace C0 := Lib.hid C0
  have HK := Lib.hid (fun (W : World) (h : CAt w sb mb s W) => h.sc)
  have HC := Lib.hid (fun (W : World) (h : CAt w sb mb s W) => clone_any W h.ax.own)
  have HO := Lib.hid h.ok
  clear h
  go_enter Try.func23, Try.ntmps23
  go_wp2_with (go_at_call 38; refine HV.out.mono ?_; rintro r w2 ⟨rfl, rfl⟩)
  go_region_held3 (SC w sb mb s) (first | exact HK.out _ (C0.out.later (Below.refl _ _).drew) | exact HK.out _ (by assumption) | assumption | exact HK.out _ (CAt.later (by assumption) (alloc_b _ _)))
    ((go_at_call 48; refine (HC.out _ (by assumption : SC w sb mb s _).2.2.2.2.2).mono ?_; rintro r w2 ⟨rfl, hn, _, hB⟩; rename World => w1; have hn2 := CAt.later (by assumption : SC w sb mb s _).2.2.2.2.2 hB))
  have hE : Hid (Copd s w (.returned (.pointer (some ⟨w1.heap.size, 0, none⟩))) (w1.alloc (.cells #[.int .i64 s.n, .int .i64 s.r, .int .i64 s.m, .int .i64 s.b, .map (some w.heap.size)] TA))) := Lib.hid
    ⟨w1.heap.size, w.heap.size, rfl, hn2.bel.size, Nat.le_refl _, ⟨heap_alloc_new _ _, (show World.ownsMap w1 _ _ _ w.heap.size _ _ from hn).alloc _, HO.out⟩, hn2.bel.alloc hn2.bel.size _⟩
  clear hn hB hn2
  go_wp2
  go_ret
  exact hE.out
end Go.Proofs.Ytpaoaagphacclaa.Acc
