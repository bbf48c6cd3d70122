/- The walk of AcceptOne. -/
import Derived.Test.YtpaoaagphacclaaA16
namespace Go.Proofs.Ytpaoaagphacclaa.Acc
open Go.RowKit Go.Maps Go.Lib
open Bal (TB alloc_b)
set_option linter.unusedVariables false
set_option linter.unusedSimpArgs false
set_option maxRecDepth 100000

/-- A step in a box. -/
structure SB (q : Nat) (x : Sp) (W : World) : Prop where
  box : W.heap[q]? = some (.cells #[.int .i64 x.d, .int .i64 x.r, .int .i64 x.m, .int .i64 x.k, .string x.v] TP (0, 0))
theorem SB.later {q : Nat} {x : Sp} {W W' : World} (h : SB q x W) (hb : Below W.heap.size W W') : SB q x W' := ⟨(hb.block _ (Array.getElem?_eq_some_iff.1 h.box).1).trans h.box⟩
theorem SB.cells {q : Nat} {x : Sp} {W : World} (h : SB q x W) : W.cell? ⟨q, 0, none⟩ = some (.int .i64 x.d) ∧ W.cell? ⟨q, 1, none⟩ = some (.int .i64 x.r) ∧ W.cell? ⟨q, 2, none⟩ = some (.int .i64 x.m) ∧ W.cell? ⟨q, 3, none⟩ = some (.int .i64 x.k) ∧ W.cell? ⟨q, 4, none⟩ = some (.string x.v) :=
  ⟨cell_of_row W q 0 _ TP _ h.box, cell_of_row W q 1 _ TP _ h.box, cell_of_row W q 2 _ TP _ h.box, cell_of_row W q 3 _ TP _ h.box, cell_of_row W q 4 _ TP _ h.box⟩
theorem box_kept {W W' : World} {sb mb k : Nat} {s : St} {cs : Array Value} {T : TypeId} (x : Ax W sb mb s) (h : W.heap[k]? = some (.cells cs T (0, 0))) (hT : T ≠ TA) (hK : Keeps (fun k => k = sb ∨ k = mb) W W') : W'.heap[k]? = some (.cells cs T (0, 0)) := by
  refine (hK.block k (Array.getElem?_eq_some_iff.1 h).1 ?_).trans h
  rintro (rfl | rfl)
  · rw [x.box] at h
    injection h with h
    injection h with _ h
    exact hT h.symm
  · obtain ⟨es, clock, hb, _⟩ := x.own
    rw [hb] at h
    cases h
theorem SB.kept {q : Nat} {x : Sp} {W W' : World} {sb mb : Nat} {s : St} (h : SB q x W) (a : Ax W sb mb s) (hK : Keeps (fun k => k = sb ∨ k = mb) W W') : SB q x W' := ⟨box_kept a h.box (by decide) hK⟩
/-- How many entries are at other slots. -/
def cnt (M : List Et) (k : Int) (i : Nat) : Nat := ((M.take i).filter fun e => !(e.s == k)).length
theorem cnt_zero (M : List Et) (k : Int) : cnt M k 0 = 0 := rfl
theorem cnt_succ {M : List Et} {k : Int} {i : Nat} {e : Et} (h : M[i]? = some e) : cnt M k (i + 1) = cnt M k i + (if e.s = k then 0 else 1) := by
  unfold cnt
  rw [List.take_add_one, h, List.filter_append, List.length_append]
  congr 1
  by_cases he : e.s = k
  · simp [he]
  · simp [he]
theorem cnt_all (M : List Et) (k : Int) : cnt M k M.length = (delM M k).length := by unfold cnt delM; rw [List.take_length]
theorem cnt_le (M : List Et) (k : Int) (i : Nat) : cnt M k i ≤ M.length := by
  unfold cnt
  refine Nat.le_trans (List.length_filter_le _ _) ?_
  rw [List.length_take]
  omega
theorem del_put {M : List Et} (h : Srt M) (e : Et) : delM (putM M e) e.s = delM M e.s := by
  refine ext_M (srt_del (srt_put h _) _) (srt_del h _) fun j => ?_
  refine Option.ext fun x => ?_
  rw [get_iff (srt_del (srt_put h _) _), get_iff (srt_del h _), mem_del, mem_del, mem_put]
  constructor
  · rintro ⟨⟨rfl | ⟨a, b⟩, c⟩, d⟩
    · exact absurd rfl c
    · exact ⟨⟨a, b⟩, d⟩
  · rintro ⟨⟨a, b⟩, d⟩; exact ⟨⟨.inr ⟨a, b⟩, b⟩, d⟩
theorem del_len {M : List Et} (h : Srt M) (k : Int) : (delM M k).length + (if (getM M k).isSome then 1 else 0) = M.length := by
  induction M with
  | nil => rfl
  | cons y r ih =>
    obtain ⟨h1, h2⟩ := List.pairwise_cons.1 h
    have ih := ih h2
    unfold delM getM at ih ⊢
    rw [List.filter_cons, List.find?_cons]
    by_cases e : y.s = k
    · have hk : (y.s == k) = true := by simp [e]
      have hn : r.find? (fun p => p.s == k) = none := by
        rw [List.find?_eq_none]
        intro p hp hc
        have := h1 p hp
        have hc : p.s = k := by simpa using hc
        omega
      rw [hn] at ih
      simp only [hk, Bool.not_true, Option.isSome_some, if_true, List.length_cons]
      simp at ih ⊢
      omega
    · have hk : (y.s == k) = false := by simp [e]
      simp only [hk, Bool.not_false, if_true, List.length_cons]
      omega
set_option maxHeartbeats 8000000 in
theorem one_any (a : Option Addr) (len cap : Nat) (S : Nat → Sp) (x : Sp) (w : World) (h : IsSt w a len cap S) (hx : x.wf) :
    Calls Try.prog 8 #[.slice a len cap, sA x] w (Yes w) := by
  obtain ⟨xd, xr, xm, xk, xv⟩ := x
  have HW := Lib.hid (fun W => works_any W)
  have b1 := alloc_b w (.cells #[.int .i64 xd, .int .i64 xr, .int .i64 xm, .int .i64 xk, .string xv] TP)
  have b2 := b1.alloc b1.size (.cells #[.int .i64 xd, .int .i64 xr, .int .i64 xm, .int .i64 xk, .string xv] TP)
  have hl2 := heap_alloc_new (w.alloc (.cells #[.int .i64 xd, .int .i64 xr, .int .i64 xm, .int .i64 xk, .string xv] TP)) (.cells #[.int .i64 xd, .int .i64 xr, .int .i64 xm, .int .i64 xk, .string xv] TP)
  have hl1 := (Below.heap_alloc (w.alloc (.cells #[.int .i64 xd, .int .i64 xr, .int .i64 xm, .int .i64 xk, .string xv] TP)) (.cells #[.int .i64 xd, .int .i64 xr, .int .i64 xm, .int .i64 xk, .string xv] TP) w.heap.size (by rw [World.size_alloc]; omega)).trans (heap_alloc_new w (.cells #[.int .i64 xd, .int .i64 xr, .int .i64 xm, .int .i64 xk, .string xv] TP))
  rw [World.size_alloc] at hl2
  have hIs : IsSt ((w.alloc (.cells #[.int .i64 xd, .int .i64 xr, .int .i64 xm, .int .i64 xk, .string xv] TP)).alloc (.cells #[.int .i64 xd, .int .i64 xr, .int .i64 xm, .int .i64 xk, .string xv] TP)) (some ⟨w.heap.size + 1, 0, none⟩) 1 1 (fun _ => ⟨xd, xr, xm, xk, xv⟩) :=
    ⟨⟨Nat.le_refl _, by omega⟩, fun h => (by cases h), fun _ => ⟨w.heap.size + 1, 0, rfl, (Array.getElem?_eq_some_iff.1 hl2).1, fun i hi => by
      have : i = 0 := by omega
      subst this
      exact ⟨cell_of_row _ _ 0 _ TP _ hl2, cell_of_row _ _ 1 _ TP _ hl2, cell_of_row _ _ 2 _ TP _ hl2, cell_of_row _ _ 3 _ TP _ hl2, cell_of_row _ _ 4 _ TP _ hl2⟩⟩, fun _ => hx⟩
  have HS2 := Lib.hid (short_any _ _ _ _ _ hIs)
  have HS := Lib.hid (short_any a len cap S _ (h.later b1))
  have hxw := hx.2.1
  go_enter Try.func8, Try.ntmps8
  cases hsh : shortB S len with
  | false =>
    rw [hsh] at HS
    replace b1 := Lib.hid b1
    clear hIs b2 hl2 hl1 h hx HS2
    go_wp2_with (first
      | (go_at_call 12; refine HS.out.mono ?_; rintro e w1 ⟨rfl, rfl⟩)
      | (go_at_call 13; refine (HW.out _).mono ?_; rintro e w1 ⟨rfl, hb⟩))
    go_ret
    exact ⟨rfl, below2 b1.out hb⟩
  | true =>
    rw [hsh] at HS
    cases hsh2 : shortB (fun _ => (⟨xd, xr, xm, xk, xv⟩ : Sp)) 1 with
    | false =>
      rw [hsh2] at HS2
      replace b2 := Lib.hid b2
      clear hIs b1 hl2 hl1 h hx
      go_wp2_with fail
      go_at_call 12
      refine HS.out.mono ?_
      rintro e w1 ⟨rfl, rfl⟩
      go_wp2_with fail
      go_at_call 12
      refine HS2.out.mono ?_
      rintro e w1 ⟨rfl, rfl⟩
      go_wp2_with (go_at_call 13; refine (HW.out _).mono ?_; rintro e w1 ⟨rfl, hb⟩)
      go_ret
      exact ⟨rfl, below2 b2.out hb⟩
    | true =>
      rw [hsh2] at HS2
      have HF := Lib.hid (filled_any a len cap S w _ b2 (h.later b2) (short_len hsh))
      have hbox : SB w.heap.size ⟨xd, xr, xm, xk, xv⟩ _ := ⟨hl1⟩
      have hb2 := Lib.hid b2
      clear b1 b2 hIs hl2 hl1 h hx hsh hsh2
      generalize fillS S len = s at *
      go_wp2_with fail
      go_at_call 12
      refine HS.out.mono ?_
      rintro e w1 ⟨rfl, rfl⟩
      go_wp2_with fail
      go_at_call 12
      refine HS2.out.mono ?_
      rintro e w1 ⟨rfl, rfl⟩
      clear HS HS2
      go_wp2_with fail
      generalize (w.alloc (.cells #[.int .i64 xd, .int .i64 xr, .int .i64 xm, .int .i64 xk, .string xv] TP)).alloc (.cells #[.int .i64 xd, .int .i64 xr, .int .i64 xm, .int .i64 xk, .string xv] TP) = V at *
      generalize w.heap.size = q at hbox ⊢
      go_at_call 35
      refine HF.out.mono ?_
      rintro e w1 ⟨sb, mb, rfl, hA1⟩
      have hbox1 := hbox.later hA1.bel
      clear hbox HF
      go_wp2_with fail
      go_at_call 23
      refine hA1.copy.mono ?_
      rintro e w2 ⟨sb', mb', rfl, hT2, hb2', _, _⟩
      have hbox2 := hbox1.later hb2'
      have hok := hT2.a.ax.ok
      obtain ⟨_, c1, c2, c3, c4⟩ := hbox2.cells
      clear hA1 hbox1 hb2'
      obtain ⟨ec, hec⟩ : ∃ c, accE s xr xm xk xv = c := ⟨_, rfl⟩
      obtain ⟨s2, hs2⟩ : ∃ t, accS s xr xm xk xv = t := ⟨_, rfl⟩
      have hAc := Lib.hid (hT2.a.accept xr xm xk xv hec hs2)
      by_cases hc : ec = 0
      · subst hc
        have hs2' : s2 = ⟨s.n, xr, xm, s.b, putM s.M ⟨xk, xr, xm, xv⟩⟩ := by rw [← hs2]; unfold accS; rw [if_pos hec]
        subst hs2'
        go_wp2_with fail
        go_at_call 19
        refine hAc.out.mono ?_
        rintro e w3 ⟨rfl, hA3, hK3⟩
        have hbox3 := hbox2.kept hT2.a.ax hK3
        have hT3 := hT2.step hA3 hK3
        have hok3 := hA3.ax.ok
        have hfr := fr_zero hok3
        have hfr' := fr_zero hok
        have hsrt := hok.srt
        have hl3 := hok3.len
        have hl0 := hok.len
        obtain ⟨M, hM⟩ : ∃ M, M = s.M := ⟨_, rfl⟩
        rw [← hM] at hfr hfr' hsrt hl3 hl0
        obtain ⟨M2, hM2⟩ : ∃ M2, M2 = putM M ⟨xk, xr, xm, xv⟩ := ⟨_, rfl⟩
        have hgetk : ∀ e, e ∈ M2 → e.s = xk → e = ⟨xk, xr, xm, xv⟩ := fun e he hk => by
          rw [hM2] at he
          rcases mem_put.1 he with he | ⟨_, he⟩
          · exact he
          · exact absurd hk he
        have hgeto : ∀ e, e ∈ M2 → e.s ≠ xk → getM M e.s = some e := fun e he hk => by
          rw [hM2] at he
          rcases mem_put.1 he with he | ⟨he, _⟩
          · exact absurd (by rw [he]) hk
          · exact (get_iff hsrt _ _).2 ⟨he, rfl⟩
        have hwfM : ∀ e, e ∈ M2 → (Lit.int .i64 e.s).wf = true := fun e he => by
          have h1 := hok3.ent e (by rw [← hM, ← hM2]; exact he)
          have h2 := hok3.hb.1
          exact wf64 (by have := h1.1; omega) (by have := h1.2.1; omega)
        have hcntE : cnt M2 xk M2.length + (if (getM M xk).isSome then 1 else 0) = M.length := by
          rw [cnt_all, hM2, del_put hsrt ⟨xk, xr, xm, xv⟩]
          exact del_len hsrt xk
        rw [← hM2] at hfr hl3
        have hLi := Lib.hid (hT3.a.list 0 (L := M2) (by rw [← hM, ← hM2]; exact hfr))
        replace hfr' := Lib.hid hfr'
        replace hgetk := Lib.hid hgetk
        replace hgeto := Lib.hid hgeto
        replace hwfM := Lib.hid hwfM
        replace hcntE := Lib.hid hcntE
        clear hAc hT2 hA3 hK3 hok3 hbox2 c1 c2 c3 c4 hs2 hec hfr hM2
        go_wp2_with fail
        go_at_call 31
        refine hLi.out.mono ?_
        rintro e w4 ⟨v4, rfl, hO4, _, hb4⟩
        have hT4 := hT3.later hb4
        have hbox4 := hbox3.later hb4
        clear hT3 hbox3 hLi hb4
        obtain ⟨va, vc, rfl⟩ := rows_form hO4
        generalize hn : M2.length = n at *
        replace hn := Lib.hid hn
        have hO4' := Lib.hid hO4
        have hbase4 := Lib.hid hT4.a.bel
        clear hO4
        go_wp2
        go_loopw [8, 9] (fun c i wr => ∃ k : Nat, k ≤ n ∧ i = .int .i64 k ∧ c = .int .i64 ((cnt M2 xk k : Nat) : Int) ∧ Below w4.heap.size w4 wr) (fun _ i _ => n - nOf i)
        case atStart => exact ⟨0, Nat.zero_le _, rfl, rfl, Below.refl _ _⟩
        case round =>
          obtain ⟨k, hk, rfl, rfl, hB⟩ := hrel
          have hTr := hT4.later hB
          have hboxr := hbox4.later hB
          obtain ⟨_, c1, c2, c3, c4⟩ := hboxr.cells
          by_cases hlt : k < n
          · obtain ⟨e, he⟩ : ∃ e, M2[k]? = some e := ⟨_, List.getElem?_eq_getElem (by have := hn.out; omega)⟩
            have hmem := List.mem_of_getElem? he
            obtain ⟨g, gcap, hv, _, hg, hcell⟩ := hO4'.out.cells (by have := hn.out; omega)
            injection hv with hv hv2 hv3
            subst hv
            clear hv2 hv3
            obtain ⟨m0, m1, m2, m3⟩ := hcell k e he
            have r0 := (hB.cell (p := ⟨g, k * 4, none⟩) hg).trans m0
            have r1 := (hB.cell (p := ⟨g, k * 4 + 1, none⟩) hg).trans m1
            have r2 := (hB.cell (p := ⟨g, k * 4 + 2, none⟩) hg).trans m2
            have r3 := (hB.cell (p := ⟨g, k * 4 + 3, none⟩) hg).trans m3
            have i1 : 0 ≤ (k : Int) := by omega
            have i2 : (k : Int) < (n : Int) := by omega
            have i3 : decide ((k : Int) < (n : Int)) = true := by simpa using i2
            have hgr : g < wr.heap.size := Nat.lt_of_lt_of_le hg hB.size
            have hcs := cnt_succ (k := xk) he
            have hcle := cnt_le M2 xk k
            replace hcs := Lib.hid hcs
            obtain ⟨cc, hcc⟩ : ∃ c, c = cnt M2 xk k := ⟨_, rfl⟩
            rw [← hcc] at hcs hcle ⊢
            have hccs : cc ≤ 4096 := by have := hn.out; omega
            clear m0 m1 m2 m3 hcell hcc hcle
            replace hB := Lib.hid hB
            by_cases hek : e.s = xk
            · have hee := hgetk.out e hmem hek
              subst hee
              have hq := fun W => (eq_e ⟨xk, xr, xm, xv⟩ ⟨xk, xr, xm, xv⟩ W).trans (by rw [eqE_t])
              have hcs2 : Hid (cnt M2 xk (k + 1) = cc) := Lib.hid (by rw [hcs.out, if_pos hek]; rfl)
              clear hek hmem he
              go_wp2
              go_quiet (fail)
              go_wp2
              go_quiet (fail)
              go_wp2
              go_roundw
              case rel => exact ⟨k + 1, by omega, by go_num, by rw [hcs2.out], below_drewN hB.out _⟩
              case measure => simp [nOf]; omega
            · have hb0 : (e.s == xk) = false := by simpa using hek
              have hgo := hgeto.out e hmem hek
              have hwf := hwfM.out e hmem
              have hcs2 : Hid (cnt M2 xk (k + 1) = cc + 1) := Lib.hid (by rw [hcs.out, if_neg hek])
              have hq := fun W => (eq_e e e W).trans (by rw [eqE_t])
              have hTq := Lib.hid (fun (W : World) (hW : Below wr.heap.size wr W) => (hTr.later hW).b.accepted e.s hwf (r := some e) (by rw [← hM]; exact hgo))
              have hrow := Lib.hid (fun (W : World) (hW : Below wr.heap.size wr W) => (⟨(hW.cell (p := ⟨g, k * 4, none⟩) hgr).trans r0, (hW.cell (p := ⟨g, k * 4 + 1, none⟩) hgr).trans r1, (hW.cell (p := ⟨g, k * 4 + 2, none⟩) hgr).trans r2, (hW.cell (p := ⟨g, k * 4 + 3, none⟩) hgr).trans r3⟩ :
                W.cell? ⟨g, k * 4, none⟩ = some (.int .i64 e.s) ∧ W.cell? ⟨g, k * 4 + 1, none⟩ = some (.int .i64 e.r) ∧ W.cell? ⟨g, k * 4 + 2, none⟩ = some (.int .i64 e.m) ∧ W.cell? ⟨g, k * 4 + 3, none⟩ = some (.string e.v)))
              obtain ⟨es, er, em, ev⟩ := e
              simp only at hb0 hek hwf r0 r1 r2 r3 hgo
              clear hek hmem he hgo
              go_wp2
              go_quiet (fail)
              have hbq := below_drewN (Below.refl wr.heap.size wr) nq
              generalize wr.drewN nq = W1 at *
              obtain ⟨a0, a1, a2, a3⟩ := hrow.out W1 hbq
              go_wp2_with fail
              go_at_call 25
              refine (hTq.out W1 hbq).mono ?_
              rintro e5 w5 ⟨rfl, _, hb5⟩
              have hb6 := below2 (below2 hbq hb5) (alloc_b w5 (.cells #[.int .i64 es, .int .i64 er, .int .i64 em, .string ev] TE))
              obtain ⟨a0, a1, a2, a3⟩ := hrow.out _ hb6
              have hxe := heap_alloc_new w5 (.cells #[.int .i64 es, .int .i64 er, .int .i64 em, .string ev] TE)
              have x0 := cell_of_row _ _ 0 _ TE _ hxe
              have x1 := cell_of_row _ _ 1 _ TE _ hxe
              have x2 := cell_of_row _ _ 2 _ TE _ hxe
              have x3 := cell_of_row _ _ 3 _ TE _ hxe
              have hbf := Lib.hid (below2 hB.out hb6)
              have hw1 : IntKind.i64.wrap ((cc : Int) + 1) = ((cc + 1 : Nat) : Int) := by rw [IntKind.wrap_i64]; omega
              clear hbq hb5 hb6
              go_wp2
              go_quiet (fail)
              go_wp2
              go_roundw
              case rel => exact ⟨k + 1, by omega, by go_num, by rw [hcs2.out]; simp, below_drewN hbf.out _⟩
              case measure => simp [nOf]; omega
          · have hkn : k = n := by omega
            subst hkn
            have i3 : decide ((k : Int) < (k : Int)) = false := by simp
            have hAcc := Lib.hid (hTr.b.accepted xk hxw (r := getM M xk) (by rw [hM]))
            have hcE := hcntE.out
            have hcl := cnt_le M2 xk k
            have hcl2 := hn.out
            have hlen0 : Hid (frM s.M 0 = M) := Lib.hid (by rw [← hM]; exact hfr'.out)
            generalize cnt M2 xk k = cc at *
            generalize getM M xk = gr at *
            obtain ⟨ml, hml⟩ : ∃ n, n = M.length := ⟨_, rfl⟩
            rw [← hml] at hcE hl0
            replace hml := Lib.hid hml
            have hbelr := Lib.hid hTr.a.bel
            have hTL := Lib.hid (fun (W : World) (hW : Below wr.heap.size wr W) => (hTr.later hW).b.list 0 hlen0.out)
            have hTB1 := Lib.hid (fun (W : World) (hW : Below wr.heap.size wr W) => (hTr.later hW).a.base)
            have hTB2 := Lib.hid (fun (W : World) (hW : Below wr.heap.size wr W) => (hTr.later hW).b.base)
            clear hTr hT4 hbox4 hO4' hgetk hgeto hwfM hbase4 hB
            generalize s.b = sbb at *
            cases gr with
            | none =>
              have hcm : cc = ml := by simpa using hcE
              have hcm2 : ((cc : Int) == (ml : Int)) = true := by rw [hcm]; simp
              clear hcE hcntE
              go_wp2_with fail
              go_at_call 25
              refine hAcc.out.mono ?_
              rintro e5 w5 ⟨rfl, _, hb5⟩
              have hb6 := below2 hb5 (alloc_b w5 (.cells #[.int .i64 0, .int .i64 0, .int .i64 0, .string ⟨#[]⟩] TE))
              go_wp2_with fail
              go_at_call 31
              refine (hTL.out _ hb6).mono ?_
              rintro e7 w7 ⟨v7, rfl, hO7, _, hb7⟩
              obtain ⟨la, lc, rfl⟩ := rows_form hO7
              rw [← hml.out]
              have hb8 := below2 hb6 hb7
              clear hb5 hb6 hb7 hO7
              go_wp2_with fail
              go_at_call 29
              refine (hTB1.out _ hb8).mono ?_
              rintro e9 w9 ⟨rfl, rfl⟩
              go_wp2_with fail
              go_at_call 29
              refine (hTB2.out _ hb8).mono ?_
              rintro e9 w9 ⟨rfl, rfl⟩
              go_wp2_with (go_at_call 13; refine (HW.out _).mono ?_; rintro e w1 ⟨rfl, hb⟩)
              go_ret
              exact ⟨rfl, below2 (below2 (below2 hb2.out hbelr.out) hb8) hb⟩
            | some ge =>
              obtain ⟨gs, gr', gm, gv⟩ := ge
              have hcm : cc + 1 = ml := by simpa using hcE
              have hw1 : IntKind.i64.wrap ((ml : Int) - 1) = (cc : Int) := by rw [IntKind.wrap_i64]; omega
              clear hcE hcntE
              go_wp2_with fail
              go_at_call 25
              refine hAcc.out.mono ?_
              rintro e5 w5 ⟨rfl, _, hb5⟩
              have hb6 := below2 hb5 (alloc_b w5 (.cells #[.int .i64 gs, .int .i64 gr', .int .i64 gm, .string gv] TE))
              go_wp2_with fail
              go_at_call 31
              refine (hTL.out _ hb6).mono ?_
              rintro e7 w7 ⟨v7, rfl, hO7, _, hb7⟩
              obtain ⟨la, lc, rfl⟩ := rows_form hO7
              rw [← hml.out]
              have hb8 := below2 hb6 hb7
              clear hb5 hb6 hb7 hO7
              go_wp2_with fail
              go_at_call 29
              refine (hTB1.out _ hb8).mono ?_
              rintro e9 w9 ⟨rfl, rfl⟩
              go_wp2_with fail
              go_at_call 29
              refine (hTB2.out _ hb8).mono ?_
              rintro e9 w9 ⟨rfl, rfl⟩
              go_wp2_with (go_at_call 13; refine (HW.out _).mono ?_; rintro e w1 ⟨rfl, hb⟩)
              go_ret
              exact ⟨rfl, below2 (below2 (below2 hb2.out hbelr.out) hb8) hb⟩
      · have hcb : (ec == 0) = false := by simpa using hc
        have hs2' : s2 = s := by rw [← hs2]; unfold accS; rw [if_neg (by rw [hec]; exact hc)]
        subst hs2'
        clear hs2 hec hc
        go_wp2_with fail
        go_at_call 19
        refine hAc.out.mono ?_
        rintro e w3 ⟨rfl, hA3, hK3⟩
        have hT3 := hT2.step hA3 hK3
        have hEq := equal_any sb mb sb' mb' _ _ w3 hT3.a.ax hT3.b.ax
        rw [eqS_self] at hEq
        replace hEq := Lib.hid hEq
        have hbel3 := Lib.hid hT3.a.bel
        clear hT2 hT3 hA3 hK3 hbox2 c1 c2 c3 c4 hAc
        go_wp2_with (first
          | (go_at_call 36; refine hEq.out.mono ?_; rintro e w4 ⟨rfl, hb4⟩)
          | (go_at_call 13; refine (HW.out _).mono ?_; rintro e w1 ⟨rfl, hb⟩))
        go_ret
        exact ⟨rfl, below2 (below2 (below2 hb2.out hbel3.out) hb4) hb⟩
end Go.Proofs.Ytpaoaagphacclaa.Acc
