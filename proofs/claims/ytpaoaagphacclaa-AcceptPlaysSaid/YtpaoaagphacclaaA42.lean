/- The document's acceptor: Accept where it accepts. -/
import Derived.Test.YtpaoaagphacclaaA41
namespace Go.Proofs.Ytpaoaagphacclaa.Acc
open Go.RowKit Go.Maps Go.Lib
open Bal (TB bOk ckB ordV eqB eqB_t eqB_f eq_b alloc_b)
set_option linter.unusedVariables false
set_option linter.unusedSimpArgs false
set_option maxRecDepth 20000

theorem wpList_append_es {ops : Array Oper} {rest : List Oper} {o : Oper} {a : Act} {w : World} {Q : Exit → Act → World → Prop} (hgd : o.guard = none) (s x : Operand)
    (ho : o.op = .call { callee := .builtin .append, args := #[s, x], argTypes := #[TEs, TEs] })
    (base : Nat) (v : Value) (L : List Et) (hs : a.eval s = v) (hown : OwE base L v w) (ad : Addr) (c : Nat) (N : List Et) (hx : a.eval x = .slice (some ad) N.length c)
    (hc : ∀ j u, (flat N)[j]? = some u → w.cell? (ad.add j) = some u) (hn : L.length + N.length ≤ 100000) (hbase : base ≤ w.heap.size)
    (h : ∀ v' w', OwE base (L ++ N) v' w' → w.grownBy w' v.ownBlock → wpList Try.prog ops Q rest (a.put o.dst v') w') :
    wpList Try.prog ops Q (o :: rest) a w := by
  refine wpList_plain hgd fun K hK => ?_
  obtain ⟨v', w', hrun, h1, h2⟩ := run_append_es base w o.type v L hown ad c N hc hn hbase
  unfold Oper.wp execOp
  simp only [ho, resolve, invoke, builtin, Sem.run_bind, Sem.run_pure, Result.andThen_ok, List.map_toArray, List.map_cons, List.map_nil, hs, hx, hrun]
  exact hK _ _ (h v' w' h1 h2)
theorem row_cells {w : World} {base : Nat} {N : List Et} {ad : Addr} {n c : Nat} (h : OwE base N (.slice (some ad) n c) w) : ∀ j u, (flat N)[j]? = some u → w.cell? (ad.add j) = some u := by
  intro j u hu
  rcases h.2 with ⟨h1, _⟩ | ⟨g, cap, cur, e, _, hg, h1, h2, h3, h4⟩
  · cases h1
  · injection e with e1 _ _
    injection e1 with e1
    subst e1
    rw [addr_add, Nat.zero_add]
    rw [← h4] at hu
    have hj := (List.getElem?_eq_some_iff.1 hu).1
    rw [List.length_take] at hj
    rw [List.getElem?_take_of_lt (by omega)] at hu
    rw [← hu]
    simp [World.cell?, hg]
theorem rows_any {w : World} {base n size : Nat} {e : TypeId} {v : Value} {xs : List Value} (h : w.ownsRow base e size v n xs) : ∃ a m cap, v = .slice a m cap := by
  obtain ⟨a, c, rfl⟩ := rows_form h
  exact ⟨a, n, c, rfl⟩
theorem row_nil {w : World} {base : Nat} {N : List Et} {n c : Nat} (h : OwE base N (.slice none n c) w) : N = [] ∧ c = 0 := by
  rcases h.2 with ⟨h1, h0⟩ | ⟨g, cap, cur, e, _⟩
  · injection h1 with _ _ h3
    exact ⟨List.eq_nil_of_length_eq_zero h0, h3⟩
  · injection e with e1 _ _
    cases e1
theorem wpList_append_none {ops : Array Oper} {rest : List Oper} {o : Oper} {a : Act} {w : World} {Q : Exit → Act → World → Prop} (hgd : o.guard = none) (s x : Operand)
    (ho : o.op = .call { callee := .builtin .append, args := #[s, x], argTypes := #[TEs, TEs] })
    (base : Nat) (v : Value) (L : List Et) (hs : a.eval s = v) (hown : OwE base L v w) (hx : a.eval x = .slice none 0 0) (h : wpList Try.prog ops Q rest (a.put o.dst v) w) :
    wpList Try.prog ops Q (o :: rest) a w := by
  refine wpList_plain hgd fun K hK => ?_
  obtain ⟨i0, hi, _⟩ := info_p info_e
  have hrun := run_append_owned_none (P := Try.prog) w base TEs o.type TE i0 4 Try.underlying36 hi v _ _ hown
  unfold Oper.wp execOp
  simp only [ho, resolve, invoke, builtin, Sem.run_bind, Sem.run_pure, Result.andThen_ok, List.map_toArray, List.map_cons, List.map_nil, hs, hx, hrun]
  exact hK _ _ h
set_option maxHeartbeats 8000000 in
theorem racc_6 {rb : Nat} {s : St} {vl : Value} (x y k : Int) (v : ByteArray) (w : World) (h : Rx w rb s vl) (hb : accBad s x y k v 6) :
    Calls Try.prog 20 #[.pointer (some ⟨rb, 0, none⟩), .agg #[.int .i64 x, .int .i64 y], .int .i64 k, .string v] w (RAcc w rb s x y k v) := by
  have P0 := prt_new h x y
  obtain ⟨c0, c1, _⟩ := P0.cells
  have HV := Lib.hid (rvalid_any _ P0.rx)
  have HG := Lib.hid (rgood_any x y _ P0.rx)
  obtain ⟨h0, h1, h2, h3, h4, h5⟩ := hb
  have b0 : decide (Gd s.n x y) = true := decide_eq_true h0
  rw [b0] at HG
  have b1 : decide (k < 0) = false := decide_eq_false h1
  have b2 : decide (4096 ≤ k) = false := decide_eq_false h2
  have b3 : decide (65536 < v.size) = false := decide_eq_false h3
  have b3' : decide ((65536 : Int) < (v.size : Int)) = false := by simp; omega
  have b4 : decide (ordV x y s.r s.m < 0) = false := decide_eq_false h4
  have b5 : decide (k < s.b) = false := decide_eq_false h5
  have i0 : IntKind.i64.wrap (k + 1) = k + 1 := by rw [IntKind.wrap_i64]; omega
  have e : accE s x y k v = 0 := by unfold accE; rw [if_pos ⟨h0, by omega, by omega⟩, if_neg h3, if_neg h4, if_neg h5]
  have hS : accS s x y k v = ⟨s.n, x, y, s.b, putM s.M ⟨k, x, y, v⟩⟩ := if_pos e
  have hok := ok_acc h.ok x y k v
  rw [hS, put_split ⟨k, x, y, v⟩ s.M h.ok.srt] at hok
  have hfin : Hid (∀ W vl', Rx W rb ⟨s.n, x, y, s.b, ltM s.M k ++ ⟨k, x, y, v⟩ :: frM s.M (k + 1)⟩ vl' → Keeps (fun i => i = rb) w W → RAcc w rb s x y k v (.returned (.int .i64 0)) W) := Lib.hid fun W vl' h1 h2 =>
    ⟨by rw [e], vl', by rw [hS, put_split ⟨k, x, y, v⟩ s.M h.ok.srt]; exact h1, h2⟩
  have hok1 : OkS ⟨s.n, x, y, s.b, s.M⟩ := by
    have h9 := ok_pro h.ok x y 0
    have h8 : proE s x y 0 = 0 := by unfold proE; rw [if_pos ⟨h0, by omega, by omega⟩, if_neg h4]
    unfold proS at h9
    rwa [if_pos h8] at h9
  have HO := Lib.hid (fun W => Bal.rorder_any x y s.r s.m W)
  have HK : Hid (∀ W, PRt w rb s vl x y W → W.cell? ⟨w.heap.size, 0, none⟩ = some (.int .i64 x) ∧ W.cell? ⟨w.heap.size, 1, none⟩ = some (.int .i64 y) ∧ W.cell? ⟨rb, 2, none⟩ = some (.int .i64 s.r) ∧ W.cell? ⟨rb, 3, none⟩ = some (.int .i64 s.m)) := Lib.hid fun W h => ⟨h.cells.1, h.cells.2.1, h.cells.2.2.2.1, h.cells.2.2.2.2.1⟩
  have hlt := Lib.hid h.lt
  have hlen := h.ok.len
  replace P0 := Lib.hid P0
  replace hok := Lib.hid hok
  replace hok1 := Lib.hid hok1
  clear h0 h1 h2 h3 h4 h5 b0 e hS h
  generalize ordV x y s.r s.m = oo at *
  go_enter Try.func20, Try.ntmps20
  go_wp2_with (first
    | (go_at_call 42; refine HV.out.mono ?_; rintro e w' ⟨rfl, rfl⟩)
    | (go_at_call 43; refine HG.out.mono ?_; rintro e w1 ⟨rfl, hb1⟩; have P1 := Lib.hid (P0.out.later hb1).drew))
  go_region_held3 (fun W => W.cell? ⟨w.heap.size, 0, none⟩ = some (.int .i64 x) ∧ W.cell? ⟨w.heap.size, 1, none⟩ = some (.int .i64 y) ∧ W.cell? ⟨rb, 2, none⟩ = some (.int .i64 s.r) ∧ W.cell? ⟨rb, 3, none⟩ = some (.int .i64 s.m))
    ((first | exact HK.out _ P2.out | exact HK.out _ P1.out | assumption))
    ((first | (go_at_call 44; refine (HO.out _).mono ?_; rintro e2 w2 ⟨rfl, hb2⟩; have P2 := Lib.hid (P1.out.later hb2))))
  obtain ⟨d0, d1, _, _, _, d5⟩ := P2.out.cells
  have f2 := P2.out.rx.frozen 2
  have f3 := P2.out.rx.frozen 3
  obtain ⟨hx, hk⟩ := P2.out.rx.setB x y hok1.out
  have hbk := (hk.block w.heap.size (Array.getElem?_eq_some_iff.1 P2.out.blk).1 (by have := hlt.out; omega)).trans P2.out.blk
  have hbel := Lib.hid P2.out.bel
  replace hx := Lib.hid hx
  replace hk := Lib.hid hk
  replace hbk := Lib.hid hbk
  clear P0 P1 P2 HV HG HO HK hb1 hb2 hok1
  obtain ⟨la, lc, rfl⟩ := hx.out.form
  go_wp2_with fail
  generalize (w2.setCell ⟨rb, 2, none⟩ (.int .i64 x)).setCell ⟨rb, 3, none⟩ (.int .i64 y) = W3 at *
  clear d0 d1 d5 f2 f3
  go_loopw [9, 10] (fun v i wr => ∃ j : Nat, j ≤ s.M.length ∧ i = .int .i64 j ∧ OwE W3.heap.size (ltM (s.M.take j) k) v wr ∧ Below W3.heap.size W3 wr) (fun _ i _ => s.M.length - (intOf i).toNat)
  case atStart => exact ⟨0, Nat.zero_le _, rfl, OwE.nil _ _, Below.refl _ _⟩
  case round =>
    obtain ⟨j, hj, rfl, hO, hB⟩ := hrel
    have xr := hx.out.later hB
    obtain ⟨_, _, _, _, c4, _⟩ := xr.cells
    have hlt2 : (ltM (s.M.take j) k).length ≤ 100000 := Nat.le_trans (List.length_filter_le _ _) (by rw [List.length_take]; omega)
    obtain ⟨va, vc, rfl⟩ := rows_form hO
    by_cases hlj : j < s.M.length
    · obtain ⟨z, hz⟩ : ∃ z, s.M[j]? = some z := ⟨_, List.getElem?_eq_getElem hlj⟩
      obtain ⟨g, cap', hv, _, hg, hc⟩ := xr.row.cells (show 0 < s.M.length by omega)
      injection hv with hv1 hv2 hv3
      subst hv1
      obtain ⟨d0, d1, d2, d3⟩ := hc j z hz
      have htk : ltM (s.M.take (j + 1)) k = ltM (s.M.take j) k ++ (if z.s < k then [z] else []) := by
        rw [List.take_add_one, hz]
        unfold ltM
        rw [List.filter_append]
        congr 1
        by_cases h : z.s < k <;> simp [h]
      have i1 : 0 ≤ (j : Int) := by omega
      have i2 : (j : Int) < (s.M.length : Int) := by omega
      have i3 : IntKind.i64.wrap ((j : Int) + 1) = ((j + 1 : Nat) : Int) := by rw [IntKind.wrap_i64]; omega
      obtain ⟨ys, yr, ym, yv⟩ := z
      simp only at d0 d1 d2 d3 htk
      have hOa := Lib.hid (hO.later (alloc_b wr (.cells #[.int .i64 ys, .int .i64 yr, .int .i64 ym, .string yv] TE)))
      have hca : Hid ((wr.alloc (.cells #[.int .i64 ys, .int .i64 yr, .int .i64 ym, .string yv] TE)).heap[wr.heap.size]? = some (.cells (ec ⟨ys, yr, ym, yv⟩).toArray TE (0, 0))) := Lib.hid (heap_alloc_new _ _)
      have hBa := Lib.hid (hB.alloc hB.size (.cells #[.int .i64 ys, .int .i64 yr, .int .i64 ym, .string yv] TE))
      have hsza := Lib.hid hBa.out.size
      replace hO := Lib.hid hO
      replace hB := Lib.hid hB
      clear hz xr hlj hv2 hv3 hc
      by_cases hk' : ys < k
      · have q1 : decide (ys < k) = true := decide_eq_true hk'
        rw [if_pos hk'] at htk
        replace htk := Lib.hid htk
        clear hk'
        go_wp2_with (at_builtin; refine wpList_append_e rfl _ _ rfl W3.heap.size _ _ rfl hOa.out wr.heap.size _ ⟨ys, yr, ym, yv⟩ rfl hca.out hlt2 hsza.out ?_; intro v5 w5 hO5 hg5)
        have hB5 : Below W3.heap.size W3 w5 := own_below hOa.out hg5 hBa.out (Nat.le_refl _)
        go_roundw
        case rel => exact ⟨j + 1, by omega, by go_num, by rw [htk.out]; exact hO5, hB5⟩
        case measure => simp [intOf]; omega
      · have q1 : decide (ys < k) = false := decide_eq_false hk'
        rw [if_neg hk', List.append_nil] at htk
        replace htk := Lib.hid htk
        clear hk'
        go_wp2
        go_roundw
        case rel => exact ⟨j + 1, by omega, by go_num, by rw [htk.out]; exact hO.out, hB.out⟩
        case measure => simp [intOf]; omega
    · have hjl : j = s.M.length := by omega
      subst hjl
      have i2 : decide ((s.M.length : Int) < (s.M.length : Int)) = false := by simp
      rw [List.take_length] at hO hlt2 ⊢
      have hbr := (hB.block _ (Array.getElem?_eq_some_iff.1 hbk.out).1).trans hbk.out
      have d0 := cell_of_row _ _ 0 _ TB _ hbr
      have d1 := cell_of_row _ _ 1 _ TB _ hbr
      have hOa := Lib.hid (hO.later (alloc_b wr (.cells #[.int .i64 k, .int .i64 x, .int .i64 y, .string v] TE)))
      have hca : Hid ((wr.alloc (.cells #[.int .i64 k, .int .i64 x, .int .i64 y, .string v] TE)).heap[wr.heap.size]? = some (.cells (ec ⟨k, x, y, v⟩).toArray TE (0, 0))) := Lib.hid (heap_alloc_new _ _)
      have hBa := Lib.hid (hB.alloc hB.size (.cells #[.int .i64 k, .int .i64 x, .int .i64 y, .string v] TE))
      have hsza := Lib.hid hBa.out.size
      have hlt3 := Lib.hid hlt2
      clear hO hB xr hbr
      go_wp2_with (at_builtin; refine wpList_append_e rfl _ _ rfl W3.heap.size _ _ rfl hOa.out wr.heap.size _ ⟨k, x, y, v⟩ rfl hca.out hlt3.out hsza.out ?_; intro v5 w5 hO5 hg5; have hB5 : Below W3.heap.size W3 w5 := own_below hOa.out hg5 hBa.out (Nat.le_refl _); obtain ⟨a5, n5, q5, rfl⟩ := rows_any hO5; have x5 := Lib.hid (hx.out.later hB5); have HL := Lib.hid (rlist_any (k + 1) w5 x5.out); replace hO5 := Lib.hid hO5; replace hB5 := Lib.hid hB5)
      go_at_call 32
      refine HL.out.mono ?_
      rintro e w6 ⟨v6, rfl, hO6, hb6⟩
      obtain ⟨a6, q6, rfl⟩ := rows_form hO6
      have x6 := Lib.hid (x5.out.later hb6)
      obtain ⟨_, _, _, _, g4, _⟩ := x6.out.cells
      have f4 := x6.out.frozen 4
      have hO56 := Lib.hid (hO5.out.later hb6)
      have hB6 := Lib.hid (hB5.out.trans (hb6.mono hB5.out.size))
      have hN6 : Hid ((ltM s.M k ++ [(⟨k, x, y, v⟩ : Et)]).length + (frM s.M (k + 1)).length ≤ 100000) := Lib.hid (by
        have q1 : (ltM s.M k).length ≤ s.M.length := List.length_filter_le _ _
        have q2 : (frM s.M (k + 1)).length ≤ s.M.length := List.length_filter_le _ _
        rw [List.length_append, List.length_singleton]
        omega)
      have hsz6 := Lib.hid hB6.out.size
      cases a6 with
      | some ad =>
        have hcc := Lib.hid (row_cells hO6)
        clear g4 f4 hO6
        go_wp2_with (at_builtin; refine wpList_append_es rfl _ _ rfl W3.heap.size _ (ltM s.M k ++ [⟨k, x, y, v⟩]) rfl hO56.out ad q6 (frM s.M (k + 1)) rfl hcc.out hN6.out hsz6.out ?_; intro v7 w7 hO7 hg7; have hB7 : Below W3.heap.size W3 w7 := own_below hO56.out hg7 hB6.out (Nat.le_refl _); obtain ⟨a7, n7, q7, rfl⟩ := rows_any hO7; have x7 := Lib.hid (hx.out.later hB7); obtain ⟨_, _, _, _, g4, _⟩ := x7.out.cells; have f4 := x7.out.frozen 4; replace hO7 := Lib.hid hO7; replace hB7 := Lib.hid hB7)
        go_ret
        have k1 : Keeps (fun i => i = rb) w7 (w7.setCell ⟨rb, 4, none⟩ (.slice a7 n7 q7)) := (Keeps.refl (fun i => i = rb) w7).setCell (p := ⟨rb, 4, none⟩) (.inl rfl) _
        have h7 := hO7.out
        rw [List.append_assoc] at h7
        have hrb := hx.out.lt
        refine hfin.out _ _ ⟨Go.heap_setCell_same w7 rb 4 _ TRA _ x7.out.box, rows_base (rows_kept h7 fun i hi => k1.block i (World.ownsRow.lt h7 i hi).2 (by have := (World.ownsRow.lt h7 i hi).1; omega)) (Nat.zero_le _), hok.out⟩ ?_
        exact (keeps_set hbel.out hk.out).trans (keeps_set hB7.out k1) fun i hi _ => hi
      | none =>
        obtain ⟨hN, rfl⟩ := row_nil hO6
        have h7 := hO56.out
        rw [hN] at hok hfin
        replace h7 := Lib.hid h7
        clear hO6
        rw [hN, List.length_nil]
        go_wp2_with (at_builtin; refine wpList_append_none rfl _ _ rfl W3.heap.size _ (ltM s.M k ++ [⟨k, x, y, v⟩]) rfl h7.out rfl ?_)
        go_ret
        have k1 : Keeps (fun i => i = rb) w6 (w6.setCell ⟨rb, 4, none⟩ (.slice a5 n5 q5)) := (Keeps.refl (fun i => i = rb) w6).setCell (p := ⟨rb, 4, none⟩) (.inl rfl) _
        have hrb := hx.out.lt
        refine hfin.out _ _ ⟨Go.heap_setCell_same w6 rb 4 _ TRA _ x6.out.box, rows_base (rows_kept h7.out fun i hi => k1.block i (World.ownsRow.lt h7.out i hi).2 (by have := (World.ownsRow.lt h7.out i hi).1; omega)) (Nat.zero_le _), hok.out⟩ ?_
        exact (keeps_set hbel.out hk.out).trans (keeps_set hB6.out k1) fun i hi _ => hi
theorem raccept_any {rb : Nat} {s : St} {vl : Value} (x y k : Int) (v : ByteArray) (w : World) (h : Rx w rb s vl) :
    Calls Try.prog 20 #[.pointer (some ⟨rb, 0, none⟩), .agg #[.int .i64 x, .int .i64 y], .int .i64 k, .string v] w (RAcc w rb s x y k v) := by
  obtain ⟨b, hb, hB⟩ := acc_cases s x y k v
  match b, hb, hB with
  | 0, _, hB => exact racc_0 x y k v w h hB
  | 1, _, hB => exact racc_1 x y k v w h hB
  | 2, _, hB => exact racc_2 x y k v w h hB
  | 3, _, hB => exact racc_3 x y k v w h hB
  | 4, _, hB => exact racc_4 x y k v w h hB
  | 5, _, hB => exact racc_5 x y k v w h hB
  | 6, _, hB => exact racc_6 x y k v w h hB
end Go.Proofs.Ytpaoaagphacclaa.Acc
