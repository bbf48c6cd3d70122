/- The document's log: cut, Forget, Jump, Copy. -/
import Derived.Test.YtgeejkedljhcoaaT22
namespace Go.Proofs.Ytgeejkedljhcoaa.Slt
open Go.RowKit Go.Maps Go.Lib
set_option linter.unusedVariables false
set_option linter.unusedSimpArgs false
set_option maxRecDepth 20000

def RCut (w : World) (rb : Nat) (s : St) (u : Int) (e : Ending) (w' : World) : Prop :=
  e = .returned (.tuple #[]) ∧ ∃ L' v', Rx w' rb (rsS s u) L' v' ∧ Keeps (fun i => i = rb) w w' ∧ Up w.heap.size v'
set_option maxHeartbeats 4000000 in
theorem rcut_any {rb : Nat} {s : St} {L : List Et} {vl : Value} (u : Int) (w : World) (x : Rx w rb s L vl) (hu : s.b ≤ u ∧ u ≤ 4096) :
    Calls Try.prog 46 #[.pointer (some ⟨rb, 0, none⟩), .int .i64 u] w (RCut w rb s u) := by
  have hrel := Lib.hid (x.rel.rs x.ok u hu.1)
  have hok := Lib.hid (ok_rs x.ok hu.2)
  have hub : Hid ((rsS s u).b = u) := Lib.hid (by show max s.b u = u; omega)
  have hlen := x.len
  obtain ⟨a, cap, rfl⟩ := x.form
  have hX := Lib.hid x
  have hD : Hid (∀ i e, L[i]? = some e → ∃ g, a = some ⟨g, 0, none⟩ ∧ g < w.heap.size ∧ w.cell? ⟨g, i * 2, none⟩ = some (.int .i64 e.s) ∧ w.cell? ⟨g, i * 2 + 1, none⟩ = some (.string e.k)) := Lib.hid fun i e he => by
    obtain ⟨g, cap', hv, hg, hc⟩ := x.row.at he
    injection hv with h1 _ _
    exact ⟨g, h1, hg, hc⟩
  have c2 := Lib.hid x.cells.2.2
  clear x hu
  obtain ⟨n, hn⟩ : ∃ n, L.length = n := ⟨_, rfl⟩
  rw [hn] at c2 hlen hX
  replace hn := Lib.hid hn
  go_enter Try.func46, Try.ntmps46
  go_wp2
  go_loopw [4, 5] (fun v i wr => ∃ j : Nat, j ≤ n ∧ i = .int .i64 j ∧ OwK w.heap.size (frM (L.take j) u) v wr ∧ Below w.heap.size w wr) (fun _ i _ => n - nOf i)
  case atStart => exact ⟨0, Nat.zero_le _, rfl, OwK.nil _ _, Below.refl _ _⟩
  case round =>
    obtain ⟨j, hj, rfl, hO, hB⟩ := hrel
    have xr := hX.out.later hB
    have d2 := xr.cells.2.2
    have hlt2 : (frM (L.take j) u).length ≤ 10000 := Nat.le_trans (List.length_filter_le _ _) (by rw [List.length_take]; have := hn.out; omega)
    obtain ⟨va, vm, vc, rfl⟩ : ∃ a m c, u4 = .slice a m c := by
      obtain ⟨a, c, e⟩ := rows_form hO
      exact ⟨a, _, c, e⟩
    by_cases hlj : j < n
    · obtain ⟨y, hy⟩ : ∃ y, L[j]? = some y := ⟨_, List.getElem?_eq_getElem (by rw [hn.out]; exact hlj)⟩
      obtain ⟨g, rfl, hg, e0, e1⟩ := hD.out j y hy
      have d0 := (hB.cell (p := ⟨g, j * 2, none⟩) hg).trans e0
      have d1 := (hB.cell (p := ⟨g, j * 2 + 1, none⟩) hg).trans e1
      have htk : frM (L.take (j + 1)) u = frM (L.take j) u ++ (if u ≤ y.s then [y] else []) := by
        rw [List.take_add_one, hy]
        unfold frM
        rw [List.filter_append]
        congr 1
        by_cases h : u ≤ y.s <;> simp [h]
      have i0 : decide ((j : Int) < (n : Int)) = true := by simp; omega
      have i1 : 0 ≤ (j : Int) := by omega
      have i2 : (j : Int) < (n : Int) := by omega
      have i3 : IntKind.i64.wrap ((j : Int) + 1) = (j : Int) + 1 := by rw [IntKind.wrap_i64]; omega
      obtain ⟨ys, yk⟩ := y
      simp only at d0 d1 htk
      replace hlt2 := Lib.hid hlt2
      clear hy xr hlj e0 e1
      by_cases hk : u ≤ ys
      · have q1 : decide (u ≤ ys) = true := decide_eq_true hk
        rw [if_pos hk] at htk
        have hO2 := Lib.hid ((rows_later hO (alloc_b wr (.cells (eA ⟨ys, yk⟩) TRK)) : OwK w.heap.size (frM (L.take j) u) (.slice va vm vc) (wr.alloc (.cells (eA ⟨ys, yk⟩) TRK))))
        have hca := Lib.hid (heap_alloc_new wr (.cells (eA ⟨ys, yk⟩) TRK))
        have hB2 := Lib.hid (hB.alloc hB.size (.cells (eA ⟨ys, yk⟩) TRK))
        have hsz := Lib.hid hB2.out.size
        replace htk := Lib.hid htk
        clear hk hO
        go_wp2_with (at_builtin; refine wpList_append_k rfl _ _ rfl w.heap.size _ _ rfl hO2.out wr.heap.size _ ⟨ys, yk⟩ rfl hca.out hlt2.out hsz.out ?_; intro v5 w5 hO5 hg5)
        go_roundw
        case rel => exact ⟨j + 1, by omega, by go_num, by rw [htk.out]; exact hO5, own_below hO2.out hg5 hB2.out (Nat.le_refl _)⟩
        case measure => simp [nOf]; omega
      · have q1 : decide (u ≤ ys) = false := decide_eq_false hk
        rw [if_neg hk, List.append_nil] at htk
        replace htk := Lib.hid htk
        replace hO := Lib.hid hO
        clear hk
        go_wp2
        go_roundw
        case rel => exact ⟨j + 1, by omega, by go_num, by rw [htk.out]; exact hO.out, hB⟩
        case measure => simp [nOf]; omega
    · have hjl : j = n := by omega
      have i2 : decide ((j : Int) < (n : Int)) = false := by simp; omega
      have i2b : decide (j < n) = false := by simp; omega
      rw [hjl, ← hn.out, List.take_length] at hO
      have f2 := xr.frozen 2
      have hbx2 := Go.heap_setCell_same wr rb 2 _ TRL (.slice va vm vc) xr.box
      have f1 := frozen_of_row _ rb 1 _ TRL hbx2
      have hbx3 := Go.heap_setCell_same _ rb 1 _ TRL (.int .i64 u) hbx2
      have hK : Keeps (fun i => i = rb) w ((wr.setCell ⟨rb, 2, none⟩ (.slice va vm vc)).setCell ⟨rb, 1, none⟩ (.int .i64 u)) := ((Keeps.of_below (F := fun i => i = rb) hB).setCell (p := ⟨rb, 2, none⟩) (.inl rfl) _).setCell (p := ⟨rb, 1, none⟩) (.inl rfl) _
      have hne := hO.ne xr.box
      have hfin : Hid (RCut w rb s u (.returned (.tuple #[])) ((wr.setCell ⟨rb, 2, none⟩ (.slice va vm vc)).setCell ⟨rb, 1, none⟩ (.int .i64 u))) := Lib.hid
        ⟨rfl, frM L u, .slice va vm vc, ⟨by rw [hub.out]; exact hbx3, rows_base (base := w.heap.size) (base' := 0) (rows_kept hO fun k hk => (Below.heap_setCell _ _ _ _ (hne k hk)).trans (Below.heap_setCell _ _ _ _ (hne k hk))) (Nat.zero_le _), hrel.out, hok.out⟩, hK, OwK.ups hO⟩
      have d1 := xr.cells.2.1
      have f1b := xr.frozen 1
      clear hO hB xr hlj hlt2 hbx2 hbx3 hK hne hjl
      go_wp2
      go_end0
      exact hfin.out
theorem rs_low {s : St} (h : OkS s) {u : Int} (hu : u ≤ s.b) : rsS s u = s := by
  obtain ⟨b, M⟩ := s
  simp only at hu
  unfold rsS
  simp only
  rw [show max b u = b by omega, fr_all (fun p hp => by have := (h.ent p hp).1; simp only at this; omega)]
def RMov (w : World) (rb : Nat) (vl : Value) (c : Int) (s' : St) (e : Ending) (w' : World) : Prop :=
  e = .returned (.int .i64 c) ∧ ∃ L' v', Rx w' rb s' L' v' ∧ Keeps (fun i => i = rb) w w' ∧ ∀ base, base ≤ w.heap.size → Up base vl → Up base v'
set_option maxHeartbeats 1000000 in
theorem rforget_any {rb : Nat} {s : St} {L : List Et} {vl : Value} (u : Int) (w : World) (x : Rx w rb s L vl) :
    Calls Try.prog 19 #[.pointer (some ⟨rb, 0, none⟩), .int .i64 u] w (RMov w rb vl (forE s u) (forS s u)) := by
  have HC := Lib.hid (rcheck_any u w x)
  have HU := Lib.hid (rupto_any w x)
  obtain ⟨_, c1, _⟩ := x.cells
  by_cases hu : 0 ≤ u ∧ u ≤ 4096
  · rw [if_pos hu] at HC
    by_cases hlt : uptoV s < u
    · have he : forE s u = 3 := by unfold forE; rw [if_pos hu, if_pos hlt]
      have hfin : Hid (RMov w rb vl (forE s u) (forS s u) (.returned (.int .i64 3)) w) := Lib.hid ⟨by rw [he], L, vl, by unfold forS; rw [if_neg (by rw [he]; decide)]; exact x, Keeps.refl _ _, fun _ _ h => h⟩
      have b1 : decide (uptoV s < u) = true := decide_eq_true hlt
      generalize uptoV s = U at *
      generalize forE s u = E at *
      generalize forS s u = F at *
      clear he x hlt hu
      go_enter Try.func19, Try.ntmps19
      go_wp2_with (first
        | (go_at_call 45; refine HC.out.mono ?_; rintro e w' ⟨rfl, rfl⟩)
        | (go_at_call 37; refine HU.out.mono ?_; rintro e w' ⟨rfl, rfl⟩))
      go_ret
      exact hfin.out
    · have he : forE s u = 0 := by unfold forE; rw [if_pos hu, if_neg hlt]
      have hS : forS s u = rsS s u := by unfold forS; rw [if_pos he]
      rw [he, hS]
      have b1 : decide (uptoV s < u) = false := decide_eq_false hlt
      by_cases hb : s.b < u
      · have b2 : decide (s.b < u) = true := decide_eq_true hb
        have HK := Lib.hid (rcut_any u w x ⟨by omega, hu.2⟩)
        generalize uptoV s = U at *
        generalize hbb : s.b = b at *
        clear he hS x hlt hu hb hbb
        go_enter Try.func19, Try.ntmps19
        go_wp2_with (first
          | (go_at_call 45; refine HC.out.mono ?_; rintro e w' ⟨rfl, rfl⟩)
          | (go_at_call 37; refine HU.out.mono ?_; rintro e w' ⟨rfl, rfl⟩)
          | (go_at_call 46; refine HK.out.mono ?_; rintro e w2 ⟨rfl, hR⟩))
        go_ret
        exact (match hR with | ⟨L2, v2, hR, hK, hU⟩ => ⟨rfl, L2, v2, hR, hK, fun base hb _ i hi => Nat.le_trans hb (hU i hi)⟩)
      · have b2 : decide (s.b < u) = false := decide_eq_false hb
        have hfin : Hid (RMov w rb vl 0 (rsS s u) (.returned (.int .i64 0)) w) := Lib.hid ⟨rfl, L, vl, by rw [rs_low x.ok (by omega)]; exact x, Keeps.refl _ _, fun _ _ h => h⟩
        generalize uptoV s = U at *
        generalize rsS s u = F at *
        generalize s.b = b at *
        clear he hS x hlt hu hb
        go_enter Try.func19, Try.ntmps19
        go_wp2_with (first
          | (go_at_call 45; refine HC.out.mono ?_; rintro e w' ⟨rfl, rfl⟩)
          | (go_at_call 37; refine HU.out.mono ?_; rintro e w' ⟨rfl, rfl⟩))
        go_ret
        exact hfin.out
  · rw [if_neg hu] at HC
    have he : forE s u = 2 := if_neg hu
    have hfin : Hid (RMov w rb vl (forE s u) (forS s u) (.returned (.int .i64 2)) w) := Lib.hid ⟨by rw [he], L, vl, by unfold forS; rw [if_neg (by rw [he]; decide)]; exact x, Keeps.refl _ _, fun _ _ h => h⟩
    generalize forE s u = E at *
    generalize forS s u = F at *
    clear he x hu HU
    go_enter Try.func19, Try.ntmps19
    go_wp2_with (go_at_call 45; refine HC.out.mono ?_; rintro e w' ⟨rfl, rfl⟩)
    go_ret
    exact hfin.out
set_option maxHeartbeats 1000000 in
theorem rjump_any {rb : Nat} {s : St} {L : List Et} {vl : Value} (u : Int) (w : World) (x : Rx w rb s L vl) :
    Calls Try.prog 21 #[.pointer (some ⟨rb, 0, none⟩), .int .i64 u] w (RMov w rb vl (jmpE s u) (jmpS s u)) := by
  have HC := Lib.hid (rcheck_any u w x)
  have HU := Lib.hid (rupto_any w x)
  by_cases hu : 0 ≤ u ∧ u ≤ 4096
  · rw [if_pos hu] at HC
    by_cases hlt : u < uptoV s
    · have he : jmpE s u = 8 := by unfold jmpE; rw [if_pos hu, if_pos hlt]
      have hfin : Hid (RMov w rb vl (jmpE s u) (jmpS s u) (.returned (.int .i64 8)) w) := Lib.hid ⟨by rw [he], L, vl, by unfold jmpS; rw [if_neg (by rw [he]; decide)]; exact x, Keeps.refl _ _, fun _ _ h => h⟩
      have b1 : decide (u < uptoV s) = true := decide_eq_true hlt
      generalize uptoV s = U at *
      generalize jmpE s u = E at *
      generalize jmpS s u = F at *
      clear he x hlt hu
      go_enter Try.func21, Try.ntmps21
      go_wp2_with (first
        | (go_at_call 45; refine HC.out.mono ?_; rintro e w' ⟨rfl, rfl⟩)
        | (go_at_call 37; refine HU.out.mono ?_; rintro e w' ⟨rfl, rfl⟩))
      go_ret
      exact hfin.out
    · have he : jmpE s u = 0 := by unfold jmpE; rw [if_pos hu, if_neg hlt]
      have hS : jmpS s u = rsS s u := by unfold jmpS; rw [if_pos he]
      rw [he, hS]
      have b1 : decide (u < uptoV s) = false := decide_eq_false hlt
      have HK := Lib.hid (rcut_any u w x ⟨by have := (upto_le x.ok).1; omega, hu.2⟩)
      generalize uptoV s = U at *
      clear he hS x hlt hu
      go_enter Try.func21, Try.ntmps21
      go_wp2_with (first
        | (go_at_call 45; refine HC.out.mono ?_; rintro e w' ⟨rfl, rfl⟩)
        | (go_at_call 37; refine HU.out.mono ?_; rintro e w' ⟨rfl, rfl⟩)
        | (go_at_call 46; refine HK.out.mono ?_; rintro e w2 ⟨rfl, hR⟩))
      go_ret
      exact (match hR with | ⟨L2, v2, hR, hK, hU⟩ => ⟨rfl, L2, v2, hR, hK, fun base hb _ i hi => Nat.le_trans hb (hU i hi)⟩)
  · rw [if_neg hu] at HC
    have he : jmpE s u = 2 := if_neg hu
    have hfin : Hid (RMov w rb vl (jmpE s u) (jmpS s u) (.returned (.int .i64 2)) w) := Lib.hid ⟨by rw [he], L, vl, by unfold jmpS; rw [if_neg (by rw [he]; decide)]; exact x, Keeps.refl _ _, fun _ _ h => h⟩
    generalize jmpE s u = E at *
    generalize jmpS s u = F at *
    clear he x hu HU
    go_enter Try.func21, Try.ntmps21
    go_wp2_with (go_at_call 45; refine HC.out.mono ?_; rintro e w' ⟨rfl, rfl⟩)
    go_ret
    exact hfin.out
end Go.Proofs.Ytgeejkedljhcoaa.Slt
