/- Two stores with the same counters are equal. -/
import Derived.Test.YtiahjacjpakkdaaS29
namespace Go.Proofs.Ytiahjacjpakkdaa.Sto
open Go.RowKit Go.Lib
open Cnt (Ct cA OkC quietB appC)
open Rng (tx tx_of tx_size nameOk bl)
set_option linter.unusedVariables false
set_option linter.unusedSimpArgs false
set_option maxRecDepth 20000

theorem eq_self5 (v u d l h : Int) (w : World) : (Op.equalIn 10000 Cnt.TC (cA v u d l h) (cA v u d l h)).run Try.prog w = .ok true w := by
  rw [Cnt.eq_c, Cnt.eqC_t rfl]
/-- What the comparison of two entries reads. -/
def Rq (b1 o1 b2 o2 p1 p2 : Nat) (s : ByteArray) (v u d l h : Int) (W : World) : Prop :=
  W.cell? ⟨b1, o1, none⟩ = some (.string s) ∧ W.cell? ⟨b2, o2, none⟩ = some (.string s) ∧ W.heap[p1]? = some (Cnt.cRow v u d l h) ∧ W.heap[p2]? = some (Cnt.cRow v u d l h)
theorem Rq.facts {b1 o1 b2 o2 p1 p2 : Nat} {s : ByteArray} {v u d l h : Int} {W : World} (r : Rq b1 o1 b2 o2 p1 p2 s v u d l h W) :
    W.cell? ⟨b1, o1, none⟩ = some (.string s) ∧ W.cell? ⟨b2, o2, none⟩ = some (.string s) ∧
    W.cell? ⟨p1, 0, none⟩ = some (.int .i64 v) ∧ W.cell? ⟨p1, 1, none⟩ = some (.int .i64 u) ∧ W.cell? ⟨p1, 2, none⟩ = some (.int .i64 d) ∧ W.cell? ⟨p1, 3, none⟩ = some (.int .i64 l) ∧ W.cell? ⟨p1, 4, none⟩ = some (.int .i64 h) ∧
    W.cell? ⟨p2, 0, none⟩ = some (.int .i64 v) ∧ W.cell? ⟨p2, 1, none⟩ = some (.int .i64 u) ∧ W.cell? ⟨p2, 2, none⟩ = some (.int .i64 d) ∧ W.cell? ⟨p2, 3, none⟩ = some (.int .i64 l) ∧ W.cell? ⟨p2, 4, none⟩ = some (.int .i64 h) := by
  obtain ⟨h1, h2, h3, h4⟩ := r
  exact ⟨h1, h2, cell_of_row W p1 0 _ _ _ h3, cell_of_row W p1 1 _ _ _ h3, cell_of_row W p1 2 _ _ _ h3, cell_of_row W p1 3 _ _ _ h3, cell_of_row W p1 4 _ _ _ h3, cell_of_row W p2 0 _ _ _ h4, cell_of_row W p2 1 _ _ _ h4, cell_of_row W p2 2 _ _ _ h4, cell_of_row W p2 3 _ _ _ h4, cell_of_row W p2 4 _ _ _ h4⟩
theorem keys_str {sb b : Nat} {M : List En} (w : World) (x : Sx w sb b M) :
    Calls Try.prog 18 #[.pointer (some ⟨sb, 0, none⟩)] w fun e w' => ∃ a cap, e = .returned (.slice a M.length cap) ∧ (∀ W, Below w'.heap.size w' W → ∀ i (h : i < M.length), ∃ q off, a = some ⟨q, off, none⟩ ∧ q < w'.heap.size ∧ W.cell? ⟨q, off + i, none⟩ = some (.string (tx M[i].1))) ∧ M.length ≤ cap ∧ Below w.heap.size w w' := by
  refine (keys_any w x).mono ?_
  rintro e w' ⟨v, rfl, hrow, hb⟩
  have e1 : (keysM M).length = M.length := by simp [keysM]
  rcases hrow.2 with ⟨rfl, hz⟩ | ⟨g, cap, cur, rfl, _, hg, h1, h2, h3, h4⟩
  · exact ⟨none, 0, by rw [hz], fun W hW i hi => by omega, by omega, hb⟩
  · refine ⟨some ⟨g, 0, none⟩, cap, rfl, fun W hW i hi => ?_, h1, hb⟩
    obtain ⟨a, cap', he, hc⟩ := (row_str (L := keysM M) (by rw [e1]; exact hrow)).ex
    obtain ⟨q, off, rfl, hlt, hcc⟩ := hc i (by rw [e1]; exact hi)
    injection he with he _ _
    injection he with he
    refine ⟨q, off, by rw [he], hlt, ?_⟩
    have e2 : (keysM M)[i]'(by rw [e1]; exact hi) = M[i].1 := by simp [keysM]
    rw [e2] at hcc
    exact (cell_same (p := ⟨q, off + i, none⟩) (hW.block q hlt)).trans hcc
set_option maxHeartbeats 8000000 in
theorem equal_any {sb b sb' b' : Nat} {M : List En} (w : World) (x : Sx w sb b M) (y : Sx w sb' b' M) :
    Calls Try.prog 23 #[.pointer (some ⟨sb, 0, none⟩), .pointer (some ⟨sb', 0, none⟩)] w fun e w' => e = .returned (.bool true) ∧ Below w.heap.size w w' := by
  have hlen := x.len
  have hKx := Lib.hid (keys_str w x)
  have hKy := Lib.hid (fun W (h : Sx W sb' b' M) => keys_str W h)
  have hLx := Lib.hid (fun W (h : Sx W sb b M) => len_any W h)
  have hLy := Lib.hid (fun W (h : Sx W sb' b' M) => len_any W h)
  go_enter Try.func23, Try.ntmps23
  go_wp2_with fail
  refine hKx.out.mono ?_
  rintro e w1 ⟨a1, c1, rfl, G1, hc1, hb1⟩
  have hx1 := x.later hb1
  have hy1 := y.later hb1
  go_wp2_with fail
  refine (hKy.out _ hy1).mono ?_
  rintro e w2 ⟨a2, c2, rfl, G2, hc2, hb2⟩
  have hx2 := hx1.later hb2
  have hy2 := hy1.later hb2
  have hbw := hb1.trans (hb2.mono hb1.size)
  have hsz := hb2.size
  replace G1 := Lib.hid (fun (W : World) (hW : Below w2.heap.size w2 W) => G1 W (hb2.trans (hW.mono hb2.size)))
  replace G2 := Lib.hid G2
  clear hKx hKy hb1 hb2 x y hx1 hy1
  go_wp2_with (first
    | (go_at_call_of 19 (Value.pointer (some ⟨sb, 0, none⟩)); refine (hLx.out _ hx2).mono ?_; rintro e w' ⟨rfl, rfl⟩)
    | (go_at_call_of 19 (Value.pointer (some ⟨sb', 0, none⟩)); refine (hLy.out _ hy2).mono ?_; rintro e w' ⟨rfl, rfl⟩))
  go_loopw [7] (fun i wr => ∃ k : Nat, k ≤ M.length ∧ i = .int .i64 k ∧ Below w2.heap.size w2 wr) (fun i _ => M.length - (intOf i).toNat)
  case atStart => exact ⟨0, Nat.zero_le _, rfl, Below.refl _ _⟩
  case round =>
    obtain ⟨k, hk, rfl, hb⟩ := hrel
    by_cases hlt : k < M.length
    · obtain ⟨q1, o1, rfl, hl1, e1⟩ := G1.out wr hb k hlt
      obtain ⟨q2, o2, rfl, hl2, e2⟩ := G2.out wr hb k hlt
      have hx3 := hx2.later hb
      have hy3 := hy2.later hb
      have hgk := get_at hx3.srt hlt
      have hkl := name_len (hx3.ok _ (List.getElem_mem hlt)).1
      generalize M[k] = p at *
      obtain ⟨key, v, u, d, l, h⟩ := p
      dsimp only at e1 e2 hgk hkl
      have hGx := Lib.hid (fun W (h' : Sx W sb b M) => get_yes key v u d l h W h' hkl hgk)
      have hGy := Lib.hid (fun W (h' : Sx W sb' b' M) => get_yes key v u d l h W h' hkl hgk)
      generalize tx key = s at *
      have hml : (k : Int) < (M.length : Int) := by omega
      have hlw1 : q1 < wr.heap.size := Nat.lt_of_lt_of_le hl1 (Nat.le_trans hsz hb.size)
      have hlw2 : q2 < wr.heap.size := Nat.lt_of_lt_of_le hl2 hb.size
      clear G1 G2 hgk hx2 hy2 hLx hLy
      go_wp2_with fail
      refine (hGx.out _ hx3).mono ?_
      rintro e y1 ⟨rfl, hy1b⟩
      have hB1 := hy1b.trans ((Cnt.alloc_b y1 (Cnt.cRow v u d l h)).mono hy1b.size)
      have hc1b := Cnt.cx_new y1 v u d l h
      have f2 := (cell_same (p := ⟨q2, o2 + k, none⟩) (hB1.block q2 hlw2)).trans e2
      go_wp2_with fail
      refine (hGy.out _ (hy3.later hB1)).mono ?_
      rintro e y2 ⟨rfl, hy2b⟩
      have hB2 := hB1.trans (hy2b.mono hB1.size)
      have hB3 := hB2.trans ((Cnt.alloc_b y2 (Cnt.cRow v u d l h)).mono hB2.size)
      have hc1c := (hc1b.later hy2b).alloc (Cnt.cRow v u d l h)
      have hc2c := Cnt.cx_new y2 v u d l h
      have g1 := (cell_same (p := ⟨q1, o1 + k, none⟩) (hB3.block q1 hlw1)).trans e1
      have g2 := (cell_same (p := ⟨q2, o2 + k, none⟩) (hB3.block q2 hlw2)).trans e2
      have hq5 := eq_self5 v u d l h
      clear e1 e2 f2 hx3 hy3 hGx hGy
      go_wp2_with fail
      refine wp_region_held_drew (S := (Rq q1 (o1 + k) q2 (o2 + k) y1.heap.size y2.heap.size s v u d l h)) (by kernel_rfl) (show Rq q1 (o1 + k) q2 (o2 + k) y1.heap.size y2.heap.size s v u d l h (y2.alloc (Cnt.cRow v u d l h)) from ⟨g1, g2, hc1c.blk, hc2c.blk⟩) (fun hS => ?_)
      try simp only [Act.put, List.setIfInBounds_toArray, List.set_cons_zero, List.set_cons_succ]
      refine wpAnyH_take (i := 0) (v := .slice (some ⟨q1, o1, none⟩) M.length c1) rfl (by kernel_rfl) (by kernel_rfl) (by kernel_rfl) (fun _ _ _ h => h) (Or.inl ⟨by kernel_rfl, by intro w' hSw; have hF := Rq.facts hSw; obtain ⟨s0, s1, s2, s3, s4, s5, s6, s7, s8, s9, s10, s11⟩ := hF; go_simp⟩) hS ?_
      try simp only [Act.put, List.setIfInBounds_toArray, List.set_cons_zero, List.set_cons_succ]
      refine wpAnyH_take (i := 1) (v := .int .i64 (k : Nat)) rfl (by kernel_rfl) (by kernel_rfl) (by kernel_rfl) (fun _ _ _ h => h) (Or.inl ⟨by kernel_rfl, by intro w' hSw; have hF := Rq.facts hSw; obtain ⟨s0, s1, s2, s3, s4, s5, s6, s7, s8, s9, s10, s11⟩ := hF; go_simp⟩) hS ?_
      try simp only [Act.put, List.setIfInBounds_toArray, List.set_cons_zero, List.set_cons_succ]
      refine wpAnyH_take (i := 2) (v := .pointer (some ⟨q1, o1 + k, none⟩)) rfl (by kernel_rfl) (by kernel_rfl) (by kernel_rfl) (fun _ _ _ h => h) (Or.inl ⟨by kernel_rfl, by intro w' hSw; have hF := Rq.facts hSw; obtain ⟨s0, s1, s2, s3, s4, s5, s6, s7, s8, s9, s10, s11⟩ := hF; go_simp⟩) hS ?_
      try simp only [Act.put, List.setIfInBounds_toArray, List.set_cons_zero, List.set_cons_succ]
      refine wpAnyH_take (i := 3) (v := .string s) rfl (by kernel_rfl) (by kernel_rfl) (by kernel_rfl) (fun _ _ _ h => h) (Or.inl ⟨by kernel_rfl, by intro w' hSw; have hF := Rq.facts hSw; obtain ⟨s0, s1, s2, s3, s4, s5, s6, s7, s8, s9, s10, s11⟩ := hF; go_simp⟩) hS ?_
      try simp only [Act.put, List.setIfInBounds_toArray, List.set_cons_zero, List.set_cons_succ]
      refine wpAnyH_take (i := 4) (v := .slice (some ⟨q2, o2, none⟩) M.length c2) rfl (by kernel_rfl) (by kernel_rfl) (by kernel_rfl) (fun _ _ _ h => h) (Or.inl ⟨by kernel_rfl, by intro w' hSw; have hF := Rq.facts hSw; obtain ⟨s0, s1, s2, s3, s4, s5, s6, s7, s8, s9, s10, s11⟩ := hF; go_simp⟩) hS ?_
      try simp only [Act.put, List.setIfInBounds_toArray, List.set_cons_zero, List.set_cons_succ]
      refine wpAnyH_take (i := 5) (v := .int .i64 (k : Nat)) rfl (by kernel_rfl) (by kernel_rfl) (by kernel_rfl) (fun _ _ _ h => h) (Or.inl ⟨by kernel_rfl, by intro w' hSw; have hF := Rq.facts hSw; obtain ⟨s0, s1, s2, s3, s4, s5, s6, s7, s8, s9, s10, s11⟩ := hF; go_simp⟩) hS ?_
      try simp only [Act.put, List.setIfInBounds_toArray, List.set_cons_zero, List.set_cons_succ]
      refine wpAnyH_take (i := 6) (v := .pointer (some ⟨q2, o2 + k, none⟩)) rfl (by kernel_rfl) (by kernel_rfl) (by kernel_rfl) (fun _ _ _ h => h) (Or.inl ⟨by kernel_rfl, by intro w' hSw; have hF := Rq.facts hSw; obtain ⟨s0, s1, s2, s3, s4, s5, s6, s7, s8, s9, s10, s11⟩ := hF; go_simp⟩) hS ?_
      try simp only [Act.put, List.setIfInBounds_toArray, List.set_cons_zero, List.set_cons_succ]
      refine wpAnyH_take (i := 7) (v := .string s) rfl (by kernel_rfl) (by kernel_rfl) (by kernel_rfl) (fun _ _ _ h => h) (Or.inl ⟨by kernel_rfl, by intro w' hSw; have hF := Rq.facts hSw; obtain ⟨s0, s1, s2, s3, s4, s5, s6, s7, s8, s9, s10, s11⟩ := hF; go_simp⟩) hS ?_
      try simp only [Act.put, List.setIfInBounds_toArray, List.set_cons_zero, List.set_cons_succ]
      refine wpAnyH_take (i := 8) (v := .bool false) rfl (by kernel_rfl) (by kernel_rfl) (by kernel_rfl) (fun _ _ _ h => h) (Or.inl ⟨by kernel_rfl, by intro w' hSw; have hF := Rq.facts hSw; obtain ⟨s0, s1, s2, s3, s4, s5, s6, s7, s8, s9, s10, s11⟩ := hF; go_simp⟩) hS ?_
      try simp only [Act.put, List.setIfInBounds_toArray, List.set_cons_zero, List.set_cons_succ]
      refine wpAnyH_take (i := 9) (v := .bool false) rfl (by kernel_rfl) (by kernel_rfl) (by kernel_rfl) (fun _ _ _ h => h) (Or.inl ⟨by kernel_rfl, by intro w' hSw; have hF := Rq.facts hSw; obtain ⟨s0, s1, s2, s3, s4, s5, s6, s7, s8, s9, s10, s11⟩ := hF; go_simp⟩) hS ?_
      try simp only [Act.put, List.setIfInBounds_toArray, List.set_cons_zero, List.set_cons_succ]
      refine wpAnyH_take (i := 10) (v := .int .i64 0) rfl (by kernel_rfl) (by kernel_rfl) (by kernel_rfl) (fun _ _ _ h => h) (Or.inl ⟨by kernel_rfl, by intro w' hSw; have hF := Rq.facts hSw; obtain ⟨s0, s1, s2, s3, s4, s5, s6, s7, s8, s9, s10, s11⟩ := hF; go_simp⟩) hS ?_
      try simp only [Act.put, List.setIfInBounds_toArray, List.set_cons_zero, List.set_cons_succ]
      refine wpAnyH_take (i := 11) (v := .bool false) rfl (by kernel_rfl) (by kernel_rfl) (by kernel_rfl) (fun _ _ _ h => h) (Or.inl ⟨by kernel_rfl, by intro w' hSw; have hF := Rq.facts hSw; obtain ⟨s0, s1, s2, s3, s4, s5, s6, s7, s8, s9, s10, s11⟩ := hF; go_simp⟩) hS ?_
      try simp only [Act.put, List.setIfInBounds_toArray, List.set_cons_zero, List.set_cons_succ]
      refine wpAnyH_take (i := 12) (v := .bool false) rfl (by kernel_rfl) (by kernel_rfl) (by kernel_rfl) (fun _ _ _ h => h) (Or.inl ⟨by kernel_rfl, by intro w' hSw; have hF := Rq.facts hSw; obtain ⟨s0, s1, s2, s3, s4, s5, s6, s7, s8, s9, s10, s11⟩ := hF; go_simp⟩) hS ?_
      try simp only [Act.put, List.setIfInBounds_toArray, List.set_cons_zero, List.set_cons_succ]
      refine wpAnyH_take (i := 13) (v := .bool false) rfl (by kernel_rfl) (by kernel_rfl) (by kernel_rfl) (fun _ _ _ h => h) (Or.inl ⟨by kernel_rfl, by intro w' hSw; have hF := Rq.facts hSw; obtain ⟨s0, s1, s2, s3, s4, s5, s6, s7, s8, s9, s10, s11⟩ := hF; go_simp⟩) hS ?_
      try simp only [Act.put, List.setIfInBounds_toArray, List.set_cons_zero, List.set_cons_succ]
      refine wpAnyH_take (i := 14) (v := .int .i64 0) rfl (by kernel_rfl) (by kernel_rfl) (by kernel_rfl) (fun _ _ _ h => h) (Or.inl ⟨by kernel_rfl, by intro w' hSw; have hF := Rq.facts hSw; obtain ⟨s0, s1, s2, s3, s4, s5, s6, s7, s8, s9, s10, s11⟩ := hF; go_simp⟩) hS ?_
      try simp only [Act.put, List.setIfInBounds_toArray, List.set_cons_zero, List.set_cons_succ]
      refine wpAnyH_take (i := 15) (v := .bool false) rfl (by kernel_rfl) (by kernel_rfl) (by kernel_rfl) (fun _ _ _ h => h) (Or.inl ⟨by kernel_rfl, by intro w' hSw; have hF := Rq.facts hSw; obtain ⟨s0, s1, s2, s3, s4, s5, s6, s7, s8, s9, s10, s11⟩ := hF; go_simp⟩) hS ?_
      try simp only [Act.put, List.setIfInBounds_toArray, List.set_cons_zero, List.set_cons_succ]
      refine wpAnyH_take (i := 16) (v := .bool false) rfl (by kernel_rfl) (by kernel_rfl) (by kernel_rfl) (fun _ _ _ h => h) (Or.inl ⟨by kernel_rfl, by intro w' hSw; have hF := Rq.facts hSw; obtain ⟨s0, s1, s2, s3, s4, s5, s6, s7, s8, s9, s10, s11⟩ := hF; go_simp⟩) hS ?_
      try simp only [Act.put, List.setIfInBounds_toArray, List.set_cons_zero, List.set_cons_succ]
      refine wpAnyH_take (i := 17) (v := .bool false) rfl (by kernel_rfl) (by kernel_rfl) (by kernel_rfl) (fun _ _ _ h => h) (Or.inl ⟨by kernel_rfl, by intro w' hSw; have hF := Rq.facts hSw; obtain ⟨s0, s1, s2, s3, s4, s5, s6, s7, s8, s9, s10, s11⟩ := hF; go_simp⟩) hS ?_
      try simp only [Act.put, List.setIfInBounds_toArray, List.set_cons_zero, List.set_cons_succ]
      refine wpAnyH_take (i := 18) (v := cA v u d l h) rfl (by kernel_rfl) (by kernel_rfl) (by kernel_rfl) (fun _ _ _ h => h) (Or.inl ⟨by kernel_rfl, by intro w' hSw; have hF := Rq.facts hSw; obtain ⟨s0, s1, s2, s3, s4, s5, s6, s7, s8, s9, s10, s11⟩ := hF; go_simp⟩) hS ?_
      try simp only [Act.put, List.setIfInBounds_toArray, List.set_cons_zero, List.set_cons_succ]
      refine wpAnyH_take (i := 19) (v := cA v u d l h) rfl (by kernel_rfl) (by kernel_rfl) (by kernel_rfl) (fun _ _ _ h => h) (Or.inl ⟨by kernel_rfl, by intro w' hSw; have hF := Rq.facts hSw; obtain ⟨s0, s1, s2, s3, s4, s5, s6, s7, s8, s9, s10, s11⟩ := hF; go_simp⟩) hS ?_
      try simp only [Act.put, List.setIfInBounds_toArray, List.set_cons_zero, List.set_cons_succ]
      refine wpAnyH_take (i := 20) (v := .bool false) rfl (by kernel_rfl) (by kernel_rfl) (by kernel_rfl) (fun _ _ _ h => h) (Or.inl ⟨by kernel_rfl, by intro w' hSw; have hF := Rq.facts hSw; obtain ⟨s0, s1, s2, s3, s4, s5, s6, s7, s8, s9, s10, s11⟩ := hF; go_simp⟩) hS ?_
      try simp only [Act.put, List.setIfInBounds_toArray, List.set_cons_zero, List.set_cons_succ]
      refine wpAnyH_ready (rs := [21]) (by kernel_rfl) (by simp) ?_
      refine AllReadyH.cons rfl (fun K hK => ?_) AllReadyH.nil
      go_simp
      refine hK.out _ _ hS (fun hS => ?_)
      clear hK K
      try simp only [Act.put, List.setIfInBounds_toArray, List.set_cons_zero, List.set_cons_succ]
      refine wpAnyH_done (by kernel_rfl) ?_ _
      clear hS
      go_wp2
      go_roundw
      case rel => exact ⟨k + 1, by omega, by go_num, (hb.trans (hB3.mono hb.size)).drew⟩
      case measure => simp [intOf]; omega
    · obtain rfl : k = M.length := by omega
      clear G1 G2
      go_wp2
      go_ret
      exact ⟨rfl, hbw.trans (hb.mono hbw.size)⟩
end Go.Proofs.Ytiahjacjpakkdaa.Sto
