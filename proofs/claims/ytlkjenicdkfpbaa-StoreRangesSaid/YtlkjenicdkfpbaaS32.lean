/- The walk of StoreKeeps, where all is short. -/
import Derived.Test.YtlkjenicdkfpbaaS31
namespace Go.Proofs.Ytlkjenicdkfpbaa.Sto
open Go.RowKit Go.Lib
open Cnt (Ct cA OkC quietB appC)
open Rng (tx tx_of tx_size nameOk bl)
set_option linter.unusedVariables false
set_option linter.unusedSimpArgs false
set_option maxRecDepth 20000

theorem Sw.from_ {w W W' : World} {sb b : Nat} {M : List En} (h : Sw W W' sb b M) (hb : Below w.heap.size w W) : Sw w W' sb b M := ⟨h.sx, hb.trans (h.bel.mono hb.size), Nat.le_trans hb.size h.ge⟩
/-- A counter in a box of the call's own. -/
def Cr (W : World) (q : Nat) (v u d l h : Int) : Prop := W.heap[q]? = some (Cnt.cRow v u d l h)
theorem Cr.new (W : World) (v u d l h : Int) : Cr (W.alloc (Cnt.cRow v u d l h)) W.heap.size v u d l h := heap_alloc_new _ _
theorem Cr.later {W W' : World} {q : Nat} {v u d l h : Int} (x : Cr W q v u d l h) (hb : Below W.heap.size W W') : Cr W' q v u d l h := (hb.block q (Array.getElem?_eq_some_iff.1 x).1).trans x
theorem Cr.step {W W' : World} {q sb b : Nat} {v u d l h : Int} {M : List En} (x : Cr W q v u d l h) (y : Sx W sb b M) (hg : W.grownBy W' (some b)) : Cr W' q v u d l h := row_kept y hg x
theorem Cr.cells {W : World} {q : Nat} {v u d l h : Int} (x : Cr W q v u d l h) : W.cell? ⟨q, 0, none⟩ = some (.int .i64 v) ∧ W.cell? ⟨q, 1, none⟩ = some (.int .i64 u) ∧ W.cell? ⟨q, 2, none⟩ = some (.int .i64 d) ∧ W.cell? ⟨q, 3, none⟩ = some (.int .i64 l) ∧ W.cell? ⟨q, 4, none⟩ = some (.int .i64 h) :=
  ⟨cell_of_row W q 0 _ _ _ x, cell_of_row W q 1 _ _ _ x, cell_of_row W q 2 _ _ _ x, cell_of_row W q 3 _ _ _ x, cell_of_row W q 4 _ _ _ x⟩
/-- What the last comparison reads. -/
def Rk (q o p p1 p2 p3 : Nat) (s t : ByteArray) (a b c : Ct) (W : World) : Prop :=
  W.cell? ⟨q, o, none⟩ = some (.string s) ∧ W.cell? ⟨p, 1, none⟩ = some (.string t) ∧ Cr W p1 a.v a.u a.d a.l a.h ∧ Cr W p2 b.v b.u b.d b.l b.h ∧ Cr W p3 c.v c.u c.d c.l c.h
theorem get_len {M : List En} (h : Srt M) {k : List UInt8} {c d : Ct} (hk : getM M k = some c) : (putM M k d).length = M.length := put_len_old h d hk
set_option maxHeartbeats 16000000 in
theorem keeps_go (a : Option Addr) (len cap : Nat) (S : Nat → Sp) (s : Sp) (w : World) (h : IsSt w a len cap S) (hl : len ≤ 100) (h1 : shortB S len = true) (h2 : stOk s = true) :
    Calls Try.prog 4 #[.slice a len cap, sA s] w fun e w' => e = .returned (.bool true) ∧ Below w.heap.size w w' := by
  have hW := Lib.hid (fun W => works_any W)
  have hb1 := Cnt.alloc_b w (.cells (row11 s) TP)
  have hS := short_any a len cap S _ (h.later hb1)
  rw [h1] at hS
  replace hS := Lib.hid hS
  have hT := short_any _ _ _ _ _ (one_st (W := w.alloc (.cells (row11 s) TP)) s)
  rw [short_one, World.size_alloc, h2] at hT
  replace hT := Lib.hid hT
  have hb2 : Below w.heap.size w ((w.alloc (.cells (row11 s) TP)).alloc (.cells (row11 s) TP)) := hb1.alloc hb1.size _
  have hF := filled_any a len cap S _ (h.later hb2) h1
  generalize fillM S len = M at hF
  replace hF := Lib.hid hF
  have hbx : Bs (w.alloc (.cells (row11 s) TP)) w.heap.size s := heap_alloc_new w _
  have hbx2 := hbx.later (Cnt.alloc_b _ (.cells (row11 s) TP))
  replace hT := hT.out
  replace hF := hF.out
  generalize hw2e : (w.alloc (.cells (row11 s) TP)).alloc (.cells (row11 s) TP) = w2 at *
  replace hT := Lib.hid hT
  replace hF := Lib.hid hF
  replace hbx2 := Lib.hid hbx2
  have c0 := cell_of_row _ _ 0 _ _ _ hbx
  have c1 := cell_of_row _ _ 1 _ _ _ hbx
  have c2 := cell_of_row _ _ 2 _ _ _ hbx
  have c3 := cell_of_row _ _ 3 _ _ _ hbx
  have c4 := cell_of_row _ _ 4 _ _ _ hbx
  have c5 := cell_of_row _ _ 5 _ _ _ hbx
  have c6 := cell_of_row _ _ 6 _ _ _ hbx
  have c7 := cell_of_row _ _ 7 _ _ _ hbx
  have c8 := cell_of_row _ _ 8 _ _ _ hbx
  have c9 := cell_of_row _ _ 9 _ _ _ hbx
  have c10 := cell_of_row _ _ 10 _ _ _ hbx
  have hsk := stOk_k h2
  obtain ⟨sd, sk, ⟨cv, cu, cd, cl, cg⟩, sp, sn, ⟨rf, rt⟩⟩ := s
  obtain ⟨st, hst⟩ : ∃ st, st = (⟨sd, sk, ⟨cv, cu, cd, cl, cg⟩, sp, sn, ⟨rf, rt⟩⟩ : Sp) := ⟨_, rfl⟩
  rw [← hst] at hbx2
  have hcell := Lib.hid (fun (W : World) (p : Nat) (h : Bs W p st) => (show W.cell? ⟨p, 1, none⟩ = some (.string (tx sk)) ∧ W.cell? ⟨p, 7, none⟩ = some (.int .i64 sp) ∧ W.cell? ⟨p, 8, none⟩ = some (.int .i64 sn) by have := h.cells; rw [hst] at this; exact this))
  clear hst hbx h h1 h2
  dsimp only [row11, sA] at *
  have hml := maxLen_of hsk
  generalize hs1 : tx sk = s1 at *
  generalize tx rf = s2 at *
  generalize tx rt = s3 at *
  have hs1' := Lib.hid hs1
  clear hs1
  have hd : decide (100 < (len : Int)) = false := by simp; omega
  clear hl
  go_enter Try.func4, Try.ntmps4
  go_wp2_with fail
  refine hS.out.mono ?_
  rintro e w' ⟨rfl, rfl⟩
  go_wp2_with fail
  refine hT.out.mono ?_
  rintro e w' ⟨rfl, rfl⟩
  clear hS hT c0 c1 c2 c3 c4 c5 c6 c7 c8 c9 c10 hw2e
  obtain ⟨p, hp⟩ : ∃ p, w.heap.size = p := ⟨_, rfl⟩
  rw [hp] at hbx2 ⊢
  go_wp2_with fail
  refine hF.out.mono ?_
  rintro e w3 ⟨sb, b, rfl, hw3, hsb⟩
  have hbx3 := hbx2.out.later hw3.bel
  have hw3 := hw3.from_ hb2
  clear hF hb1 hb2 hbx2
  go_wp2_with fail
  refine (copy_any _ hw3.sx).mono ?_
  rintro e w4 ⟨sb', b', rfl, hx', hsb', hbb', hb4⟩
  have hk : Kp w w4 p st sb b M sb' b' M := ⟨hw3.later hb4, ⟨hx', hw3.bel.trans (hb4.mono hw3.bel.size), Nat.le_trans hw3.bel.size hbb'⟩, hbx3.later hb4, by have := hw3.sx.lt.2; omega⟩
  clear hw3 hbx3 hx' hb4
  obtain ⟨k1, k7, k8⟩ := hcell.out _ _ hk.bx
  cases hr : getM M sk with
  | none =>
    have hG := Lib.hid (fun (W : World) (h : Kp w W p st sb b M sb' b' M) => (show Calls Try.prog 12 #[.pointer (some ⟨sb, 0, none⟩), .string s1] W _ from hs1'.out ▸ get_no sk W h.st.sx hml hr))
    have hA := Lib.hid (fun (W : World) (h : Kp w W p st sb b M sb' b' M) => (show Calls Try.prog 13 #[.pointer (some ⟨sb, 0, none⟩), .string s1, .int .i64 sp, .int .i64 sn] W _ from hs1'.out ▸ ap_no sk sp sn W h.st.sx hml hr))
    go_wp2_with fail
    refine (hG.out _ hk).mono ?_
    rintro e w5 ⟨rfl, hb5⟩
    have hk5 := (hk.later hb5).later (Cnt.alloc_b w5 (Cnt.cRow 0 0 0 0 0))
    clear hk hb5 k1 k7 k8
    obtain ⟨k1, k7, k8⟩ := hcell.out _ _ hk5.bx
    go_wp2_with fail
    refine (hA.out _ hk5).mono ?_
    rintro e w6 ⟨rfl, hb6⟩
    have hk6 := hk5.later hb6
    clear hk5 hb6 k1 k7 k8
    go_wp2_with fail
    refine (equal_any _ hk6.st.sx hk6.was.sx).mono ?_
    rintro e w7 ⟨rfl, hb7⟩
    have hk7 := hk6.later hb7
    clear hk6 hb7
    go_wp2_with fail
    refine (hW.out _).mono ?_
    rintro e w8 ⟨rfl, hb8⟩
    have hk8 := hk7.later hb8
    go_wp2_with fail
    go_ret
    exact ⟨rfl, hk8.st.bel⟩
  | some c =>
    obtain ⟨v, u, d, l, g⟩ := c
    have hG := Lib.hid (fun (W : World) (h : Kp w W p st sb b M sb' b' M) => (show Calls Try.prog 12 #[.pointer (some ⟨sb, 0, none⟩), .string s1] W _ from hs1'.out ▸ get_yes sk v u d l g W h.st.sx hml hr))
    go_wp2_with fail
    refine (hG.out _ hk).mono ?_
    rintro e w5 ⟨rfl, hb5⟩
    have hk5 := (hk.later hb5).later (Cnt.alloc_b w5 (Cnt.cRow v u d l g))
    have hc5 := Cr.new w5 v u d l g
    generalize hq7 : w5.heap.size = q7 at *
    clear hk hb5 k1 k7 k8 hG
    obtain ⟨k1, k7, k8⟩ := hcell.out _ _ hk5.bx
    cases ha : appC ⟨v, u, d, l, g⟩ sp sn with
    | mk cc z =>
    obtain ⟨x0, x1, x2, x3, x4⟩ := cc
    have hCA := fun W => Cnt.apply_any v u d l g sp sn W
    rw [ha] at hCA
    have hCA : Hid (∀ W, Calls Try.prog 24 #[cA v u d l g, .int .i64 sp, .int .i64 sn] W fun e w' => e = .returned (.tuple #[cA x0 x1 x2 x3 x4, .int .i64 z]) ∧ Below W.heap.size W w') := hCA
    by_cases hz : z = 0
    · subst hz
      have hA := Lib.hid (fun (W : World) (h : Kp w W p st sb b M sb' b' M) => (show Calls Try.prog 13 #[.pointer (some ⟨sb, 0, none⟩), .string s1, .int .i64 sp, .int .i64 sn] W _ from hs1'.out ▸ ap_yes sk v u d l g sp sn x0 x1 x2 x3 x4 W h.st.sx hr ha))
      go_wp2_with fail
      refine (hA.out _ hk5).mono ?_
      rintro e w6 ⟨rfl, hx6, hg6⟩
      have hc6 := hc5.step hk5.st.sx hg6
      have hlen6 : (putM M sk ⟨x0, x1, x2, x3, x4⟩).length = M.length := get_len hk5.st.sx.srt hr
      have hsrt := hk5.st.sx.srt
      have hk6 := hk5.step hx6 hg6
      clear hk5 hg6 hx6 k1 k7 k8 hA hc5
      obtain ⟨k1, k7, k8⟩ := hcell.out _ _ hk6.bx
      obtain ⟨e0, e1, e2, e3, e4⟩ := hc6.cells
      go_wp2_with fail
      refine (hCA.out _).mono ?_
      rintro e w7 ⟨rfl, hb7⟩
      have hk7 := (hk6.later hb7).later (Cnt.alloc_b w7 (Cnt.cRow x0 x1 x2 x3 x4))
      have hd7 := Cr.new w7 x0 x1 x2 x3 x4
      generalize hq11 : w7.heap.size = q11 at *
      clear hk6 hb7 k1 k7 k8 e0 e1 e2 e3 e4 hc6 hCA
      obtain ⟨N, hN⟩ : ∃ N, putM M sk ⟨x0, x1, x2, x3, x4⟩ = N := ⟨_, rfl⟩
      rw [hN] at hk7 hlen6
      replace hlen6 := Lib.hid hlen6
      have hget := Lib.hid (fun j => (show getM N j = if j = sk then some ⟨x0, x1, x2, x3, x4⟩ else getM M j by rw [← hN]; exact get_put hsrt sk _ j))
      clear hN
      go_wp2_with fail
      refine (keys_str _ hk7.st.sx).mono ?_
      rintro e w8 ⟨ka, kc, rfl, G, hkc, hb8⟩
      have hk8 := hk7.later hb8
      have hd8 := hd7.later hb8
      replace G := Lib.hid G
      clear hk7 hd7 hb8
      have hNl := hk8.st.sx.len
      go_wp2_with fail
      go_loopw [14] (fun i wr => ∃ k : Nat, k ≤ N.length ∧ i = .int .i64 k ∧ Below w8.heap.size w8 wr) (fun i _ => N.length - (intOf i).toNat)
      case atStart => exact ⟨0, Nat.zero_le _, rfl, Below.refl _ _⟩
      case round =>
        obtain ⟨k, hk, rfl, hb⟩ := hrel
        have hk9 := hk8.later hb
        have hd9 := hd8.later hb
        by_cases hlt : k < N.length
        · obtain ⟨q1, o1, rfl, hl1, e1⟩ := G.out wr hb k hlt
          have hgk := get_at hk9.st.sx.srt hlt
          have hkl := name_len (hk9.st.sx.ok _ (List.getElem_mem hlt)).1
          have hlw := Nat.lt_of_lt_of_le hl1 hb.size
          generalize N[k] = pk at *
          obtain ⟨key, y0, y1, y2, y3, y4⟩ := pk
          dsimp only at e1 hgk hkl
          have hgk2 := hget.out key
          rw [hgk] at hgk2
          have hml2 : (k : Int) < (N.length : Int) := by omega
          clear G hk8 hd8 hl1
          by_cases hkey : key = sk
          · skip
            subst hkey
            rw [if_pos rfl] at hgk2
            injection hgk2 with hgk2
            simp only [Ct.mk.injEq] at hgk2
            obtain ⟨rfl, rfl, rfl, rfl, rfl⟩ := hgk2
            have hg0 := hr
            have e1 := hs1'.out ▸ e1
            have hsi : tx key = s1 := hs1'.out
            have hGx := Lib.hid (fun (W : World) (h : Kp w W p st sb b N sb' b' M) => (show Calls Try.prog 12 #[.pointer (some ⟨sb, 0, none⟩), .string s1] W _ from hsi ▸ get_yes key y0 y1 y2 y3 y4 W h.st.sx hkl hgk))
            have hGy := Lib.hid (fun (W : World) (h : Kp w W p st sb b N sb' b' M) => (show Calls Try.prog 12 #[.pointer (some ⟨sb', 0, none⟩), .string s1] W _ from hsi ▸ get_yes key v u d l g W h.was.sx hkl hg0))
            have hq5 := eq_self5 y0 y1 y2 y3 y4
            clear hget hgk hg0 hr ha
            go_wp2_with fail
            refine (hGx.out _ hk9).mono ?_
            rintro e z1 ⟨rfl, hb1⟩
            have hB1 := hb1.trans ((Cnt.alloc_b z1 (Cnt.cRow y0 y1 y2 y3 y4)).mono hb1.size)
            have hkA := hk9.later hB1
            have hdA := hd9.later hB1
            have haA := Cr.new z1 y0 y1 y2 y3 y4
            generalize hq15 : z1.heap.size = q15 at *
            have f2 := (cell_same (p := ⟨q1, o1 + k, none⟩) (hB1.block q1 hlw)).trans e1
            go_wp2_with fail
            refine (hGy.out _ hkA).mono ?_
            rintro e z2 ⟨rfl, hb2⟩
            have hB2 := hb2.trans ((Cnt.alloc_b z2 (Cnt.cRow v u d l g)).mono hb2.size)
            have hB3 := hB1.trans (hB2.mono hB1.size)
            have hkB := hkA.later hB2
            have hdB := hdA.later hB2
            have haB := haA.later hB2
            have hbB := Cr.new z2 v u d l g
            generalize hq17 : z2.heap.size = q17 at *
            have g2 := (cell_same (p := ⟨q1, o1 + k, none⟩) (hB3.block q1 hlw)).trans e1
            obtain ⟨k1, k7, k8⟩ := hcell.out _ _ hkB.bx
            clear e1 f2 hk9 hd9 hkA hdA haA hGx hGy hb1 hb2 hcell hs1'
            go_wp2_with fail
            refine wp_region_held_drew (S := (Rk q1 (o1 + k) p q15 q11 q17 s1 s1 ⟨y0, y1, y2, y3, y4⟩ ⟨y0, y1, y2, y3, y4⟩ ⟨v, u, d, l, g⟩)) (by kernel_rfl) (show Rk q1 (o1 + k) p q15 q11 q17 s1 s1 ⟨y0, y1, y2, y3, y4⟩ ⟨y0, y1, y2, y3, y4⟩ ⟨v, u, d, l, g⟩ (z2.alloc (Cnt.cRow v u d l g)) from ⟨g2, k1, haB, hdB, hbB⟩) (fun hS => ?_)
            try simp only [Act.put, List.setIfInBounds_toArray, List.set_cons_zero, List.set_cons_succ]
            refine wpAnyH_take (i := 0) (v := .int .i64 0) rfl (by kernel_rfl) (by kernel_rfl) (by kernel_rfl) (fun _ _ _ h => h) (Or.inl ⟨by kernel_rfl, by intro w' hSw; obtain ⟨s0, s1', ha', hd', hb'⟩ := hSw; have hca := ha'.cells; obtain ⟨a0, a1, a2, a3, a4⟩ := hca; have hcd := hd'.cells; obtain ⟨d0, d1, d2, d3, d4⟩ := hcd; have hcb := hb'.cells; obtain ⟨b0, b1, b2, b3, b4⟩ := hcb; dsimp only at a0 a1 a2 a3 a4 d0 d1 d2 d3 d4 b0 b1 b2 b3 b4; go_simp⟩) hS ?_
            try simp only [Act.put, List.setIfInBounds_toArray, List.set_cons_zero, List.set_cons_succ]
            refine wpAnyH_take (i := 1) (v := .bool false) rfl (by kernel_rfl) (by kernel_rfl) (by kernel_rfl) (fun _ _ _ h => h) (Or.inl ⟨by kernel_rfl, by intro w' hSw; obtain ⟨s0, s1', ha', hd', hb'⟩ := hSw; have hca := ha'.cells; obtain ⟨a0, a1, a2, a3, a4⟩ := hca; have hcd := hd'.cells; obtain ⟨d0, d1, d2, d3, d4⟩ := hcd; have hcb := hb'.cells; obtain ⟨b0, b1, b2, b3, b4⟩ := hcb; dsimp only at a0 a1 a2 a3 a4 d0 d1 d2 d3 d4 b0 b1 b2 b3 b4; go_simp⟩) hS ?_
            try simp only [Act.put, List.setIfInBounds_toArray, List.set_cons_zero, List.set_cons_succ]
            refine wpAnyH_take (i := 2) (v := .bool false) rfl (by kernel_rfl) (by kernel_rfl) (by kernel_rfl) (fun _ _ _ h => h) (Or.inl ⟨by kernel_rfl, by intro w' hSw; obtain ⟨s0, s1', ha', hd', hb'⟩ := hSw; have hca := ha'.cells; obtain ⟨a0, a1, a2, a3, a4⟩ := hca; have hcd := hd'.cells; obtain ⟨d0, d1, d2, d3, d4⟩ := hcd; have hcb := hb'.cells; obtain ⟨b0, b1, b2, b3, b4⟩ := hcb; dsimp only at a0 a1 a2 a3 a4 d0 d1 d2 d3 d4 b0 b1 b2 b3 b4; go_simp⟩) hS ?_
            try simp only [Act.put, List.setIfInBounds_toArray, List.set_cons_zero, List.set_cons_succ]
            refine wpAnyH_take (i := 3) (v := .int .i64 0) rfl (by kernel_rfl) (by kernel_rfl) (by kernel_rfl) (fun _ _ _ h => h) (Or.inl ⟨by kernel_rfl, by intro w' hSw; obtain ⟨s0, s1', ha', hd', hb'⟩ := hSw; have hca := ha'.cells; obtain ⟨a0, a1, a2, a3, a4⟩ := hca; have hcd := hd'.cells; obtain ⟨d0, d1, d2, d3, d4⟩ := hcd; have hcb := hb'.cells; obtain ⟨b0, b1, b2, b3, b4⟩ := hcb; dsimp only at a0 a1 a2 a3 a4 d0 d1 d2 d3 d4 b0 b1 b2 b3 b4; go_simp⟩) hS ?_
            try simp only [Act.put, List.setIfInBounds_toArray, List.set_cons_zero, List.set_cons_succ]
            refine wpAnyH_take (i := 4) (v := .bool false) rfl (by kernel_rfl) (by kernel_rfl) (by kernel_rfl) (fun _ _ _ h => h) (Or.inl ⟨by kernel_rfl, by intro w' hSw; obtain ⟨s0, s1', ha', hd', hb'⟩ := hSw; have hca := ha'.cells; obtain ⟨a0, a1, a2, a3, a4⟩ := hca; have hcd := hd'.cells; obtain ⟨d0, d1, d2, d3, d4⟩ := hcd; have hcb := hb'.cells; obtain ⟨b0, b1, b2, b3, b4⟩ := hcb; dsimp only at a0 a1 a2 a3 a4 d0 d1 d2 d3 d4 b0 b1 b2 b3 b4; go_simp⟩) hS ?_
            try simp only [Act.put, List.setIfInBounds_toArray, List.set_cons_zero, List.set_cons_succ]
            refine wpAnyH_take (i := 5) (v := .bool false) rfl (by kernel_rfl) (by kernel_rfl) (by kernel_rfl) (fun _ _ _ h => h) (Or.inl ⟨by kernel_rfl, by intro w' hSw; obtain ⟨s0, s1', ha', hd', hb'⟩ := hSw; have hca := ha'.cells; obtain ⟨a0, a1, a2, a3, a4⟩ := hca; have hcd := hd'.cells; obtain ⟨d0, d1, d2, d3, d4⟩ := hcd; have hcb := hb'.cells; obtain ⟨b0, b1, b2, b3, b4⟩ := hcb; dsimp only at a0 a1 a2 a3 a4 d0 d1 d2 d3 d4 b0 b1 b2 b3 b4; go_simp⟩) hS ?_
            try simp only [Act.put, List.setIfInBounds_toArray, List.set_cons_zero, List.set_cons_succ]
            refine wpAnyH_take (i := 6) (v := .bool false) rfl (by kernel_rfl) (by kernel_rfl) (by kernel_rfl) (fun _ _ _ h => h) (Or.inl ⟨by kernel_rfl, by intro w' hSw; obtain ⟨s0, s1', ha', hd', hb'⟩ := hSw; have hca := ha'.cells; obtain ⟨a0, a1, a2, a3, a4⟩ := hca; have hcd := hd'.cells; obtain ⟨d0, d1, d2, d3, d4⟩ := hcd; have hcb := hb'.cells; obtain ⟨b0, b1, b2, b3, b4⟩ := hcb; dsimp only at a0 a1 a2 a3 a4 d0 d1 d2 d3 d4 b0 b1 b2 b3 b4; go_simp⟩) hS ?_
            try simp only [Act.put, List.setIfInBounds_toArray, List.set_cons_zero, List.set_cons_succ]
            refine wpAnyH_take (i := 7) (v := .slice (some ⟨q1, o1, none⟩) N.length kc) rfl (by kernel_rfl) (by kernel_rfl) (by kernel_rfl) (fun _ _ _ h => h) (Or.inl ⟨by kernel_rfl, by intro w' hSw; obtain ⟨s0, s1', ha', hd', hb'⟩ := hSw; have hca := ha'.cells; obtain ⟨a0, a1, a2, a3, a4⟩ := hca; have hcd := hd'.cells; obtain ⟨d0, d1, d2, d3, d4⟩ := hcd; have hcb := hb'.cells; obtain ⟨b0, b1, b2, b3, b4⟩ := hcb; dsimp only at a0 a1 a2 a3 a4 d0 d1 d2 d3 d4 b0 b1 b2 b3 b4; go_simp⟩) hS ?_
            try simp only [Act.put, List.setIfInBounds_toArray, List.set_cons_zero, List.set_cons_succ]
            refine wpAnyH_take (i := 8) (v := .int .i64 (k : Nat)) rfl (by kernel_rfl) (by kernel_rfl) (by kernel_rfl) (fun _ _ _ h => h) (Or.inl ⟨by kernel_rfl, by intro w' hSw; obtain ⟨s0, s1', ha', hd', hb'⟩ := hSw; have hca := ha'.cells; obtain ⟨a0, a1, a2, a3, a4⟩ := hca; have hcd := hd'.cells; obtain ⟨d0, d1, d2, d3, d4⟩ := hcd; have hcb := hb'.cells; obtain ⟨b0, b1, b2, b3, b4⟩ := hcb; dsimp only at a0 a1 a2 a3 a4 d0 d1 d2 d3 d4 b0 b1 b2 b3 b4; go_simp⟩) hS ?_
            try simp only [Act.put, List.setIfInBounds_toArray, List.set_cons_zero, List.set_cons_succ]
            refine wpAnyH_take (i := 9) (v := .pointer (some ⟨q1, o1 + k, none⟩)) rfl (by kernel_rfl) (by kernel_rfl) (by kernel_rfl) (fun _ _ _ h => h) (Or.inl ⟨by kernel_rfl, by intro w' hSw; obtain ⟨s0, s1', ha', hd', hb'⟩ := hSw; have hca := ha'.cells; obtain ⟨a0, a1, a2, a3, a4⟩ := hca; have hcd := hd'.cells; obtain ⟨d0, d1, d2, d3, d4⟩ := hcd; have hcb := hb'.cells; obtain ⟨b0, b1, b2, b3, b4⟩ := hcb; dsimp only at a0 a1 a2 a3 a4 d0 d1 d2 d3 d4 b0 b1 b2 b3 b4; go_simp⟩) hS ?_
            try simp only [Act.put, List.setIfInBounds_toArray, List.set_cons_zero, List.set_cons_succ]
            refine wpAnyH_take (i := 10) (v := .string s1) rfl (by kernel_rfl) (by kernel_rfl) (by kernel_rfl) (fun _ _ _ h => h) (Or.inl ⟨by kernel_rfl, by intro w' hSw; obtain ⟨s0, s1', ha', hd', hb'⟩ := hSw; have hca := ha'.cells; obtain ⟨a0, a1, a2, a3, a4⟩ := hca; have hcd := hd'.cells; obtain ⟨d0, d1, d2, d3, d4⟩ := hcd; have hcb := hb'.cells; obtain ⟨b0, b1, b2, b3, b4⟩ := hcb; dsimp only at a0 a1 a2 a3 a4 d0 d1 d2 d3 d4 b0 b1 b2 b3 b4; go_simp⟩) hS ?_
            try simp only [Act.put, List.setIfInBounds_toArray, List.set_cons_zero, List.set_cons_succ]
            refine wpAnyH_take (i := 11) (v := .pointer (some ⟨p, 1, none⟩)) rfl (by kernel_rfl) (by kernel_rfl) (by kernel_rfl) (fun _ _ _ h => h) (Or.inl ⟨by kernel_rfl, by intro w' hSw; obtain ⟨s0, s1', ha', hd', hb'⟩ := hSw; have hca := ha'.cells; obtain ⟨a0, a1, a2, a3, a4⟩ := hca; have hcd := hd'.cells; obtain ⟨d0, d1, d2, d3, d4⟩ := hcd; have hcb := hb'.cells; obtain ⟨b0, b1, b2, b3, b4⟩ := hcb; dsimp only at a0 a1 a2 a3 a4 d0 d1 d2 d3 d4 b0 b1 b2 b3 b4; go_simp⟩) hS ?_
            try simp only [Act.put, List.setIfInBounds_toArray, List.set_cons_zero, List.set_cons_succ]
            refine wpAnyH_take (i := 12) (v := .string s1) rfl (by kernel_rfl) (by kernel_rfl) (by kernel_rfl) (fun _ _ _ h => h) (Or.inl ⟨by kernel_rfl, by intro w' hSw; obtain ⟨s0, s1', ha', hd', hb'⟩ := hSw; have hca := ha'.cells; obtain ⟨a0, a1, a2, a3, a4⟩ := hca; have hcd := hd'.cells; obtain ⟨d0, d1, d2, d3, d4⟩ := hcd; have hcb := hb'.cells; obtain ⟨b0, b1, b2, b3, b4⟩ := hcb; dsimp only at a0 a1 a2 a3 a4 d0 d1 d2 d3 d4 b0 b1 b2 b3 b4; go_simp⟩) hS ?_
            try simp only [Act.put, List.setIfInBounds_toArray, List.set_cons_zero, List.set_cons_succ]
            refine wpAnyH_take (i := 13) (v := .bool true) rfl (by kernel_rfl) (by kernel_rfl) (by kernel_rfl) (fun _ _ _ h => h) (Or.inl ⟨by kernel_rfl, by intro w' hSw; obtain ⟨s0, s1', ha', hd', hb'⟩ := hSw; have hca := ha'.cells; obtain ⟨a0, a1, a2, a3, a4⟩ := hca; have hcd := hd'.cells; obtain ⟨d0, d1, d2, d3, d4⟩ := hcd; have hcb := hb'.cells; obtain ⟨b0, b1, b2, b3, b4⟩ := hcb; dsimp only at a0 a1 a2 a3 a4 d0 d1 d2 d3 d4 b0 b1 b2 b3 b4; go_simp⟩) hS ?_
            try simp only [Act.put, List.setIfInBounds_toArray, List.set_cons_zero, List.set_cons_succ]
            refine wpAnyH_take (i := 14) (v := .bool true) rfl (by kernel_rfl) (by kernel_rfl) (by kernel_rfl) (fun _ _ _ h => h) (Or.inl ⟨by kernel_rfl, by intro w' hSw; obtain ⟨s0, s1', ha', hd', hb'⟩ := hSw; have hca := ha'.cells; obtain ⟨a0, a1, a2, a3, a4⟩ := hca; have hcd := hd'.cells; obtain ⟨d0, d1, d2, d3, d4⟩ := hcd; have hcb := hb'.cells; obtain ⟨b0, b1, b2, b3, b4⟩ := hcb; dsimp only at a0 a1 a2 a3 a4 d0 d1 d2 d3 d4 b0 b1 b2 b3 b4; go_simp⟩) hS ?_
            try simp only [Act.put, List.setIfInBounds_toArray, List.set_cons_zero, List.set_cons_succ]
            refine wpAnyH_take (i := 15) (v := cA y0 y1 y2 y3 y4) rfl (by kernel_rfl) (by kernel_rfl) (by kernel_rfl) (fun _ _ _ h => h) (Or.inl ⟨by kernel_rfl, by intro w' hSw; obtain ⟨s0, s1', ha', hd', hb'⟩ := hSw; have hca := ha'.cells; obtain ⟨a0, a1, a2, a3, a4⟩ := hca; have hcd := hd'.cells; obtain ⟨d0, d1, d2, d3, d4⟩ := hcd; have hcb := hb'.cells; obtain ⟨b0, b1, b2, b3, b4⟩ := hcb; dsimp only at a0 a1 a2 a3 a4 d0 d1 d2 d3 d4 b0 b1 b2 b3 b4; go_simp⟩) hS ?_
            try simp only [Act.put, List.setIfInBounds_toArray, List.set_cons_zero, List.set_cons_succ]
            refine wpAnyH_take (i := 16) (v := cA y0 y1 y2 y3 y4) rfl (by kernel_rfl) (by kernel_rfl) (by kernel_rfl) (fun _ _ _ h => h) (Or.inl ⟨by kernel_rfl, by intro w' hSw; obtain ⟨s0, s1', ha', hd', hb'⟩ := hSw; have hca := ha'.cells; obtain ⟨a0, a1, a2, a3, a4⟩ := hca; have hcd := hd'.cells; obtain ⟨d0, d1, d2, d3, d4⟩ := hcd; have hcb := hb'.cells; obtain ⟨b0, b1, b2, b3, b4⟩ := hcb; dsimp only at a0 a1 a2 a3 a4 d0 d1 d2 d3 d4 b0 b1 b2 b3 b4; go_simp⟩) hS ?_
            try simp only [Act.put, List.setIfInBounds_toArray, List.set_cons_zero, List.set_cons_succ]
            refine wpAnyH_take (i := 17) (v := .bool false) rfl (by kernel_rfl) (by kernel_rfl) (by kernel_rfl) (fun _ _ _ h => h) (Or.inl ⟨by kernel_rfl, by intro w' hSw; obtain ⟨s0, s1', ha', hd', hb'⟩ := hSw; have hca := ha'.cells; obtain ⟨a0, a1, a2, a3, a4⟩ := hca; have hcd := hd'.cells; obtain ⟨d0, d1, d2, d3, d4⟩ := hcd; have hcb := hb'.cells; obtain ⟨b0, b1, b2, b3, b4⟩ := hcb; dsimp only at a0 a1 a2 a3 a4 d0 d1 d2 d3 d4 b0 b1 b2 b3 b4; go_simp⟩) hS ?_
            try simp only [Act.put, List.setIfInBounds_toArray, List.set_cons_zero, List.set_cons_succ]
            refine wpAnyH_take (i := 18) (v := .bool false) rfl (by kernel_rfl) (by kernel_rfl) (by kernel_rfl) (fun _ _ _ h => h) (Or.inl ⟨by kernel_rfl, by intro w' hSw; obtain ⟨s0, s1', ha', hd', hb'⟩ := hSw; have hca := ha'.cells; obtain ⟨a0, a1, a2, a3, a4⟩ := hca; have hcd := hd'.cells; obtain ⟨d0, d1, d2, d3, d4⟩ := hcd; have hcb := hb'.cells; obtain ⟨b0, b1, b2, b3, b4⟩ := hcb; dsimp only at a0 a1 a2 a3 a4 d0 d1 d2 d3 d4 b0 b1 b2 b3 b4; go_simp⟩) hS ?_
            try simp only [Act.put, List.setIfInBounds_toArray, List.set_cons_zero, List.set_cons_succ]
            refine wpAnyH_take (i := 19) (v := .bool false) rfl (by kernel_rfl) (by kernel_rfl) (by kernel_rfl) (fun _ _ _ h => h) (Or.inl ⟨by kernel_rfl, by intro w' hSw; obtain ⟨s0, s1', ha', hd', hb'⟩ := hSw; have hca := ha'.cells; obtain ⟨a0, a1, a2, a3, a4⟩ := hca; have hcd := hd'.cells; obtain ⟨d0, d1, d2, d3, d4⟩ := hcd; have hcb := hb'.cells; obtain ⟨b0, b1, b2, b3, b4⟩ := hcb; dsimp only at a0 a1 a2 a3 a4 d0 d1 d2 d3 d4 b0 b1 b2 b3 b4; go_simp⟩) hS ?_
            try simp only [Act.put, List.setIfInBounds_toArray, List.set_cons_zero, List.set_cons_succ]
            refine wpAnyH_take (i := 20) (v := .bool false) rfl (by kernel_rfl) (by kernel_rfl) (by kernel_rfl) (fun _ _ _ h => h) (Or.inl ⟨by kernel_rfl, by intro w' hSw; obtain ⟨s0, s1', ha', hd', hb'⟩ := hSw; have hca := ha'.cells; obtain ⟨a0, a1, a2, a3, a4⟩ := hca; have hcd := hd'.cells; obtain ⟨d0, d1, d2, d3, d4⟩ := hcd; have hcb := hb'.cells; obtain ⟨b0, b1, b2, b3, b4⟩ := hcb; dsimp only at a0 a1 a2 a3 a4 d0 d1 d2 d3 d4 b0 b1 b2 b3 b4; go_simp⟩) hS ?_
            try simp only [Act.put, List.setIfInBounds_toArray, List.set_cons_zero, List.set_cons_succ]
            refine wpAnyH_take (i := 21) (v := .slice (some ⟨q1, o1, none⟩) N.length kc) rfl (by kernel_rfl) (by kernel_rfl) (by kernel_rfl) (fun _ _ _ h => h) (Or.inl ⟨by kernel_rfl, by intro w' hSw; obtain ⟨s0, s1', ha', hd', hb'⟩ := hSw; have hca := ha'.cells; obtain ⟨a0, a1, a2, a3, a4⟩ := hca; have hcd := hd'.cells; obtain ⟨d0, d1, d2, d3, d4⟩ := hcd; have hcb := hb'.cells; obtain ⟨b0, b1, b2, b3, b4⟩ := hcb; dsimp only at a0 a1 a2 a3 a4 d0 d1 d2 d3 d4 b0 b1 b2 b3 b4; go_simp⟩) hS ?_
            try simp only [Act.put, List.setIfInBounds_toArray, List.set_cons_zero, List.set_cons_succ]
            refine wpAnyH_take (i := 22) (v := .int .i64 (k : Nat)) rfl (by kernel_rfl) (by kernel_rfl) (by kernel_rfl) (fun _ _ _ h => h) (Or.inl ⟨by kernel_rfl, by intro w' hSw; obtain ⟨s0, s1', ha', hd', hb'⟩ := hSw; have hca := ha'.cells; obtain ⟨a0, a1, a2, a3, a4⟩ := hca; have hcd := hd'.cells; obtain ⟨d0, d1, d2, d3, d4⟩ := hcd; have hcb := hb'.cells; obtain ⟨b0, b1, b2, b3, b4⟩ := hcb; dsimp only at a0 a1 a2 a3 a4 d0 d1 d2 d3 d4 b0 b1 b2 b3 b4; go_simp⟩) hS ?_
            try simp only [Act.put, List.setIfInBounds_toArray, List.set_cons_zero, List.set_cons_succ]
            refine wpAnyH_take (i := 23) (v := .pointer (some ⟨q1, o1 + k, none⟩)) rfl (by kernel_rfl) (by kernel_rfl) (by kernel_rfl) (fun _ _ _ h => h) (Or.inl ⟨by kernel_rfl, by intro w' hSw; obtain ⟨s0, s1', ha', hd', hb'⟩ := hSw; have hca := ha'.cells; obtain ⟨a0, a1, a2, a3, a4⟩ := hca; have hcd := hd'.cells; obtain ⟨d0, d1, d2, d3, d4⟩ := hcd; have hcb := hb'.cells; obtain ⟨b0, b1, b2, b3, b4⟩ := hcb; dsimp only at a0 a1 a2 a3 a4 d0 d1 d2 d3 d4 b0 b1 b2 b3 b4; go_simp⟩) hS ?_
            try simp only [Act.put, List.setIfInBounds_toArray, List.set_cons_zero, List.set_cons_succ]
            refine wpAnyH_take (i := 24) (v := .string s1) rfl (by kernel_rfl) (by kernel_rfl) (by kernel_rfl) (fun _ _ _ h => h) (Or.inl ⟨by kernel_rfl, by intro w' hSw; obtain ⟨s0, s1', ha', hd', hb'⟩ := hSw; have hca := ha'.cells; obtain ⟨a0, a1, a2, a3, a4⟩ := hca; have hcd := hd'.cells; obtain ⟨d0, d1, d2, d3, d4⟩ := hcd; have hcb := hb'.cells; obtain ⟨b0, b1, b2, b3, b4⟩ := hcb; dsimp only at a0 a1 a2 a3 a4 d0 d1 d2 d3 d4 b0 b1 b2 b3 b4; go_simp⟩) hS ?_
            try simp only [Act.put, List.setIfInBounds_toArray, List.set_cons_zero, List.set_cons_succ]
            refine wpAnyH_take (i := 25) (v := .pointer (some ⟨p, 1, none⟩)) rfl (by kernel_rfl) (by kernel_rfl) (by kernel_rfl) (fun _ _ _ h => h) (Or.inl ⟨by kernel_rfl, by intro w' hSw; obtain ⟨s0, s1', ha', hd', hb'⟩ := hSw; have hca := ha'.cells; obtain ⟨a0, a1, a2, a3, a4⟩ := hca; have hcd := hd'.cells; obtain ⟨d0, d1, d2, d3, d4⟩ := hcd; have hcb := hb'.cells; obtain ⟨b0, b1, b2, b3, b4⟩ := hcb; dsimp only at a0 a1 a2 a3 a4 d0 d1 d2 d3 d4 b0 b1 b2 b3 b4; go_simp⟩) hS ?_
            try simp only [Act.put, List.setIfInBounds_toArray, List.set_cons_zero, List.set_cons_succ]
            refine wpAnyH_take (i := 26) (v := .string s1) rfl (by kernel_rfl) (by kernel_rfl) (by kernel_rfl) (fun _ _ _ h => h) (Or.inl ⟨by kernel_rfl, by intro w' hSw; obtain ⟨s0, s1', ha', hd', hb'⟩ := hSw; have hca := ha'.cells; obtain ⟨a0, a1, a2, a3, a4⟩ := hca; have hcd := hd'.cells; obtain ⟨d0, d1, d2, d3, d4⟩ := hcd; have hcb := hb'.cells; obtain ⟨b0, b1, b2, b3, b4⟩ := hcb; dsimp only at a0 a1 a2 a3 a4 d0 d1 d2 d3 d4 b0 b1 b2 b3 b4; go_simp⟩) hS ?_
            try simp only [Act.put, List.setIfInBounds_toArray, List.set_cons_zero, List.set_cons_succ]
            refine wpAnyH_take (i := 27) (v := .bool false) rfl (by kernel_rfl) (by kernel_rfl) (by kernel_rfl) (fun _ _ _ h => h) (Or.inl ⟨by kernel_rfl, by intro w' hSw; obtain ⟨s0, s1', ha', hd', hb'⟩ := hSw; have hca := ha'.cells; obtain ⟨a0, a1, a2, a3, a4⟩ := hca; have hcd := hd'.cells; obtain ⟨d0, d1, d2, d3, d4⟩ := hcd; have hcb := hb'.cells; obtain ⟨b0, b1, b2, b3, b4⟩ := hcb; dsimp only at a0 a1 a2 a3 a4 d0 d1 d2 d3 d4 b0 b1 b2 b3 b4; go_simp⟩) hS ?_
            try simp only [Act.put, List.setIfInBounds_toArray, List.set_cons_zero, List.set_cons_succ]
            refine wpAnyH_take (i := 28) (v := .bool false) rfl (by kernel_rfl) (by kernel_rfl) (by kernel_rfl) (fun _ _ _ h => h) (Or.inl ⟨by kernel_rfl, by intro w' hSw; obtain ⟨s0, s1', ha', hd', hb'⟩ := hSw; have hca := ha'.cells; obtain ⟨a0, a1, a2, a3, a4⟩ := hca; have hcd := hd'.cells; obtain ⟨d0, d1, d2, d3, d4⟩ := hcd; have hcb := hb'.cells; obtain ⟨b0, b1, b2, b3, b4⟩ := hcb; dsimp only at a0 a1 a2 a3 a4 d0 d1 d2 d3 d4 b0 b1 b2 b3 b4; go_simp⟩) hS ?_
            try simp only [Act.put, List.setIfInBounds_toArray, List.set_cons_zero, List.set_cons_succ]
            refine wpAnyH_take (i := 29) (v := undef) rfl (by kernel_rfl) (by kernel_rfl) (by kernel_rfl) (fun _ _ _ h => h) (Or.inr ⟨by kernel_rfl, rfl⟩) hS ?_
            try simp only [Act.put, List.setIfInBounds_toArray, List.set_cons_zero, List.set_cons_succ]
            refine wpAnyH_take (i := 30) (v := undef) rfl (by kernel_rfl) (by kernel_rfl) (by kernel_rfl) (fun _ _ _ h => h) (Or.inr ⟨by kernel_rfl, rfl⟩) hS ?_
            try simp only [Act.put, List.setIfInBounds_toArray, List.set_cons_zero, List.set_cons_succ]
            refine wpAnyH_take (i := 31) (v := undef) rfl (by kernel_rfl) (by kernel_rfl) (by kernel_rfl) (fun _ _ _ h => h) (Or.inr ⟨by kernel_rfl, rfl⟩) hS ?_
            try simp only [Act.put, List.setIfInBounds_toArray, List.set_cons_zero, List.set_cons_succ]
            refine wpAnyH_take (i := 32) (v := .bool false) rfl (by kernel_rfl) (by kernel_rfl) (by kernel_rfl) (fun _ _ _ h => h) (Or.inl ⟨by kernel_rfl, by intro w' hSw; obtain ⟨s0, s1', ha', hd', hb'⟩ := hSw; have hca := ha'.cells; obtain ⟨a0, a1, a2, a3, a4⟩ := hca; have hcd := hd'.cells; obtain ⟨d0, d1, d2, d3, d4⟩ := hcd; have hcb := hb'.cells; obtain ⟨b0, b1, b2, b3, b4⟩ := hcb; dsimp only at a0 a1 a2 a3 a4 d0 d1 d2 d3 d4 b0 b1 b2 b3 b4; go_simp⟩) hS ?_
            try simp only [Act.put, List.setIfInBounds_toArray, List.set_cons_zero, List.set_cons_succ]
            refine wpAnyH_ready (rs := [33]) (by kernel_rfl) (by simp) ?_
            refine AllReadyH.cons rfl (fun K hK => ?_) AllReadyH.nil
            go_simp
            refine hK.out _ _ hS (fun hS => ?_)
            clear hK K
            try simp only [Act.put, List.setIfInBounds_toArray, List.set_cons_zero, List.set_cons_succ]
            refine wpAnyH_done (by kernel_rfl) ?_ _
            clear hS
            go_wp2
            go_roundw
            case rel => exact ⟨k + 1, by omega, by go_num, (hb.trans (hB3.mono hb.size)).drew⟩
            case measure => simp [intOf]; omega
          · skip
            rw [if_neg hkey] at hgk2
            have hg0 := hgk2.symm
            have hne : ((tx key).toList == s1.toList) = false := by rw [← hs1'.out, Rng.tx_l, Rng.tx_l]; simpa using hkey
            generalize hsi : tx key = si at *
            have hGx := Lib.hid (fun (W : World) (h : Kp w W p st sb b N sb' b' M) => (show Calls Try.prog 12 #[.pointer (some ⟨sb, 0, none⟩), .string si] W _ from hsi ▸ get_yes key y0 y1 y2 y3 y4 W h.st.sx hkl hgk))
            have hGy := Lib.hid (fun (W : World) (h : Kp w W p st sb b N sb' b' M) => (show Calls Try.prog 12 #[.pointer (some ⟨sb', 0, none⟩), .string si] W _ from hsi ▸ get_yes key y0 y1 y2 y3 y4 W h.was.sx hkl hg0))
            have hq5 := eq_self5 y0 y1 y2 y3 y4
            clear hget hgk hgk2 hg0 hr ha
            go_wp2_with fail
            refine (hGx.out _ hk9).mono ?_
            rintro e z1 ⟨rfl, hb1⟩
            have hB1 := hb1.trans ((Cnt.alloc_b z1 (Cnt.cRow y0 y1 y2 y3 y4)).mono hb1.size)
            have hkA := hk9.later hB1
            have hdA := hd9.later hB1
            have haA := Cr.new z1 y0 y1 y2 y3 y4
            generalize hq15 : z1.heap.size = q15 at *
            have f2 := (cell_same (p := ⟨q1, o1 + k, none⟩) (hB1.block q1 hlw)).trans e1
            go_wp2_with fail
            refine (hGy.out _ hkA).mono ?_
            rintro e z2 ⟨rfl, hb2⟩
            have hB2 := hb2.trans ((Cnt.alloc_b z2 (Cnt.cRow y0 y1 y2 y3 y4)).mono hb2.size)
            have hB3 := hB1.trans (hB2.mono hB1.size)
            have hkB := hkA.later hB2
            have hdB := hdA.later hB2
            have haB := haA.later hB2
            have hbB := Cr.new z2 y0 y1 y2 y3 y4
            generalize hq17 : z2.heap.size = q17 at *
            have g2 := (cell_same (p := ⟨q1, o1 + k, none⟩) (hB3.block q1 hlw)).trans e1
            obtain ⟨k1, k7, k8⟩ := hcell.out _ _ hkB.bx
            clear e1 f2 hk9 hd9 hkA hdA haA hGx hGy hb1 hb2 hcell hs1'
            go_wp2_with fail
            refine wp_region_held_drew (S := (Rk q1 (o1 + k) p q15 q11 q17 si s1 ⟨y0, y1, y2, y3, y4⟩ ⟨x0, x1, x2, x3, x4⟩ ⟨y0, y1, y2, y3, y4⟩)) (by kernel_rfl) (show Rk q1 (o1 + k) p q15 q11 q17 si s1 ⟨y0, y1, y2, y3, y4⟩ ⟨x0, x1, x2, x3, x4⟩ ⟨y0, y1, y2, y3, y4⟩ (z2.alloc (Cnt.cRow y0 y1 y2 y3 y4)) from ⟨g2, k1, haB, hdB, hbB⟩) (fun hS => ?_)
            try simp only [Act.put, List.setIfInBounds_toArray, List.set_cons_zero, List.set_cons_succ]
            refine wpAnyH_take (i := 0) (v := .int .i64 0) rfl (by kernel_rfl) (by kernel_rfl) (by kernel_rfl) (fun _ _ _ h => h) (Or.inl ⟨by kernel_rfl, by intro w' hSw; obtain ⟨s0, s1', ha', hd', hb'⟩ := hSw; have hca := ha'.cells; obtain ⟨a0, a1, a2, a3, a4⟩ := hca; have hcd := hd'.cells; obtain ⟨d0, d1, d2, d3, d4⟩ := hcd; have hcb := hb'.cells; obtain ⟨b0, b1, b2, b3, b4⟩ := hcb; dsimp only at a0 a1 a2 a3 a4 d0 d1 d2 d3 d4 b0 b1 b2 b3 b4; go_simp⟩) hS ?_
            try simp only [Act.put, List.setIfInBounds_toArray, List.set_cons_zero, List.set_cons_succ]
            refine wpAnyH_take (i := 1) (v := .bool false) rfl (by kernel_rfl) (by kernel_rfl) (by kernel_rfl) (fun _ _ _ h => h) (Or.inl ⟨by kernel_rfl, by intro w' hSw; obtain ⟨s0, s1', ha', hd', hb'⟩ := hSw; have hca := ha'.cells; obtain ⟨a0, a1, a2, a3, a4⟩ := hca; have hcd := hd'.cells; obtain ⟨d0, d1, d2, d3, d4⟩ := hcd; have hcb := hb'.cells; obtain ⟨b0, b1, b2, b3, b4⟩ := hcb; dsimp only at a0 a1 a2 a3 a4 d0 d1 d2 d3 d4 b0 b1 b2 b3 b4; go_simp⟩) hS ?_
            try simp only [Act.put, List.setIfInBounds_toArray, List.set_cons_zero, List.set_cons_succ]
            refine wpAnyH_take (i := 2) (v := .bool false) rfl (by kernel_rfl) (by kernel_rfl) (by kernel_rfl) (fun _ _ _ h => h) (Or.inl ⟨by kernel_rfl, by intro w' hSw; obtain ⟨s0, s1', ha', hd', hb'⟩ := hSw; have hca := ha'.cells; obtain ⟨a0, a1, a2, a3, a4⟩ := hca; have hcd := hd'.cells; obtain ⟨d0, d1, d2, d3, d4⟩ := hcd; have hcb := hb'.cells; obtain ⟨b0, b1, b2, b3, b4⟩ := hcb; dsimp only at a0 a1 a2 a3 a4 d0 d1 d2 d3 d4 b0 b1 b2 b3 b4; go_simp⟩) hS ?_
            try simp only [Act.put, List.setIfInBounds_toArray, List.set_cons_zero, List.set_cons_succ]
            refine wpAnyH_take (i := 3) (v := .int .i64 0) rfl (by kernel_rfl) (by kernel_rfl) (by kernel_rfl) (fun _ _ _ h => h) (Or.inl ⟨by kernel_rfl, by intro w' hSw; obtain ⟨s0, s1', ha', hd', hb'⟩ := hSw; have hca := ha'.cells; obtain ⟨a0, a1, a2, a3, a4⟩ := hca; have hcd := hd'.cells; obtain ⟨d0, d1, d2, d3, d4⟩ := hcd; have hcb := hb'.cells; obtain ⟨b0, b1, b2, b3, b4⟩ := hcb; dsimp only at a0 a1 a2 a3 a4 d0 d1 d2 d3 d4 b0 b1 b2 b3 b4; go_simp⟩) hS ?_
            try simp only [Act.put, List.setIfInBounds_toArray, List.set_cons_zero, List.set_cons_succ]
            refine wpAnyH_take (i := 4) (v := .bool false) rfl (by kernel_rfl) (by kernel_rfl) (by kernel_rfl) (fun _ _ _ h => h) (Or.inl ⟨by kernel_rfl, by intro w' hSw; obtain ⟨s0, s1', ha', hd', hb'⟩ := hSw; have hca := ha'.cells; obtain ⟨a0, a1, a2, a3, a4⟩ := hca; have hcd := hd'.cells; obtain ⟨d0, d1, d2, d3, d4⟩ := hcd; have hcb := hb'.cells; obtain ⟨b0, b1, b2, b3, b4⟩ := hcb; dsimp only at a0 a1 a2 a3 a4 d0 d1 d2 d3 d4 b0 b1 b2 b3 b4; go_simp⟩) hS ?_
            try simp only [Act.put, List.setIfInBounds_toArray, List.set_cons_zero, List.set_cons_succ]
            refine wpAnyH_take (i := 5) (v := .bool false) rfl (by kernel_rfl) (by kernel_rfl) (by kernel_rfl) (fun _ _ _ h => h) (Or.inl ⟨by kernel_rfl, by intro w' hSw; obtain ⟨s0, s1', ha', hd', hb'⟩ := hSw; have hca := ha'.cells; obtain ⟨a0, a1, a2, a3, a4⟩ := hca; have hcd := hd'.cells; obtain ⟨d0, d1, d2, d3, d4⟩ := hcd; have hcb := hb'.cells; obtain ⟨b0, b1, b2, b3, b4⟩ := hcb; dsimp only at a0 a1 a2 a3 a4 d0 d1 d2 d3 d4 b0 b1 b2 b3 b4; go_simp⟩) hS ?_
            try simp only [Act.put, List.setIfInBounds_toArray, List.set_cons_zero, List.set_cons_succ]
            refine wpAnyH_take (i := 6) (v := .bool false) rfl (by kernel_rfl) (by kernel_rfl) (by kernel_rfl) (fun _ _ _ h => h) (Or.inl ⟨by kernel_rfl, by intro w' hSw; obtain ⟨s0, s1', ha', hd', hb'⟩ := hSw; have hca := ha'.cells; obtain ⟨a0, a1, a2, a3, a4⟩ := hca; have hcd := hd'.cells; obtain ⟨d0, d1, d2, d3, d4⟩ := hcd; have hcb := hb'.cells; obtain ⟨b0, b1, b2, b3, b4⟩ := hcb; dsimp only at a0 a1 a2 a3 a4 d0 d1 d2 d3 d4 b0 b1 b2 b3 b4; go_simp⟩) hS ?_
            try simp only [Act.put, List.setIfInBounds_toArray, List.set_cons_zero, List.set_cons_succ]
            refine wpAnyH_take (i := 7) (v := .slice (some ⟨q1, o1, none⟩) N.length kc) rfl (by kernel_rfl) (by kernel_rfl) (by kernel_rfl) (fun _ _ _ h => h) (Or.inl ⟨by kernel_rfl, by intro w' hSw; obtain ⟨s0, s1', ha', hd', hb'⟩ := hSw; have hca := ha'.cells; obtain ⟨a0, a1, a2, a3, a4⟩ := hca; have hcd := hd'.cells; obtain ⟨d0, d1, d2, d3, d4⟩ := hcd; have hcb := hb'.cells; obtain ⟨b0, b1, b2, b3, b4⟩ := hcb; dsimp only at a0 a1 a2 a3 a4 d0 d1 d2 d3 d4 b0 b1 b2 b3 b4; go_simp⟩) hS ?_
            try simp only [Act.put, List.setIfInBounds_toArray, List.set_cons_zero, List.set_cons_succ]
            refine wpAnyH_take (i := 8) (v := .int .i64 (k : Nat)) rfl (by kernel_rfl) (by kernel_rfl) (by kernel_rfl) (fun _ _ _ h => h) (Or.inl ⟨by kernel_rfl, by intro w' hSw; obtain ⟨s0, s1', ha', hd', hb'⟩ := hSw; have hca := ha'.cells; obtain ⟨a0, a1, a2, a3, a4⟩ := hca; have hcd := hd'.cells; obtain ⟨d0, d1, d2, d3, d4⟩ := hcd; have hcb := hb'.cells; obtain ⟨b0, b1, b2, b3, b4⟩ := hcb; dsimp only at a0 a1 a2 a3 a4 d0 d1 d2 d3 d4 b0 b1 b2 b3 b4; go_simp⟩) hS ?_
            try simp only [Act.put, List.setIfInBounds_toArray, List.set_cons_zero, List.set_cons_succ]
            refine wpAnyH_take (i := 9) (v := .pointer (some ⟨q1, o1 + k, none⟩)) rfl (by kernel_rfl) (by kernel_rfl) (by kernel_rfl) (fun _ _ _ h => h) (Or.inl ⟨by kernel_rfl, by intro w' hSw; obtain ⟨s0, s1', ha', hd', hb'⟩ := hSw; have hca := ha'.cells; obtain ⟨a0, a1, a2, a3, a4⟩ := hca; have hcd := hd'.cells; obtain ⟨d0, d1, d2, d3, d4⟩ := hcd; have hcb := hb'.cells; obtain ⟨b0, b1, b2, b3, b4⟩ := hcb; dsimp only at a0 a1 a2 a3 a4 d0 d1 d2 d3 d4 b0 b1 b2 b3 b4; go_simp⟩) hS ?_
            try simp only [Act.put, List.setIfInBounds_toArray, List.set_cons_zero, List.set_cons_succ]
            refine wpAnyH_take (i := 10) (v := .string si) rfl (by kernel_rfl) (by kernel_rfl) (by kernel_rfl) (fun _ _ _ h => h) (Or.inl ⟨by kernel_rfl, by intro w' hSw; obtain ⟨s0, s1', ha', hd', hb'⟩ := hSw; have hca := ha'.cells; obtain ⟨a0, a1, a2, a3, a4⟩ := hca; have hcd := hd'.cells; obtain ⟨d0, d1, d2, d3, d4⟩ := hcd; have hcb := hb'.cells; obtain ⟨b0, b1, b2, b3, b4⟩ := hcb; dsimp only at a0 a1 a2 a3 a4 d0 d1 d2 d3 d4 b0 b1 b2 b3 b4; go_simp⟩) hS ?_
            try simp only [Act.put, List.setIfInBounds_toArray, List.set_cons_zero, List.set_cons_succ]
            refine wpAnyH_take (i := 11) (v := .pointer (some ⟨p, 1, none⟩)) rfl (by kernel_rfl) (by kernel_rfl) (by kernel_rfl) (fun _ _ _ h => h) (Or.inl ⟨by kernel_rfl, by intro w' hSw; obtain ⟨s0, s1', ha', hd', hb'⟩ := hSw; have hca := ha'.cells; obtain ⟨a0, a1, a2, a3, a4⟩ := hca; have hcd := hd'.cells; obtain ⟨d0, d1, d2, d3, d4⟩ := hcd; have hcb := hb'.cells; obtain ⟨b0, b1, b2, b3, b4⟩ := hcb; dsimp only at a0 a1 a2 a3 a4 d0 d1 d2 d3 d4 b0 b1 b2 b3 b4; go_simp⟩) hS ?_
            try simp only [Act.put, List.setIfInBounds_toArray, List.set_cons_zero, List.set_cons_succ]
            refine wpAnyH_take (i := 12) (v := .string s1) rfl (by kernel_rfl) (by kernel_rfl) (by kernel_rfl) (fun _ _ _ h => h) (Or.inl ⟨by kernel_rfl, by intro w' hSw; obtain ⟨s0, s1', ha', hd', hb'⟩ := hSw; have hca := ha'.cells; obtain ⟨a0, a1, a2, a3, a4⟩ := hca; have hcd := hd'.cells; obtain ⟨d0, d1, d2, d3, d4⟩ := hcd; have hcb := hb'.cells; obtain ⟨b0, b1, b2, b3, b4⟩ := hcb; dsimp only at a0 a1 a2 a3 a4 d0 d1 d2 d3 d4 b0 b1 b2 b3 b4; go_simp⟩) hS ?_
            try simp only [Act.put, List.setIfInBounds_toArray, List.set_cons_zero, List.set_cons_succ]
            refine wpAnyH_take (i := 13) (v := .bool false) rfl (by kernel_rfl) (by kernel_rfl) (by kernel_rfl) (fun _ _ _ h => h) (Or.inl ⟨by kernel_rfl, by intro w' hSw; obtain ⟨s0, s1', ha', hd', hb'⟩ := hSw; have hca := ha'.cells; obtain ⟨a0, a1, a2, a3, a4⟩ := hca; have hcd := hd'.cells; obtain ⟨d0, d1, d2, d3, d4⟩ := hcd; have hcb := hb'.cells; obtain ⟨b0, b1, b2, b3, b4⟩ := hcb; dsimp only at a0 a1 a2 a3 a4 d0 d1 d2 d3 d4 b0 b1 b2 b3 b4; go_simp⟩) hS ?_
            try simp only [Act.put, List.setIfInBounds_toArray, List.set_cons_zero, List.set_cons_succ]
            refine wpAnyH_take (i := 14) (v := .bool false) rfl (by kernel_rfl) (by kernel_rfl) (by kernel_rfl) (fun _ _ _ h => h) (Or.inl ⟨by kernel_rfl, by intro w' hSw; obtain ⟨s0, s1', ha', hd', hb'⟩ := hSw; have hca := ha'.cells; obtain ⟨a0, a1, a2, a3, a4⟩ := hca; have hcd := hd'.cells; obtain ⟨d0, d1, d2, d3, d4⟩ := hcd; have hcb := hb'.cells; obtain ⟨b0, b1, b2, b3, b4⟩ := hcb; dsimp only at a0 a1 a2 a3 a4 d0 d1 d2 d3 d4 b0 b1 b2 b3 b4; go_simp⟩) hS ?_
            try simp only [Act.put, List.setIfInBounds_toArray, List.set_cons_zero, List.set_cons_succ]
            refine wpAnyH_take (i := 15) (v := undef) rfl (by kernel_rfl) (by kernel_rfl) (by kernel_rfl) (fun _ _ _ h => h) (Or.inr ⟨by kernel_rfl, rfl⟩) hS ?_
            try simp only [Act.put, List.setIfInBounds_toArray, List.set_cons_zero, List.set_cons_succ]
            refine wpAnyH_take (i := 16) (v := undef) rfl (by kernel_rfl) (by kernel_rfl) (by kernel_rfl) (fun _ _ _ h => h) (Or.inr ⟨by kernel_rfl, rfl⟩) hS ?_
            try simp only [Act.put, List.setIfInBounds_toArray, List.set_cons_zero, List.set_cons_succ]
            refine wpAnyH_take (i := 17) (v := undef) rfl (by kernel_rfl) (by kernel_rfl) (by kernel_rfl) (fun _ _ _ h => h) (Or.inr ⟨by kernel_rfl, rfl⟩) hS ?_
            try simp only [Act.put, List.setIfInBounds_toArray, List.set_cons_zero, List.set_cons_succ]
            refine wpAnyH_take (i := 18) (v := .bool false) rfl (by kernel_rfl) (by kernel_rfl) (by kernel_rfl) (fun _ _ _ h => h) (Or.inl ⟨by kernel_rfl, by intro w' hSw; obtain ⟨s0, s1', ha', hd', hb'⟩ := hSw; have hca := ha'.cells; obtain ⟨a0, a1, a2, a3, a4⟩ := hca; have hcd := hd'.cells; obtain ⟨d0, d1, d2, d3, d4⟩ := hcd; have hcb := hb'.cells; obtain ⟨b0, b1, b2, b3, b4⟩ := hcb; dsimp only at a0 a1 a2 a3 a4 d0 d1 d2 d3 d4 b0 b1 b2 b3 b4; go_simp⟩) hS ?_
            try simp only [Act.put, List.setIfInBounds_toArray, List.set_cons_zero, List.set_cons_succ]
            refine wpAnyH_take (i := 19) (v := .bool false) rfl (by kernel_rfl) (by kernel_rfl) (by kernel_rfl) (fun _ _ _ h => h) (Or.inl ⟨by kernel_rfl, by intro w' hSw; obtain ⟨s0, s1', ha', hd', hb'⟩ := hSw; have hca := ha'.cells; obtain ⟨a0, a1, a2, a3, a4⟩ := hca; have hcd := hd'.cells; obtain ⟨d0, d1, d2, d3, d4⟩ := hcd; have hcb := hb'.cells; obtain ⟨b0, b1, b2, b3, b4⟩ := hcb; dsimp only at a0 a1 a2 a3 a4 d0 d1 d2 d3 d4 b0 b1 b2 b3 b4; go_simp⟩) hS ?_
            try simp only [Act.put, List.setIfInBounds_toArray, List.set_cons_zero, List.set_cons_succ]
            refine wpAnyH_take (i := 20) (v := .bool false) rfl (by kernel_rfl) (by kernel_rfl) (by kernel_rfl) (fun _ _ _ h => h) (Or.inl ⟨by kernel_rfl, by intro w' hSw; obtain ⟨s0, s1', ha', hd', hb'⟩ := hSw; have hca := ha'.cells; obtain ⟨a0, a1, a2, a3, a4⟩ := hca; have hcd := hd'.cells; obtain ⟨d0, d1, d2, d3, d4⟩ := hcd; have hcb := hb'.cells; obtain ⟨b0, b1, b2, b3, b4⟩ := hcb; dsimp only at a0 a1 a2 a3 a4 d0 d1 d2 d3 d4 b0 b1 b2 b3 b4; go_simp⟩) hS ?_
            try simp only [Act.put, List.setIfInBounds_toArray, List.set_cons_zero, List.set_cons_succ]
            refine wpAnyH_take (i := 21) (v := .slice (some ⟨q1, o1, none⟩) N.length kc) rfl (by kernel_rfl) (by kernel_rfl) (by kernel_rfl) (fun _ _ _ h => h) (Or.inl ⟨by kernel_rfl, by intro w' hSw; obtain ⟨s0, s1', ha', hd', hb'⟩ := hSw; have hca := ha'.cells; obtain ⟨a0, a1, a2, a3, a4⟩ := hca; have hcd := hd'.cells; obtain ⟨d0, d1, d2, d3, d4⟩ := hcd; have hcb := hb'.cells; obtain ⟨b0, b1, b2, b3, b4⟩ := hcb; dsimp only at a0 a1 a2 a3 a4 d0 d1 d2 d3 d4 b0 b1 b2 b3 b4; go_simp⟩) hS ?_
            try simp only [Act.put, List.setIfInBounds_toArray, List.set_cons_zero, List.set_cons_succ]
            refine wpAnyH_take (i := 22) (v := .int .i64 (k : Nat)) rfl (by kernel_rfl) (by kernel_rfl) (by kernel_rfl) (fun _ _ _ h => h) (Or.inl ⟨by kernel_rfl, by intro w' hSw; obtain ⟨s0, s1', ha', hd', hb'⟩ := hSw; have hca := ha'.cells; obtain ⟨a0, a1, a2, a3, a4⟩ := hca; have hcd := hd'.cells; obtain ⟨d0, d1, d2, d3, d4⟩ := hcd; have hcb := hb'.cells; obtain ⟨b0, b1, b2, b3, b4⟩ := hcb; dsimp only at a0 a1 a2 a3 a4 d0 d1 d2 d3 d4 b0 b1 b2 b3 b4; go_simp⟩) hS ?_
            try simp only [Act.put, List.setIfInBounds_toArray, List.set_cons_zero, List.set_cons_succ]
            refine wpAnyH_take (i := 23) (v := .pointer (some ⟨q1, o1 + k, none⟩)) rfl (by kernel_rfl) (by kernel_rfl) (by kernel_rfl) (fun _ _ _ h => h) (Or.inl ⟨by kernel_rfl, by intro w' hSw; obtain ⟨s0, s1', ha', hd', hb'⟩ := hSw; have hca := ha'.cells; obtain ⟨a0, a1, a2, a3, a4⟩ := hca; have hcd := hd'.cells; obtain ⟨d0, d1, d2, d3, d4⟩ := hcd; have hcb := hb'.cells; obtain ⟨b0, b1, b2, b3, b4⟩ := hcb; dsimp only at a0 a1 a2 a3 a4 d0 d1 d2 d3 d4 b0 b1 b2 b3 b4; go_simp⟩) hS ?_
            try simp only [Act.put, List.setIfInBounds_toArray, List.set_cons_zero, List.set_cons_succ]
            refine wpAnyH_take (i := 24) (v := .string si) rfl (by kernel_rfl) (by kernel_rfl) (by kernel_rfl) (fun _ _ _ h => h) (Or.inl ⟨by kernel_rfl, by intro w' hSw; obtain ⟨s0, s1', ha', hd', hb'⟩ := hSw; have hca := ha'.cells; obtain ⟨a0, a1, a2, a3, a4⟩ := hca; have hcd := hd'.cells; obtain ⟨d0, d1, d2, d3, d4⟩ := hcd; have hcb := hb'.cells; obtain ⟨b0, b1, b2, b3, b4⟩ := hcb; dsimp only at a0 a1 a2 a3 a4 d0 d1 d2 d3 d4 b0 b1 b2 b3 b4; go_simp⟩) hS ?_
            try simp only [Act.put, List.setIfInBounds_toArray, List.set_cons_zero, List.set_cons_succ]
            refine wpAnyH_take (i := 25) (v := .pointer (some ⟨p, 1, none⟩)) rfl (by kernel_rfl) (by kernel_rfl) (by kernel_rfl) (fun _ _ _ h => h) (Or.inl ⟨by kernel_rfl, by intro w' hSw; obtain ⟨s0, s1', ha', hd', hb'⟩ := hSw; have hca := ha'.cells; obtain ⟨a0, a1, a2, a3, a4⟩ := hca; have hcd := hd'.cells; obtain ⟨d0, d1, d2, d3, d4⟩ := hcd; have hcb := hb'.cells; obtain ⟨b0, b1, b2, b3, b4⟩ := hcb; dsimp only at a0 a1 a2 a3 a4 d0 d1 d2 d3 d4 b0 b1 b2 b3 b4; go_simp⟩) hS ?_
            try simp only [Act.put, List.setIfInBounds_toArray, List.set_cons_zero, List.set_cons_succ]
            refine wpAnyH_take (i := 26) (v := .string s1) rfl (by kernel_rfl) (by kernel_rfl) (by kernel_rfl) (fun _ _ _ h => h) (Or.inl ⟨by kernel_rfl, by intro w' hSw; obtain ⟨s0, s1', ha', hd', hb'⟩ := hSw; have hca := ha'.cells; obtain ⟨a0, a1, a2, a3, a4⟩ := hca; have hcd := hd'.cells; obtain ⟨d0, d1, d2, d3, d4⟩ := hcd; have hcb := hb'.cells; obtain ⟨b0, b1, b2, b3, b4⟩ := hcb; dsimp only at a0 a1 a2 a3 a4 d0 d1 d2 d3 d4 b0 b1 b2 b3 b4; go_simp⟩) hS ?_
            try simp only [Act.put, List.setIfInBounds_toArray, List.set_cons_zero, List.set_cons_succ]
            refine wpAnyH_take (i := 27) (v := .bool true) rfl (by kernel_rfl) (by kernel_rfl) (by kernel_rfl) (fun _ _ _ h => h) (Or.inl ⟨by kernel_rfl, by intro w' hSw; obtain ⟨s0, s1', ha', hd', hb'⟩ := hSw; have hca := ha'.cells; obtain ⟨a0, a1, a2, a3, a4⟩ := hca; have hcd := hd'.cells; obtain ⟨d0, d1, d2, d3, d4⟩ := hcd; have hcb := hb'.cells; obtain ⟨b0, b1, b2, b3, b4⟩ := hcb; dsimp only at a0 a1 a2 a3 a4 d0 d1 d2 d3 d4 b0 b1 b2 b3 b4; go_simp⟩) hS ?_
            try simp only [Act.put, List.setIfInBounds_toArray, List.set_cons_zero, List.set_cons_succ]
            refine wpAnyH_take (i := 28) (v := .bool true) rfl (by kernel_rfl) (by kernel_rfl) (by kernel_rfl) (fun _ _ _ h => h) (Or.inl ⟨by kernel_rfl, by intro w' hSw; obtain ⟨s0, s1', ha', hd', hb'⟩ := hSw; have hca := ha'.cells; obtain ⟨a0, a1, a2, a3, a4⟩ := hca; have hcd := hd'.cells; obtain ⟨d0, d1, d2, d3, d4⟩ := hcd; have hcb := hb'.cells; obtain ⟨b0, b1, b2, b3, b4⟩ := hcb; dsimp only at a0 a1 a2 a3 a4 d0 d1 d2 d3 d4 b0 b1 b2 b3 b4; go_simp⟩) hS ?_
            try simp only [Act.put, List.setIfInBounds_toArray, List.set_cons_zero, List.set_cons_succ]
            refine wpAnyH_take (i := 29) (v := cA y0 y1 y2 y3 y4) rfl (by kernel_rfl) (by kernel_rfl) (by kernel_rfl) (fun _ _ _ h => h) (Or.inl ⟨by kernel_rfl, by intro w' hSw; obtain ⟨s0, s1', ha', hd', hb'⟩ := hSw; have hca := ha'.cells; obtain ⟨a0, a1, a2, a3, a4⟩ := hca; have hcd := hd'.cells; obtain ⟨d0, d1, d2, d3, d4⟩ := hcd; have hcb := hb'.cells; obtain ⟨b0, b1, b2, b3, b4⟩ := hcb; dsimp only at a0 a1 a2 a3 a4 d0 d1 d2 d3 d4 b0 b1 b2 b3 b4; go_simp⟩) hS ?_
            try simp only [Act.put, List.setIfInBounds_toArray, List.set_cons_zero, List.set_cons_succ]
            refine wpAnyH_take (i := 30) (v := cA y0 y1 y2 y3 y4) rfl (by kernel_rfl) (by kernel_rfl) (by kernel_rfl) (fun _ _ _ h => h) (Or.inl ⟨by kernel_rfl, by intro w' hSw; obtain ⟨s0, s1', ha', hd', hb'⟩ := hSw; have hca := ha'.cells; obtain ⟨a0, a1, a2, a3, a4⟩ := hca; have hcd := hd'.cells; obtain ⟨d0, d1, d2, d3, d4⟩ := hcd; have hcb := hb'.cells; obtain ⟨b0, b1, b2, b3, b4⟩ := hcb; dsimp only at a0 a1 a2 a3 a4 d0 d1 d2 d3 d4 b0 b1 b2 b3 b4; go_simp⟩) hS ?_
            try simp only [Act.put, List.setIfInBounds_toArray, List.set_cons_zero, List.set_cons_succ]
            refine wpAnyH_take (i := 31) (v := .bool false) rfl (by kernel_rfl) (by kernel_rfl) (by kernel_rfl) (fun _ _ _ h => h) (Or.inl ⟨by kernel_rfl, by intro w' hSw; obtain ⟨s0, s1', ha', hd', hb'⟩ := hSw; have hca := ha'.cells; obtain ⟨a0, a1, a2, a3, a4⟩ := hca; have hcd := hd'.cells; obtain ⟨d0, d1, d2, d3, d4⟩ := hcd; have hcb := hb'.cells; obtain ⟨b0, b1, b2, b3, b4⟩ := hcb; dsimp only at a0 a1 a2 a3 a4 d0 d1 d2 d3 d4 b0 b1 b2 b3 b4; go_simp⟩) hS ?_
            try simp only [Act.put, List.setIfInBounds_toArray, List.set_cons_zero, List.set_cons_succ]
            refine wpAnyH_take (i := 32) (v := .bool false) rfl (by kernel_rfl) (by kernel_rfl) (by kernel_rfl) (fun _ _ _ h => h) (Or.inl ⟨by kernel_rfl, by intro w' hSw; obtain ⟨s0, s1', ha', hd', hb'⟩ := hSw; have hca := ha'.cells; obtain ⟨a0, a1, a2, a3, a4⟩ := hca; have hcd := hd'.cells; obtain ⟨d0, d1, d2, d3, d4⟩ := hcd; have hcb := hb'.cells; obtain ⟨b0, b1, b2, b3, b4⟩ := hcb; dsimp only at a0 a1 a2 a3 a4 d0 d1 d2 d3 d4 b0 b1 b2 b3 b4; go_simp⟩) hS ?_
            try simp only [Act.put, List.setIfInBounds_toArray, List.set_cons_zero, List.set_cons_succ]
            refine wpAnyH_ready (rs := [33]) (by kernel_rfl) (by simp) ?_
            refine AllReadyH.cons rfl (fun K hK => ?_) AllReadyH.nil
            go_simp
            refine hK.out _ _ hS (fun hS => ?_)
            clear hK K
            try simp only [Act.put, List.setIfInBounds_toArray, List.set_cons_zero, List.set_cons_succ]
            refine wpAnyH_done (by kernel_rfl) ?_ _
            clear hS
            go_wp2
            go_roundw
            case rel => exact ⟨k + 1, by omega, by go_num, (hb.trans (hB3.mono hb.size)).drew⟩
            case measure => simp [intOf]; omega
        · obtain rfl : k = N.length := by omega
          have hL1 := Lib.hid (fun (W : World) (h : Kp w W p st sb b N sb' b' M) => len_any W h.st.sx)
          have hL2 := Lib.hid (fun (W : World) (h : Kp w W p st sb b N sb' b' M) => len_any W h.was.sx)
          obtain ⟨e0, e1, e2, e3, e4⟩ := hd9.cells
          rw [← hlen6.out] at hL2
          clear G hget hr ha hlen6 hk8 hd8 hd9 hcell hlt
          go_wp2_with fail
          refine (hL1.out _ hk9).mono ?_
          rintro e w' ⟨rfl, rfl⟩
          go_wp2_with fail
          refine (hL2.out _ hk9).mono ?_
          rintro e w' ⟨rfl, rfl⟩
          go_wp2_with fail
          refine (hW.out _).mono ?_
          rintro e wz ⟨rfl, hbz⟩
          have hkz := hk9.later hbz
          go_wp2_with fail
          go_ret
          exact ⟨rfl, hkz.st.bel⟩
    · have z1 : (z != 0) = true := by simpa using hz
      have z2 : (z == 0) = false := by simpa using hz
      have z3 : (z = 0) = False := by simpa using hz
      have hA := Lib.hid (fun (W : World) (h : Kp w W p st sb b M sb' b' M) => (show Calls Try.prog 13 #[.pointer (some ⟨sb, 0, none⟩), .string s1, .int .i64 sp, .int .i64 sn] W _ from hs1'.out ▸ ap_err sk v u d l g sp sn x0 x1 x2 x3 x4 z W h.st.sx hml hr ha hz))
      clear hz
      go_wp2_with fail
      refine (hA.out _ hk5).mono ?_
      rintro e w6 ⟨rfl, hb6⟩
      have hk6 := hk5.later hb6
      have hc6 := hc5.later hb6
      clear hk5 hb6 k1 k7 k8 hA hc5
      obtain ⟨k1, k7, k8⟩ := hcell.out _ _ hk6.bx
      obtain ⟨e0, e1, e2, e3, e4⟩ := hc6.cells
      go_wp2_with fail
      refine (hCA.out _).mono ?_
      rintro e w7 ⟨rfl, hb7⟩
      have hk7 := (hk6.later hb7).later (Cnt.alloc_b w7 (Cnt.cRow x0 x1 x2 x3 x4))
      clear hk6 hb7 k1 k7 k8 e0 e1 e2 e3 e4 hc6 hCA
      go_wp2_with fail
      refine (equal_any _ hk7.st.sx hk7.was.sx).mono ?_
      rintro e w8 ⟨rfl, hb8⟩
      have hk8 := hk7.later hb8
      clear hk7 hb8
      go_wp2_with fail
      refine (hW.out _).mono ?_
      rintro e w9 ⟨rfl, hb9⟩
      have hk9 := hk8.later hb9
      go_wp2_with fail
      go_ret
      exact ⟨rfl, hk9.st.bel⟩
end Go.Proofs.Ytlkjenicdkfpbaa.Sto
