/- The walk of StorePuts. -/
import Derived.Test.YtdihlgbnmpefiaaS35
namespace Go.Proofs.Ytdihlgbnmpefiaa.Sto
open Go.RowKit Go.Lib
open Cnt (Ct cA OkC quietB appC)
open Rng (tx tx_of tx_size nameOk bl)
set_option linter.unusedVariables false
set_option linter.unusedSimpArgs false
set_option maxRecDepth 20000

/-- What the comparison of two keys reads. -/
def Rp (q o1 o2 : Nat) (s t : ByteArray) (W : World) : Prop := W.cell? ⟨q, o1, none⟩ = some (.string s) ∧ W.cell? ⟨q, o2, none⟩ = some (.string t)
set_option maxHeartbeats 16000000 in
theorem puts_any (a : Option Addr) (len cap : Nat) (S : Nat → Sp) (s1 : ByteArray) (cv cu cd cl cg : Int) (w : World) (h : IsSt w a len cap S) (_ : s1.size ≤ maxLen) (_ : True) :
    Calls Try.prog 6 #[.slice a len cap, .string s1, cA cv cu cd cl cg] w fun e w' => e = .returned (.bool true) ∧ Below w.heap.size w w' := by
  have hW := Lib.hid (fun W => works_any W)
  have hb1 := Cnt.alloc_b w (Cnt.cRow cv cu cd cl cg)
  have hc := Cr.new w cv cu cd cl cg
  have hS := Lib.hid (short_any a len cap S _ (h.later hb1))
  by_cases hl : len ≤ 100
  · have hd : decide (100 < (len : Int)) = false := by simp; omega
    cases h1 : shortB S len with
    | false =>
      rw [h1] at hS
      clear hl h1 h hc
      go_enter Try.func6, Try.ntmps6
      go_wp2_with fail
      refine hS.out.mono ?_
      rintro e w' ⟨rfl, rfl⟩
      go_wp2_with fail
      refine (hW.out _).mono ?_
      rintro e w2 ⟨rfl, hb2⟩
      go_wp2_with fail
      go_ret
      exact ⟨rfl, hb1.trans (hb2.mono hb1.size)⟩
    | true =>
      rw [h1] at hS
      by_cases hk : s1.size ≤ 40
      · have hkd : decide (40 < (s1.size : Int)) = false := by simp; omega
        have hF := filled_any a len cap S _ (h.later hb1) h1
        generalize fillM S len = M at hF
        replace hF := Lib.hid hF
        obtain ⟨key, hkey⟩ : ∃ key : List UInt8, tx key = s1 := ⟨s1.data.toList, Rng.tx_of s1⟩
        have hkl : key.length ≤ 40 := by rw [← tx_size, hkey]; exact hk
        have hml := maxLen_of hkl
        replace hkey := Lib.hid hkey
        have hNm := fun W => Rng.name_any key W
        rw [hkey.out] at hNm
        clear hl h1 h hk hkl
        go_enter Try.func6, Try.ntmps6
        go_wp2_with fail
        refine hS.out.mono ?_
        rintro e w' ⟨rfl, rfl⟩
        go_wp2_with fail
        refine hF.out.mono ?_
        rintro e w3 ⟨sb, b, rfl, hw3, hsb⟩
        have hc := hc.later hw3.bel
        have hw3 := hw3.from_ hb1
        generalize hq5e : w.heap.size = q5 at *
        clear hF hS
        go_wp2_with fail
        refine (copy_any _ hw3.sx).mono ?_
        rintro e w4 ⟨sb', b', rfl, hx', hsb', hbb', hb4⟩
        have hK : Kq2 w w4 sb b M sb' b' M := ⟨hw3.later hb4, ⟨hx', hw3.bel.trans (hb4.mono hw3.bel.size), Nat.le_trans hw3.bel.size hbb'⟩, by have := hw3.sx.lt.2; omega⟩
        have hc := hc.later hb4
        clear hw3 hx' hb4 hbb'
        cases hr : getM M key with
        | none =>
          go_wp2_with fail
          refine ((show Calls Try.prog 12 #[.pointer (some ⟨sb, 0, none⟩), .string s1] _ _ from hkey.out ▸ get_no key _ hK.st.sx hml hr)).mono ?_
          rintro e w5 ⟨rfl, hb5⟩
          have hB5 := hb5.trans ((Cnt.alloc_b w5 (Cnt.cRow 0 0 0 0 0)).mono hb5.size)
          have hK := hK.later hB5
          have hc := hc.later hB5
          by_cases hn : nameOk key = true
          · rw [hn] at hNm
            by_cases hcc : OkC ⟨cv, cu, cd, cl, cg⟩
            · have hCk := fun W => Cnt.chk_ok hcc W
              by_cases hf : 64 ≤ M.length
              · have hf2 : M.length = 64 := by have := hK.st.sx.len; omega
                obtain ⟨e0, e1, e2, e3, e4⟩ := hc.cells
                go_wp2_with fail
                refine ((show Calls Try.prog 16 #[.pointer (some ⟨sb, 0, none⟩), .string s1, cA cv cu cd cl cg] _ _ from hkey.out ▸ put_4 key cv cu cd cl cg _ hK.st.sx hn hcc hr hf)).mono ?_
                rintro e w6 ⟨rfl, hb6⟩
                clear e0 e1 e2 e3 e4
                have hK := hK.later hb6
                have hc := hc.later hb6
                obtain ⟨e0, e1, e2, e3, e4⟩ := hc.cells
                go_wp2_with fail
                refine (hNm _).mono ?_
                rintro e n1 ⟨rfl, hn1⟩
                clear e0 e1 e2 e3 e4
                have hK := hK.later hn1
                have hc := hc.later hn1
                obtain ⟨e0, e1, e2, e3, e4⟩ := hc.cells
                go_wp2_with fail
                refine (hCk _).mono ?_
                rintro e m1 ⟨rfl, hm1⟩
                clear e0 e1 e2 e3 e4
                have hK := hK.later hm1
                have hc := hc.later hm1
                have hLn := len_any _ hK.was.sx
                rw [hf2] at hLn
                clear hf2 hf hr hn hcc
                go_wp2_with fail
                refine hLn.mono ?_
                rintro e w' ⟨rfl, rfl⟩
                clear hLn
                go_wp2_with fail
                refine (equal_any _ hK.st.sx hK.was.sx).mono ?_
                rintro e z1 ⟨rfl, hz1⟩
                have hK := hK.later hz1
                go_wp2_with fail
                refine (hW.out _).mono ?_
                rintro e z2 ⟨rfl, hz2⟩
                have hK := hK.later hz2
                go_wp2_with fail
                go_ret
                exact ⟨rfl, hK.st.bel⟩
              · have hsrt := hK.st.sx.srt
                have hback := Lib.hid (del_put hsrt ⟨cv, cu, cd, cl, cg⟩ hr)
                have hNl := Lib.hid (put_len_new ⟨cv, cu, cd, cl, cg⟩ hr)
                have hgn : getM (putM M key ⟨cv, cu, cd, cl, cg⟩) key = some ⟨cv, cu, cd, cl, cg⟩ := by rw [get_put hsrt, if_pos rfl]
                obtain ⟨e0, e1, e2, e3, e4⟩ := hc.cells
                go_wp2_with fail
                refine ((show Calls Try.prog 16 #[.pointer (some ⟨sb, 0, none⟩), .string s1, cA cv cu cd cl cg] _ _ from hkey.out ▸ put_yes key cv cu cd cl cg _ hK.st.sx hn hcc hr (by omega))).mono ?_
                rintro e w6 ⟨rfl, hx6, hg6⟩
                clear e0 e1 e2 e3 e4
                have hc := hc.step hK.st.sx hg6
                have hK := hK.step hx6 hg6
                clear hx6 hg6
                generalize putM M key ⟨cv, cu, cd, cl, cg⟩ = N at *
                obtain ⟨e0, e1, e2, e3, e4⟩ := hc.cells
                go_wp2_with fail
                refine (hNm _).mono ?_
                rintro e n1 ⟨rfl, hn1⟩
                clear e0 e1 e2 e3 e4
                have hK := hK.later hn1
                have hc := hc.later hn1
                obtain ⟨e0, e1, e2, e3, e4⟩ := hc.cells
                go_wp2_with fail
                refine (hCk _).mono ?_
                rintro e m1 ⟨rfl, hm1⟩
                clear e0 e1 e2 e3 e4
                have hK := hK.later hm1
                have hc := hc.later hm1
                have hfn : (((M.length : Nat) : Int) == 64) = false := by simp; omega
                have hfn2 : (((M.length : Nat) : Int) = 64) = False := by simp; omega
                have hL := Lib.hid (fun (W : World) (h : Kq2 w W sb b N sb' b' M) => len_any W h.was.sx)
                replace hr := Lib.hid hr
                clear hf hn hcc hNm hCk
                go_wp2_with fail
                refine (hL.out _ hK).mono ?_
                rintro e w' ⟨rfl, rfl⟩
                obtain ⟨e0, e1, e2, e3, e4⟩ := hc.cells
                go_wp2_with fail
                refine ((show Calls Try.prog 12 #[.pointer (some ⟨sb, 0, none⟩), .string s1] _ _ from hkey.out ▸ get_yes key cv cu cd cl cg _ hK.st.sx hml hgn)).mono ?_
                rintro e w7 ⟨rfl, hb7⟩
                have hB7 := hb7.trans ((Cnt.alloc_b w7 (Cnt.cRow cv cu cd cl cg)).mono hb7.size)
                clear e0 e1 e2 e3 e4
                have hK := hK.later hB7
                have hc := hc.later hB7
                have hd := Cr.new w7 cv cu cd cl cg
                generalize hq12 : w7.heap.size = q12 at *
                obtain ⟨e0, e1, e2, e3, e4⟩ := hc.cells
                go_wp2_with fail
                refine (keys_str _ hK.st.sx).mono ?_
                rintro e w8 ⟨ka, kc, rfl, G, hkc, hb8⟩
                clear e0 e1 e2 e3 e4
                have hK := hK.later hb8
                have hc := hc.later hb8
                have hd := hd.later hb8
                replace G := Lib.hid G
                have hq5 := eq_self5 cv cu cd cl cg
                obtain ⟨e0, e1, e2, e3, e4⟩ := hc.cells
                obtain ⟨d0, d1, d2, d3, d4⟩ := hd.cells
                have hNl2 : (N.length : Int) = (M.length : Int) + 1 := by rw [hNl.out]; rfl
                have hwr : IntKind.i64.wrap ((M.length : Int) + 1) = (M.length : Int) + 1 := Cnt.i64w (by omega) (by have := hK.was.sx.len; omega)
                have hNe : ((N.length : Int) != (M.length : Int) + 1) = false := by simp; omega
                have hNpos : 1 ≤ N.length := by omega
                have hNmax := hK.st.sx.len
                clear hNl2
                go_wp2_with fail
                refine (hL.out _ hK).mono ?_
                rintro e w' ⟨rfl, rfl⟩
                go_wp2_with fail
                have hp : Hid (∀ i (h1 : i + 1 < N.length), bl (N[i]'(by omega)).1 (N[i + 1]).1 = true) := fun i h1 => List.pairwise_iff_getElem.1 hK.st.sx.srt i (i + 1) (by omega) h1 (by omega)
                clear e0 e1 e2 e3 e4 d0 d1 d2 d3 d4 hNe hwr hq5 hd hc hfn hfn2
                go_loopw [15] (fun i wr => ∃ j : Nat, j + 1 ≤ N.length ∧ i = .int .i64 ((j + 1 : Nat) : Int) ∧ Below w8.heap.size w8 wr) (fun i _ => N.length - (intOf i).toNat)
                case atStart => exact ⟨0, hNpos, rfl, Below.refl _ _⟩
                case round =>
                  obtain ⟨j, hj, rfl, hb⟩ := hrel
                  have hK := hK.later hb
                  by_cases hlt : j + 1 < N.length
                  · obtain ⟨q1, o1, rfl, _, e1⟩ := G.out wr hb j (by omega)
                    obtain ⟨q2, o2, hqo, _, e2⟩ := G.out wr hb (j + 1) hlt
                    injection hqo with hqo
                    injection hqo with hq1 hq2 _
                    subst hq1 hq2
                    have hbl := hp.out j hlt
                    generalize N[j] = pa at *
                    generalize N[j + 1] = pb at *
                    obtain ⟨ja, ca⟩ := pa
                    obtain ⟨jb, cb⟩ := pb
                    dsimp only at e1 e2 hbl
                    have hlss : Op.bytesLess (tx ja).toList (tx jb).toList = true := by rw [Rng.tx_l, Rng.tx_l]; exact hbl
                    generalize tx ja = sa at *
                    generalize tx jb = sb2 at *
                    have hwj : IntKind.i64.wrap (((j + 1 : Nat) : Int) - 1) = (j : Int) := by rw [Cnt.i64w (by omega) (by omega)]; omega
                    have hwj2 : IntKind.i64.wrap ((j : Int) + 1 - 1) = (j : Int) := by rw [Cnt.i64w (by omega) (by omega)]; omega
                    have hwj3 : IntKind.i64.wrap (j : Int) = (j : Int) := Cnt.i64w (by omega) (by omega)
                    have hn0 : ((j : Int) + 1 < 0) = False := by simp; omega
                    have hml2 : (((j + 1 : Nat) : Int)) < (N.length : Int) := by omega
                    have hml3 : (j : Int) < (N.length : Int) := by omega
                    clear G hp hbl
                    go_wp2_with fail
                    refine wp_region_held_drew (S := (Rp q1 (o1 + j) (o1 + (j + 1)) sa sb2)) (by kernel_rfl) (show Rp q1 (o1 + j) (o1 + (j + 1)) sa sb2 wr from ⟨e1, e2⟩) (fun hS => ?_)
                    try simp only [Act.put, List.setIfInBounds_toArray, List.set_cons_zero, List.set_cons_succ]
                    refine wpAnyH_take (i := 0) (v := .slice (some ⟨q1, o1, none⟩) N.length kc) rfl (by kernel_rfl) (by kernel_rfl) (by kernel_rfl) (fun _ _ _ h => h) (Or.inl ⟨by kernel_rfl, by intro w' hSw; obtain ⟨s0, s1'⟩ := hSw; go_simp⟩) hS ?_
                    try simp only [Act.put, List.setIfInBounds_toArray, List.set_cons_zero, List.set_cons_succ]
                    refine wpAnyH_take (i := 1) (v := .int .i64 ((j + 1 : Nat) : Int)) rfl (by kernel_rfl) (by kernel_rfl) (by kernel_rfl) (fun _ _ _ h => h) (Or.inl ⟨by kernel_rfl, by intro w' hSw; obtain ⟨s0, s1'⟩ := hSw; go_simp⟩) hS ?_
                    try simp only [Act.put, List.setIfInBounds_toArray, List.set_cons_zero, List.set_cons_succ]
                    refine wpAnyH_take (i := 2) (v := .int .i64 (j : Nat)) rfl (by kernel_rfl) (by kernel_rfl) (by kernel_rfl) (fun _ _ _ h => h) (Or.inl ⟨by kernel_rfl, by intro w' hSw; obtain ⟨s0, s1'⟩ := hSw; go_simp⟩) hS ?_
                    try simp only [Act.put, List.setIfInBounds_toArray, List.set_cons_zero, List.set_cons_succ]
                    refine wpAnyH_take (i := 3) (v := .pointer (some ⟨q1, o1 + j, none⟩)) rfl (by kernel_rfl) (by kernel_rfl) (by kernel_rfl) (fun _ _ _ h => h) (Or.inl ⟨by kernel_rfl, by intro w' hSw; obtain ⟨s0, s1'⟩ := hSw; go_simp⟩) hS ?_
                    try simp only [Act.put, List.setIfInBounds_toArray, List.set_cons_zero, List.set_cons_succ]
                    refine wpAnyH_take (i := 4) (v := .string sa) rfl (by kernel_rfl) (by kernel_rfl) (by kernel_rfl) (fun _ _ _ h => h) (Or.inl ⟨by kernel_rfl, by intro w' hSw; obtain ⟨s0, s1'⟩ := hSw; go_simp⟩) hS ?_
                    try simp only [Act.put, List.setIfInBounds_toArray, List.set_cons_zero, List.set_cons_succ]
                    refine wpAnyH_take (i := 5) (v := .slice (some ⟨q1, o1, none⟩) N.length kc) rfl (by kernel_rfl) (by kernel_rfl) (by kernel_rfl) (fun _ _ _ h => h) (Or.inl ⟨by kernel_rfl, by intro w' hSw; obtain ⟨s0, s1'⟩ := hSw; go_simp⟩) hS ?_
                    try simp only [Act.put, List.setIfInBounds_toArray, List.set_cons_zero, List.set_cons_succ]
                    refine wpAnyH_take (i := 6) (v := .int .i64 ((j + 1 : Nat) : Int)) rfl (by kernel_rfl) (by kernel_rfl) (by kernel_rfl) (fun _ _ _ h => h) (Or.inl ⟨by kernel_rfl, by intro w' hSw; obtain ⟨s0, s1'⟩ := hSw; go_simp⟩) hS ?_
                    try simp only [Act.put, List.setIfInBounds_toArray, List.set_cons_zero, List.set_cons_succ]
                    refine wpAnyH_take (i := 7) (v := .pointer (some ⟨q1, o1 + (j + 1), none⟩)) rfl (by kernel_rfl) (by kernel_rfl) (by kernel_rfl) (fun _ _ _ h => h) (Or.inl ⟨by kernel_rfl, by intro w' hSw; obtain ⟨s0, s1'⟩ := hSw; go_simp⟩) hS ?_
                    try simp only [Act.put, List.setIfInBounds_toArray, List.set_cons_zero, List.set_cons_succ]
                    refine wpAnyH_take (i := 8) (v := .string sb2) rfl (by kernel_rfl) (by kernel_rfl) (by kernel_rfl) (fun _ _ _ h => h) (Or.inl ⟨by kernel_rfl, by intro w' hSw; obtain ⟨s0, s1'⟩ := hSw; go_simp⟩) hS ?_
                    try simp only [Act.put, List.setIfInBounds_toArray, List.set_cons_zero, List.set_cons_succ]
                    refine wpAnyH_ready (rs := [9]) (by kernel_rfl) (by simp) ?_
                    refine AllReadyH.cons rfl (fun K hK' => ?_) AllReadyH.nil
                    go_simp
                    refine hK'.out _ _ hS (fun hS => ?_)
                    clear hK' K
                    try simp only [Act.put, List.setIfInBounds_toArray, List.set_cons_zero, List.set_cons_succ]
                    refine wpAnyH_done (by kernel_rfl) ?_ _
                    clear hS
                    go_wp2
                    go_roundw
                    case rel => exact ⟨j + 1, by omega, by go_num, hb.drew⟩
                    case measure => simp [intOf]; omega
                  · obtain hje : j + 1 = N.length := by omega
                    have hje2 : (((j + 1 : Nat) : Int)) = (N.length : Int) := by omega
                    rw [hje2]
                    clear hlt hj hje hje2 G hp
                    go_wp2_with fail
                    refine ((show Calls Try.prog 17 #[.pointer (some ⟨sb, 0, none⟩), .string s1] _ _ from hkey.out ▸ rem_yes key ⟨cv, cu, cd, cl, cg⟩ _ hK.st.sx hml hgn)).mono ?_
                    rintro e wr1 ⟨rfl, hxr, hgr⟩
                    rw [hback.out] at hxr
                    have hK := hK.step hxr hgr
                    go_wp2_with fail
                    refine (equal_any _ hK.st.sx hK.was.sx).mono ?_
                    rintro e z1 ⟨rfl, hz1⟩
                    have hK := hK.later hz1
                    go_wp2_with fail
                    refine ((show Calls Try.prog 17 #[.pointer (some ⟨sb, 0, none⟩), .string s1] _ _ from hkey.out ▸ rem_no key _ hK.st.sx hml hr.out)).mono ?_
                    rintro e wr2 ⟨rfl, hbr⟩
                    have hK := hK.later hbr
                    go_wp2_with fail
                    refine (hW.out _).mono ?_
                    rintro e z2 ⟨rfl, hz2⟩
                    have hK := hK.later hz2
                    go_wp2_with fail
                    go_ret
                    exact ⟨rfl, hK.st.bel⟩
            · have hCk := fun W => Cnt.chk_no hcc W
              obtain ⟨e0, e1, e2, e3, e4⟩ := hc.cells
              go_wp2_with fail
              refine ((show Calls Try.prog 16 #[.pointer (some ⟨sb, 0, none⟩), .string s1, cA cv cu cd cl cg] _ _ from hkey.out ▸ put_2 key cv cu cd cl cg _ hK.st.sx hn hcc)).mono ?_
              rintro e w6 ⟨rfl, hb6⟩
              clear e0 e1 e2 e3 e4
              have hK := hK.later hb6
              have hc := hc.later hb6
              obtain ⟨e0, e1, e2, e3, e4⟩ := hc.cells
              go_wp2_with fail
              refine (hNm _).mono ?_
              rintro e n1 ⟨rfl, hn1⟩
              clear e0 e1 e2 e3 e4
              have hK := hK.later hn1
              have hc := hc.later hn1
              obtain ⟨e0, e1, e2, e3, e4⟩ := hc.cells
              go_wp2_with fail
              refine (hCk _).mono ?_
              rintro e m1 ⟨rfl, hm1⟩
              clear e0 e1 e2 e3 e4
              have hK := hK.later hm1
              have hc := hc.later hm1
              go_wp2_with fail
              refine (equal_any _ hK.st.sx hK.was.sx).mono ?_
              rintro e z1 ⟨rfl, hz1⟩
              have hK := hK.later hz1
              go_wp2_with fail
              refine (hW.out _).mono ?_
              rintro e z2 ⟨rfl, hz2⟩
              have hK := hK.later hz2
              go_wp2_with fail
              go_ret
              exact ⟨rfl, hK.st.bel⟩
          · have hn' : nameOk key = false := by simpa using hn
            rw [hn'] at hNm
            obtain ⟨e0, e1, e2, e3, e4⟩ := hc.cells
            go_wp2_with fail
            refine ((show Calls Try.prog 16 #[.pointer (some ⟨sb, 0, none⟩), .string s1, cA cv cu cd cl cg] _ _ from hkey.out ▸ put_14 key cv cu cd cl cg _ hK.st.sx hn')).mono ?_
            rintro e w6 ⟨rfl, hb6⟩
            clear e0 e1 e2 e3 e4
            have hK := hK.later hb6
            have hc := hc.later hb6
            obtain ⟨e0, e1, e2, e3, e4⟩ := hc.cells
            go_wp2_with fail
            refine (hNm _).mono ?_
            rintro e n1 ⟨rfl, hn1⟩
            clear e0 e1 e2 e3 e4
            have hK := hK.later hn1
            have hc := hc.later hn1
            go_wp2_with fail
            refine (equal_any _ hK.st.sx hK.was.sx).mono ?_
            rintro e z1 ⟨rfl, hz1⟩
            have hK := hK.later hz1
            go_wp2_with fail
            refine (hW.out _).mono ?_
            rintro e z2 ⟨rfl, hz2⟩
            have hK := hK.later hz2
            go_wp2_with fail
            go_ret
            exact ⟨rfl, hK.st.bel⟩
        | some c =>
          obtain ⟨x0, x1, x2, x3, x4⟩ := c
          go_wp2_with fail
          refine ((show Calls Try.prog 12 #[.pointer (some ⟨sb, 0, none⟩), .string s1] _ _ from hkey.out ▸ get_yes key x0 x1 x2 x3 x4 _ hK.st.sx hml hr)).mono ?_
          rintro e w5 ⟨rfl, hb5⟩
          have hB5 := hb5.trans ((Cnt.alloc_b w5 (Cnt.cRow x0 x1 x2 x3 x4)).mono hb5.size)
          have hK := hK.later hB5
          have hc := hc.later hB5
          by_cases hn : nameOk key = true
          · rw [hn] at hNm
            by_cases hcc : OkC ⟨cv, cu, cd, cl, cg⟩
            · have hCk := fun W => Cnt.chk_ok hcc W
              obtain ⟨e0, e1, e2, e3, e4⟩ := hc.cells
              go_wp2_with fail
              refine ((show Calls Try.prog 16 #[.pointer (some ⟨sb, 0, none⟩), .string s1, cA cv cu cd cl cg] _ _ from hkey.out ▸ put_6 key cv cu cd cl cg ⟨x0, x1, x2, x3, x4⟩ _ hK.st.sx hn hcc hr)).mono ?_
              rintro e w6 ⟨rfl, hb6⟩
              clear e0 e1 e2 e3 e4
              have hK := hK.later hb6
              have hc := hc.later hb6
              obtain ⟨e0, e1, e2, e3, e4⟩ := hc.cells
              go_wp2_with fail
              refine (hNm _).mono ?_
              rintro e n1 ⟨rfl, hn1⟩
              clear e0 e1 e2 e3 e4
              have hK := hK.later hn1
              have hc := hc.later hn1
              obtain ⟨e0, e1, e2, e3, e4⟩ := hc.cells
              go_wp2_with fail
              refine (hCk _).mono ?_
              rintro e m1 ⟨rfl, hm1⟩
              clear e0 e1 e2 e3 e4
              have hK := hK.later hm1
              have hc := hc.later hm1
              go_wp2_with fail
              refine (equal_any _ hK.st.sx hK.was.sx).mono ?_
              rintro e z1 ⟨rfl, hz1⟩
              have hK := hK.later hz1
              go_wp2_with fail
              refine (hW.out _).mono ?_
              rintro e z2 ⟨rfl, hz2⟩
              have hK := hK.later hz2
              go_wp2_with fail
              go_ret
              exact ⟨rfl, hK.st.bel⟩
            · have hCk := fun W => Cnt.chk_no hcc W
              obtain ⟨e0, e1, e2, e3, e4⟩ := hc.cells
              go_wp2_with fail
              refine ((show Calls Try.prog 16 #[.pointer (some ⟨sb, 0, none⟩), .string s1, cA cv cu cd cl cg] _ _ from hkey.out ▸ put_2 key cv cu cd cl cg _ hK.st.sx hn hcc)).mono ?_
              rintro e w6 ⟨rfl, hb6⟩
              clear e0 e1 e2 e3 e4
              have hK := hK.later hb6
              have hc := hc.later hb6
              obtain ⟨e0, e1, e2, e3, e4⟩ := hc.cells
              go_wp2_with fail
              refine (hNm _).mono ?_
              rintro e n1 ⟨rfl, hn1⟩
              clear e0 e1 e2 e3 e4
              have hK := hK.later hn1
              have hc := hc.later hn1
              obtain ⟨e0, e1, e2, e3, e4⟩ := hc.cells
              go_wp2_with fail
              refine (hCk _).mono ?_
              rintro e m1 ⟨rfl, hm1⟩
              clear e0 e1 e2 e3 e4
              have hK := hK.later hm1
              have hc := hc.later hm1
              go_wp2_with fail
              refine (equal_any _ hK.st.sx hK.was.sx).mono ?_
              rintro e z1 ⟨rfl, hz1⟩
              have hK := hK.later hz1
              go_wp2_with fail
              refine (hW.out _).mono ?_
              rintro e z2 ⟨rfl, hz2⟩
              have hK := hK.later hz2
              go_wp2_with fail
              go_ret
              exact ⟨rfl, hK.st.bel⟩
          · have hn' : nameOk key = false := by simpa using hn
            rw [hn'] at hNm
            obtain ⟨e0, e1, e2, e3, e4⟩ := hc.cells
            go_wp2_with fail
            refine ((show Calls Try.prog 16 #[.pointer (some ⟨sb, 0, none⟩), .string s1, cA cv cu cd cl cg] _ _ from hkey.out ▸ put_14 key cv cu cd cl cg _ hK.st.sx hn')).mono ?_
            rintro e w6 ⟨rfl, hb6⟩
            clear e0 e1 e2 e3 e4
            have hK := hK.later hb6
            have hc := hc.later hb6
            obtain ⟨e0, e1, e2, e3, e4⟩ := hc.cells
            go_wp2_with fail
            refine (hNm _).mono ?_
            rintro e n1 ⟨rfl, hn1⟩
            clear e0 e1 e2 e3 e4
            have hK := hK.later hn1
            have hc := hc.later hn1
            go_wp2_with fail
            refine (equal_any _ hK.st.sx hK.was.sx).mono ?_
            rintro e z1 ⟨rfl, hz1⟩
            have hK := hK.later hz1
            go_wp2_with fail
            refine (hW.out _).mono ?_
            rintro e z2 ⟨rfl, hz2⟩
            have hK := hK.later hz2
            go_wp2_with fail
            go_ret
            exact ⟨rfl, hK.st.bel⟩
      · have hkd : decide (40 < (s1.size : Int)) = true := by simp; omega
        clear hl h1 h hk hc
        go_enter Try.func6, Try.ntmps6
        go_wp2_with fail
        refine hS.out.mono ?_
        rintro e w' ⟨rfl, rfl⟩
        go_wp2_with fail
        refine (hW.out _).mono ?_
        rintro e w2 ⟨rfl, hb2⟩
        go_wp2_with fail
        go_ret
        exact ⟨rfl, hb1.trans (hb2.mono hb1.size)⟩
  · have hd : decide (100 < (len : Int)) = true := by simp; omega
    clear hl h hS hc
    go_enter Try.func6, Try.ntmps6
    go_wp2_with fail
    refine (hW.out _).mono ?_
    rintro e w2 ⟨rfl, hb2⟩
    go_wp2_with fail
    go_ret
    exact ⟨rfl, hb1.trans (hb2.mono hb1.size)⟩
end Go.Proofs.Ytdihlgbnmpefiaa.Sto
