/- The walk of StoreBack. -/
import Derived.Test.YtlkjenicdkfpbaaS32
namespace Go.Proofs.Ytlkjenicdkfpbaa.Cnt
open Go.RowKit
set_option linter.unusedVariables false
/-- What was accepted is taken back, or freed. -/
theorem fwd {c x : Ct} {n : Int} (hc : OkC c) (h : appC c 1 n = (x, 0)) : x.v = c.v + n ∧ IntKind.i64.wrap (c.v + n) = c.v + n ∧ appC x 2 n = (c, 0) ∧ appC x 3 n = (⟨c.v + n, c.u, c.d, c.l, c.h⟩, 0) := by
  have h1 : chC addC c n = (x, 0) := h
  by_cases hn : Ok n
  · obtain ⟨rfl, hx⟩ := do_ok hc hn h1
    have hr : max n 0 ≤ (nx c n).u ∧ max (-n) 0 ≤ (nx c n).d := by
      obtain ⟨_, _, _, _, _, h6, h7, _⟩ := hc
      simp only [nx]
      omega
    have hv : Ok (c.v + n) := hx.1
    refine ⟨rfl, i64w (by unfold Ok at hv; omega) (by unfold Ok at hv; omega), ?_, ?_⟩
    · show chC takeC (nx c n) n = _
      rw [undo_nx hx hn, if_pos hr]
      congr 1
      apply ct_ext <;> simp only [backC, nx] <;> omega
    · show chC giveC (nx c n) n = _
      rw [free_nx hx hn, if_pos hr]
      congr 1
      apply ct_ext <;> simp only [lessC, nx] <;> omega
  · exfalso
    unfold chC at h1
    rw [okB_f hn, Bool.and_false] at h1
    simp at h1
end Go.Proofs.Ytlkjenicdkfpbaa.Cnt
namespace Go.Proofs.Ytlkjenicdkfpbaa.Sto
open Go.RowKit Go.Lib
open Cnt (Ct cA OkC quietB appC)
open Rng (tx tx_of tx_size nameOk bl)
set_option linter.unusedVariables false
set_option linter.unusedSimpArgs false
set_option maxRecDepth 20000

/-- Two stores of the call's own that lie apart. -/
structure Kq2 (w W : World) (sb b : Nat) (M : List En) (sb' b' : Nat) (N : List En) : Prop where
  st : Sw w W sb b M
  was : Sw w W sb' b' N
  ne : b ≠ b'
theorem Kq2.later {w W W' : World} {sb b sb' b' : Nat} {M N : List En} (h : Kq2 w W sb b M sb' b' N) (hb : Below W.heap.size W W') : Kq2 w W' sb b M sb' b' N := ⟨h.st.later hb, h.was.later hb, h.ne⟩
theorem Kq2.step {w W W' : World} {sb b sb' b' : Nat} {M M' N : List En} (h : Kq2 w W sb b M sb' b' N) (hx : Sx W' sb b M') (hg : W.grownBy W' (some b)) : Kq2 w W' sb b M' sb' b' N :=
  ⟨h.st.step hx hg, h.was.other h.st (Ne.symm h.ne) hg, h.ne⟩
set_option maxHeartbeats 16000000 in
theorem back_any (a : Option Addr) (len cap : Nat) (S : Nat → Sp) (s1 : ByteArray) (n : Int) (w : World) (h : IsSt w a len cap S) (_ : s1.size ≤ maxLen) (_ : (Lit.int .i64 n).wf = true) :
    Calls Try.prog 5 #[.slice a len cap, .string s1, .int .i64 n] w fun e w' => e = .returned (.bool true) ∧ Below w.heap.size w w' := by
  have hW := Lib.hid (fun W => works_any W)
  have hS := Lib.hid (short_any a len cap S w h)
  by_cases hl : len ≤ 100
  · have hd : decide (100 < (len : Int)) = false := by simp; omega
    cases h1 : shortB S len with
    | false =>
      rw [h1] at hS
      clear hl h1 h
      go_enter Try.func5, Try.ntmps5
      go_wp2_with fail
      refine hS.out.mono ?_
      rintro e w' ⟨rfl, rfl⟩
      go_wp2_with fail
      refine (hW.out _).mono ?_
      rintro e w2 ⟨rfl, hb2⟩
      go_wp2_with fail
      go_ret
      exact ⟨rfl, hb2⟩
    | true =>
      rw [h1] at hS
      by_cases hk : s1.size ≤ 40
      · have hkd : decide (40 < (s1.size : Int)) = false := by simp; omega
        have hF := filled_any a len cap S w h h1
        generalize fillM S len = M at hF
        replace hF := Lib.hid hF
        obtain ⟨key, hkey⟩ : ∃ key : List UInt8, tx key = s1 := ⟨s1.data.toList, Rng.tx_of s1⟩
        have hkl : key.length ≤ 40 := by rw [← tx_size, hkey]; exact hk
        have hml := maxLen_of hkl
        replace hkey := Lib.hid hkey
        clear hl h1 h hk hkl
        go_enter Try.func5, Try.ntmps5
        go_wp2_with fail
        refine hS.out.mono ?_
        rintro e w' ⟨rfl, rfl⟩
        go_wp2_with fail
        refine hF.out.mono ?_
        rintro e w3 ⟨sb, b, rfl, hw3, hsb⟩
        clear hF hS
        go_wp2_with fail
        refine (copy_any _ hw3.sx).mono ?_
        rintro e w4 ⟨sb', b', rfl, hx', hsb', hbb', hb4⟩
        have hK : Kq2 w w4 sb b M sb' b' M := ⟨hw3.later hb4, ⟨hx', hw3.bel.trans (hb4.mono hw3.bel.size), Nat.le_trans hw3.bel.size hbb'⟩, by have := hw3.sx.lt.2; omega⟩
        clear hw3 hx' hb4 hbb'
        cases hr : getM M key with
        | none =>
          go_wp2_with fail
          refine ((show Calls Try.prog 12 #[.pointer (some ⟨sb, 0, none⟩), .string s1] _ _ from hkey.out ▸ get_no key _ hK.st.sx hml hr)).mono ?_
          rintro e w5 ⟨rfl, hb5⟩
          have hK := (hK.later hb5).later (Cnt.alloc_b w5 (Cnt.cRow 0 0 0 0 0))
          go_wp2_with fail
          refine ((show Calls Try.prog 13 #[.pointer (some ⟨sb, 0, none⟩), .string s1, .int .i64 1, .int .i64 n] _ _ from hkey.out ▸ ap_no key 1 n _ hK.st.sx hml hr)).mono ?_
          rintro e w6 ⟨rfl, hb6⟩
          have hK := hK.later hb6
          go_wp2_with fail
          refine (equal_any _ hK.st.sx hK.was.sx).mono ?_
          rintro e z1 ⟨rfl, hz1⟩
          have hK := hK.later hz1
          go_wp2_with fail
          refine (hW.out _).mono ?_
          rintro e z2 ⟨rfl, hz2⟩
          have hK := hK.later hz2
          go_wp2_with fail
          go_ret
          exact ⟨rfl, hK.st.bel⟩
        | some c =>
          obtain ⟨cv, cu, cd, cl, cg⟩ := c
          go_wp2_with fail
          refine ((show Calls Try.prog 12 #[.pointer (some ⟨sb, 0, none⟩), .string s1] _ _ from hkey.out ▸ get_yes key cv cu cd cl cg _ hK.st.sx hml hr)).mono ?_
          rintro e w5 ⟨rfl, hb5⟩
          have hK := (hK.later hb5).later (Cnt.alloc_b w5 (Cnt.cRow cv cu cd cl cg))
          have hc := Cr.new w5 cv cu cd cl cg
          generalize hq9 : w5.heap.size = q9 at *
          have hoc := (hK.st.sx.get_ok hr).2
          cases ha : appC ⟨cv, cu, cd, cl, cg⟩ 1 n with
          | mk cc z =>
          obtain ⟨x0, x1, x2, x3, x4⟩ := cc
          by_cases hz : z = 0
          · subst hz
            obtain ⟨f1, f2, f3, f4⟩ := Cnt.fwd hoc ha
            dsimp only at f1 f2 f3 f4
            have hsrt := hK.st.sx.srt
            go_wp2_with fail
            refine ((show Calls Try.prog 13 #[.pointer (some ⟨sb, 0, none⟩), .string s1, .int .i64 1, .int .i64 n] _ _ from hkey.out ▸ ap_yes key cv cu cd cl cg 1 n x0 x1 x2 x3 x4 _ hK.st.sx hr ha)).mono ?_
            rintro e w6 ⟨rfl, hx6, hg6⟩
            have hc := hc.step hK.st.sx hg6
            have hK := hK.step hx6 hg6
            clear hx6 hg6
            subst f1
            have hM1 : putM (putM M key ⟨cv + n, x1, x2, x3, x4⟩) key ⟨cv, cu, cd, cl, cg⟩ = M := by rw [put_put hsrt, put_same hsrt hr]
            have hg1 : getM (putM M key ⟨cv + n, x1, x2, x3, x4⟩) key = some ⟨cv + n, x1, x2, x3, x4⟩ := by rw [get_put hsrt, if_pos rfl]
            have hsrt1 := srt_put hsrt key ⟨cv + n, x1, x2, x3, x4⟩
            generalize putM M key ⟨cv + n, x1, x2, x3, x4⟩ = M1 at *
            have hg2 : getM (putM M1 key ⟨cv + n, cu, cd, cl, cg⟩) key = some ⟨cv + n, cu, cd, cl, cg⟩ := by rw [get_put hsrt1, if_pos rfl]
            replace hM1 := Lib.hid hM1
            replace hr := Lib.hid hr
            replace ha := Lib.hid ha
            replace f3 := Lib.hid f3
            replace f4 := Lib.hid f4
            replace hg1 := Lib.hid hg1
            replace hg2 := Lib.hid hg2
            replace hoc := Lib.hid hoc
            go_wp2_with fail
            refine (copy_any _ hK.st.sx).mono ?_
            rintro e w7 ⟨sb2, b2, rfl, hx2, hsb2, hbb2, hb7⟩
            have hT : Sw w w7 sb2 b2 M1 := ⟨hx2, hK.st.bel.trans (hb7.mono hK.st.bel.size), Nat.le_trans hK.st.bel.size hbb2⟩
            have hn1 : b2 ≠ b := by have := hK.st.sx.lt.2; omega
            have hn2 : b2 ≠ b' := by have := hK.was.sx.lt.2; omega
            have hK := hK.later hb7
            have hc := hc.later hb7
            clear hx2 hb7 hbb2 hsb2
            obtain ⟨e0, e1, e2, e3, e4⟩ := hc.cells
            go_wp2_with fail
            refine ((show Calls Try.prog 13 #[.pointer (some ⟨sb, 0, none⟩), .string s1, .int .i64 2, .int .i64 n] _ _ from hkey.out ▸ ap_yes key (cv + n) x1 x2 x3 x4 2 n cv cu cd cl cg _ hK.st.sx hg1.out f3.out)).mono ?_
            rintro e w8 ⟨rfl, hx8, hg8⟩
            rw [hM1.out] at hx8
            have hc := hc.step hK.st.sx hg8
            have hT := hT.other hK.st hn1 hg8
            have hK := hK.step hx8 hg8
            clear hx8 hg8 e0 e1 e2 e3 e4
            obtain ⟨e0, e1, e2, e3, e4⟩ := hc.cells
            go_wp2_with fail
            refine ((show Calls Try.prog 13 #[.pointer (some ⟨sb2, 0, none⟩), .string s1, .int .i64 3, .int .i64 n] _ _ from hkey.out ▸ ap_yes key (cv + n) x1 x2 x3 x4 3 n (cv + n) cu cd cl cg _ hT.sx hg1.out f4.out)).mono ?_
            rintro e w9 ⟨rfl, hx9, hg9⟩
            have hc := hc.step hT.sx hg9
            have hK : Kq2 w w9 sb b M sb' b' M := ⟨hK.st.other hT (Ne.symm hn1) hg9, hK.was.other hT (Ne.symm hn2) hg9, hK.ne⟩
            have hT := hT.step hx9 hg9
            clear hx9 hg9 e0 e1 e2 e3 e4
            obtain ⟨e0, e1, e2, e3, e4⟩ := hc.cells
            go_wp2_with fail
            refine ((show Calls Try.prog 12 #[.pointer (some ⟨sb2, 0, none⟩), .string s1] _ _ from hkey.out ▸ get_yes key (cv + n) cu cd cl cg _ hT.sx hml hg2.out)).mono ?_
            rintro e wa ⟨rfl, hba⟩
            have hB := hba.trans ((Cnt.alloc_b wa (Cnt.cRow (cv + n) cu cd cl cg)).mono hba.size)
            have hK := hK.later hB
            have hc := hc.later hB
            have hd := Cr.new wa (cv + n) cu cd cl cg
            generalize hq18 : wa.heap.size = q18 at *
            clear e0 e1 e2 e3 e4 hba hT
            obtain ⟨e0, e1, e2, e3, e4⟩ := hc.cells
            go_wp2_with fail
            refine (equal_any _ hK.st.sx hK.was.sx).mono ?_
            rintro e wb ⟨rfl, hbb⟩
            have hK := hK.later hbb
            have hc := hc.later hbb
            have hd := hd.later hbb
            clear e0 e1 e2 e3 e4
            obtain ⟨e0, e1, e2, e3, e4⟩ := hc.cells
            obtain ⟨d0, d1, d2, d3, d4⟩ := hd.cells
            have hq5 := eq_self5 (cv + n) cu cd cl cg
            go_wp2_with fail
            refine (hW.out _).mono ?_
            rintro e wc ⟨rfl, hbc⟩
            have hK := hK.later hbc
            go_wp2_with fail
            go_ret
            exact ⟨rfl, hK.st.bel⟩
          · have z1 : (z != 0) = true := by simpa using hz
            have z2 : (z == 0) = false := by simpa using hz
            have z3 : (z = 0) = False := by simpa using hz
            go_wp2_with fail
            refine ((show Calls Try.prog 13 #[.pointer (some ⟨sb, 0, none⟩), .string s1, .int .i64 1, .int .i64 n] _ _ from hkey.out ▸ ap_err key cv cu cd cl cg 1 n x0 x1 x2 x3 x4 z _ hK.st.sx hml hr ha hz)).mono ?_
            rintro e w6 ⟨rfl, hb6⟩
            have hK := hK.later hb6
            clear ha hr hz
            go_wp2_with fail
            refine (equal_any _ hK.st.sx hK.was.sx).mono ?_
            rintro e z1 ⟨rfl, hz1⟩
            have hK := hK.later hz1
            go_wp2_with fail
            refine (hW.out _).mono ?_
            rintro e z2 ⟨rfl, hz2⟩
            have hK := hK.later hz2
            go_wp2_with fail
            go_ret
            exact ⟨rfl, hK.st.bel⟩
      · have hkd : decide (40 < (s1.size : Int)) = true := by simp; omega
        clear hl h1 h hk
        go_enter Try.func5, Try.ntmps5
        go_wp2_with fail
        refine hS.out.mono ?_
        rintro e w' ⟨rfl, rfl⟩
        go_wp2_with fail
        refine (hW.out _).mono ?_
        rintro e w2 ⟨rfl, hb2⟩
        go_wp2_with fail
        go_ret
        exact ⟨rfl, hb2⟩
  · have hd : decide (100 < (len : Int)) = true := by simp; omega
    clear hl h hS
    go_enter Try.func5, Try.ntmps5
    go_wp2_with fail
    refine (hW.out _).mono ?_
    rintro e w2 ⟨rfl, hb2⟩
    go_wp2_with fail
    go_ret
    exact ⟨rfl, hb2⟩
end Go.Proofs.Ytlkjenicdkfpbaa.Sto
