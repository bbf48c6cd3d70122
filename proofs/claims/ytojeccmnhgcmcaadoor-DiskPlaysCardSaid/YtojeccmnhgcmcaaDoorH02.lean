/- Append. -/
import Derived.Test.YtojeccmnhgcmcaaDoorH01
namespace Go.Proofs.YtojeccmnhgcmcaaDoor.Dsk
open Go.RowKit Go.ChangeShapes _root_.Go.Proofs.YtojeccmnhgcmcaaDoor.Frame
open _root_.Go.Proofs.YtojeccmnhgcmcaaDoor.Crc (Hv more more_lt ret_u32)
set_option linter.unusedVariables false
set_option linter.unusedSimpArgs false
set_option maxRecDepth 100000

def appE (m : St) (c : List Nat) : Nat := if 65536 < c.length then 11 else if 16777216 < tot m.L + (8 + c.length) then 4 else 0
def appS (m : St) (c : List Nat) : St := if appE m c = 0 then { m with L := m.L ++ [c] } else m
theorem appS_ok {m : St} {c : List Nat} (h : appE m c = 0) : appS m c = { m with L := m.L ++ [c] } := if_pos h
theorem appS_no {m : St} {c : List Nat} (h : appE m c ≠ 0) : appS m c = m := if_neg h
theorem appE_long {m : St} {c : List Nat} (h : 65536 < c.length) : appE m c = 11 := if_pos h
theorem appE_full {m : St} {c : List Nat} (h : ¬ 65536 < c.length) (h2 : 16777216 < tot m.L + (8 + c.length)) : appE m c = 4 := by unfold appE; rw [if_neg h, if_pos h2]
theorem appE_ok {m : St} {c : List Nat} (h : ¬ 65536 < c.length) (h2 : ¬ 16777216 < tot m.L + (8 + c.length)) : appE m c = 0 := by unfold appE; rw [if_neg h, if_neg h2]
theorem tot_snoc (L : List (List Nat)) (c : List Nat) : tot (L ++ [c]) = tot L + (8 + c.length) := by rw [tot_app, tot_one]
theorem rcs_snoc (L : List (List Nat)) (c : List Nat) : rcs (L ++ [c]) = rcs L ++ rc c := by
  rw [rcs_app]
  show _ ++ (rc c ++ []) = _
  rw [List.append_nil]
theorem ok_app {m : St} {c : List Nat} (h : OkS m) (hc : Byt c) (h0 : appE m c = 0) : OkS { m with L := m.L ++ [c] } := by
  have h1 : ¬ 65536 < c.length := fun hl => by rw [appE_long hl] at h0; omega
  have h2 : ¬ 16777216 < tot m.L + (8 + c.length) := fun hl => by rw [appE_full h1 hl] at h0; omega
  refine ⟨fun d hd => ?_, fun d hd => ?_, by show tot (m.L ++ [c]) ≤ _; rw [tot_snoc]; omega, by show m.k ≤ (m.L ++ [c]).length; rw [List.length_append]; have := h.kl; omega, h.sb, h.sl, h.no⟩
  · rcases List.mem_append.1 hd with hd | hd
    · exact h.byt d hd
    · rw [List.mem_singleton] at hd; subst hd; exact hc
  · rcases List.mem_append.1 hd with hd | hd
    · exact h.short d hd
    · rw [List.mem_singleton] at hd; subst hd; show d.length ≤ 65536; omega
theorem ok_appS {m : St} {c : List Nat} (h : OkS m) (hc : Byt c) : OkS (appS m c) := by
  by_cases h0 : appE m c = 0
  · rw [appS_ok h0]; exact ok_app h hc h0
  · rw [appS_no h0]; exact h
theorem safe_app {m : St} (h : OkS m) (c : List Nat) : safe { m with L := m.L ++ [c] } = safe m := by
  show tot ((m.L ++ [c]).take m.k) = _
  rw [List.take_append_of_le_length h.kl]
  rfl
/-- The row of the log was put anew, in a block that was its own or is new. -/
theorem did_log {W W2 : World} {d : Nat} {F : Nat → Prop} {m m' : St} {vw vs v' : Value} (h : Dx W d F m) (hok : OkS m') (hS : m'.S = m.S) (hh : m'.h = m.h)
    (hB : Blk W2 d [v', .int .i64 (safe m' : Nat), vs, .bool m.h, .bool true] TD) (hw : W2.ownsRow 0 TB 1 v' (tot m'.L) (bv (rcs m'.L))) (hs : W.ownsRow 0 TB 1 vs m.S.length (bv m.S))
    (h4 : ∀ k, vw.ownBlock = some k → F k ∧ vs.ownBlock ≠ some k) (h5 : ∀ k, vs.ownBlock = some k → F k)
    (hv : v'.ownBlock = vw.ownBlock ∨ ∀ k, v'.ownBlock = some k → W.heap.size ≤ k) (hk : Keeps F W W2) (hsk : ∀ k, vs.ownBlock = some k → W2.heap[k]? = W.heap[k]?) : Did W d F m' W2 := by
  refine ⟨⟨hok, ⟨v', vs, by rw [hh]; exact hB, hw, by rw [hS]; exact rows_kept hs hsk, fun k e => ?_, fun k e => .inl (h5 k e)⟩, .inl h.fd, fun k hk' => ?_⟩, hk⟩
  · rcases hv with hv | hv
    · rw [hv] at e
      exact ⟨.inl (h4 k e).1, (h4 k e).2⟩
    · have h1 := hv k e
      exact ⟨.inr ⟨h1, (rows_lt hw k e).2⟩, fun e2 => by have := h.lt k (h5 k e2); omega⟩
  · rcases hk' with hk' | hk'
    · exact Nat.lt_of_lt_of_le (h.lt k hk') hk.size
    · exact hk'.2
set_option maxHeartbeats 1000000 in
theorem add_any {W : World} {d : Nat} {F G : Nat → Prop} {m : St} {v : Value} {c : List Nat} (h : Dx W d F m) (hv : Bs W G v c) (hG : ∀ k, G k → k < W.heap.size) (hH : Hv W) :
    Calls Tryd.prog 40 #[.pointer (some ⟨d, 0, none⟩), v] W fun e W' => e = .returned (.int .i64 (appE m c : Nat)) ∧ Did W d F (appS m c) W' := by
  have HJ := Lib.hid (make_any G v c W hv hG hH)
  have h8 := hv.1
  by_cases hl : 65536 < c.length
  · have e1 : makeE c = 11 := if_pos hl
    have e2 : makeL c = [] := if_pos hl
    rw [e1, e2] at HJ
    have HE := Lib.hid (appE_long (m := m) hl)
    have HD := Lib.hid (fun W' (hb : Below W.heap.size W W') => Did.none h hb)
    have HS := Lib.hid (show appS m c = m from appS_no (by rw [HE.out]; omega))
    obtain ⟨_, a, cap, rfl, _⟩ := hv
    clear h hl
    go_enter Tryd.func40, Tryd.ntmps40
    go_wp2_with fail
    refine HJ.out.mono ?_
    rintro e W1 ⟨u, rfl, hm, hb1⟩
    obtain ⟨a1, cap1, rfl⟩ := hm.form
    replace hb1 := Lib.hid hb1
    clear hm
    go_wp2
    go_ret
    exact ⟨by rw [HE.out]; rfl, by rw [HS.out]; exact HD.out _ hb1.out⟩
  · have e1 : makeE c = 0 := if_neg hl
    have e2 : makeL c = rc c := if_neg hl
    rw [e1, e2] at HJ
    have hok := h.ok
    have hfd := h.fd
    obtain ⟨vw, vs, h1, h2, h3, h4, h5⟩ := h.ex
    have hrl := rc_len c
    have hle := hok.le
    obtain ⟨aw, capw, rfl⟩ := rows_form h2
    obtain ⟨_, a, cap, rfl, _⟩ := hv
    by_cases hf : 16777216 < tot m.L + (8 + c.length)
    · have HE := Lib.hid (appE_full (m := m) hl hf)
      have HS := Lib.hid (show appS m c = m from appS_no (by rw [HE.out]; omega))
      have HD := Lib.hid (fun W' (hb : Below W.heap.size W W') => Did.none h hb)
      have HB := Lib.hid (fun W' (hb : Below W.heap.size W W') => (h1.later hb).cell 0 _ rfl)
      have hdl : decide ((16777216 : Int) < (tot m.L : Int) + ((rc c).length : Int)) = true := by simp [hrl]; omega
      have hR : (rc c).length ≤ 70000 := by omega
      generalize tot m.L = T at *
      clear h h1 h2 h3 h4 h5 hl hf
      generalize rc c = R at *
      replace hrl := Lib.hid hrl
      go_enter Tryd.func40, Tryd.ntmps40
      go_wp2_with fail
      refine HJ.out.mono ?_
      rintro e W1 ⟨u, rfl, hm, hb1⟩
      obtain ⟨a1, cap1, rfl⟩ := hm.form
      have c0 := HB.out _ hb1
      replace hb1 := Lib.hid hb1
      clear hm
      go_wp2
      go_ret
      exact ⟨by rw [HE.out]; rfl, by rw [HS.out]; exact HD.out _ hb1.out⟩
    · have HE := Lib.hid (appE_ok (m := m) hl hf)
      have HS := Lib.hid (show appS m c = { m with L := m.L ++ [c] } from appS_ok HE.out)
      have hok' := Lib.hid (ok_app hok h8 HE.out)
      have hdl : decide ((16777216 : Int) < (tot m.L : Int) + ((rc c).length : Int)) = false := by simp [hrl]; omega
      have hTR : tot m.L + (rc c).length = tot (m.L ++ [c]) := by rw [hrl, tot_snoc]
      have hRR : bv (rcs m.L) ++ bv (rc c) = bv (rcs (m.L ++ [c])) := by rw [bv_app, rcs_snoc]
      have hsf := safe_app hok c
      have hfin : Hid (∀ (W1 W2 : World) v', Below W.heap.size W W1 → W2.ownsRow 0 TB 1 v' (tot m.L + (rc c).length) (bv (rcs m.L) ++ bv (rc c)) → W1.grownBy W2 (Value.slice aw (tot m.L) capw).ownBlock →
          (v'.ownBlock = (Value.slice aw (tot m.L) capw).ownBlock ∨ v'.ownBlock = some W1.heap.size) → (W2.cell? ⟨d, 0, none⟩ = some (.slice aw (tot m.L) capw) ∧ W2.frozen? ⟨d, 0, none⟩ = false) ∧ Did W d F { m with L := m.L ++ [c] } (W2.setCell ⟨d, 0, none⟩ v')) := Lib.hid (by
        intro W1 W2 v' hb hw hg hv'
        rw [hTR, hRR] at hw
        have hdW : d < W.heap.size := h.lt d hfd
        have hnd := box_ne h1 h2
        have B2 : Blk W2 d _ TD := (hg.block d (Nat.lt_of_lt_of_le hdW hb.size) (fun e => hnd e.symm)).trans (h1.later hb)
        have hnd2 := box_ne B2 hw
        have hsub : Keeps F W W2 := (Keeps.of_below (F := F) hb).grown hg fun g e => .inl (h4 g e).1
        have hbk := fun k (hk : k ≠ d) => Below.heap_setCell W2 ⟨d, 0, none⟩ v' k hk
        refine ⟨⟨B2.cell 0 _ rfl, B2.free 0⟩, did_log (vw := Value.slice aw (tot m.L) capw) (vs := vs) h hok'.out rfl rfl ?_ (rows_kept hw fun k e => hbk k fun e2 => hnd2 (by rw [← e2]; exact e)) h3 h4 h5 ?_ (hsub.setCell (p := ⟨d, 0, none⟩) (.inl hfd) _) fun k e => ?_⟩
        · have := B2.set 0 v'
          rw [hsf]
          exact this
        · rcases hv' with e | e
          · exact .inl e
          · exact .inr fun k e2 => by rw [e] at e2; injection e2 with e2; have := hb.size; omega
        · have h6 := h5 k e
          have h7 := h.lt k h6
          refine (hbk k fun e2 => box_ne h1 h3 (by rw [← e2]; exact e)).trans ((hg.block k (Nat.lt_of_lt_of_le h7 hb.size) fun e2 => (h4 k e2.symm).2 e).trans (hb.block k h7)))
      have HB := Lib.hid (fun W' (hb : Below W.heap.size W W') => (h1.later hb).cell 0 _ rfl)
      have HO := Lib.hid (fun W' (hb : Below W.heap.size W W') => rows_later h2 hb)
      have hR : (rc c).length ≤ 70000 := by omega
      generalize tot m.L = T at *
      clear h h1 h2 h3 h4 h5 hl hf hTR hRR hsf
      generalize rc c = R at *
      replace hrl := Lib.hid hrl
      go_enter Tryd.func40, Tryd.ntmps40
      go_wp2_with fail
      refine HJ.out.mono ?_
      rintro e W1 ⟨u, rfl, hm, hb1⟩
      obtain ⟨a1, cap1, rfl⟩ := hm.form
      have c0 := HB.out _ hb1
      have hrow := Lib.hid (HO.out _ hb1)
      have hbs := Lib.hid hm.bs
      replace hb1 := Lib.hid hb1
      clear hm
      go_wp2_with (at_builtin; refine wpList_append_b rfl _ _ rfl 0 _ T _ rfl hrow.out _ a1 R.length cap1 R rfl hbs.out (by omega) (Nat.zero_le _) ?_; intro v2 W2 hown hg hv2; obtain ⟨⟨c2, f2⟩, hD⟩ := hfin.out _ _ _ hb1.out hown hg hv2; replace hD := Lib.hid hD; obtain ⟨a2, cap2, rfl⟩ := rows_form hown; clear hown hg hv2)
      go_ret
      exact ⟨by rw [HE.out]; rfl, by rw [HS.out]; exact hD.out⟩
theorem append_any {W : World} {d : Nat} {F G : Nat → Prop} {m : St} {v : Value} {c : List Nat} (h : Dx W d F m) (hv : Bs W G v c) (hG : ∀ k, G k → k < W.heap.size) (hH : Hv W) :
    Calls Tryd.prog 15 #[.pointer (some ⟨d, 0, none⟩), v] W fun e W' => e = .returned (.int .i64 (appE m c : Nat)) ∧ Did W d F (appS m c) W' := by
  have hV := Lib.hid h.valid
  have HA := Lib.hid (add_any h hv hG hH)
  obtain ⟨_, a, cap, rfl, _⟩ := hv
  clear h
  generalize appE m c = E at *
  generalize appS m c = m' at *
  go_enter Tryd.func15, Tryd.ntmps15
  go_wp2_with (first
    | (go_at_call 39; refine hV.out.mono ?_; rintro e w' ⟨rfl, rfl⟩)
    | (go_at_call 40; refine HA.out.mono ?_; rintro e w2 ⟨rfl, hD⟩; replace hD := Lib.hid hD))
  go_ret
  exact ⟨rfl, hD.out⟩
end Go.Proofs.YtojeccmnhgcmcaaDoor.Dsk
