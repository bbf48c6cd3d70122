/- The document's disk: Append, Tear, Records. -/
import Derived.Test.YtojeccmnhgcmcaaDoorH22
namespace Go.Proofs.YtojeccmnhgcmcaaDoor.Dsk
open Go.RowKit Go.ChangeShapes Go.WideShapes _root_.Go.Proofs.YtojeccmnhgcmcaaDoor.Frame
open _root_.Go.Proofs.YtojeccmnhgcmcaaDoor.Crc (Hv more more_lt ret_u32)
set_option linter.unusedVariables false
set_option linter.unusedSimpArgs false
set_option maxRecDepth 100000

set_option maxHeartbeats 2000000 in
theorem rappend_any {W : World} {r : Nat} {F G : Nat → Prop} {m : St} {v : Value} {c : List Nat} (h : Rx W r F m) (hv : Bs W G v c) (hG : ∀ k, G k → k < W.heap.size) :
    Calls Tryd.prog 16 #[.pointer (some ⟨r, 0, none⟩), v] W fun e W' => e = .returned (.int .i64 (appE m c : Nat)) ∧ RDid W r F (appS m c) W' := by
  have hV := Lib.hid h.valid
  have HJ := Lib.hid (rmake_any G v c W hv hG)
  have h8 := hv.1
  have hrl := h.lt r h.fd
  by_cases hl : 65536 < c.length
  · have e1 : makeE c = 11 := if_pos hl
    have e2 : makeL c = [] := if_pos hl
    rw [e1, e2] at HJ
    have HE := Lib.hid (appE_long (m := m) hl)
    have HD := Lib.hid (fun W' (hb : Below W.heap.size W W') => RDid.none h hb)
    have HS := Lib.hid (show appS m c = m from appS_no (by rw [HE.out]; omega))
    obtain ⟨_, a, cap, rfl, _⟩ := hv
    clear h hl
    go_enter Tryd.func16, Tryd.ntmps16
    go_wp2_with (go_at_call 41; refine hV.out.mono ?_; rintro e w' ⟨rfl, rfl⟩)
    refine HJ.out.mono ?_
    rintro e W1 ⟨u, rfl, hm, hb1⟩
    obtain ⟨a1, cap1, rfl⟩ := hm.form
    replace hb1 := Lib.hid hb1
    clear hm
    go_wp2
    go_ret
    exact ⟨by rw [HE.out]; rfl, by rw [HS.out]; exact HD.out _ hb1.out⟩
  · have e1 : makeE c = 0 := if_neg hl
    have e2 : makeL c = rc c := if_neg hl
    rw [e1, e2] at HJ
    have hok := h.ok
    have hfd := h.fd
    have hlt := h.lt
    obtain ⟨vw, vs, h1, h2, h3⟩ := h.ex
    have hrc := rc_len c
    have hle := hok.le
    obtain ⟨aw, capw, rfl, _⟩ := bs_form h2
    rw [rcs_len] at h1 h2
    obtain ⟨_, a, cap, rfl, _⟩ := hv
    have hR : (rc c).length ≤ 70000 := by omega
    by_cases hf : 16777216 < tot m.L + (8 + c.length)
    · have HE := Lib.hid (appE_full (m := m) hl hf)
      have HS := Lib.hid (show appS m c = m from appS_no (by rw [HE.out]; omega))
      have HD := Lib.hid (fun W' (hb : Below W.heap.size W W') => RDid.none h hb)
      have HB := Lib.hid (fun W' (hb : Below W.heap.size W W') => (h1.later hb).cell 1 _ rfl)
      have hdl : decide ((16777216 : Int) < (tot m.L : Int) + ((rc c).length : Int)) = true := by simp [hrc]; omega
      generalize tot m.L = T at *
      clear h h1 h2 h3 hl hf
      generalize rc c = R at *
      replace hrc := Lib.hid hrc
      go_enter Tryd.func16, Tryd.ntmps16
      go_wp2_with (go_at_call 41; refine hV.out.mono ?_; rintro e w' ⟨rfl, rfl⟩)
      refine HJ.out.mono ?_
      rintro e W1 ⟨u, rfl, hm, hb1⟩
      obtain ⟨a1, cap1, rfl⟩ := hm.form
      have c0 := HB.out _ hb1
      replace hb1 := Lib.hid hb1
      clear hm
      go_wp2
      go_ret
      exact ⟨by rw [HE.out]; rfl, by rw [HS.out]; exact HD.out _ hb1.out⟩
    · have HE := Lib.hid (appE_ok (m := m) hl hf)
      have HS := Lib.hid (show appS m c = { m with L := m.L ++ [c] } from appS_ok HE.out)
      have hok' := Lib.hid (ok_app hok h8 HE.out)
      have hdl : decide ((16777216 : Int) < (tot m.L : Int) + ((rc c).length : Int)) = false := by simp [hrc]; omega
      have hsf := safe_app hok c
      have hfin : Hid (∀ (W1 W3 : World) v', Below W.heap.size W W1 → Below W1.heap.size W1 W3 → Mine W3 W1.heap.size v' (rcs m.L ++ rc c) → (W3.cell? ⟨r, 1, none⟩ = some (.slice aw (tot m.L) capw) ∧ W3.frozen? ⟨r, 1, none⟩ = false) ∧ RDid W r F { m with L := m.L ++ [c] } (W3.setCell ⟨r, 1, none⟩ v')) := Lib.hid (by
        intro W1 W3 v' hb hb3 hm
        have hb' := hb.trans (hb3.mono hb.size)
        have B3 := h1.later hb'
        have hbk := fun k (hk : k ≠ r) => Below.heap_setCell W3 ⟨r, 1, none⟩ v' k hk
        rw [← rcs_snoc] at hm
        refine ⟨⟨B3.cell 1 _ rfl, B3.free 1⟩, rdid h hok'.out (vw := v') (vs := vs) ?_ (bs_new hm hb.size hrl (by simp [World.setCell]) hbk) (bs_on h3 hlt hb' hbk) ((Keeps.of_below (F := F) hb').setCell (p := ⟨r, 1, none⟩) (.inl hfd) _)⟩
        have := B3.set 1 v'
        rw [hsf]
        exact this)
      have HB := Lib.hid (fun W' (hb : Below W.heap.size W W') => (h1.later hb).cell 1 _ rfl)
      have HO := Lib.hid (fun W' (hb : Below W.heap.size W W') => h2.kept (Same.of_below hb fun k hk => hlt k hk.1))
      have hbyt := Lib.hid (Byt.app (rcs_byt hok.byt) (rc_byt h8))
      have hby1 := Lib.hid (rcs_byt hok.byt)
      have hTl := rcs_len m.L
      generalize tot m.L = T at *
      clear h h1 h2 h3 hl hf hsf
      generalize rcs m.L = M at *
      generalize rc c = R at *
      replace hrc := Lib.hid hrc
      replace hTl := Lib.hid hTl
      go_enter Tryd.func16, Tryd.ntmps16
      go_wp2_with (go_at_call 41; refine hV.out.mono ?_; rintro e w' ⟨rfl, rfl⟩)
      refine HJ.out.mono ?_
      rintro e W1 ⟨u, rfl, hm, hb1⟩
      obtain ⟨a1, cap1, rfl⟩ := hm.form
      have c0 := HB.out _ hb1
      have hab : Below W1.heap.size W1 (W1.alloc (.cells #[] TB)) := (Below.refl _ _).alloc (Nat.le_refl _) _
      have c0' := HB.out _ (hb1.trans (hab.mono hb1.size))
      have hvb := Lib.hid (HO.out _ (hb1.trans (hab.mono hb1.size)))
      have ho := Lib.hid (own_made W1)
      have hmR := Lib.hid (fun (W' : World) (hb : Below W1.heap.size W1 W') => (hm.later hb).bs)
      have hs1 := hb1.size
      replace hb1 := Lib.hid hb1
      clear hm hab
      go_wp2_with (first
        | (at_builtin; refine wpList_append_b rfl _ _ rfl W1.heap.size _ 0 [] rfl ho.out _ aw T capw M rfl hvb.out (by omega) (by simp) ?_; intro v2 W2 hown hg _; have hb2 : Below W1.heap.size W1 W2 := ((Below.refl W1.heap.size W1).alloc (Nat.le_refl _) (.cells #[] TB)).grown hg (by simp) ge_size; have o2 : W2.ownsRow W1.heap.size TB 1 v2 T (bv M) := (by simpa using hown); have hs2 := hb2.size; obtain ⟨a2, cap2, rfl⟩ := rows_form o2; replace hb2 := Lib.hid hb2; replace o2 := Lib.hid o2; clear hown hg)
        | (at_builtin; refine wpList_append_b rfl _ _ rfl W1.heap.size _ T (bv M) rfl o2.out _ a1 R.length cap1 R rfl (hmR.out _ hb2.out) (by omega) hs2 ?_; intro v3 W3 hown hg _; have hb3 : Below W1.heap.size W1 W3 := grown_bel hb2.out o2.out hg hs2; have hm3 : Mine W3 W1.heap.size v3 (M ++ R) := ⟨by rw [List.length_append, hTl.out, ← bv_app]; exact hown, hbyt.out⟩; obtain ⟨⟨q1, f1⟩, hD⟩ := hfin.out _ _ _ hb1.out hb3 hm3; obtain ⟨a3, cap3, rfl⟩ := hm3.form; rw [List.length_append] at hD; replace hD := Lib.hid hD; clear hown hg hm3 hb3))
      go_ret
      exact ⟨by rw [HE.out]; rfl, by rw [HS.out]; exact hD.out⟩
set_option maxHeartbeats 2000000 in
theorem rtear_any {W : World} {r : Nat} {F : Nat → Prop} {m : St} (left : Int) (h : Rx W r F m) :
    Calls Tryd.prog 20 #[.pointer (some ⟨r, 0, none⟩), .int .i64 left] W fun e W' => e = .returned (.tuple #[]) ∧ RDid W r F (torS m left) W' := by
  have hV := Lib.hid h.valid
  have hok := h.ok
  have hfd := h.fd
  have hlt := h.lt
  obtain ⟨vw, vs, h1, h2, h3⟩ := h.ex
  have hle := hok.le
  have hsl := safe_le m
  have hch := tor_chain hok left
  have hTK : tot (m.L.take (torK m left)) ≤ tot m.L := tot_take_le _ _
  obtain ⟨aw, capw, rfl, hcap⟩ := bs_form h2
  rw [rcs_len] at hcap h1
  obtain ⟨x, hx⟩ : ∃ x, min left.toNat (tot m.L - safe m) = x := ⟨_, rfl⟩
  rw [hx] at hch
  have hT2 : safe m + x ≤ tot m.L := by omega
  have hn : safe m + x ≤ (rcs m.L).length := by rw [rcs_len]; omega
  have HA := Lib.hid (fun (W1 : World) (hb : Below W.heap.size W W1) => rall_any _ _ _ W1 ((h2.upto (safe m + x) hn).kept (Same.of_below hb fun k hk => hlt k hk.1)) (fun k hk => Nat.lt_of_lt_of_le (hlt k hk.1) hb.size) (by rw [List.length_take, rcs_len]; omega))
  rw [hch] at HA
  obtain ⟨y, hy⟩ : ∃ y : Int, min left ((tot m.L : Int) - (safe m : Int)) = y := ⟨_, rfl⟩
  have hmin : ∀ (ts : Array TypeId) (t : TypeId) (w : World), (Builtin.min_ ts t #[.int .i64 left, .int .i64 ((tot m.L : Int) - (safe m : Int))]).run Tryd.prog w = .ok (.int .i64 y) w := fun ts t w => by
    rw [run_min_int2]; congr 2; split <;> omega
  have hmax : ∀ (ts : Array TypeId) (t : TypeId) (w : World), (Builtin.max_ ts t #[.int .i64 0, .int .i64 y]).run Tryd.prog w = .ok (.int .i64 (x : Nat)) w := fun ts t w => by
    rw [run_max_int2]; congr 2; split <;> omega
  have hu1 : ∀ w : World, (Instr.slice 29 (.slice aw (tot m.L) capw) none (some (.int .i64 ((safe m : Int) + (x : Int)))) none).run Tryd.prog w = .ok (.slice aw (safe m + x) capw) w := fun w => by
    have := upto_run aw (tot m.L) capw (safe m + x) (by omega) w
    rwa [Int.natCast_add] at this
  have hu2 : ∀ w : World, (Instr.slice 29 (.slice aw (tot m.L) capw) none (some (.int .i64 (tot (m.L.take (torK m left)) : Nat))) none).run Tryd.prog w = .ok (.slice aw (tot (m.L.take (torK m left))) capw) w := fun w =>
    upto_run aw (tot m.L) capw _ (by omega) w
  have hfin : Hid (∀ (W1 : World), Below W.heap.size W W1 → (W1.cell? ⟨r, 1, none⟩ = some (.slice aw (tot m.L) capw) ∧ W1.frozen? ⟨r, 1, none⟩ = false ∧ W1.cell? ⟨r, 2, none⟩ = some (.int .i64 (safe m : Nat)) ∧ W1.frozen? ⟨r, 2, none⟩ = false) ∧
      RDid W r F (torS m left) ((W1.setCell ⟨r, 1, none⟩ (.slice aw (tot (m.L.take (torK m left))) capw)).setCell ⟨r, 2, none⟩ (.int .i64 (tot (m.L.take (torK m left)) : Nat)))) := Lib.hid (by
    intro W1 hb
    have B1 := h1.later hb
    have hbk := fun k (hk : k ≠ r) => (Below.heap_setCell (W1.setCell ⟨r, 1, none⟩ (.slice aw (tot (m.L.take (torK m left))) capw)) ⟨r, 2, none⟩ (.int .i64 (tot (m.L.take (torK m left)) : Nat)) k hk).trans (Below.heap_setCell W1 ⟨r, 1, none⟩ (.slice aw (tot (m.L.take (torK m left))) capw) k hk)
    have h2' := h2.upto (tot (m.L.take (torK m left))) (by rw [rcs_len]; omega)
    rw [← rcs_take] at h2'
    refine ⟨⟨B1.cell 1 _ rfl, B1.free 1, B1.cell 2 _ rfl, B1.free 2⟩, rdid h (ok_tor hok left) (vs := vs) ?_ (bs_on h2' hlt hb hbk) (bs_on h3 hlt hb hbk) (((Keeps.of_below (F := F) hb).setCell (p := ⟨r, 1, none⟩) (.inl hfd) _).setCell (p := ⟨r, 2, none⟩) (.inl hfd) _)⟩
    rw [tor_safe]
    exact (B1.set 1 _).set 2 _)
  have hB0 := Lib.hid (Below.refl W.heap.size W)
  have c1 := h1.cell 1 _ rfl
  have c2 := h1.cell 2 _ rfl
  clear h h1 h2 h3 hok hfd hx hch hn hy
  generalize tot m.L = T at *
  generalize safe m = s at *
  generalize tot (m.L.take (torK m left)) = q at *
  generalize torS m left = m' at *
  have hwr : IntKind.i64.wrap ((s : Int) + (x : Int)) = (s : Int) + (x : Int) := by rw [IntKind.wrap_i64]; omega
  go_enter Tryd.func20, Tryd.ntmps20
  go_wp2_with (go_at_call 41; refine hV.out.mono ?_; rintro e w' ⟨rfl, rfl⟩)
  go_quiet (fail)
  go_wp2_with fail
  refine (HA.out _ (drewN_b hB0.out _)).mono ?_
  rintro e W2 ⟨u, rfl, _, hb2⟩
  have hb3 := (drewN_b hB0.out nq).trans (hb2.mono (drewN_b hB0.out nq).size)
  obtain ⟨⟨e0, f0, e1, f1⟩, hD⟩ := hfin.out _ hb3
  replace hD := Lib.hid hD
  clear hfin HA c1 c2 hb2 hb3
  go_wp2
  go_end0
  exact ⟨rfl, hD.out⟩
end Go.Proofs.YtojeccmnhgcmcaaDoor.Dsk
