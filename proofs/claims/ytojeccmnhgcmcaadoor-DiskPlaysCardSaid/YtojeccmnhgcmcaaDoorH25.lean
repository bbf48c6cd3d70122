/- DiskPlays. -/
import Derived.Test.YtojeccmnhgcmcaaDoorH24
namespace Go.Proofs.YtojeccmnhgcmcaaDoor.Dsk
open Go.RowKit Go.ChangeShapes Go.WideShapes _root_.Go.Proofs.YtojeccmnhgcmcaaDoor.Frame
open _root_.Go.Proofs.YtojeccmnhgcmcaaDoor.Crc (Hv more more_lt ret_u32)
set_option linter.unusedVariables false
set_option linter.unusedSimpArgs false
set_option maxRecDepth 100000

/-- The disk, the document's disk beside it, and the box of a step. -/
structure Pq (w : World) (d r q : Nat) (A : List Value) (m1 m2 : St) (W : World) : Prop where
  ex : ∃ Fd Fr, Dk w d Fd m1 W ∧ Rx W r Fr m2 ∧ (∀ k, Fr k → w.heap.size ≤ k) ∧ (∀ k, Fd k → ¬ Fr k) ∧ Blk W q A TP ∧ ¬ Fd q ∧ ¬ Fr q
structure Pz (w : World) (d r : Nat) (m : St) (W : World) : Prop where
  ex : ∃ Fd Fr, Dk w d Fd m W ∧ Rx W r Fr m ∧ (∀ k, Fr k → w.heap.size ≤ k) ∧ (∀ k, Fd k → ¬ Fr k)
section
variable {w W W' : World} {d r q : Nat} {A : List Value} {m m1 m2 m' : St}
theorem Pz.box {a b c : Value} (h : Pz w d r m W) : Pq w d r W.heap.size [a, b, c] m m (W.alloc (.cells #[a, b, c] TP)) := by
  obtain ⟨Fd, Fr, h1, h2, h3, h4⟩ := h.ex
  have hb : Below W.heap.size W (W.alloc (.cells #[a, b, c] TP)) := (Below.refl _ _).alloc (Nat.le_refl _) _
  exact ⟨Fd, Fr, h1.later hb, h2.later hb, h3, h4, heap_alloc_new W _, fun e => by have := h1.dx.lt _ e; omega, fun e => by have := h2.lt _ e; omega⟩
theorem Pz.bel (h : Pz w d r m W) : Below w.heap.size w W := by
  obtain ⟨Fd, Fr, h1, _⟩ := h.ex
  exact h1.bel
theorem Pz.hv (h : Pz w d r m W) : Hv W := by
  obtain ⟨Fd, Fr, h1, _⟩ := h.ex
  exact h1.hv
theorem Pq.z (h : Pq w d r q A m m W) : Pz w d r m W := by
  obtain ⟨Fd, Fr, h1, h2, h3, h4, _⟩ := h.ex
  exact ⟨Fd, Fr, h1, h2, h3, h4⟩
theorem Pq.later (h : Pq w d r q A m1 m2 W) (hb : Below W.heap.size W W') : Pq w d r q A m1 m2 W' := by
  obtain ⟨Fd, Fr, h1, h2, h3, h4, h5, h6⟩ := h.ex
  exact ⟨Fd, Fr, h1.later hb, h2.later hb, h3, h4, h5.later hb, h6⟩
theorem Pq.bel (h : Pq w d r q A m1 m2 W) : Below w.heap.size w W := by
  obtain ⟨Fd, Fr, h1, _⟩ := h.ex
  exact h1.bel
theorem Pq.blk (h : Pq w d r q A m1 m2 W) : Blk W q A TP := by
  obtain ⟨Fd, Fr, _, _, _, _, h5, _⟩ := h.ex
  exact h5
theorem Pq.stepD {Fd Fr : Nat → Prop} (h1 : Dk w d Fd m1 W) (h2 : Rx W r Fr m2) (h3 : ∀ k, Fr k → w.heap.size ≤ k) (h4 : ∀ k, Fd k → ¬ Fr k) (h5 : Blk W q A TP) (h6 : ¬ Fd q) (h7 : ¬ Fr q)
    (hD : Dk w d (More Fd W W') m' W') (hK : Keeps Fd W W') : Pq w d r q A m' m2 W' :=
  ⟨_, Fr, hD, h2.beside hK (apart_sym h4), h3, apart_sym (apart_more h2.lt (apart_sym h4)), (hK.block q h5.lt h6).trans h5, fun e => by rcases e with e | e; exact h6 e; have := h5.lt; have := e.1; omega, h7⟩
theorem Pq.stepR {Fd Fr : Nat → Prop} (h1 : Dk w d Fd m1 W) (h2 : Rx W r Fr m2) (h3 : ∀ k, Fr k → w.heap.size ≤ k) (h4 : ∀ k, Fd k → ¬ Fr k) (h5 : Blk W q A TP) (h6 : ¬ Fd q) (h7 : ¬ Fr q)
    (hD : RDid W r Fr m' W') : Pq w d r q A m1 m' W' :=
  ⟨Fd, _, h1.beside hD.kp h3 h4, hD.dx, fun k hk => by rcases hk with hk | hk; exact h3 k hk; exact Nat.le_trans h1.bel.size hk.1, apart_more h1.dx.lt h4, (hD.kp.block q h5.lt h7).trans h5, h6, fun e => by rcases e with e | e; exact h7 e; have := h5.lt; have := e.1; omega⟩
theorem Pq.dApp {v : Value} {c : List Nat} {G : Nat → Prop} (h : Pq w d r q A m1 m2 W) (hv : Bs W G v c) (hG : ∀ k, G k → k < W.heap.size) :
    Calls Tryd.prog 15 #[.pointer (some ⟨d, 0, none⟩), v] W fun e W' => e = .returned (.int .i64 (appE m1 c : Nat)) ∧ Pq w d r q A (appS m1 c) m2 W' := by
  obtain ⟨Fd, Fr, h1, h2, h3, h4, h5, h6, h7⟩ := h.ex
  exact (h1.app hv hG rfl rfl).mono fun e W' ⟨he, hD, hK⟩ => ⟨he, Pq.stepD h1 h2 h3 h4 h5 h6 h7 hD hK⟩
theorem Pq.rApp {v : Value} {c : List Nat} {G : Nat → Prop} (h : Pq w d r q A m1 m2 W) (hv : Bs W G v c) (hG : ∀ k, G k → k < W.heap.size) :
    Calls Tryd.prog 16 #[.pointer (some ⟨r, 0, none⟩), v] W fun e W' => e = .returned (.int .i64 (appE m2 c : Nat)) ∧ Pq w d r q A m1 (appS m2 c) W' := by
  obtain ⟨Fd, Fr, h1, h2, h3, h4, h5, h6, h7⟩ := h.ex
  exact (rappend_any h2 hv hG).mono fun e W' ⟨he, hD⟩ => ⟨he, Pq.stepR h1 h2 h3 h4 h5 h6 h7 hD⟩
theorem Pq.dSave {v : Value} {c : List Nat} {G : Nat → Prop} (h : Pq w d r q A m1 m2 W) (hv : Bs W G v c) (hG : ∀ k, G k → k < W.heap.size) (hc : c.length ≤ 9223372036854775807) :
    Calls Tryd.prog 21 #[.pointer (some ⟨d, 0, none⟩), v] W fun e W' => e = .returned (.int .i64 (savE c : Nat)) ∧ Pq w d r q A (savS m1 c) m2 W' := by
  obtain ⟨Fd, Fr, h1, h2, h3, h4, h5, h6, h7⟩ := h.ex
  exact (h1.save hv hG hc rfl rfl).mono fun e W' ⟨he, hD, hK⟩ => ⟨he, Pq.stepD h1 h2 h3 h4 h5 h6 h7 hD hK⟩
theorem Pq.rSave {v : Value} {c : List Nat} {G : Nat → Prop} (h : Pq w d r q A m1 m2 W) (hv : Bs W G v c) (hG : ∀ k, G k → k < W.heap.size) (hc : c.length ≤ 9223372036854775807) :
    Calls Tryd.prog 22 #[.pointer (some ⟨r, 0, none⟩), v] W fun e W' => e = .returned (.int .i64 (savE c : Nat)) ∧ Pq w d r q A m1 (savS m2 c) W' := by
  obtain ⟨Fd, Fr, h1, h2, h3, h4, h5, h6, h7⟩ := h.ex
  exact (rsave_any h2 hv hG hc).mono fun e W' ⟨he, hD⟩ => ⟨he, Pq.stepR h1 h2 h3 h4 h5 h6 h7 hD⟩
theorem Pq.dSync (h : Pq w d r q A m1 m2 W) :
    Calls Tryd.prog 17 #[.pointer (some ⟨d, 0, none⟩)] W fun e W' => e = .returned (.tuple #[]) ∧ Pq w d r q A (synS m1) m2 W' := by
  obtain ⟨Fd, Fr, h1, h2, h3, h4, h5, h6, h7⟩ := h.ex
  exact (h1.sync rfl).mono fun e W' ⟨he, hD, hK⟩ => ⟨he, Pq.stepD h1 h2 h3 h4 h5 h6 h7 hD hK⟩
theorem Pq.rSync (h : Pq w d r q A m1 m2 W) :
    Calls Tryd.prog 18 #[.pointer (some ⟨r, 0, none⟩)] W fun e W' => e = .returned (.tuple #[]) ∧ Pq w d r q A m1 (synS m2) W' := by
  obtain ⟨Fd, Fr, h1, h2, h3, h4, h5, h6, h7⟩ := h.ex
  exact (rsync_any h2).mono fun e W' ⟨he, hD⟩ => ⟨he, Pq.stepR h1 h2 h3 h4 h5 h6 h7 hD⟩
theorem Pq.dTear (h : Pq w d r q A m1 m2 W) (x : Int) :
    Calls Tryd.prog 19 #[.pointer (some ⟨d, 0, none⟩), .int .i64 x] W fun e W' => e = .returned (.tuple #[]) ∧ Pq w d r q A (torS m1 x) m2 W' := by
  obtain ⟨Fd, Fr, h1, h2, h3, h4, h5, h6, h7⟩ := h.ex
  exact (h1.tear x rfl).mono fun e W' ⟨he, hD, hK⟩ => ⟨he, Pq.stepD h1 h2 h3 h4 h5 h6 h7 hD hK⟩
theorem Pq.rTear (h : Pq w d r q A m1 m2 W) (x : Int) :
    Calls Tryd.prog 20 #[.pointer (some ⟨r, 0, none⟩), .int .i64 x] W fun e W' => e = .returned (.tuple #[]) ∧ Pq w d r q A m1 (torS m2 x) W' := by
  obtain ⟨Fd, Fr, h1, h2, h3, h4, h5, h6, h7⟩ := h.ex
  exact (rtear_any x h2).mono fun e W' ⟨he, hD⟩ => ⟨he, Pq.stepR h1 h2 h3 h4 h5 h6 h7 hD⟩
theorem Pq.dCopy (h : Pq w d r q A m1 m2 W) :
    Calls Tryd.prog 23 #[.pointer (some ⟨d, 0, none⟩)] W fun e W' => ∃ d', e = .returned (.pointer (some ⟨d', 0, none⟩)) ∧ Pq w d' r q A m1 m2 W' := by
  obtain ⟨Fd, Fr, h1, h2, h3, h4, h5, h6, h7⟩ := h.ex
  exact h1.copy.mono fun e W' ⟨d', he, hD, _, hb⟩ => ⟨d', he, _, Fr, hD, h2.later hb, h3, apart_sym (apart_new h2.lt), h5.later hb, fun e => by have := h5.lt; have := e.1; omega, h7⟩
theorem Pq.rCopy (h : Pq w d r q A m1 m2 W) :
    Calls Tryd.prog 24 #[.pointer (some ⟨r, 0, none⟩)] W fun e W' => ∃ r', e = .returned (.pointer (some ⟨r', 0, none⟩)) ∧ Pq w d r' q A m1 m2 W' := by
  obtain ⟨Fd, Fr, h1, h2, h3, h4, h5, h6, h7⟩ := h.ex
  exact (rcopy_any h2).mono fun e W' ⟨r', he, hR, hb⟩ => ⟨r', he, Fd, _, h1.later hb, hR, fun k hk => Nat.le_trans h1.bel.size hk.1, apart_new h1.dx.lt, h5.later hb, h6, fun e => by have := h5.lt; have := e.1; omega⟩
theorem Pz.dSnap (h : Pz w d r m W) :
    Calls Tryd.prog 25 #[.pointer (some ⟨d, 0, none⟩)] W fun e W' => ∃ v, e = .returned (.tuple #[v, .bool m.h]) ∧ Mine W' W.heap.size v m.S ∧ Below W.heap.size W W' ∧ Pz w d r m W' := by
  obtain ⟨Fd, Fr, h1, h2, h3, h4⟩ := h.ex
  exact h1.snap.mono fun e W' ⟨v, he, hm, hb⟩ => ⟨v, he, hm, hb, Fd, Fr, h1.later hb, h2.later hb, h3, h4⟩
theorem Pz.rSnap (h : Pz w d r m W) :
    Calls Tryd.prog 26 #[.pointer (some ⟨r, 0, none⟩)] W fun e W' => ∃ v, e = .returned (.tuple #[v, .bool m.h]) ∧ Mine W' W.heap.size v m.S ∧ Below W.heap.size W W' ∧ Pz w d r m W' := by
  obtain ⟨Fd, Fr, h1, h2, h3, h4⟩ := h.ex
  exact (rsnap_any h2).mono fun e W' ⟨v, he, hm, hb⟩ => ⟨v, he, hm, hb, Fd, Fr, h1.later hb, h2.later hb, h3, h4⟩
theorem Pz.dLen (h : Pz w d r m W) : Calls Tryd.prog 27 #[.pointer (some ⟨d, 0, none⟩)] W fun e W' => e = .returned (.int .i64 (tot m.L : Nat)) ∧ W = W' := by
  obtain ⟨Fd, Fr, h1, h2, h3, h4⟩ := h.ex
  exact h1.len rfl
theorem Pz.rLen (h : Pz w d r m W) : Calls Tryd.prog 28 #[.pointer (some ⟨r, 0, none⟩)] W fun e W' => e = .returned (.int .i64 (tot m.L : Nat)) ∧ W = W' := by
  obtain ⟨Fd, Fr, h1, h2, h3, h4⟩ := h.ex
  exact rlen_any h2
theorem Pz.dSafe (h : Pz w d r m W) : Calls Tryd.prog 29 #[.pointer (some ⟨d, 0, none⟩)] W fun e W' => e = .returned (.int .i64 (safe m : Nat)) ∧ W = W' := by
  obtain ⟨Fd, Fr, h1, h2, h3, h4⟩ := h.ex
  exact h1.safes rfl
theorem Pz.rSafe (h : Pz w d r m W) : Calls Tryd.prog 30 #[.pointer (some ⟨r, 0, none⟩)] W fun e W' => e = .returned (.int .i64 (safe m : Nat)) ∧ W = W' := by
  obtain ⟨Fd, Fr, h1, h2, h3, h4⟩ := h.ex
  exact rsafe_any h2
theorem Pz.dRec (h : Pz w d r m W) :
    Calls Tryd.prog 32 #[.pointer (some ⟨d, 0, none⟩)] W fun e W' => ∃ v, e = .returned v ∧ OwnL W.heap.size m.L v W' ∧ Below W.heap.size W W' ∧ Pz w d r m W' := by
  obtain ⟨Fd, Fr, h1, h2, h3, h4⟩ := h.ex
  exact (h1.records rfl).mono fun e W' ⟨v, he, hm, hb⟩ => ⟨v, he, hm, hb, Fd, Fr, h1.later hb, h2.later hb, h3, h4⟩
theorem Pz.rRec (h : Pz w d r m W) :
    Calls Tryd.prog 33 #[.pointer (some ⟨r, 0, none⟩)] W fun e W' => ∃ v, e = .returned v ∧ OwnL W.heap.size m.L v W' ∧ Below W.heap.size W W' ∧ Pz w d r m W' := by
  obtain ⟨Fd, Fr, h1, h2, h3, h4⟩ := h.ex
  exact (rrecords_any h2).mono fun e W' ⟨v, he, hm, hb⟩ => ⟨v, he, hm, hb, Fd, Fr, h1.later hb, h2.later hb, h3, h4⟩
theorem Pz.later (h : Pz w d r m W) (hb : Below W.heap.size W W') : Pz w d r m W' := by
  obtain ⟨Fd, Fr, h1, h2, h3, h4⟩ := h.ex
  exact ⟨Fd, Fr, h1.later hb, h2.later hb, h3, h4⟩
theorem Pz.ok (h : Pz w d r m W) : OkS m := by
  obtain ⟨Fd, Fr, h1, _⟩ := h.ex
  exact h1.ok
end
set_option maxHeartbeats 16000000 in
theorem plays_law (a : Option Addr) (len cap : Nat) (S : Nat → Sq) (w : World) (h : IsSq w a len cap S) (hH : Hv w) :
    Calls Tryd.prog 3 #[.slice a len cap] w (Yes w) := by
  have hfit := h.fit
  have HS := Lib.hid (short_any h (Below.refl _ _))
  have HW := Lib.hid (works_any w hH)
  have hN := Lib.hid (new_w hH (Below.refl _ _) (hv_lt hH))
  have HI := Lib.hid h
  clear h hH
  go_enter Tryd.func3, Tryd.ntmps3
  go_wp2_with fail
  refine HS.out.mono ?_
  rintro e W0 ⟨b, rfl, _, rfl⟩
  cases b with
  | false =>
    go_wp2_with (go_at_call 12; refine HW.out.mono ?_; rintro e W5 ⟨rfl, hb5⟩)
    go_ret
    exact ⟨rfl, hb5⟩
  | true =>
    clear HS HW
    go_wp2_with fail
    refine hN.out.mono ?_
    rintro e W1 ⟨d0, rfl, D1, _⟩
    replace D1 := Lib.hid D1
    clear hN
    go_wp2_with fail
    refine (rnew_any W1).mono ?_
    rintro e W2 ⟨r0, rfl, R2, hb2⟩
    have hP2 : Pz w d0 r0 newS W2 := ⟨_, _, D1.out.later hb2, R2, fun k hk => Nat.le_trans D1.out.bel.size hk.1, apart_new D1.out.dx.lt⟩
    clear D1 R2 hb2
    go_wp2
    go_loopw [3, 4, 5] (fun vd vr i wr => ∃ (k d r : Nat) (m : St), k ≤ len ∧ i = .int .i64 k ∧ vd = .pointer (some ⟨d, 0, none⟩) ∧ vr = .pointer (some ⟨r, 0, none⟩) ∧ Pz w d r m wr) (fun _ _ i _ => len - nOf i)
    case atStart => exact ⟨0, d0, r0, newS, Nat.zero_le _, rfl, rfl, rfl, hP2⟩
    case round =>
      obtain ⟨k, d, r, m, hk, rfl, rfl, rfl, hP⟩ := hrel
      clear hP2
      by_cases hlt : k < len
      · obtain ⟨b, off, a', c', rfl, hcl, HB⟩ := HI.out.at_all k hlt
        have i1 : decide ((k : Int) < (len : Int)) = true := by simp; omega
        obtain ⟨k0, k1, k2, _⟩ := HB _ hP.bel
        replace HB := Lib.hid HB
        obtain ⟨t, ht⟩ : ∃ t, S k = t := ⟨_, rfl⟩
        rw [ht] at HB hcl k0 k1 k2
        obtain ⟨tk, tc, tx, tv⟩ := t
        dsimp only at HB hcl k0 k1 k2
        clear ht
        obtain ⟨n, hn⟩ : ∃ n, tc.length = n := ⟨_, rfl⟩
        rw [hn] at HB k1 hcl
        replace hn := Lib.hid hn
        have P0 := hP.box (a := .int .i64 tk) (b := .slice a' n c') (c := .int .i64 tx)
        obtain ⟨q, hq⟩ : ∃ q, wr.heap.size = q := ⟨_, rfl⟩
        obtain ⟨W4, hW4⟩ : ∃ W4, wr.alloc (.cells #[.int .i64 tk, .slice a' n c', .int .i64 tx] TP) = W4 := ⟨_, rfl⟩
        rw [hq, hW4] at P0
        have c0 := P0.blk.cell 0 _ rfl
        clear hP
        by_cases e0 : tk = 0
        · subst e0
          have P0d := Lib.hid (P0.later (Below.refl _ _).drew)
          have hbd := Lib.hid P0d.out.bel
          have HK := Lib.hid (fun (V : World) (x1 x2 : St) (z : Int) (h : Pq w d r q [.int .i64 z, .slice a' n c', .int .i64 tx] x1 x2 V) => h.blk.cell 1 _ rfl)
          have c1 := P0.blk.cell 1 _ rfl
          clear P0
          go_wp2
          go_region_held3 (fun V => V.cell? ⟨q, 1, none⟩ = some (.slice a' n c'))
            ((first | exact HK.out _ _ _ _ P2.out | exact HK.out _ _ _ _ P1.out | exact HK.out _ _ _ _ P0d.out | assumption))
            ((first
              | (go_at_call 16; refine (P1.out.rApp (HB.out _ P1.out.bel).2.2.2 (old_lt P1.out.bel)).mono ?_; rintro e W6 ⟨rfl, P2⟩; replace P2 := Lib.hid P2)
              | (go_at_call 15; refine (P0d.out.dApp (HB.out _ hbd.out).2.2.2 (old_lt hbd.out)).mono ?_; rintro e W5 ⟨rfl, P1⟩; replace P1 := Lib.hid P1)))
          have hP := P2.out.z
          clear P1 P2 P0d hbd HK HB hn
          have hlL := len_le hP.ok
          replace hP := Lib.hid hP
          as_aux_lemma =>
          go_wp2_with fail
          refine hP.out.dSnap.mono ?_
          rintro e W11 ⟨v11, rfl, m11, hb11, P11⟩
          obtain ⟨a11, cap11, rfl⟩ := m11.form
          replace m11 := Lib.hid m11
          replace P11 := Lib.hid P11
          clear hP hb11
          go_wp2_with fail
          refine P11.out.rSnap.mono ?_
          rintro e W12 ⟨v12, rfl, m12, hb12, P12⟩
          obtain ⟨a12, cap12, rfl⟩ := m12.form
          have cv1 := bs_str (m11.out.later hb12).bs
          have cv2 := bs_str m12.bs
          replace P12 := Lib.hid P12
          clear m11 m12 hb12 P11
          go_wp2_with fail
          refine P12.out.dLen.mono ?_
          rintro e W13 ⟨rfl, rfl⟩
          go_wp2_with fail
          refine P12.out.rLen.mono ?_
          rintro e W13 ⟨rfl, rfl⟩
          go_wp2_with fail
          refine P12.out.dSafe.mono ?_
          rintro e W13 ⟨rfl, rfl⟩
          go_wp2_with fail
          refine P12.out.rSafe.mono ?_
          rintro e W13 ⟨rfl, rfl⟩
          go_wp2_with fail
          refine P12.out.dRec.mono ?_
          rintro e W13 ⟨v13, rfl, L13, hb13, P13⟩
          obtain ⟨a13, cap13, rfl⟩ := L13.form
          replace L13 := Lib.hid L13
          replace P13 := Lib.hid P13
          clear hb13 P12 cv1 cv2
          go_wp2_with fail
          refine P13.out.rRec.mono ?_
          rintro e W14 ⟨v14, rfl, L14, hb14, P14⟩
          have HC := Lib.hid (rsame_same (L13.out.later hb14).bss L14.bss (fun k hk => hk.2) (fun k hk => hk.2) (by omega))
          obtain ⟨a14, cap14, rfl⟩ := L14.form
          replace P14 := Lib.hid P14
          clear L13 L14 hb14 P13
          go_wp2_with fail
          refine HC.out.mono ?_
          rintro e W15 ⟨rfl, hb15⟩
          have P15 := Lib.hid (P14.out.later hb15)
          clear HC hb15 P14
          go_wp2
          go_roundw
          case rel => exact ⟨k + 1, _, _, _, by omega, by go_num, rfl, rfl, P15.out⟩
          case measure => simp [nOf]; omega
        by_cases e1 : tk = 1
        · subst e1
          have c0 := P0.blk.cell 0 _ rfl
          have c2 := P0.blk.cell 2 _ rfl
          replace P0 := Lib.hid P0
          go_wp2_with fail
          refine (P0.out.dSync).mono ?_
          rintro e W5 ⟨rfl, P1⟩
          have e2 := P1.blk.cell 2 _ rfl
          replace P1 := Lib.hid P1
          clear P0 c0 c2
          go_wp2_with fail
          refine (P1.out.rSync).mono ?_
          rintro e W6 ⟨rfl, P2⟩
          have hP := P2.z
          clear P1 P2 e2 HB hn
          have hlL := len_le hP.ok
          replace hP := Lib.hid hP
          as_aux_lemma =>
          go_wp2_with fail
          refine hP.out.dSnap.mono ?_
          rintro e W11 ⟨v11, rfl, m11, hb11, P11⟩
          obtain ⟨a11, cap11, rfl⟩ := m11.form
          replace m11 := Lib.hid m11
          replace P11 := Lib.hid P11
          clear hP hb11
          go_wp2_with fail
          refine P11.out.rSnap.mono ?_
          rintro e W12 ⟨v12, rfl, m12, hb12, P12⟩
          obtain ⟨a12, cap12, rfl⟩ := m12.form
          have cv1 := bs_str (m11.out.later hb12).bs
          have cv2 := bs_str m12.bs
          replace P12 := Lib.hid P12
          clear m11 m12 hb12 P11
          go_wp2_with fail
          refine P12.out.dLen.mono ?_
          rintro e W13 ⟨rfl, rfl⟩
          go_wp2_with fail
          refine P12.out.rLen.mono ?_
          rintro e W13 ⟨rfl, rfl⟩
          go_wp2_with fail
          refine P12.out.dSafe.mono ?_
          rintro e W13 ⟨rfl, rfl⟩
          go_wp2_with fail
          refine P12.out.rSafe.mono ?_
          rintro e W13 ⟨rfl, rfl⟩
          go_wp2_with fail
          refine P12.out.dRec.mono ?_
          rintro e W13 ⟨v13, rfl, L13, hb13, P13⟩
          obtain ⟨a13, cap13, rfl⟩ := L13.form
          replace L13 := Lib.hid L13
          replace P13 := Lib.hid P13
          clear hb13 P12 cv1 cv2
          go_wp2_with fail
          refine P13.out.rRec.mono ?_
          rintro e W14 ⟨v14, rfl, L14, hb14, P14⟩
          have HC := Lib.hid (rsame_same (L13.out.later hb14).bss L14.bss (fun k hk => hk.2) (fun k hk => hk.2) (by omega))
          obtain ⟨a14, cap14, rfl⟩ := L14.form
          replace P14 := Lib.hid P14
          clear L13 L14 hb14 P13
          go_wp2_with fail
          refine HC.out.mono ?_
          rintro e W15 ⟨rfl, hb15⟩
          have P15 := Lib.hid (P14.out.later hb15)
          clear HC hb15 P14
          go_wp2
          go_roundw
          case rel => exact ⟨k + 1, _, _, _, by omega, by go_num, rfl, rfl, P15.out⟩
          case measure => simp [nOf]; omega
        by_cases e2 : tk = 2
        · subst e2
          have c0 := P0.blk.cell 0 _ rfl
          have c2 := P0.blk.cell 2 _ rfl
          replace P0 := Lib.hid P0
          go_wp2_with fail
          refine (P0.out.dTear tx).mono ?_
          rintro e W5 ⟨rfl, P1⟩
          have e2 := P1.blk.cell 2 _ rfl
          replace P1 := Lib.hid P1
          clear P0 c0 c2
          go_wp2_with fail
          refine (P1.out.rTear tx).mono ?_
          rintro e W6 ⟨rfl, P2⟩
          have hP := P2.z
          clear P1 P2 e2 HB hn
          have hlL := len_le hP.ok
          replace hP := Lib.hid hP
          as_aux_lemma =>
          go_wp2_with fail
          refine hP.out.dSnap.mono ?_
          rintro e W11 ⟨v11, rfl, m11, hb11, P11⟩
          obtain ⟨a11, cap11, rfl⟩ := m11.form
          replace m11 := Lib.hid m11
          replace P11 := Lib.hid P11
          clear hP hb11
          go_wp2_with fail
          refine P11.out.rSnap.mono ?_
          rintro e W12 ⟨v12, rfl, m12, hb12, P12⟩
          obtain ⟨a12, cap12, rfl⟩ := m12.form
          have cv1 := bs_str (m11.out.later hb12).bs
          have cv2 := bs_str m12.bs
          replace P12 := Lib.hid P12
          clear m11 m12 hb12 P11
          go_wp2_with fail
          refine P12.out.dLen.mono ?_
          rintro e W13 ⟨rfl, rfl⟩
          go_wp2_with fail
          refine P12.out.rLen.mono ?_
          rintro e W13 ⟨rfl, rfl⟩
          go_wp2_with fail
          refine P12.out.dSafe.mono ?_
          rintro e W13 ⟨rfl, rfl⟩
          go_wp2_with fail
          refine P12.out.rSafe.mono ?_
          rintro e W13 ⟨rfl, rfl⟩
          go_wp2_with fail
          refine P12.out.dRec.mono ?_
          rintro e W13 ⟨v13, rfl, L13, hb13, P13⟩
          obtain ⟨a13, cap13, rfl⟩ := L13.form
          replace L13 := Lib.hid L13
          replace P13 := Lib.hid P13
          clear hb13 P12 cv1 cv2
          go_wp2_with fail
          refine P13.out.rRec.mono ?_
          rintro e W14 ⟨v14, rfl, L14, hb14, P14⟩
          have HC := Lib.hid (rsame_same (L13.out.later hb14).bss L14.bss (fun k hk => hk.2) (fun k hk => hk.2) (by omega))
          obtain ⟨a14, cap14, rfl⟩ := L14.form
          replace P14 := Lib.hid P14
          clear L13 L14 hb14 P13
          go_wp2_with fail
          refine HC.out.mono ?_
          rintro e W15 ⟨rfl, hb15⟩
          have P15 := Lib.hid (P14.out.later hb15)
          clear HC hb15 P14
          go_wp2
          go_roundw
          case rel => exact ⟨k + 1, _, _, _, by omega, by go_num, rfl, rfl, P15.out⟩
          case measure => simp [nOf]; omega
        by_cases e3 : tk = 3
        · subst e3
          have P0d := Lib.hid (P0.later (Below.refl _ _).drew)
          have hbd := Lib.hid P0d.out.bel
          have HK := Lib.hid (fun (V : World) (x1 x2 : St) (z : Int) (h : Pq w d r q [.int .i64 z, .slice a' n c', .int .i64 tx] x1 x2 V) => h.blk.cell 1 _ rfl)
          have c1 := P0.blk.cell 1 _ rfl
          clear P0
          go_wp2
          go_region_held3 (fun V => V.cell? ⟨q, 1, none⟩ = some (.slice a' n c'))
            ((first | exact HK.out _ _ _ _ P2.out | exact HK.out _ _ _ _ P1.out | exact HK.out _ _ _ _ P0d.out | assumption))
            ((first
              | (go_at_call 22; refine (P1.out.rSave (HB.out _ P1.out.bel).2.2.2 (old_lt P1.out.bel) (by rw [hn.out]; exact hcl)).mono ?_; rintro e W6 ⟨rfl, P2⟩; replace P2 := Lib.hid P2)
              | (go_at_call 21; refine (P0d.out.dSave (HB.out _ hbd.out).2.2.2 (old_lt hbd.out) (by rw [hn.out]; exact hcl)).mono ?_; rintro e W5 ⟨rfl, P1⟩; replace P1 := Lib.hid P1)))
          have hP := P2.out.z
          clear P1 P2 P0d hbd HK HB hn
          have hlL := len_le hP.ok
          replace hP := Lib.hid hP
          as_aux_lemma =>
          go_wp2_with fail
          refine hP.out.dSnap.mono ?_
          rintro e W11 ⟨v11, rfl, m11, hb11, P11⟩
          obtain ⟨a11, cap11, rfl⟩ := m11.form
          replace m11 := Lib.hid m11
          replace P11 := Lib.hid P11
          clear hP hb11
          go_wp2_with fail
          refine P11.out.rSnap.mono ?_
          rintro e W12 ⟨v12, rfl, m12, hb12, P12⟩
          obtain ⟨a12, cap12, rfl⟩ := m12.form
          have cv1 := bs_str (m11.out.later hb12).bs
          have cv2 := bs_str m12.bs
          replace P12 := Lib.hid P12
          clear m11 m12 hb12 P11
          go_wp2_with fail
          refine P12.out.dLen.mono ?_
          rintro e W13 ⟨rfl, rfl⟩
          go_wp2_with fail
          refine P12.out.rLen.mono ?_
          rintro e W13 ⟨rfl, rfl⟩
          go_wp2_with fail
          refine P12.out.dSafe.mono ?_
          rintro e W13 ⟨rfl, rfl⟩
          go_wp2_with fail
          refine P12.out.rSafe.mono ?_
          rintro e W13 ⟨rfl, rfl⟩
          go_wp2_with fail
          refine P12.out.dRec.mono ?_
          rintro e W13 ⟨v13, rfl, L13, hb13, P13⟩
          obtain ⟨a13, cap13, rfl⟩ := L13.form
          replace L13 := Lib.hid L13
          replace P13 := Lib.hid P13
          clear hb13 P12 cv1 cv2
          go_wp2_with fail
          refine P13.out.rRec.mono ?_
          rintro e W14 ⟨v14, rfl, L14, hb14, P14⟩
          have HC := Lib.hid (rsame_same (L13.out.later hb14).bss L14.bss (fun k hk => hk.2) (fun k hk => hk.2) (by omega))
          obtain ⟨a14, cap14, rfl⟩ := L14.form
          replace P14 := Lib.hid P14
          clear L13 L14 hb14 P13
          go_wp2_with fail
          refine HC.out.mono ?_
          rintro e W15 ⟨rfl, hb15⟩
          have P15 := Lib.hid (P14.out.later hb15)
          clear HC hb15 P14
          go_wp2
          go_roundw
          case rel => exact ⟨k + 1, _, _, _, by omega, by go_num, rfl, rfl, P15.out⟩
          case measure => simp [nOf]; omega
        by_cases e4 : tk = 4
        · subst e4
          replace P0 := Lib.hid P0
          go_wp2_with fail
          refine P0.out.dCopy.mono ?_
          rintro e W5 ⟨d1, rfl, P1⟩
          replace P1 := Lib.hid P1
          clear P0 c0
          go_wp2_with fail
          refine P1.out.rCopy.mono ?_
          rintro e W6 ⟨r1, rfl, P2⟩
          have hP := P2.z
          clear P1 P2 HB hn
          have hlL := len_le hP.ok
          replace hP := Lib.hid hP
          as_aux_lemma =>
          go_wp2_with fail
          refine hP.out.dSnap.mono ?_
          rintro e W11 ⟨v11, rfl, m11, hb11, P11⟩
          obtain ⟨a11, cap11, rfl⟩ := m11.form
          replace m11 := Lib.hid m11
          replace P11 := Lib.hid P11
          clear hP hb11
          go_wp2_with fail
          refine P11.out.rSnap.mono ?_
          rintro e W12 ⟨v12, rfl, m12, hb12, P12⟩
          obtain ⟨a12, cap12, rfl⟩ := m12.form
          have cv1 := bs_str (m11.out.later hb12).bs
          have cv2 := bs_str m12.bs
          replace P12 := Lib.hid P12
          clear m11 m12 hb12 P11
          go_wp2_with fail
          refine P12.out.dLen.mono ?_
          rintro e W13 ⟨rfl, rfl⟩
          go_wp2_with fail
          refine P12.out.rLen.mono ?_
          rintro e W13 ⟨rfl, rfl⟩
          go_wp2_with fail
          refine P12.out.dSafe.mono ?_
          rintro e W13 ⟨rfl, rfl⟩
          go_wp2_with fail
          refine P12.out.rSafe.mono ?_
          rintro e W13 ⟨rfl, rfl⟩
          go_wp2_with fail
          refine P12.out.dRec.mono ?_
          rintro e W13 ⟨v13, rfl, L13, hb13, P13⟩
          obtain ⟨a13, cap13, rfl⟩ := L13.form
          replace L13 := Lib.hid L13
          replace P13 := Lib.hid P13
          clear hb13 P12 cv1 cv2
          go_wp2_with fail
          refine P13.out.rRec.mono ?_
          rintro e W14 ⟨v14, rfl, L14, hb14, P14⟩
          have HC := Lib.hid (rsame_same (L13.out.later hb14).bss L14.bss (fun k hk => hk.2) (fun k hk => hk.2) (by omega))
          obtain ⟨a14, cap14, rfl⟩ := L14.form
          replace P14 := Lib.hid P14
          clear L13 L14 hb14 P13
          go_wp2_with fail
          refine HC.out.mono ?_
          rintro e W15 ⟨rfl, hb15⟩
          have P15 := Lib.hid (P14.out.later hb15)
          clear HC hb15 P14
          go_wp2
          go_roundw
          case rel => exact ⟨k + 1, _, _, _, by omega, by go_num, rfl, rfl, P15.out⟩
          case measure => simp [nOf]; omega
        have f0 : (tk == 0) = false := by simpa using e0
        have f1 : (tk == 1) = false := by simpa using e1
        have f2 : (tk == 2) = false := by simpa using e2
        have f3 : (tk == 3) = false := by simpa using e3
        have f4 : (tk == 4) = false := by simpa using e4
        have hP := P0.z
        clear P0 HB hn
        have hlL := len_le hP.ok
        replace hP := Lib.hid hP
        as_aux_lemma =>
        go_wp2_with fail
        refine hP.out.dSnap.mono ?_
        rintro e W11 ⟨v11, rfl, m11, hb11, P11⟩
        obtain ⟨a11, cap11, rfl⟩ := m11.form
        replace m11 := Lib.hid m11
        replace P11 := Lib.hid P11
        clear hP hb11
        go_wp2_with fail
        refine P11.out.rSnap.mono ?_
        rintro e W12 ⟨v12, rfl, m12, hb12, P12⟩
        obtain ⟨a12, cap12, rfl⟩ := m12.form
        have cv1 := bs_str (m11.out.later hb12).bs
        have cv2 := bs_str m12.bs
        replace P12 := Lib.hid P12
        clear m11 m12 hb12 P11
        go_wp2_with fail
        refine P12.out.dLen.mono ?_
        rintro e W13 ⟨rfl, rfl⟩
        go_wp2_with fail
        refine P12.out.rLen.mono ?_
        rintro e W13 ⟨rfl, rfl⟩
        go_wp2_with fail
        refine P12.out.dSafe.mono ?_
        rintro e W13 ⟨rfl, rfl⟩
        go_wp2_with fail
        refine P12.out.rSafe.mono ?_
        rintro e W13 ⟨rfl, rfl⟩
        go_wp2_with fail
        refine P12.out.dRec.mono ?_
        rintro e W13 ⟨v13, rfl, L13, hb13, P13⟩
        obtain ⟨a13, cap13, rfl⟩ := L13.form
        replace L13 := Lib.hid L13
        replace P13 := Lib.hid P13
        clear hb13 P12 cv1 cv2
        go_wp2_with fail
        refine P13.out.rRec.mono ?_
        rintro e W14 ⟨v14, rfl, L14, hb14, P14⟩
        have HC := Lib.hid (rsame_same (L13.out.later hb14).bss L14.bss (fun k hk => hk.2) (fun k hk => hk.2) (by omega))
        obtain ⟨a14, cap14, rfl⟩ := L14.form
        replace P14 := Lib.hid P14
        clear L13 L14 hb14 P13
        go_wp2_with fail
        refine HC.out.mono ?_
        rintro e W15 ⟨rfl, hb15⟩
        have P15 := Lib.hid (P14.out.later hb15)
        clear HC hb15 P14
        go_wp2
        go_roundw
        case rel => exact ⟨k + 1, _, _, _, by omega, by go_num, rfl, rfl, P15.out⟩
        case measure => simp [nOf]; omega
      · have i1 : decide ((k : Int) < (len : Int)) = false := by simp; omega
        have HW := Lib.hid (works_any wr hP.hv)
        replace hP := Lib.hid hP.bel
        go_wp2_with (go_at_call 12; refine HW.out.mono ?_; rintro e W5 ⟨rfl, hb5⟩)
        go_ret
        exact Yes.from hP.out ⟨rfl, hb5⟩
end Go.Proofs.YtojeccmnhgcmcaaDoor.Dsk
