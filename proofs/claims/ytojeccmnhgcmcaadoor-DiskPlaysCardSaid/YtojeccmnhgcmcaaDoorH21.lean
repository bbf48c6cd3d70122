/- DiskKnown. -/
import Derived.Test.YtojeccmnhgcmcaaDoorH20
import Derived.OwnWalk
namespace Go.Proofs.YtojeccmnhgcmcaaDoor.Dsk
open Go.RowKit Go.ChangeShapes Go.WideShapes _root_.Go.Proofs.YtojeccmnhgcmcaaDoor.Frame
open _root_.Go.Proofs.YtojeccmnhgcmcaaDoor.Crc (Hv more more_lt ret_u32)
set_option linter.unusedVariables false
set_option linter.unusedSimpArgs false
set_option maxRecDepth 100000

theorem made_rep (v : Value) (n : Nat) : (madeCells #[v] n).toList = List.replicate n v := by
  apply List.ext_getElem
  · simp [madeCells]
  · intro i h1 h2
    simp [madeCells, Nat.mod_one]
theorem made_bytes {w : World} {base n : Nat} {v : Value} (h : w.ownsRow base TB 1 v n (madeCells (Value.int .u8 0).cells (n * 1)).toList) : ∃ Z : List Nat, Z.length = n ∧ Byt Z ∧ w.ownsRow base TB 1 v n (bv Z) := by
  refine ⟨List.replicate n 0, List.length_replicate, fun c hc => by rw [List.eq_of_mem_replicate hc]; decide, ?_⟩
  have e : bv (List.replicate n 0) = List.replicate n (.int .u8 0) := by unfold bv; rw [List.map_replicate]; rfl
  rw [e]
  rw [Nat.mul_one] at h
  rwa [show (Value.int .u8 0).cells = #[Value.int .u8 0] from rfl, made_rep] at h
theorem tot_rep (z : List Nat) : ∀ k, tot (List.replicate k z) = k * (8 + z.length)
  | 0 => by rw [List.replicate_zero, Nat.zero_mul]; rfl
  | k + 1 => by
    rw [List.replicate_succ]
    show 8 + z.length + tot (List.replicate k z) = _
    rw [tot_rep z k, Nat.add_mul]
    omega
/-- The disk, and the long row of zeros. -/
structure Kn (w : World) (d g : Nat) (Z : List Nat) (m : St) (W : World) : Prop where
  ex : ∃ F, Dk w d F m W ∧ ¬ F g ∧ Mine W g (.slice (some ⟨g, 0, none⟩) 65537 65537) Z ∧ g < W.heap.size
section
variable {w W W' : World} {d g : Nat} {Z : List Nat} {m m' : St}
theorem Kn.later (h : Kn w d g Z m W) (hb : Below W.heap.size W W') : Kn w d g Z m W' := by
  obtain ⟨F, h1, h2, h3, h4⟩ := h.ex
  exact ⟨F, h1.later hb, h2, h3.later hb, Nat.lt_of_lt_of_le h4 hb.size⟩
theorem Kn.bel (h : Kn w d g Z m W) : Below w.heap.size w W := by
  obtain ⟨F, h1, _⟩ := h.ex
  exact h1.bel
theorem Kn.hv (h : Kn w d g Z m W) : Hv W := by
  obtain ⟨F, h1, _⟩ := h.ex
  exact h1.hv
theorem Kn.step {F : Nat → Prop} (h1 : Dk w d F m W) (h2 : ¬ F g) (h3 : Mine W g (.slice (some ⟨g, 0, none⟩) 65537 65537) Z) (h4 : g < W.heap.size) (hD : Dk w d (More F W W') m' W') (hK : Keeps F W W') : Kn w d g Z m' W' :=
  ⟨More F W W', hD, fun hg => by rcases hg with hg | hg; exact h2 hg; have := hg.1; omega, ⟨own_kept h3.own fun k e => by
    have e' : g = k := by simpa [Value.ownBlock] using e
    subst e'
    exact hK.block g h4 h2, h3.h8⟩, Nat.lt_of_lt_of_le h4 hK.size⟩
theorem Kn.bs (h : Kn w d g Z m W) : Bs W (· = g) (.slice (some ⟨g, 0, none⟩) 65537 65537) Z := by
  obtain ⟨F, _, _, h3, _⟩ := h.ex
  exact (own_bs h3.own h3.h8).wide fun k e => by
    have e' : g = k := by simpa [Value.ownBlock] using e
    exact e'.symm
theorem Kn.lt (h : Kn w d g Z m W) : ∀ k, k = g → k < W.heap.size := by
  obtain ⟨F, _, _, _, h4⟩ := h.ex
  rintro k rfl
  exact h4
theorem Kn.bs1 (h : Kn w d g Z m W) (hZ : Z.length = 65537) : Bs W (· = g) (.slice (some ⟨g, 1, none⟩) 65536 65536) (Z.drop 1) := by
  have := h.bs.tail 1 (by omega)
  rwa [cutA_some g 0 65537 1 (by decide)] at this
theorem Kn.app (h : Kn w d g Z m W) {v : Value} {c : List Nat} {G : Nat → Prop} (hv : Bs W G v c) (hG : ∀ k, G k → k < W.heap.size) {E : Nat} (hE : appE m c = E) (hS : appS m c = m') :
    Calls Tryd.prog 15 #[.pointer (some ⟨d, 0, none⟩), v] W fun e W' => e = .returned (.int .i64 (E : Nat)) ∧ Kn w d g Z m' W' := by
  obtain ⟨F, h1, h2, h3, h4⟩ := h.ex
  exact (h1.app hv hG hE hS).mono fun e W' ⟨he, hD, hK⟩ => ⟨he, Kn.step h1 h2 h3 h4 hD hK⟩
theorem Kn.save (h : Kn w d g Z m W) {v : Value} {c : List Nat} {G : Nat → Prop} (hv : Bs W G v c) (hG : ∀ k, G k → k < W.heap.size) (hc : c.length ≤ 9223372036854775807) {E : Nat} (hE : savE c = E) (hS : savS m c = m') :
    Calls Tryd.prog 21 #[.pointer (some ⟨d, 0, none⟩), v] W fun e W' => e = .returned (.int .i64 (E : Nat)) ∧ Kn w d g Z m' W' := by
  obtain ⟨F, h1, h2, h3, h4⟩ := h.ex
  exact (h1.save hv hG hc hE hS).mono fun e W' ⟨he, hD, hK⟩ => ⟨he, Kn.step h1 h2 h3 h4 hD hK⟩
theorem Kn.sync (h : Kn w d g Z m W) (hS : synS m = m') :
    Calls Tryd.prog 17 #[.pointer (some ⟨d, 0, none⟩)] W fun e W' => e = .returned (.tuple #[]) ∧ Kn w d g Z m' W' := by
  obtain ⟨F, h1, h2, h3, h4⟩ := h.ex
  exact (h1.sync hS).mono fun e W' ⟨he, hD, hK⟩ => ⟨he, Kn.step h1 h2 h3 h4 hD hK⟩
theorem Kn.len (h : Kn w d g Z m W) {n : Nat} (hn : tot m.L = n) :
    Calls Tryd.prog 27 #[.pointer (some ⟨d, 0, none⟩)] W fun e W' => e = .returned (.int .i64 (n : Nat)) ∧ W = W' := by
  obtain ⟨F, h1, _⟩ := h.ex
  exact h1.len hn
theorem Kn.safes (h : Kn w d g Z m W) {n : Nat} (hn : safe m = n) :
    Calls Tryd.prog 29 #[.pointer (some ⟨d, 0, none⟩)] W fun e W' => e = .returned (.int .i64 (n : Nat)) ∧ W = W' := by
  obtain ⟨F, h1, _⟩ := h.ex
  exact h1.safes hn
theorem Kn.snap (h : Kn w d g Z m W) {n : Nat} {b : Bool} (hn : m.S.length = n) (hb : m.h = b) :
    Calls Tryd.prog 25 #[.pointer (some ⟨d, 0, none⟩)] W fun e W' => ∃ a c, e = .returned (.tuple #[.slice a n c, .bool b]) ∧ Kn w d g Z m W' := by
  subst hn hb
  obtain ⟨F, h1, _⟩ := h.ex
  exact h1.snap.mono fun e W' ⟨v, he, hm, hb⟩ => by
    obtain ⟨a, c, rfl⟩ := hm.form
    exact ⟨a, c, he, h.later hb⟩
theorem Kn.records (h : Kn w d g Z m W) {n : Nat} (hn : m.L.length = n) :
    Calls Tryd.prog 32 #[.pointer (some ⟨d, 0, none⟩)] W fun e W' => ∃ a c, e = .returned (.slice a n c) ∧ Kn w d g Z m W' := by
  subst hn
  obtain ⟨F, h1, _⟩ := h.ex
  exact (h1.records rfl).mono fun e W' ⟨v, he, hm, hb⟩ => by
    obtain ⟨a, c, rfl⟩ := hm.form
    exact ⟨a, c, he, h.later hb⟩
end
def kS (z : List Nat) (k : Nat) : St := ⟨List.replicate k z, 0, z, true⟩
theorem kS_tot {z : List Nat} (hz : z.length = 65536) (k : Nat) : tot (kS z k).L = k * 65544 := by
  show tot (List.replicate k z) = _
  rw [tot_rep, hz]
theorem kS_app {z : List Nat} (hz : z.length = 65536) {k : Nat} (hk : k < 255) : appE (kS z k) z = 0 ∧ appS (kS z k) z = kS z (k + 1) := by
  have h0 : appE (kS z k) z = 0 := appE_ok (by omega) (by rw [kS_tot hz, hz]; omega)
  refine ⟨h0, ?_⟩
  rw [appS_ok h0]
  show St.mk (List.replicate k z ++ [z]) 0 z true = St.mk (List.replicate (k + 1) z) 0 z true
  rw [List.replicate_succ']
set_option maxHeartbeats 8000000 in
theorem known_law (w : World) (hH : Hv w) : Calls Tryd.prog 10 #[] w (Yes w) := by
  obtain ⟨i0, hi, hz0, hz1, hz2⟩ := info_parts info_u8
  have hN := Lib.hid (new_w hH (Below.refl _ _) (hv_lt hH))
  clear hH
  go_enter Tryd.func10, Tryd.ntmps10
  go_wp2_with (first
    | (go_at_call 13; refine hN.out.mono ?_; rintro e W1 ⟨d, rfl, D1, _⟩; replace D1 := Lib.hid D1)
    | (at_make; refine wpList_make_full _ rfl _ _ 29 rfl W1.heap.size 5 i0 (.int .u8 0) 1 Tryd.underlying29 hi hz0 hz1 _ _ _ _ 65537 rfl rfl rfl rfl (by rw [hz2]; decide) (by unfold maxLen; decide) (Nat.le_refl _) ?_; intro W2 hown hg2))
  have hb2 : Below W1.heap.size W1 W2 := (Below.refl _ _).grown hg2 (Nat.le_refl _) (fun _ h => by cases h)
  obtain ⟨Z, hZ, hZ8, hown⟩ := made_bytes hown
  obtain ⟨g, hg⟩ : ∃ g, W1.heap.size = g := ⟨_, rfl⟩
  have hgl : g < W2.heap.size := by
    have := (World.ownsRow.lt hown W1.heap.size (by simp [Value.ownBlock])).2
    omega
  have hK2 : Kn w d g Z newS W2 := by
    refine ⟨_, D1.out.later hb2, fun h => by have := h.2; omega, ⟨?_, hZ8⟩, hgl⟩
    rw [hg] at hown
    rw [hZ]
    exact hown
  rw [hg]
  have t1 : ∀ w : World, (Instr.slice 29 (.slice (some ⟨g, 0, none⟩) 65537 65537) (some (.int .i64 1)) none none).run Tryd.prog w = .ok (.slice (some ⟨g, 1, none⟩) 65536 65536) w := fun w => by
    have := tail_run (some ⟨g, 0, none⟩) 65537 65537 1 (by decide) w
    rwa [cutA_some g 0 65537 1 (by decide)] at this
  have t2 : ∀ w : World, (Instr.slice 29 (.slice (some ⟨g, 0, none⟩) 65537 65537) none (some (.int .i64 63489)) none).run Tryd.prog w = .ok (.slice (some ⟨g, 0, none⟩) 63489 65537) w := fun w => upto_run _ 65537 65537 63489 (by decide) w
  have t3 : ∀ w : World, (Instr.slice 29 (.slice (some ⟨g, 0, none⟩) 65537 65537) none (some (.int .i64 63488)) none).run Tryd.prog w = .ok (.slice (some ⟨g, 0, none⟩) 63488 65537) w := fun w => upto_run _ 65537 65537 63488 (by decide) w
  have z1 : (Z.drop 1).length = 65536 := by rw [List.length_drop]; omega
  have z2 : (Z.take 63489).length = 63489 := by rw [List.length_take]; omega
  have z3 : (Z.take 63488).length = 63488 := by rw [List.length_take]; omega
  replace hZ := Lib.hid hZ
  replace z1 := Lib.hid z1
  replace z2 := Lib.hid z2
  replace z3 := Lib.hid z3
  replace hK2 := Lib.hid hK2
  clear hown hg2 hb2 D1 hN hg hgl hZ8 hi hz0 hz1 hz2
  go_wp2_with fail
  refine (hK2.out.app hK2.out.bs hK2.out.lt (appE_long (by rw [hZ.out]; decide)) (app_long (by rw [hZ.out]; decide))).mono ?_
  rintro e W3 ⟨rfl, K3⟩
  replace K3 := Lib.hid K3
  go_wp2_with fail
  refine (K3.out.save K3.out.bs K3.out.lt (by rw [hZ.out]; decide) (E := 11) (if_pos (by rw [hZ.out]; decide)) (sav_no (by rw [hZ.out]; decide))).mono ?_
  rintro e W4 ⟨rfl, K4⟩
  replace K4 := Lib.hid K4
  go_wp2_with fail
  refine (K4.out.save (K4.out.bs1 hZ.out) K4.out.lt (by rw [z1.out]; decide) (E := 0) (if_neg (by rw [z1.out]; decide)) (m' := kS (Z.drop 1) 0) (sav_ok (by rw [z1.out]; decide))).mono ?_
  rintro e W5 ⟨rfl, K5⟩
  clear K3 K4 hK2
  go_wp2
  go_loopw [3] (fun i wr => ∃ k : Nat, k ≤ 255 ∧ i = .int .i64 k ∧ Kn w d g Z (kS (Z.drop 1) k) wr) (fun i _ => 255 - nOf i)
  case atStart => exact ⟨0, Nat.zero_le _, rfl, K5⟩
  case round =>
    obtain ⟨k, hk, rfl, K⟩ := hrel
    clear K5
    replace K := Lib.hid K
    by_cases hlt : k < 255
    · have i1 : decide ((k : Int) < (255 : Int)) = true := by simp; omega
      have ha := Lib.hid (kS_app z1.out hlt)
      go_wp2_with fail
      refine (K.out.app (K.out.bs1 hZ.out) K.out.lt ha.out.1 ha.out.2).mono ?_
      rintro e W6 ⟨rfl, K6⟩
      replace K6 := Lib.hid K6
      clear K
      go_wp2
      go_roundw
      case rel => exact ⟨k + 1, by omega, by go_num, K6.out⟩
      case measure => simp [nOf]; omega
    · obtain rfl : k = 255 := by omega
      have i1 : decide ((255 : Int) < (255 : Int)) = false := by decide
      have ht := Lib.hid (kS_tot z1.out 255)
      have hSl := Lib.hid (show (kS (Z.drop 1) 255).S.length = 65536 from z1.out)
      have hLl := Lib.hid (show (kS (Z.drop 1) 255).L.length = 255 from List.length_replicate)
      have hh := Lib.hid (show (kS (Z.drop 1) 255).h = true from rfl)
      generalize kS (Z.drop 1) 255 = m1 at *
      have e4 : appE m1 (Z.take 63489) = 4 := appE_full (by rw [z2.out]; decide) (by rw [ht.out, z2.out]; decide)
      have e0 : appE m1 (Z.take 63488) = 0 := appE_ok (by rw [z3.out]; decide) (by rw [ht.out, z3.out]; decide)
      replace e4 := Lib.hid e4
      replace e0 := Lib.hid e0
      clear hlt
      go_wp2_with fail
      refine (K.out.app (K.out.bs.upto 63489 (by rw [hZ.out]; decide)) K.out.lt e4.out (appS_no (by rw [e4.out]; decide))).mono ?_
      rintro e W7 ⟨rfl, K7⟩
      replace K7 := Lib.hid K7
      clear K
      go_wp2_with fail
      refine (K7.out.app K7.out.bs K7.out.lt (appE_long (by rw [hZ.out]; decide)) (app_long (by rw [hZ.out]; decide))).mono ?_
      rintro e W8 ⟨rfl, K8⟩
      replace K8 := Lib.hid K8
      clear K7
      go_wp2_with fail
      refine (K8.out.len (n := 16713720) ht.out).mono ?_
      rintro e W9 ⟨rfl, rfl⟩
      go_wp2_with fail
      refine (K8.out.app (K8.out.bs.upto 63488 (by rw [hZ.out]; decide)) K8.out.lt e0.out (appS_ok e0.out)).mono ?_
      rintro e W9 ⟨rfl, K9⟩
      obtain ⟨m2, hm2⟩ : ∃ m2, St.mk (m1.L ++ [Z.take 63488]) m1.k m1.S m1.h = m2 := ⟨_, rfl⟩
      rw [hm2] at K9
      have ht2 : Hid (tot m2.L = 16777216) := Lib.hid (by rw [← hm2]; show tot (m1.L ++ _) = _; rw [tot_snoc, ht.out, z3.out])
      have hS2 : Hid (m2.S.length = 65536) := Lib.hid (by rw [← hm2]; exact hSl.out)
      have hh2 : Hid (m2.h = true) := Lib.hid (by rw [← hm2]; exact hh.out)
      have hL2 : Hid (m2.L.length = 256) := Lib.hid (by rw [← hm2]; show (m1.L ++ _).length = _; rw [List.length_append, hLl.out]; rfl)
      replace K9 := Lib.hid K9
      clear K8 hm2 e4 e0 ht hSl hLl hh
      go_wp2_with fail
      refine (K9.out.len (n := 16777216) ht2.out).mono ?_
      rintro e W10 ⟨rfl, rfl⟩
      have e5 : appE m2 [] = 4 := appE_full (by decide) (by rw [ht2.out]; decide)
      replace e5 := Lib.hid e5
      go_wp2_with fail
      refine (K9.out.app (Bs.nil _ (fun _ => False) none 0) (fun k hk => hk.elim) e5.out (appS_no (by rw [e5.out]; decide))).mono ?_
      rintro e W10 ⟨rfl, K10⟩
      replace K10 := Lib.hid K10
      clear K9 e5
      obtain ⟨m3, hm3⟩ : ∃ m3, synS m2 = m3 := ⟨_, rfl⟩
      go_wp2_with fail
      refine (K10.out.sync hm3).mono ?_
      rintro e W11 ⟨rfl, K11⟩
      have ht3 : Hid (safe m3 = 16777216) := Lib.hid (by rw [← hm3, safe_syn]; exact ht2.out)
      have hS3 : Hid (m3.S.length = 65536) := Lib.hid (by rw [← hm3]; exact hS2.out)
      have hh3 : Hid (m3.h = true) := Lib.hid (by rw [← hm3]; exact hh2.out)
      have hL3 : Hid (m3.L.length = 256) := Lib.hid (by rw [← hm3]; exact hL2.out)
      replace K11 := Lib.hid K11
      clear K10 hm3 ht2 hS2 hh2 hL2
      go_wp2_with fail
      refine (K11.out.snap hS3.out hh3.out).mono ?_
      rintro e W12 ⟨a12, c12, rfl, K12⟩
      replace K12 := Lib.hid K12
      clear K11
      go_wp2_with fail
      refine (K12.out.records hL3.out).mono ?_
      rintro e W13 ⟨a13, c13, rfl, K13⟩
      replace K13 := Lib.hid K13
      clear K12
      go_wp2_with fail
      refine (K13.out.safes ht3.out).mono ?_
      rintro e W14 ⟨rfl, rfl⟩
      go_wp2_with fail
      refine (K13.out.save (Bs.nil _ (fun _ => False) none 0) (fun k hk => hk.elim) (by decide) (E := 0) (by decide) (m' := ⟨[], 0, [], true⟩) (sav_ok (by decide))).mono ?_
      rintro e W14 ⟨rfl, K14⟩
      replace K14 := Lib.hid K14
      clear K13
      go_wp2_with fail
      refine (K14.out.app (Bs.nil _ (fun _ => False) none 0) (fun k hk => hk.elim) (E := 0) (by decide) (m' := ⟨[[]], 0, [], true⟩) rfl).mono ?_
      rintro e W15 ⟨rfl, K15⟩
      replace K15 := Lib.hid K15
      clear K14
      go_wp2_with fail
      refine (K15.out.len (n := 8) rfl).mono ?_
      rintro e W16 ⟨rfl, rfl⟩
      have HW := Lib.hid (works_any W15 K15.out.hv)
      go_wp2_with fail
      refine HW.out.mono ?_
      rintro e W16 ⟨rfl, hb16⟩
      have hb := Lib.hid (K15.out.bel.trans (hb16.mono K15.out.bel.size))
      clear HW K15 hb16
      go_wp2
      go_ret
      exact ⟨rfl, hb.out⟩
end Go.Proofs.YtojeccmnhgcmcaaDoor.Dsk
