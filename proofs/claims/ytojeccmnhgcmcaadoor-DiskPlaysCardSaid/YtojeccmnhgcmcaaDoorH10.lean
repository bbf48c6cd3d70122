/- filled; the nil ones; DiskNil. -/
import Derived.Test.YtojeccmnhgcmcaaDoorH09
namespace Go.Proofs.YtojeccmnhgcmcaaDoor.Dsk
open Go.RowKit Go.ChangeShapes Go.WideShapes _root_.Go.Proofs.YtojeccmnhgcmcaaDoor.Frame
open _root_.Go.Proofs.YtojeccmnhgcmcaaDoor.Crc (Hv more more_lt ret_u32)
set_option linter.unusedVariables false
set_option linter.unusedSimpArgs false
set_option maxRecDepth 100000

def stepS (m : St) (t : Sq) : St := if t.k = 0 then appS m t.c else if t.k = 1 then synS m else if t.k = 2 then torS m t.x else if t.k = 3 then savS m t.c else m
def runS (S : Nat → Sq) : Nat → St
  | 0 => newS
  | n + 1 => stepS (runS S n) (S n)
theorem step0 {m : St} {t : Sq} (h : t.k = 0) : stepS m t = appS m t.c := if_pos h
theorem step1 {m : St} {t : Sq} (h : t.k = 1) : stepS m t = synS m := by unfold stepS; rw [if_neg (by omega), if_pos h]
theorem step2 {m : St} {t : Sq} (h : t.k = 2) : stepS m t = torS m t.x := by unfold stepS; rw [if_neg (by omega), if_neg (by omega), if_pos h]
theorem step3 {m : St} {t : Sq} (h : t.k = 3) : stepS m t = savS m t.c := by unfold stepS; rw [if_neg (by omega), if_neg (by omega), if_neg (by omega), if_pos h]
theorem step4 {m : St} {t : Sq} (h0 : t.k ≠ 0) (h1 : t.k ≠ 1) (h2 : t.k ≠ 2) (h3 : t.k ≠ 3) : stepS m t = m := by unfold stepS; rw [if_neg h0, if_neg h1, if_neg h2, if_neg h3]
theorem Dk.wide {w W : World} {d : Nat} {F G : Nat → Prop} {m : St} (h : Dk w d F m W) (hF : ∀ k, F k → G k) (hG : ∀ k, G k → w.heap.size ≤ k ∧ k < W.heap.size) : Dk w d G m W :=
  ⟨h.dx.wide hF fun k hk => (hG k hk).2, fun k hk => (hG k hk).1, h.hv, h.bel, h.h0⟩
theorem Dk.grow {w W W' : World} {d B : Nat} {m : St} (h : Dk w d (More (From B W) W W') m W') (hk : Keeps (From B W) W W') (hB : B ≤ W.heap.size) (hw : w.heap.size ≤ B) : Dk w d (From B W') m W' :=
  h.wide (fun k hk' => by have := hk.size; rcases hk' with hk' | hk'; exact ⟨hk'.1, by have := hk'.2; omega⟩; exact ⟨by have := hk'.1; omega, hk'.2⟩) fun k hk' => ⟨Nat.le_trans hw hk'.1, hk'.2⟩
theorem from_bel {W0 W W' : World} {B : Nat} (h : Below B W0 W) (hk : Keeps (From B W) W W') (hB : B ≤ W.heap.size) : Below B W0 W' := h.trans (hk.below hB fun k hk => hk.1)
set_option maxHeartbeats 4000000 in
theorem filled_any {w W : World} {a : Option Addr} {len cap : Nat} {S : Nat → Sq} (h : IsSq w a len cap S) (hb : Below w.heap.size w W) (hH : Hv W) (h0 : 0 < w.heap.size) :
    Calls Tryd.prog 35 #[.slice a len cap] W fun e W' => ∃ d, e = .returned (.pointer (some ⟨d, 0, none⟩)) ∧ Dk w d (From W.heap.size W') (runS S len) W' ∧ Below W.heap.size W W' := by
  have hfit := h.fit
  have HA := Lib.hid (fun (wr : World) (hb : Below w.heap.size w wr) i hi => h.at_ hb i hi)
  have hN := Lib.hid (new_w hH hb h0)
  have hsz := hb.size
  have hb' := Lib.hid hb
  clear h hb hH h0
  go_enter Tryd.func35, Tryd.ntmps35
  go_wp2_with (go_at_call 13; refine hN.out.mono ?_; rintro e W1 ⟨d, rfl, D1, hb1⟩)
  have hst : Dk w d (From W.heap.size W1) (runS S 0) W1 ∧ Below W.heap.size W W1 := ⟨D1, hb1⟩
  clear D1 hb1
  go_loopw [4] (fun i wr => ∃ k : Nat, k ≤ len ∧ i = .int .i64 k ∧ Dk w d (From W.heap.size wr) (runS S k) wr ∧ Below W.heap.size W wr) (fun i _ => len - nOf i)
  case atStart => exact ⟨0, Nat.zero_le _, rfl, hst.1, hst.2⟩
  case round =>
    obtain ⟨k, hk, rfl, D, hbel⟩ := hrel
    by_cases hlt : k < len
    · obtain ⟨b, off, a', c', rfl, c0, c1, c2, hbs, hcl⟩ := HA.out wr D.bel k hlt
      have i1 : decide ((k : Int) < (len : Int)) = true := by simp; omega
      have hS : runS S (k + 1) = stepS (runS S k) (S k) := rfl
      have hWr := hbel.size
      have hold := old_lt D.bel
      have hgo : Hid (∀ (W' : World) (m' : St), Dk w d (More (From W.heap.size wr) wr W') m' W' → Keeps (From W.heap.size wr) wr W' → stepS (runS S k) (S k) = m' → Dk w d (From W.heap.size W') (runS S (k + 1)) W' ∧ Below W.heap.size W W') := Lib.hid fun W' m' h1 h2 h3 =>
        ⟨by rw [hS, h3]; exact h1.grow h2 hWr hsz, from_bel hbel h2 hWr⟩
      have hstay : Hid (stepS (runS S k) (S k) = runS S k → Dk w d (From W.heap.size wr) (runS S (k + 1)) wr ∧ Below W.heap.size W wr) := Lib.hid fun h => ⟨by rw [hS, h]; exact D, hbel⟩
      clear hst hS
      by_cases e0 : (S k).k = 0
      · rw [e0] at c0
        have he := Lib.hid (step0 (m := runS S k) e0)
        have HC := Lib.hid (D.app hbs hold rfl rfl)
        clear D hbel e0 hbs
        go_wp2_with (go_at_call 15; refine HC.out.mono ?_; rintro e W2 ⟨rfl, D2, K2⟩; have hr := Lib.hid (hgo.out _ _ D2 K2 he.out); clear D2 K2)
        go_roundw
        case rel => exact ⟨k + 1, by omega, by go_num, hr.out⟩
        case measure => simp [nOf]; omega
      · by_cases e1 : (S k).k = 1
        · rw [e1] at c0
          have he := Lib.hid (step1 (m := runS S k) e1)
          have HC := Lib.hid (D.sync rfl)
          clear D hbel e0 e1 hbs
          go_wp2_with (go_at_call 17; refine HC.out.mono ?_; rintro e W2 ⟨rfl, D2, K2⟩; have hr := Lib.hid (hgo.out _ _ D2 K2 he.out); clear D2 K2)
          go_roundw
          case rel => exact ⟨k + 1, by omega, by go_num, hr.out⟩
          case measure => simp [nOf]; omega
        · by_cases e2 : (S k).k = 2
          · rw [e2] at c0
            have he := Lib.hid (step2 (m := runS S k) e2)
            have HC := Lib.hid (D.tear (S k).x rfl)
            clear D hbel e0 e1 e2 hbs
            go_wp2_with (go_at_call 19; refine HC.out.mono ?_; rintro e W2 ⟨rfl, D2, K2⟩; have hr := Lib.hid (hgo.out _ _ D2 K2 he.out); clear D2 K2)
            go_roundw
            case rel => exact ⟨k + 1, by omega, by go_num, hr.out⟩
            case measure => simp [nOf]; omega
          · by_cases e3 : (S k).k = 3
            · rw [e3] at c0
              have he := Lib.hid (step3 (m := runS S k) e3)
              have HC := Lib.hid (D.save hbs hold hcl rfl rfl)
              clear D hbel e0 e1 e2 e3 hbs
              go_wp2_with (go_at_call 21; refine HC.out.mono ?_; rintro e W2 ⟨rfl, D2, K2⟩; have hr := Lib.hid (hgo.out _ _ D2 K2 he.out); clear D2 K2)
              go_roundw
              case rel => exact ⟨k + 1, by omega, by go_num, hr.out⟩
              case measure => simp [nOf]; omega
            · have hr := Lib.hid (hstay.out (step4 e0 e1 e2 e3))
              generalize (S k).k = kk at *
              have f0 : (kk == 0) = false := by simpa using e0
              have f1 : (kk == 1) = false := by simpa using e1
              have f2 : (kk == 2) = false := by simpa using e2
              have f3 : (kk == 3) = false := by simpa using e3
              clear D hbel hbs
              go_wp2
              go_roundw
              case rel => exact ⟨k + 1, by omega, by go_num, hr.out⟩
              case measure => simp [nOf]; omega
    · have hkn : k = len := by omega
      subst hkn
      have i1 : decide ((k : Int) < (k : Int)) = false := by simp
      go_wp2
      go_ret
      exact ⟨d, rfl, D, hbel⟩

/-! Disks that are none. -/
def NoD (p : Option Addr) (W : World) : Prop := Calls Tryd.prog 39 #[.pointer p] W fun e W' => e = .returned (.bool false) ∧ W = W'
section
variable {p : Option Addr} {W : World}
theorem no_nil (W : World) : NoD none W := valid_nil W
theorem no_zero {d : Nat} (W : World) (c4 : W.cell? ⟨d, 4, none⟩ = some (.bool false)) : NoD (some ⟨d, 0, none⟩) W := valid_any W false c4
theorem NoD.sync (h : NoD p W) : Calls Tryd.prog 17 #[.pointer p] W fun e W' => e = .returned (.tuple #[]) ∧ W = W' := by
  replace h := Lib.hid h
  go_enter Tryd.func17, Tryd.ntmps17
  go_wp2_with (go_at_call 39; refine h.out.mono ?_; rintro e w' ⟨rfl, rfl⟩)
  go_end0
  exact ⟨rfl, rfl⟩
theorem NoD.tear (h : NoD p W) (x : Int) : Calls Tryd.prog 19 #[.pointer p, .int .i64 x] W fun e W' => e = .returned (.tuple #[]) ∧ W = W' := by
  replace h := Lib.hid h
  go_enter Tryd.func19, Tryd.ntmps19
  go_wp2_with (go_at_call 39; refine h.out.mono ?_; rintro e w' ⟨rfl, rfl⟩)
  go_end0
  exact ⟨rfl, rfl⟩
theorem NoD.snap (h : NoD p W) : Calls Tryd.prog 25 #[.pointer p] W fun e W' => e = .returned (.tuple #[.slice none 0 0, .bool false]) ∧ W = W' := by
  replace h := Lib.hid h
  go_enter Tryd.func25, Tryd.ntmps25
  go_wp2_with (go_at_call 39; refine h.out.mono ?_; rintro e w' ⟨rfl, rfl⟩)
  go_ret2
  exact ⟨rfl, rfl⟩
theorem NoD.app (h : NoD p W) (a : Option Addr) (n c : Nat) : Calls Tryd.prog 15 #[.pointer p, .slice a n c] W fun e W' => e = .returned (.int .i64 1) ∧ W = W' := by
  replace h := Lib.hid h
  go_enter Tryd.func15, Tryd.ntmps15
  go_wp2_with (go_at_call 39; refine h.out.mono ?_; rintro e w' ⟨rfl, rfl⟩)
  go_ret
  exact ⟨rfl, rfl⟩
theorem NoD.save (h : NoD p W) (a : Option Addr) (n c : Nat) : Calls Tryd.prog 21 #[.pointer p, .slice a n c] W fun e W' => e = .returned (.int .i64 1) ∧ W = W' := by
  replace h := Lib.hid h
  go_enter Tryd.func21, Tryd.ntmps21
  go_wp2_with (go_at_call 39; refine h.out.mono ?_; rintro e w' ⟨rfl, rfl⟩)
  go_ret
  exact ⟨rfl, rfl⟩
theorem NoD.records (h : NoD p W) : Calls Tryd.prog 32 #[.pointer p] W fun e W' => e = .returned (.slice none 0 0) ∧ W = W' := by
  replace h := Lib.hid h
  go_enter Tryd.func32, Tryd.ntmps32
  go_wp2_with (go_at_call 39; refine h.out.mono ?_; rintro e w' ⟨rfl, rfl⟩)
  go_ret
  exact ⟨rfl, rfl⟩
theorem NoD.safe (h : NoD p W) : Calls Tryd.prog 29 #[.pointer p] W fun e W' => e = .returned (.int .i64 0) ∧ W = W' := by
  replace h := Lib.hid h
  go_enter Tryd.func29, Tryd.ntmps29
  go_wp2_with (go_at_call 39; refine h.out.mono ?_; rintro e w' ⟨rfl, rfl⟩)
  go_ret
  exact ⟨rfl, rfl⟩
theorem NoD.len (h : NoD p W) : Calls Tryd.prog 27 #[.pointer p] W fun e W' => e = .returned (.int .i64 0) ∧ W = W' := by
  replace h := Lib.hid h
  go_enter Tryd.func27, Tryd.ntmps27
  go_wp2_with (go_at_call 39; refine h.out.mono ?_; rintro e w' ⟨rfl, rfl⟩)
  go_ret
  exact ⟨rfl, rfl⟩
theorem NoD.copy (h : NoD p W) : Calls Tryd.prog 23 #[.pointer p] W fun e W' => e = .returned (.pointer none) ∧ W = W' := by
  replace h := Lib.hid h
  go_enter Tryd.func23, Tryd.ntmps23
  go_wp2_with (go_at_call 39; refine h.out.mono ?_; rintro e w' ⟨rfl, rfl⟩)
  go_ret
  exact ⟨rfl, rfl⟩
end
end Go.Proofs.YtojeccmnhgcmcaaDoor.Dsk
