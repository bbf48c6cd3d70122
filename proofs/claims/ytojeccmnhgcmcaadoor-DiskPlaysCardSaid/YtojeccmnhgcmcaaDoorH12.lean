/- Lists of contents in rows of one's own; kept. -/
import Derived.Test.YtojeccmnhgcmcaaDoorH11
namespace Go.Proofs.YtojeccmnhgcmcaaDoor.Dsk
open Go.RowKit Go.ChangeShapes Go.WideShapes _root_.Go.Proofs.YtojeccmnhgcmcaaDoor.Frame
open _root_.Go.Proofs.YtojeccmnhgcmcaaDoor.Crc (Hv more more_lt ret_u32)
set_option linter.unusedVariables false
set_option linter.unusedSimpArgs false
set_option maxRecDepth 100000

theorem size_sl (w : World) : (Go.sizeOf TSl).run Tryd.prog w = .ok 1 w := by
  obtain ⟨i0, hi, hz0, hz1, hz2⟩ := info_parts info_sl
  simp [sizeOf, typeInfo, hi, hz1]
theorem und_s : Tryd.prog.underlying TSs = some (.slice (Tryd.prog.elem TSs)) := by simp [Program.elem, Tryd.underlying39]
theorem elem_s : Tryd.prog.elem TSs = TSl := by simp [Program.elem, Tryd.underlying39]
theorem upto_s (a : Option Addr) (len cap hi : Nat) (h2 : hi ≤ cap) (w : World) :
    (Instr.slice TSs (.slice a len cap) none (some (.int .i64 (hi : Int))) none).run Tryd.prog w = .ok (.slice a hi cap) w := by
  have e : ∀ x : Addr, x.add 0 = x := fun x => by cases x; simp [Addr.add]
  rw [run_slice_h w TSs _ _ _ und_s .i64 _ (by omega) (by omega), elem_s, size_sl]
  cases a with
  | none => simp [Result.andThen, sliced]
  | some x => simp [Result.andThen, sliced, e]
theorem Sl.take {w : World} {F : Nat → Prop} {xs : List Value} {L : List (List Nat)} (h : Sl w F xs L) (k : Nat) : Sl w F (xs.take k) (L.take k) := by
  refine ⟨by rw [List.length_take, List.length_take, h.len], fun i s hs => ?_⟩
  have hi : i < k := by
    have := (List.getElem?_eq_some_iff.1 hs).1
    rw [List.length_take] at this
    omega
  rw [List.getElem?_take_of_lt hi] at hs
  have := h.at_ i s hs
  rwa [List.getD_eq_getElem?_getD, ← List.getElem?_take_of_lt hi, ← List.getD_eq_getElem?_getD] at this
set_option maxHeartbeats 1000000 in
theorem kept_any {W : World} {F : Nat → Prop} {a : Option Addr} {cap : Nat} {L : List (List Nat)} (h : Bss W F (.slice a L.length cap) L) (hs : ∀ c ∈ L, Short c) (hL : L.length ≤ 100000000) (k : Nat) (hk : k ≤ L.length) (left : Int) (hl : left ≤ 9223372036854775807) :
    Calls Tryd.prog 34 #[.slice a L.length cap, .int .i64 (k : Nat), .int .i64 left] W fun e W' => e = .returned (.slice a (k + fitN (L.drop k) left.toNat) cap) ∧ W = W' := by
  have hcap : L.length ≤ cap := by
    obtain ⟨a', cap', e, hc, _⟩ := h
    injection e with e1 e2 e3
    omega
  have HB := Lib.hid h
  have HS := Lib.hid hs
  clear h hs
  have hfit0 := fit_le (L.drop k) left.toNat
  rw [List.length_drop] at hfit0
  obtain ⟨K, hK⟩ : ∃ K, k + fitN (L.drop k) left.toNat = K := ⟨_, rfl⟩
  rw [hK]
  have hKl : K ≤ L.length := by omega
  have hu := fun w => upto_s a L.length cap K (by omega) w
  have hr0 : Hid (k + fitN (L.drop k) left.toNat = K) := Lib.hid hK
  clear hK hfit0
  go_enter Tryd.func34, Tryd.ntmps34
  go_wp2
  go_loopw [1, 2] (fun s x wr => ∃ (j : Nat) (y : Int), j ≤ L.length ∧ y ≤ 9223372036854775807 ∧ s = .int .i64 j ∧ x = .int .i64 y ∧ j + fitN (L.drop j) y.toNat = K ∧ W = wr) (fun s _ _ => L.length - nOf s)
  case atStart => exact ⟨k, left, hk, hl, rfl, rfl, hr0.out, rfl⟩
  case round =>
    obtain ⟨j, y, hj, hy, rfl, rfl, hf, rfl⟩ := hrel
    clear hr0
    by_cases hlt : j < L.length
    · obtain ⟨b, off, s1, rfl, _, e1, m1⟩ := HB.out.at_ j hlt
      have hd : L.drop j = L.getD j [] :: L.drop (j + 1) := by
        rw [List.getD_eq_getElem?_getD, List.getElem?_eq_getElem hlt]; exact List.drop_eq_getElem_cons hlt
      have hsh : (L.getD j []).length ≤ 65536 := HS.out _ (getD_mem hlt)
      rw [hd, fitN] at hf
      generalize L.getD j [] = c at *
      have i1 : decide ((j : Int) < (L.length : Int)) = true := by simp; omega
      have hsz := Lib.hid (size_is s1 F c W m1 (by omega))
      obtain ⟨_, a6, cap6, rfl, _⟩ := (show Bs W F s1 c from m1)
      replace hd := Lib.hid hd
      by_cases hle : ((8 + c.length : Nat) : Int) ≤ y
      · rw [if_pos (by omega)] at hf
        have d1 : decide (((8 + c.length : Nat) : Int) ≤ y) = true := by simpa using hle
        have hw : IntKind.i64.wrap (y - ((8 + c.length : Nat) : Int)) = y - ((8 + c.length : Nat) : Int) := by rw [IntKind.wrap_i64]; omega
        have hf2 : Hid (j + 1 + fitN (L.drop (j + 1)) (y - ((8 + c.length : Nat) : Int)).toNat = K) := Lib.hid (by
          have e : (y - ((8 + c.length : Nat) : Int)).toNat = y.toNat - (8 + c.length) := by omega
          rw [e]; omega)
        have hy2 : y - ((8 + c.length : Nat) : Int) ≤ 9223372036854775807 := by omega
        clear hf
        generalize ((8 + c.length : Nat) : Int) = z at *
        go_wp2_with (go_at_call 37; refine hsz.out.mono ?_; rintro e w' ⟨rfl, rfl⟩)
        go_roundw
        case rel => exact ⟨j + 1, y - z, by omega, hy2, by go_num, by simp, hf2.out, (by trivial)⟩
        case measure => simp [nOf]; omega
      · rw [if_neg (by omega)] at hf
        have d1 : decide (((8 + c.length : Nat) : Int) ≤ y) = false := by simpa using hle
        obtain rfl : j = K := by omega
        clear hf
        generalize ((8 + c.length : Nat) : Int) = z at *
        go_wp2_with (go_at_call 37; refine hsz.out.mono ?_; rintro e w' ⟨rfl, rfl⟩)
        go_ret
        exact ⟨rfl, rfl⟩
    · have hjl : j = L.length := by omega
      rw [hjl, List.drop_length, fitN] at hf
      obtain rfl : j = K := by omega
      have i1 : decide ((j : Int) < (L.length : Int)) = false := by simp; omega
      clear hf HB HS hjl
      go_wp2
      go_ret
      exact ⟨rfl, rfl⟩
end Go.Proofs.YtojeccmnhgcmcaaDoor.Dsk
