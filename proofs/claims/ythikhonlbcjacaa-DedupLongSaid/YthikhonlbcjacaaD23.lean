/- The walk of DedupLong. -/
import Derived.Test.YthikhonlbcjacaaD15
import Derived.Test.YthikhonlbcjacaaD19
namespace Go.Proofs.Ythikhonlbcjacaa.Ded
open Go.RowKit Go.Lib Go.Shelf
open Rng (tx tx_of)
open Eff (TE effOk)
set_option linter.unusedVariables false
set_option linter.unusedSimpArgs false
set_option maxRecDepth 100000

abbrev fe (j : Nat) : Ef := ⟨1 + (j : Int) / 24, (j : Int) / 3 % 8, 1 + (j : Int) % 3⟩
abbrev eL (j : Nat) : En := ⟨0, j, [], fe j, [107]⟩
theorem fe_inj {i j : Nat} (h : fe i = fe j) : i = j := by
  simp only [fe, Ef.mk.injEq] at h
  omega
theorem eL_ok (j : Nat) (h : j < 2048) : OkN (eL j) := by
  refine ⟨?_, (by decide : Rng.nameOk [107] = true), ?_⟩
  · show 1 ≤ 1 + (j : Int) / 24 ∧ 1 + (j : Int) / 24 ≤ 9999 ∧ 0 ≤ (j : Int) / 3 % 8 ∧ (j : Int) / 3 % 8 ≤ 7 ∧ 1 ≤ 1 + (j : Int) % 3 ∧ 1 + (j : Int) % 3 ≤ 3
    omega
  · exact decide_eq_true ⟨(by decide : (0 : Int) ≤ 0), (by decide : (0 : Int) ≤ 18), by show _ ≤ (j : Int); omega, by show (j : Int) ≤ _; omega, by show (0 : Nat) ≤ 65536; omega⟩
theorem eF_ok : OkN ⟨0, 0, [], ⟨5000, 0, 1⟩, [107]⟩ := ⟨by decide, by decide, by decide⟩
theorem eH_ok : OkN ⟨0, 0, [], ⟨2, 0, 1⟩, [107]⟩ := ⟨by decide, by decide, by decide⟩
/-- What stands in the table when the loop stands at n. -/
structure Lg (n : Nat) (L : List En) : Prop where
  len : L.length = n
  mem : ∀ x ∈ L, x.ef = ⟨9999, 7, 3⟩ ∨ ∃ j, j < n ∧ x.ef = fe j
  all : ∀ j, 1 ≤ j → j < n → ∃ x ∈ L, x.ef = fe j
theorem Lg.none {n : Nat} {L : List En} (h : Lg n L) (hn : n < 2048) : getL L (eL n).ef = none := by
  rw [get_none]
  intro x hx c
  rcases h.mem x hx with e | ⟨j, hj, e⟩
  · rw [e] at c
    simp only [eL, fe, Ef.mk.injEq] at c
    omega
  · rw [e] at c
    have := fe_inj c
    omega
theorem Lg.step {n : Nat} {L : List En} (h : Lg n L) (hn : n < 2048) : Lg (n + 1) (insL L (eL n)) := by
  refine ⟨by rw [insL_len, h.len], fun x hx => ?_, fun j h1 h2 => ?_⟩
  · rcases mem_insL.1 hx with rfl | hx
    · exact .inr ⟨n, by omega, rfl⟩
    · rcases h.mem x hx with e | ⟨j, hj, e⟩
      · exact .inl e
      · exact .inr ⟨j, by omega, e⟩
  · rcases Nat.lt_or_ge j n with h3 | h3
    · obtain ⟨x, hx, e⟩ := h.all j h1 h3
      exact ⟨x, mem_insL.2 (.inr hx), e⟩
    · obtain rfl : j = n := by omega
      exact ⟨_, mem_insL.2 (.inl rfl), rfl⟩
theorem Lg.none5 {L : List En} (h : Lg 2048 L) : getL L ⟨5000, 0, 1⟩ = Option.none := by
  rw [get_none]
  intro x hx c
  rcases h.mem x hx with e | ⟨j, hj, e⟩
  · rw [e] at c
    simp only [Ef.mk.injEq] at c
    omega
  · rw [e] at c
    simp only [fe, Ef.mk.injEq] at c
    omega
theorem Lg.have24 {L : List En} (h : Lg 2048 L) {B : Nat} {w W : World} {b : Nat} {n : Int} (k : Wk B w b n L W) : ∃ y, getL L ⟨2, 0, 1⟩ = some y := by
  obtain ⟨v, hd⟩ := k.ex
  obtain ⟨x, hx, e⟩ := h.all 24 (by omega) (by omega)
  exact ⟨x, (get_iff hd.srt).2 ⟨hx, by rw [e]; decide⟩⟩
abbrev kz : List UInt8 := [122, 122, 122, 122, 122, 122, 122, 122, 122, 122, 122, 122, 122, 122, 122, 122]
abbrev xD (D : List UInt8) : En := ⟨18, -1152921504606846976, D, ⟨9999, 7, 3⟩, kz⟩
theorem xD_ok {D : List UInt8} (h : D.length ≤ 65536) : OkN (xD D) := ⟨(by decide : effOk 9999 7 3), (by decide : Rng.nameOk kz = true), decide_eq_true ⟨(by decide : (0 : Int) ≤ 18), (by decide : (18 : Int) ≤ 18), (by decide : (-1152921504606846976 : Int) ≤ -1152921504606846976), (by decide : (-1152921504606846976 : Int) ≤ 1152921504606846976), h⟩⟩
theorem xD_bad {D : List UInt8} (h : 65536 < D.length) : ¬ OkN (xD D) := fun c => by
  have h1 := of_decide_eq_true c.2.2
  have h2 : D.length ≤ 65536 := h1.2.2.2.2
  omega
theorem xD_get (D : List UInt8) : getL [xD D] ⟨9999, 7, 3⟩ = some (xD D) := by simp [getL]
theorem xD_lg (D : List UInt8) : Lg 1 [xD D] := ⟨rfl, (fun x hx => by simp only [List.mem_singleton] at hx; subst hx; exact .inl rfl), (fun j h1 h2 => by omega)⟩
theorem nil_lg : Lg 0 [] := ⟨rfl, (fun x hx => by cases hx), (fun j h1 h2 => by omega)⟩
set_option maxHeartbeats 4000000 in
theorem long_any (s : Int) (w : World) (hs0 : 0 ≤ s) (hs1 : s ≤ 255) : Calls Try.prog 9 #[.int .u8 s] w fun r w' => r = .returned (.bool true) ∧ Below w.heap.size w w' := by
  have HW := Lib.hid works_any
  have HB1 := Lib.hid (fun W => new_bad (2049 + s) W (.inr (by omega)))
  have HB2 := Lib.hid (fun W => new_bad (-1 - s) W (.inl (by omega)))
  have HN := Lib.hid (Wk.new w 2048 (by decide) (by decide))
  obtain ⟨c, hc⟩ : ∃ c : Nat, 65536 + (s % 4 - 2) = (c : Int) := ⟨(65536 + (s % 4 - 2)).toNat, by omega⟩
  have hc2 : c ≤ 65537 := by omega
  have HR := Lib.hid (fun W => rep_any 100 c W (by omega))
  have hcs : c ≤ 65536 ↔ s % 4 - 2 ≤ 0 := by omega
  have HC := Lib.hid hc
  clear hc
  by_cases hk : s % 4 - 2 ≤ 0
  · have hcl : c ≤ 65536 := hcs.2 hk
    have d1 : decide (0 < s % 4 - 2) = false := decide_eq_false (by omega)
    have d2 : decide (s % 4 - 2 ≤ 0) = true := decide_eq_true hk
    have hDl : (List.replicate c (100 : UInt8)).length ≤ 65536 := by rw [List.length_replicate]; exact hcl
    generalize hD : List.replicate c (100 : UInt8) = D at HR hDl
    replace hDl := Lib.hid hDl
    clear hcs hcl hD
    go_enter Try.func9, Try.ntmps9
    go_wp2_with fail
    refine HN.out.mono ?_
    rintro r W1 ⟨rfl, h1⟩
    have K1 := Lib.hid h1
    clear h1 HN
    go_wp2_with fail
    refine (HB1.out _).mono ?_
    rintro r W1' ⟨rfl, rfl⟩
    go_wp2_with fail
    refine (HB2.out _).mono ?_
    rintro r W1' ⟨rfl, rfl⟩
    go_wp2_with fail
    rw [HC.out]
    refine (HR.out _).mono ?_
    rintro r W2 ⟨rfl, hb⟩
    have K2 := Lib.hid (K1.out.later hb)
    clear hb K1
    go_wp2_with fail
    refine (K2.out.put (xD D) (xD_ok hDl.out) rfl (by decide)).mono ?_
    rintro r W3 ⟨rfl, h3, _⟩
    rw [show insL [] (xD D) = [xD D] from rfl] at h3
    have K3 := Lib.hid h3
    clear h3 K2
    go_wp2_with fail
    refine (K3.out.get ⟨9999, 7, 3⟩).mono ?_
    rintro r W4 ⟨rfl, hb, _⟩
    rw [show orZ [xD D] ⟨9999, 7, 3⟩ = xD D by unfold orZ; rw [xD_get]; rfl, show hasB [xD D] ⟨9999, 7, 3⟩ = true by unfold hasB; rw [xD_get]; rfl]
    have hb2 := hb.trans ((alloc_b W4 (.cells #[.int .i64 18, .int .i64 (-1152921504606846976), .string (tx D)] TRp)).mono hb.size)
    have KA := Lib.hid (K3.out.later hb2)
    clear hb hb2 K3
    go_wp2_with fail
    refine KA.out.len.mono ?_
    rintro r W5 ⟨rfl, hb, _⟩
    have K4 := Lib.hid (KA.out.later hb)
    have HL0 := Lib.hid (xD_lg D)
    clear hb KA d1 d2
    go_wp2
    go_loopw [14] (fun s14 wr => ∃ (k : Nat) (L : List En), s14 = .int .i64 k ∧ k ≤ 2048 ∧ Hid (Lg k L) ∧ Hid (Wk w.heap.size w w.heap.size 2048 L wr)) (fun s14 _ => 2048 - (intOf s14).toNat)
    case atStart => exact ⟨_, _, rfl, by decide, HL0, K4⟩
    case round =>
      obtain ⟨k, L, rfl, hk, H1, K5⟩ := hrel
      clear K4 HL0
      by_cases hlt : k < 2048
      · have HP := Lib.hid (K5.out.put (eL k) (eL_ok k hlt) (H1.out.none hlt) (by have := H1.out.len; omega))
        have H2 := Lib.hid (H1.out.step hlt)
        have hw1 : IntKind.i64.wrap ((k : Int) + 1) = (k : Int) + 1 := by rw [IntKind.wrap_i64]; omega
        go_wp2_with fail
        refine HP.out.mono ?_
        rintro r V1 ⟨rfl, h, _⟩
        have K6 := Lib.hid h
        clear h HP K5 H1
        go_wp2
        go_roundw
        case rel => exact ⟨k + 1, _, by go_num, by omega, H2, K6⟩
        case measure => simp [intOf]; omega
      · obtain rfl : k = 2048 := by omega
        have hlen := H1.out.len
        have HRm := K5.out.room
        rw [hlen] at HRm
        replace HRm := Lib.hid HRm
        obtain ⟨y, hy⟩ := H1.out.have24 K5.out
        clear hlen
        go_wp2_with fail
        refine HRm.out.mono ?_
        rintro r V1 ⟨rfl, hb, K6⟩
        have K6 := Lib.hid K6
        clear hb HRm K5
        go_wp2_with fail
        refine (K6.out.full ⟨0, 0, [], ⟨5000, 0, 1⟩, [107]⟩ eF_ok H1.out.none5 (by have := H1.out.len; omega)).mono ?_
        rintro r V2 ⟨rfl, h⟩
        have K7 := Lib.hid h
        clear h K6
        go_wp2_with fail
        refine (K7.out.have ⟨0, 0, [], ⟨2, 0, 1⟩, [107]⟩ y eH_ok hy).mono ?_
        rintro r V3 ⟨rfl, _, h⟩
        have K8 := Lib.hid h
        clear h K7
        go_wp2_with fail
        refine (HW.out _).mono ?_
        rintro r V4 ⟨rfl, hb⟩
        have hB := Lib.hid (K8.out.later hb).bel
        go_wp2
        go_ret
        exact ⟨rfl, hB.out⟩
  · have hcl : 65536 < c := by omega
    have d1 : decide (0 < s % 4 - 2) = true := decide_eq_true (by omega)
    have d2 : decide (s % 4 - 2 ≤ 0) = false := decide_eq_false hk
    have hDl : 65536 < (List.replicate c (100 : UInt8)).length := by rw [List.length_replicate]; exact hcl
    generalize hD : List.replicate c (100 : UInt8) = D at HR hDl
    replace hDl := Lib.hid hDl
    clear hcs hcl hD
    go_enter Try.func9, Try.ntmps9
    go_wp2_with fail
    refine HN.out.mono ?_
    rintro r W1 ⟨rfl, h1⟩
    have K1 := Lib.hid h1
    clear h1 HN
    go_wp2_with fail
    refine (HB1.out _).mono ?_
    rintro r W1' ⟨rfl, rfl⟩
    go_wp2_with fail
    refine (HB2.out _).mono ?_
    rintro r W1' ⟨rfl, rfl⟩
    go_wp2_with fail
    rw [HC.out]
    refine (HR.out _).mono ?_
    rintro r W2 ⟨rfl, hb⟩
    have K2 := Lib.hid (K1.out.later hb)
    clear hb K1
    go_wp2_with fail
    refine (K2.out.bad (xD D) (xD_bad hDl.out)).mono ?_
    rintro r W3 ⟨rfl, h3⟩
    have K3 := Lib.hid h3
    clear h3 K2
    go_wp2_with fail
    refine (K3.out.get ⟨9999, 7, 3⟩).mono ?_
    rintro r W4 ⟨rfl, hb, _⟩
    rw [show orZ [] ⟨9999, 7, 3⟩ = zEn from rfl, show hasB [] ⟨9999, 7, 3⟩ = false from rfl]
    have hb2 := hb.trans ((alloc_b W4 (.cells #[.int .i64 0, .int .i64 0, .string ⟨#[]⟩] TRp)).mono hb.size)
    have KA := Lib.hid (K3.out.later hb2)
    clear hb hb2 K3
    go_wp2_with fail
    refine KA.out.len.mono ?_
    rintro r W5 ⟨rfl, hb, _⟩
    have K4 := Lib.hid (KA.out.later hb)
    have HL0 := Lib.hid nil_lg
    clear hb KA d1 d2
    go_wp2
    go_loopw [14] (fun s14 wr => ∃ (k : Nat) (L : List En), s14 = .int .i64 k ∧ k ≤ 2048 ∧ Hid (Lg k L) ∧ Hid (Wk w.heap.size w w.heap.size 2048 L wr)) (fun s14 _ => 2048 - (intOf s14).toNat)
    case atStart => exact ⟨_, _, rfl, by decide, HL0, K4⟩
    case round =>
      obtain ⟨k, L, rfl, hk, H1, K5⟩ := hrel
      clear K4 HL0
      by_cases hlt : k < 2048
      · have HP := Lib.hid (K5.out.put (eL k) (eL_ok k hlt) (H1.out.none hlt) (by have := H1.out.len; omega))
        have H2 := Lib.hid (H1.out.step hlt)
        have hw1 : IntKind.i64.wrap ((k : Int) + 1) = (k : Int) + 1 := by rw [IntKind.wrap_i64]; omega
        go_wp2_with fail
        refine HP.out.mono ?_
        rintro r V1 ⟨rfl, h, _⟩
        have K6 := Lib.hid h
        clear h HP K5 H1
        go_wp2
        go_roundw
        case rel => exact ⟨k + 1, _, by go_num, by omega, H2, K6⟩
        case measure => simp [intOf]; omega
      · obtain rfl : k = 2048 := by omega
        have hlen := H1.out.len
        have HRm := K5.out.room
        rw [hlen] at HRm
        replace HRm := Lib.hid HRm
        obtain ⟨y, hy⟩ := H1.out.have24 K5.out
        clear hlen
        go_wp2_with fail
        refine HRm.out.mono ?_
        rintro r V1 ⟨rfl, hb, K6⟩
        have K6 := Lib.hid K6
        clear hb HRm K5
        go_wp2_with fail
        refine (K6.out.full ⟨0, 0, [], ⟨5000, 0, 1⟩, [107]⟩ eF_ok H1.out.none5 (by have := H1.out.len; omega)).mono ?_
        rintro r V2 ⟨rfl, h⟩
        have K7 := Lib.hid h
        clear h K6
        go_wp2_with fail
        refine (K7.out.have ⟨0, 0, [], ⟨2, 0, 1⟩, [107]⟩ y eH_ok hy).mono ?_
        rintro r V3 ⟨rfl, _, h⟩
        have K8 := Lib.hid h
        clear h K7
        go_wp2_with fail
        refine (HW.out _).mono ?_
        rintro r V4 ⟨rfl, hb⟩
        have hB := Lib.hid (K8.out.later hb).bel
        go_wp2
        go_ret
        exact ⟨rfl, hB.out⟩
theorem long_law (s : Int) (w : World) (h : (Lit.int .u8 s).wf = true) : Calls Try.prog 9 #[.int .u8 s] w fun r w' => r = .returned (.bool true) ∧ Below w.heap.size w w' :=
  long_any s w (bounds_u8 h).1 (bounds_u8 h).2
end Go.Proofs.Ythikhonlbcjacaa.Ded
