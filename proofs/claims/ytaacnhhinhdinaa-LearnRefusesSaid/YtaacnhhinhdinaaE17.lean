/- Votes in greater ballots: plain facts for LearnNewer. -/
import Derived.Test.YtaacnhhinhdinaaE15
namespace Go.Proofs.Ytaacnhhinhdinaa.Lrn
open Go.RowKit Go.Maps Go.Lib
open Bal (TB bOk ckB ordV eqB eqB_t eqB_f eq_b alloc_b)
set_option linter.unusedVariables false
set_option linter.unusedSimpArgs false
set_option maxRecDepth 20000

def vv (g : Nat) : ByteArray := ⟨#[118, UInt8.ofNat (97 + g)]⟩
theorem vv_size (g : Nat) : (vv g).size ≤ 65536 := by show 2 ≤ 65536; decide
def nwK (g : Nat) (x : Nat) : Kn := ⟨false, ⟨#[]⟩, g, 0, vv g, x⟩
def nwS (n g x : Nat) : St := if g = 0 then newS n else ⟨n, 0, [⟨7, nwK g x⟩]⟩
theorem nwS_n (n g x : Nat) : (nwS n g x).n = n := by unfold nwS; split <;> rfl
theorem nwS_b (n g x : Nat) : (nwS n g x).b = 0 := by unfold nwS; split <;> rfl
theorem nwS_at (n g x : Nat) : at' (nwS n g x) 7 = if g = 0 then zK else nwK g x := by
  unfold nwS
  split
  · rfl
  · show gK (getM [_] 7) = _
    rw [one_get]
theorem nwS_put (n g x g' x' : Nat) (h : g' ≠ 0) : (⟨(nwS n g x).n, (nwS n g x).b, putM (nwS n g x).M ⟨7, nwK g' x'⟩⟩ : St) = nwS n g' x' := by
  rw [nwS_n, nwS_b]
  unfold nwS
  rw [if_neg h]
  split
  · rw [show (newS n).M = [] from rfl, nil_put]
  · rw [one_put]
theorem nwS_open (n g x : Nat) (h : g ≠ 0) : opnL (nwS n g x) = [7] := by
  unfold nwS
  rw [if_neg h]
  show keysM ([⟨7, nwK g x⟩].filter fun e => !e.k.c) = _
  have : (nwK g x).c = false := rfl
  simp [keysM, this]
theorem nw_vote {n nd ρ g x : Nat} (hn : 1 ≤ n) (hnd : nd < n) (hρ : 1 ≤ ρ ∧ ρ ≤ 16) : isVote (nwS n g x).n nd ρ 0 := by
  rw [nwS_n]
  exact ⟨⟨by omega, by omega⟩, by omega, by omega, by omega, by omega⟩
theorem nw_ck (n g x ρ : Nat) : ckV (nwS n g x).b 7 (vv ρ) = 0 := by
  rw [nwS_b]
  unfold ckV
  rw [if_pos (by omega), if_neg (by have := vv_size ρ; omega), if_neg (by omega)]
/-- A vote in a smaller ballot changes nothing. -/
theorem nw_late {n nd ρ g x : Nat} (hn : 1 ≤ n) (hnd : nd < n) (hρ : 1 ≤ ρ ∧ ρ ≤ 16) (h : ρ < g) :
    addB (nwS n g x) nd ρ 0 7 (vv ρ) = false ∧ addE (nwS n g x) nd ρ 0 7 (vv ρ) = 0 ∧ addS (nwS n g x) nd ρ 0 7 (vv ρ) = nwS n g x := by
  have hord : ordV ρ 0 (at' (nwS n g x) 7).r (at' (nwS n g x) 7).m < 0 := by rw [nwS_at, if_neg (by omega)]; exact ord_lt.2 h
  have hoff : ¬ addOn (nwS n g x) nd ρ 0 7 (vv ρ) := fun h => h.2.2.1 hord
  refine ⟨?_, ?_, ?_⟩
  · unfold addB; rw [decide_eq_false hoff, Bool.false_and]
  · unfold addE; rw [if_pos (nw_vote hn hnd hρ), if_pos (nw_ck n g x ρ), if_pos hord]
  · unfold addS; rw [if_neg hoff]
/-- One that is not smaller is kept. -/
theorem nw_kept {n nd ρ g x y : Nat} (hn : 1 ≤ n) (h7 : n ≤ 7) (hnd : nd < n) (hρ : 1 ≤ ρ ∧ ρ ≤ 16) (hx : x ≤ Quo.all1 n) (h : ¬ ρ < g) (hy : y = (if ρ = g then x else 0) ||| 2 ^ nd) (hmj : mj n y = false) :
    addB (nwS n g x) nd ρ 0 7 (vv ρ) = false ∧ addE (nwS n g x) nd ρ 0 7 (vv ρ) = 0 ∧ addS (nwS n g x) nd ρ 0 7 (vv ρ) = nwS n ρ y := by
  have hord : ¬ ordV ρ 0 (at' (nwS n g x) 7).r (at' (nwS n g x) 7).m < 0 := by
    rw [nwS_at]
    split
    · exact ord_zero (n := n) ⟨by omega, by omega, by omega, by omega⟩
    · exact fun h2 => h (ord_lt.1 h2)
  have hc : (at' (nwS n g x) 7).c = false := by rw [nwS_at]; split <;> rfl
  have hbad : addBad (at' (nwS n g x) 7) ρ 0 (vv ρ) = false := by
    unfold addBad refV
    rw [hc, nwS_at]
    by_cases hg : g = 0
    · rw [if_pos hg, eqB_f (by show ¬ ((ρ : Int) = 0 ∧ (0 : Int) = 0); omega)]
      simp
    · rw [if_neg hg]
      by_cases he : ρ = g
      · subst he
        show (_ && !eqT (vv ρ) (vv ρ) || _) = _
        rw [eqT_t]
        simp
      · rw [eqB_f (by show ¬ ((ρ : Int) = (g : Int) ∧ (0 : Int) = 0); omega)]
        simp
  have hon : addOn (nwS n g x) nd ρ 0 7 (vv ρ) := ⟨nw_vote hn hnd hρ, nw_ck n g x ρ, hord, hbad⟩
  have hW : withK (at' (nwS n g x) 7) nd ρ 0 (vv ρ) n = nwK ρ y := by
    rw [nwS_at]
    by_cases hg : g = 0
    · rw [if_pos hg]
      unfold withK withP
      rw [if_neg (by show ¬ ((ρ : Int) = 0 ∧ (0 : Int) = 0); omega)]
      simp only
      rw [wi_or hn h7 (Nat.zero_le _) hnd]
      rw [if_neg (by omega)] at hy
      rw [hy]
      rfl
    · rw [if_neg hg]
      by_cases he : ρ = g
      · subst he
        unfold withK withP
        rw [if_pos ⟨rfl, rfl⟩]
        rw [if_pos rfl] at hy
        rw [hy]
        show (⟨false, ⟨#[]⟩, (ρ : Int), 0, vv ρ, Quo.wiV x nd n⟩ : Kn) = nwK ρ (x ||| 2 ^ nd)
        rw [wi_or hn h7 hx hnd]
        rfl
      · unfold withK withP
        rw [if_neg (by show ¬ ((ρ : Int) = (g : Int) ∧ (0 : Int) = 0); omega)]
        rw [if_neg he] at hy
        rw [hy]
        show (⟨false, ⟨#[]⟩, (ρ : Int), 0, vv ρ, Quo.wiV 0 nd n⟩ : Kn) = nwK ρ (0 ||| 2 ^ nd)
        rw [wi_or hn h7 (Nat.zero_le _) hnd]
        rfl
  have hy2 : y ≤ Quo.all1 n := by
    rw [hy]
    split
    · exact or_low h7 hx hnd
    · exact or_low h7 (Nat.zero_le _) hnd
  have hN : addN (withK (at' (nwS n g x) 7) nd ρ 0 (vv ρ) (nwS n g x).n) (nwS n g x).n = false := by
    rw [nwS_n, hW]
    unfold addN
    show (Quo.isV n y && _) = _
    rw [is_in hn h7 hy2]
    unfold mj at hmj
    rw [hmj]
    rfl
  refine ⟨?_, ?_, ?_⟩
  · unfold addB; rw [hN, Bool.and_false]
  · unfold addE; rw [if_pos (nw_vote hn hnd hρ), if_pos (nw_ck n g x ρ), if_neg hord, if_neg (by rw [hbad]; decide)]
  · unfold addS
    rw [if_pos hon]
    unfold addW
    rw [if_neg (by rw [hN]; decide), nwS_n, hW]
    have := nwS_put n g x ρ y (by omega)
    rw [nwS_n] at this
    exact this
theorem vv_byte (g : Nat) (h : g ≤ 16) : (97 : Int) + (g : Int) = ((UInt8.ofNat (97 + g)).toNat : Int) := by
  have : (UInt8.ofNat (97 + g)).toNat = 97 + g := by
    rw [UInt8.toNat_ofNat']
    exact Nat.mod_eq_of_lt (by omega)
  rw [this]
  omega
theorem vv_app (g : Nat) : (⟨#[118]⟩ : ByteArray) ++ ⟨#[UInt8.ofNat (97 + g)]⟩ = vv g := by
  apply ByteArray.ext
  rw [ByteArray.data_append]
  rfl
end Go.Proofs.Ytaacnhhinhdinaa.Lrn
