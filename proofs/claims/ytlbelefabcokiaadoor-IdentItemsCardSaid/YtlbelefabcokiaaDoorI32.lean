/- The document's number: its contract. -/
import Derived.Test.YtlbelefabcokiaaDoorI31
namespace Go.Proofs.YtlbelefabcokiaaDoor.Ident
open Go.RowKit Go.Lib
set_option linter.unusedVariables false
set_option linter.unusedSimpArgs false
set_option maxRecDepth 20000

theorem rN_cases (l : List UInt8) (i : Nat) :
    ((rD l i).length = 0 ∧ rN l i = -1) ∨ (1 ≤ (rD l i).length ∧ ∃ h : i < l.length, (l[i].toNat ≠ 48 ∧ rN l i = (val 0 (rD l i) : Nat)) ∨ (l[i].toNat = 48 ∧ 1 < (rD l i).length ∧ rN l i = -1) ∨ (l[i].toNat = 48 ∧ ¬ 1 < (rD l i).length ∧ rN l i = (val 0 (rD l i) : Nat))) := by
  by_cases h0 : (rD l i).length = 0
  · exact .inl ⟨h0, if_pos h0⟩
  · right
    obtain ⟨h1, h2, _, _⟩ := rD_at l i 0 (by omega)
    have h1' : i < l.length := h1
    have h2' : (rD l i).head? = some l[i] := by rw [List.head?_eq_getElem?, h2]; rfl
    refine ⟨by omega, h1', ?_⟩
    unfold rN
    rw [if_neg h0, h2']
    by_cases h48 : l[i].toNat = 48
    · have e : l[i] = 48 := UInt8.toNat_inj.1 h48
      by_cases h3 : 1 < (rD l i).length
      · exact .inr (.inl ⟨h48, h3, by rw [if_pos ⟨by rw [e], h3⟩]⟩)
      · exact .inr (.inr ⟨h48, h3, by rw [if_neg (fun h => h3 h.2)]⟩)
    · refine .inl ⟨h48, ?_⟩
      rw [if_neg]
      rintro ⟨h, _⟩
      injection h with h
      rw [h] at h48
      exact h48 rfl
set_option maxHeartbeats 4000000 in
theorem ref_number (l : List UInt8) (i : Nat) (hl : l.length ≤ 1000) (hi : i ≤ 2000) (w : World) :
    Calls Tryd.prog 61 #[.string (tx l), .int .i64 i] w fun e w' => e = .returned (.tuple #[.int .i64 (rN l i), .int .i64 (rA l i : Nat)]) ∧ w = w' := by
  have hz := tx_size l
  have hget : ∀ (k : Nat) (h : k < (tx l).size) (h2 : k < l.length), (tx l)[k]'h = l[k]'h2 := fun k h _ => tx_get l k h
  have hat := Lib.hid (fun k h => rD_at l i k h)
  have hst := Lib.hid (rD_stop l i)
  have hrn := Lib.hid (rN_cases l i)
  have hA := Lib.hid (show rA l i = i + (rD l i).length from rfl)
  have hv := Lib.hid (fun k c h => val_take (rD l i) k c h)
  have hvl := Lib.hid (fun k => rV_lt l i k)
  have hl4 := rD_len l i
  generalize rN l i = rn at *
  generalize rA l i = ra at *
  generalize rD l i = D at *
  generalize hs : tx l = s at *
  have HG := Lib.hid hget
  have r4 : IntKind.i64.wrap ((i : Int) + 4) = (i : Int) + 4 := wr (by omega) (by omega)
  have r1 : IntKind.i64.wrap ((i : Int) + 1) = (i : Int) + 1 := wr (by omega) (by omega)
  clear hget hs
  go_enter Tryd.func61, Tryd.ntmps61
  go_wp2
  go_loop [1, 6] (fun t n => ∃ j k : Nat, Hid (j = i + k) ∧ k ≤ D.length ∧ t = .int .i64 j ∧ n = .int .i64 (val 0 (D.take k) : Nat)) (fun t _ => i + D.length - (intOf t).toNat)
  case atStart => exact ⟨i, 0, Lib.hid rfl, Nat.zero_le _, rfl, rfl⟩
  case round =>
    obtain ⟨j, k, hjk, hk, rfl, rfl⟩ := hrel
    by_cases hlt : k < D.length
    · obtain ⟨h1, h2, h3, h4⟩ := hat.out k hlt
      have hj : j < s.size := by have := hjk.out; omega
      have hg := HG.out (i + k) (by omega) h1
      have hv1 := hv.out k _ h2
      have hb1 := hvl.out k
      have hb2 := hvl.out (k + 1)
      have e : s[j]'hj = l[i + k] := by have h9 := hjk.out; subst h9; exact hg
      rw [← e] at h3 hv1
      obtain ⟨b1, b2⟩ := isDig_bytes.1 h3
      have h48 : 48 ≤ (s[j]'hj).toNat ∧ (s[j]'hj).toNat ≤ 57 := by simp at b1 b2; omega
      generalize val 0 (D.take k) = v at *
      obtain ⟨v', hv'⟩ : ∃ v', val 0 (D.take (k + 1)) = v' := ⟨_, rfl⟩
      rw [hv'] at hv1 hb2
      have d1 : decide ((j : Int) < (i : Int) + 4) = true := by have := hjk.out; simp; omega
      have q1 : IntKind.u8.wrap (((s[j]'hj).toNat : Int) - 48) = ((s[j]'hj).toNat : Int) - 48 := by rw [IntKind.wrap_u8']; omega
      have q2 : IntKind.i64.wrap (((s[j]'hj).toNat : Int) - 48) = ((s[j]'hj).toNat : Int) - 48 := wr (by omega) (by omega)
      have q3 : IntKind.i64.wrap ((v : Int) * 10) = (v : Int) * 10 := wr (by omega) (by omega)
      have q4 : IntKind.i64.wrap ((v : Int) * 10 + (((s[j]'hj).toNat : Int) - 48)) = (v' : Int) := by rw [wr (by omega) (by omega)]; omega
      have q5 : IntKind.i64.wrap ((j : Int) + 1) = ((j + 1 : Nat) : Int) := by have := hjk.out; rw [wr (by omega) (by omega)]; omega
      obtain ⟨j', hj'⟩ : ∃ j', j + 1 = j' := ⟨_, rfl⟩
      rw [hj'] at q5
      replace hv' := Lib.hid hv'
      replace hj' := Lib.hid hj'
      clear h2 h3 hv1 hb1 hb2 e hg h48 h4
      go_wp2
      go_round
      case rel => exact ⟨j', k + 1, Lib.hid (by have := hj'.out; have := hjk.out; omega), by omega, rfl, by rw [hv'.out]⟩
      case measure => simp [intOf]; have := hj'.out; have := hjk.out; omega
    · obtain rfl : k = D.length := by omega
      have hra : ra = j := by rw [hA.out, hjk.out]
      have hvv := hvl.out D.length
      rw [List.take_length] at hvv ⊢
      have hjk9 := hjk.out
      have hout : ¬ j < s.size ∨ (j < s.size ∧ decide ((j : Int) < (i : Int) + 4) = false) ∨ (∃ h : j < s.size, decide ((j : Int) < (i : Int) + 4) = true ∧ decide ((48 : Int) ≤ ((s[j]'h).toNat : Int)) = false) ∨ (∃ h : j < s.size, decide ((j : Int) < (i : Int) + 4) = true ∧ decide ((48 : Int) ≤ ((s[j]'h).toNat : Int)) = true ∧ decide (((s[j]'h).toNat : Int) ≤ 57) = false) := by
        by_cases h1 : j < s.size
        · by_cases h2 : D.length < 4
          · rcases hst.out with h3 | h3 | ⟨h3, h4⟩
            · omega
            · omega
            · have hg := HG.out (i + D.length) (by omega) h3
              have e : s[j]'h1 = l[i + D.length] := by have h9 := hjk.out; subst h9; exact hg
              rw [← e] at h4
              have d1 : decide ((j : Int) < (i : Int) + 4) = true := by simp; omega
              rcases isDig_bytes.2 h4 with h5 | ⟨h5, h6⟩
              · exact .inr (.inr (.inl ⟨h1, d1, h5⟩))
              · exact .inr (.inr (.inr ⟨h1, d1, h5, h6⟩))
          · exact .inr (.inl ⟨h1, by simp; omega⟩)
        · exact .inl h1
      have hfin : (((j : Int) == (i : Int)) = true ∧ rn = -1) ∨ (((j : Int) == (i : Int)) = false ∧ ∃ h : i < s.size, ((((s[i]'h).toNat : Int) == 48) = false ∧ rn = (val 0 D : Nat)) ∨ ((((s[i]'h).toNat : Int) == 48) = true ∧ decide ((i : Int) + 1 < (j : Int)) = true ∧ rn = -1) ∨ ((((s[i]'h).toNat : Int) == 48) = true ∧ decide ((i : Int) + 1 < (j : Int)) = false ∧ rn = (val 0 D : Nat))) := by
        rcases hrn.out with ⟨h1, h2⟩ | ⟨h1, h2, h3⟩
        · exact .inl ⟨by simp; omega, h2⟩
        · refine .inr ⟨by simp; omega, by omega, ?_⟩
          have hg := HG.out i (by omega) h2
          rw [hg]
          rcases h3 with ⟨h4, h5⟩ | ⟨h4, h5, h6⟩ | ⟨h4, h5, h6⟩
          · exact .inl ⟨by simp; omega, h5⟩
          · exact .inr (.inl ⟨by simp; omega, by simp; omega, h6⟩)
          · exact .inr (.inr ⟨by simp; omega, by simp; omega, h6⟩)
      generalize val 0 D = v at *
      replace hra := Lib.hid hra
      clear hjk9
      clear hA hv hvl hat hst hrn HG hlt hk
      rcases hfin with ⟨f1, hr⟩ | ⟨f1, f0, ⟨f2, hr⟩ | ⟨f2, f3, hr⟩ | ⟨f2, f3, hr⟩⟩
      all_goals
        replace hr := Lib.hid hr
        rcases hout with o1 | ⟨o1, o2⟩ | ⟨o1, o2, o3⟩ | ⟨o1, o2, o3, o4⟩
        all_goals
          go_wp2
          go_ret2
          exact ⟨by rw [hr.out, hra.out]; rfl, rfl⟩
end Go.Proofs.YtlbelefabcokiaaDoor.Ident
