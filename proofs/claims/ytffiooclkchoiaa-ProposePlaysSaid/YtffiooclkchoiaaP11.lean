/- Values. -/
import Derived.Test.YtffiooclkchoiaaP10
namespace Go.Proofs.Ytffiooclkchoiaa.Prp
open Go.RowKit Go.Lib
open Bal (TB bOk ckB ordV eqB eqB_t eqB_f eq_b alloc_b check_any order_any)
set_option linter.unusedVariables false
set_option linter.unusedSimpArgs false
set_option maxRecDepth 20000

structure VAt (base : Nat) (w : World) (b : Nat) (vs : Nat → Value) (s : St) (W : World) : Prop where
  px : Px base W b vs s
  bel : Below w.heap.size w W
theorem VAt.later {base : Nat} {w : World} {b : Nat} {vs : Nat → Value} {s : St} {W W' : World} (h : VAt base w b vs s W) (hb : Below W.heap.size W W') : VAt base w b vs s W' := ⟨h.px.later hb, h.bel.trans (hb.mono h.bel.size)⟩
abbrev SV (base : Nat) (w : World) (b : Nat) (vs : Nat → Value) (s : St) (W : World) : Prop := W.cell? ⟨b, 3, none⟩ = some (.int .i64 s.f) ∧ VAt base w b vs s W
theorem VAt.sv {base : Nat} {w : World} {b : Nat} {vs : Nat → Value} {s : St} {W : World} (h : VAt base w b vs s W) : SV base w b vs s W := ⟨h.px.cells.2.2.2, h⟩
theorem beg_in {s : St} (h : OkS s) : 0 ≤ beg s ∧ beg s ≤ 4096 := by
  have := h.hf
  have := up_le h 7
  unfold beg
  omega
theorem owe_form {base : Nat} {L : List Et} {v : Value} {w : World} (h : OwE base L v w) : ∃ a m c, v = .slice a m c ∧ m = L.length := by
  obtain ⟨a, c, e⟩ := rows_form h
  exact ⟨a, _, c, e, rfl⟩
def E0 (s : St) (j : Nat) : Et := bestF (beg s) (allK s.P 7) j
def E1 (s : St) (j : Nat) : Et := ⟨(E0 s j).s, s.r, s.m, (E0 s j).v⟩
theorem vals_is (s : St) : valsOf s = lst (topN (beg s) (allK s.P 7)) (E1 s) := by
  unfold valsOf
  refine lst_congr fun j _ => ?_
  unfold E1 E0
  rw [best_slot]
def mixE (s : St) (k : Nat) (j : Nat) : Et := if j < k then E1 s j else E0 s j
theorem values_bad {base : Nat} {w : World} {b : Nat} {vs : Nat → Value} {s : St} (x : Px base w b vs s) (hr : rdy s = false) :
    Calls Try.prog 16 #[.pointer (some ⟨b, 0, none⟩)] w fun e w' => e = .returned (.tuple #[.slice none 0 0, .int .i64 9]) ∧ Below w.heap.size w w' := by
  have hV := Lib.hid x.valid
  have hR := ready_any x
  rw [hr] at hR
  replace hR := Lib.hid hR
  clear x
  go_enter Try.func16, Try.ntmps16
  go_wp2_with (first
    | (go_at_call 33; refine hV.out.mono ?_; rintro e w' ⟨rfl, rfl⟩)
    | (go_at_call 19; refine hR.out.mono ?_; rintro e w2 ⟨rfl, hb2⟩))
  go_ret2
  exact ⟨rfl, hb2⟩
set_option maxRecDepth 100000 in
set_option maxHeartbeats 2000000 in
theorem values_ok {base : Nat} {w : World} {b : Nat} {vs : Nat → Value} {s : St} (x : Px base w b vs s) (hr : rdy s = true) :
    Calls Try.prog 16 #[.pointer (some ⟨b, 0, none⟩)] w fun e w' => ∃ v, e = .returned (.tuple #[v, .int .i64 0]) ∧ OwE w.heap.size (valsOf s) v w' ∧ Below w.heap.size w w' := by
  have hV := Lib.hid x.valid
  have hR := ready_any x
  rw [hr] at hR
  replace hR := Lib.hid hR
  have hX := Lib.hid (fun W (hb : Below w.heap.size w W) => (⟨x.later hb, hb⟩ : VAt base w b vs s W))
  have hU := Lib.hid (fun W (h : VAt base w b vs s W) => upto_any h.px)
  have hG := Lib.hid (fun W (h : VAt base w b vs s W) => greatest_any (beg s) W h.px (beg_in x.ok))
  have hbg : Hid (max s.f (upK s.P 7) = beg s) := Lib.hid rfl
  have hS := Lib.hid (fun W (h : VAt base w b vs s W) => h.sv)
  have hblt := x.lt
  have hpb := Lib.hid (fun W (hb : Below w.heap.size w W) => (show W.cell? ⟨b, 1, none⟩ = some (.int .i64 s.r) ∧ W.cell? ⟨b, 2, none⟩ = some (.int .i64 s.m) from ⟨(x.later hb).cells.2.1, (x.later hb).cells.2.2.1⟩))
  have hN : Hid (topN (beg s) (allK s.P 7) ≤ 4096) := Lib.hid (top_le (beg_in x.ok).1 fun e he => (all_mem x.ok 7 e he).1.2.1)
  rw [vals_is]
  have hE0 : Hid (lst (topN (beg s) (allK s.P 7)) (bestF (beg s) (allK s.P 7)) = lst (topN (beg s) (allK s.P 7)) (mixE s 0)) := Lib.hid (lst_congr fun j _ => by unfold mixE; rw [if_neg (by omega)]; rfl)
  clear x hr
  generalize upK s.P 7 = up at *
  generalize topN (beg s) (allK s.P 7) = N at *
  go_enter Try.func16, Try.ntmps16
  go_wp2_with (first
    | (go_at_call 33; refine hV.out.mono ?_; rintro e w' ⟨rfl, rfl⟩)
    | (go_at_call 19; refine hR.out.mono ?_; rintro e w2 ⟨rfl, hb2⟩))
  have hX2 := hX.out _ (hb2.trans ((Below.refl w2.heap.size w2).drew.mono hb2.size))
  go_region_held3 (SV base w b vs s)
    (first | exact hS.out _ hX2 | exact hS.out _ (by assumption) | assumption)
    (first
      | (go_at_call 21; refine (hU.out _ (by assumption : SV base w b vs s _).2).mono ?_; rintro e w3 ⟨rfl, hb3⟩; have hX3 := VAt.later (by assumption : SV base w b vs s _).2 hb3)
      | (rw [hbg.out]; go_at_call 36; refine (hG.out _ (by assumption : SV base w b vs s _).2).mono ?_; rintro e w4 ⟨v4, rfl, hO4, hb4⟩; have hX4 := VAt.later (by assumption : SV base w b vs s _).2 hb4))
  rename VAt base w b vs s w3 => hX3
  have hle := hX3.bel.size
  obtain ⟨a4, m4, c4, rfl, hm4⟩ := owe_form hO4
  rw [lst_len] at hm4
  subst hm4
  rw [hE0.out] at hO4
  have hO5 : OwE w.heap.size (lst m4 (mixE s 0)) (.slice a4 m4 c4) w4 := rows_base hO4 hle
  have hbel4 := hX4.bel
  have hend : Hid (lst m4 (mixE s m4) = lst m4 (E1 s)) := Lib.hid (lst_congr fun j hj => by unfold mixE; rw [if_pos hj])
  have hmx : Hid (∀ k, k < m4 → (lst m4 (mixE s k)).set k (E1 s k) = lst m4 (mixE s (k + 1))) := Lib.hid fun k hk => by
    rw [lst_set _ hk]
    refine lst_congr fun j _ => ?_
    unfold mixE
    by_cases e : j = k
    · subst e; rw [if_pos rfl, if_pos (by omega)]
    · rw [if_neg e]
      by_cases h : j < k
      · rw [if_pos h, if_pos (by omega)]
      · rw [if_neg h, if_neg (by omega)]
  have hat : Hid (∀ k, k < m4 → (lst m4 (mixE s k))[k]? = some (E0 s k)) := Lib.hid fun k hk => by
    rw [lst_at _ _ _ hk]
    unfold mixE
    rw [if_neg (by omega)]
  clear hX hU hG hS hX2 hX3 hX4 hO4 hb3 hb4 hb2 hE0 hbg hR hV hle
  go_wp2
  go_loopw [23] (fun i wr => ∃ k : Nat, k ≤ m4 ∧ i = .int .i64 k ∧ OwE w.heap.size (lst m4 (mixE s k)) (.slice a4 m4 c4) wr ∧ Below w.heap.size w wr) (fun i _ => m4 - nOf i)
  case atStart => exact ⟨0, by omega, rfl, hO5, hbel4⟩
  case round =>
    clear hO5 hbel4
    obtain ⟨k, hk, rfl, hO, hB⟩ := hrel
    by_cases hlt : k < m4
    · obtain ⟨p1, p2⟩ := hpb.out _ hB
      have hatk := hat.out k hlt
      have hmk := hmx.out k hlt
      obtain ⟨g, cap', hv', hg1, hg2, hcs⟩ := hO.cells (by rw [lst_len]; omega)
      injection hv' with ha hl2 hcap
      clear hl2
      subst ha hcap
      obtain ⟨b0, b1, b2, b3⟩ := hcs k _ hatk
      have hset := hO.set2 k hatk s.r s.m
      have hE1k : (⟨(E0 s k).s, s.r, s.m, (E0 s k).v⟩ : Et) = E1 s k := rfl
      rw [hE1k, hmk] at hset
      replace hset := Lib.hid hset
      have fz : ∀ i, wr.frozen? ⟨g, i, none⟩ = false := fun i => by
        rcases hO.2 with ⟨h1, _⟩ | ⟨g', cap', cur, h1, _, hg, _⟩
        · cases h1
        · injection h1 with h1
          injection h1 with h1
          injection h1 with h1 _
          subst h1
          exact frozen_of_row wr _ i _ TE hg
      have f1 := fz (k * 4 + 1)
      have f2 := fz (k * 4 + 2)
      have hK := Lib.hid ((((Keeps.refl (fun j => j = g) wr).setCell (p := ⟨g, k * 4 + 1, none⟩) (.inl rfl) (.int .i64 s.r)).setCell (p := ⟨g, k * 4 + 2, none⟩) (.inl rfl) (.int .i64 s.m)).below hB.size (fun k e => by subst e; exact hg1))
      have hB' := Lib.hid hB
      generalize (E0 s k).r = er at *
      generalize (E0 s k).m = em at *
      have hN4 := hN.out
      have z1 : (0 : Int) ≤ (k : Nat) := by omega
      have z2 : (k : Int) < (m4 : Nat) := by omega
      have z3 : decide ((k : Int) < (m4 : Int)) = true := by simpa using z2
      clear hat hmx hO hcs hatk hmk hE1k fz hB b0 b3 hpb
      go_wp2
      go_roundw
      case rel => exact ⟨k + 1, by omega, by go_num, hset.out, hB'.out.trans (hK.out.mono (Nat.le_refl _))⟩
      case measure => simp [nOf]; omega
    · have hkm : k = m4 := by omega
      subst hkm
      have z3 : decide ((k : Int) < (k : Int)) = false := by simp
      rw [hend.out] at hO
      replace hO := Lib.hid hO
      clear hat hmx hpb
      go_wp2
      go_ret2
      exact ⟨_, rfl, hO.out, hB⟩
end Go.Proofs.Ytffiooclkchoiaa.Prp
