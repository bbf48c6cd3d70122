/- The document's log: Gaps. -/
import Derived.Test.YtgeejkedljhcoaaT24
namespace Go.Proofs.Ytgeejkedljhcoaa.Slt
open Go.RowKit Go.Maps Go.Lib
set_option linter.unusedVariables false
set_option linter.unusedSimpArgs false
set_option maxRecDepth 20000

theorem rows_int {base : Nat} {L : List Int} {v : Value} {w : World} (h : OwI base L v w) : ∃ a c, v = .slice a L.length c := rows_form h
set_option maxHeartbeats 2000000 in
theorem rgaps_any {rb : Nat} {s : St} {L : List Et} {vl : Value} (w : World) (x : Rx w rb s L vl) :
    Calls Try.prog 40 #[.pointer (some ⟨rb, 0, none⟩)] w fun e w' => ∃ v, e = .returned v ∧ OwI w.heap.size (gapV s) v w' ∧ Below w.heap.size w w' := by
  have HV := Lib.hid x.valid
  obtain ⟨_, c1, c2⟩ := x.cells
  obtain ⟨a, cap, rfl⟩ := x.form
  have hlen := x.len
  have hD := Lib.hid (fun i e (he : L[i]? = some e) => (x.row.at he : ∃ g cap', Value.slice a L.length cap = .slice (some ⟨g, 0, none⟩) L.length cap' ∧ g < w.heap.size ∧ w.cell? ⟨g, i * 2, none⟩ = some (.int .i64 e.s) ∧ w.cell? ⟨g, i * 2 + 1, none⟩ = some (.string e.k)))
  have hP := Lib.hid (fun e (he : e ∈ L) => x.ok.has (k := e.s) (by rw [← x.rel.eq, (getN_iff x.rel.nd e.s e).2 ⟨he, rfl⟩]; rfl))
  have hG := Lib.hid (fun t (ht : Tp L L.length t) => tp_gap x.rel x.ok ht)
  have hH := Lib.hid (fun (k : Int) W (hb : Below w.heap.size w W) => rhas_any k W (x.later hb) rfl)
  have hb0 := x.ok.hb
  clear x
  generalize s.b = b at *
  generalize gapV s = GV at *
  obtain ⟨n, hn⟩ : ∃ n, L.length = n := ⟨_, rfl⟩
  rw [hn] at c2 hlen hG
  replace hn := Lib.hid hn
  go_enter Try.func40, Try.ntmps40
  go_wp2_with (go_at_call 42; refine HV.out.mono ?_; rintro e w' ⟨rfl, rfl⟩)
  go_loopw [3, 4] (fun top i wr => ∃ (j : Nat) (t : Int), j ≤ n ∧ i = .int .i64 j ∧ top = .int .i64 t ∧ Tp L j t ∧ t ≤ 4096 ∧ w = wr) (fun _ i _ => n - nOf i)
  case atStart => exact ⟨0, 0, Nat.zero_le _, rfl, rfl, ⟨Int.le_refl _, fun i e h => by omega, .inl rfl⟩, by omega, rfl⟩
  case round =>
    obtain ⟨j, t, hj, rfl, rfl, hT, ht4, rfl⟩ := hrel
    have ht0 := hT.low
    by_cases hlt : j < n
    · obtain ⟨e, he⟩ : ∃ e, L[j]? = some e := ⟨_, List.getElem?_eq_getElem (by rw [hn.out]; exact hlt)⟩
      obtain ⟨g, cap', hv, hg, d0, d1⟩ := hD.out j e he
      injection hv with hv1 _ hv2
      subst hv1
      have hps := hP.out e (List.mem_of_getElem? he)
      have hT2 := Lib.hid (hT.next he)
      obtain ⟨X, hX⟩ : ∃ X, max t e.s = X := ⟨_, rfl⟩
      have hmx := rmax_n _ _ _ hX
      rw [hX] at hT2
      have hX4 : X ≤ 4096 := by omega
      replace hX := Lib.hid hX
      generalize e.s = es at *
      generalize e.k = ek at *
      have i0 : decide ((j : Int) < (n : Int)) = true := by simp; omega
      have i1 : 0 ≤ (j : Int) := by omega
      have i2 : (j : Int) < (n : Int) := by omega
      have i3 : IntKind.i64.wrap ((j : Int) + 1) = (j : Int) + 1 := by rw [IntKind.wrap_i64]; omega
      have hn2 := hn.out
      subst hn2
      clear he hT hps
      go_wp2
      go_roundw
      case rel => exact ⟨j + 1, X, by omega, by go_num, rfl, hT2.out, hX4, trivial⟩
      case measure => simp [nOf]; omega
    · have hjl : j = n := by omega
      have i2 : decide ((j : Int) < (n : Int)) = false := by simp; omega
      subst hjl
      have hgv := Lib.hid (hG.out t hT)
      clear hD hP hG hT hlt
      go_wp2
      have hlast : Hid (∀ k : Nat, t ≤ b + (k : Nat) → (k = 0 ∨ b + (k : Nat) ≤ t) → nh s.M b k = GV) := Lib.hid fun k h1 h2 => by
        rw [hgv.out]
        congr 1
        omega
      go_loopw [5, 6] (fun v i wr => ∃ k : Nat, (k = 0 ∨ b + (k : Nat) ≤ t) ∧ i = .int .i64 (b + (k : Nat)) ∧ OwI w.heap.size (nh s.M b k) v wr ∧ Below w.heap.size w wr) (fun _ i _ => 4097 - nOf i)
      case atStart => exact ⟨0, .inl rfl, by rw [show b + ((0 : Nat) : Int) = b by omega], OwI.nil _ _, Below.refl _ _⟩
      case round =>
        obtain ⟨k, hk, rfl, hO, hB⟩ := hrel
        obtain ⟨i, hi⟩ : ∃ i, b + (k : Nat) = i := ⟨_, rfl⟩
        obtain ⟨NL, hNL⟩ : ∃ NL, nh s.M b k = NL := ⟨_, rfl⟩
        have hl4 : NL.length ≤ 4096 := by
          rw [← hNL]
          have := nh_len s.M b k
          omega
        have hnx : nh s.M b (k + 1) = NL ++ (if (getM s.M i).isSome then [] else [i]) := by
          show nh s.M b k ++ (if (getM s.M (b + (k : Nat))).isSome then [] else [b + (k : Nat)]) = _
          rw [hNL, hi]
        rw [hNL] at hO
        rw [hi] at hk ⊢
        have hin := Lib.hid (show i + 1 = b + ((k + 1 : Nat) : Int) by omega)
        have hi3 : 0 ≤ i ∧ i ≤ 8192 := by omega
        have hw : IntKind.i64.wrap (i + 1) = i + 1 := by rw [IntKind.wrap_i64]; omega
        by_cases hlt : i < t
        · have b1 : decide (i < t) = true := decide_eq_true hlt
          have HHi := Lib.hid (hH.out i wr hB)
          have hnx2 := Lib.hid hnx
          have hk2 : Hid (k + 1 = 0 ∨ b + ((k + 1 : Nat) : Int) ≤ t) := Lib.hid (.inr (by omega))
          clear hnx hi
          generalize (getM s.M i).isSome = p at *
          cases p with
          | true =>
            have hnn : nh s.M b (k + 1) = NL := by rw [hnx2.out]; simp
            clear hnx2
            replace hnn := Lib.hid hnn
            replace hO := Lib.hid hO
            go_wp2_with (go_at_call 57; refine HHi.out.mono ?_; rintro e w' ⟨rfl, rfl⟩)
            go_roundw
            case rel => exact ⟨k + 1, hk2.out, by rw [hin.out], by rw [hnn.out]; exact hO.out, hB⟩
            case measure => simp [nOf]; omega
          | false =>
            have hnn : nh s.M b (k + 1) = NL ++ [i] := by rw [hnx2.out]; simp
            clear hnx2
            replace hnn := Lib.hid hnn
            obtain ⟨va, vm, vc, rfl⟩ : ∃ a m c, u5 = .slice a m c := by
              obtain ⟨a, c, e⟩ := rows_int hO
              exact ⟨a, _, c, e⟩
            have hvm : NL.length = vm := by
              obtain ⟨a, c, e⟩ := rows_int hO
              injection e with _ e _
              exact e.symm
            have hOr : wr.ownsRow w.heap.size TI 1 (.slice va vm vc) vm (ints NL) := by have := hO; unfold OwI at this; rw [hvm] at this; exact this
            have hOa := Lib.hid (rows_later hOr (alloc_b wr (.cells #[.int .i64 i] TI)))
            have hca := Lib.hid (heap_alloc_new wr (.cells #[.int .i64 i] TI))
            have hBa := Lib.hid (hB.alloc hB.size (.cells #[.int .i64 i] TI))
            have hsza := Lib.hid (show w.heap.size ≤ (wr.alloc (.cells #[.int .i64 i] TI)).heap.size from hBa.out.size)
            have hvm2 : vm ≤ 4096 := by omega
            replace hvm := Lib.hid hvm
            clear hOr hO
            go_wp2_with (first
              | (go_at_call 57; refine HHi.out.mono ?_; rintro e w' ⟨rfl, rfl⟩)
              | (at_builtin; refine wpList_append_m rfl _ _ rfl w.heap.size _ vm _ rfl hOa.out wr.heap.size _ i rfl hca.out (by omega) hsza.out ?_; intro v5 w5 hO5 hg5))
            go_roundw
            case rel => exact ⟨k + 1, hk2.out, by rw [hin.out], by rw [hnn.out]; unfold OwI; rw [List.length_append, ints_app, hvm.out]; exact hO5, own_below hOa.out hg5 hBa.out (Nat.le_refl _)⟩
            case measure => simp [nOf]; omega
        · have b1 : decide (i < t) = false := decide_eq_false hlt
          have hfin := Lib.hid (show OwI w.heap.size GV u5 wr by
            rw [← hlast.out k (by omega) (by omega), hNL]
            exact hO)
          clear hlast hlt hnx hO
          go_wp2
          go_ret
          exact ⟨_, rfl, hfin.out, hB⟩
end Go.Proofs.Ytgeejkedljhcoaa.Slt
