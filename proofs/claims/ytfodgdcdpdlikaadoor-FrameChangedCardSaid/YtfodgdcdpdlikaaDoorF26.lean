/- The walk of FrameChanged. -/
import Derived.Test.YtfodgdcdpdlikaaDoorF25
import Derived.Test.YtfodgdcdpdlikaaDoorF24
import Derived.Test.YtfodgdcdpdlikaaDoorF20
namespace Go.Proofs.YtfodgdcdpdlikaaDoor.Frame
open Go.RowKit Go.ChangeShapes
open Crc (Hv more more_lt ret_u32)
set_option linter.unusedVariables false
set_option linter.unusedSimpArgs false

theorem u8_xor2 (a b : Nat) (ha : a < 256) (hb : b < 256) : bits .xor .u8 (a : Int) (b : Int) = ((a ^^^ b : Nat) : Int) := by
  have hx : a ^^^ b < 2 ^ 8 := Nat.xor_lt_two_pow ha hb
  show IntKind.u8.wrap ((BitVec.ofInt 8 (a : Int) ^^^ BitVec.ofInt 8 (b : Int)).toNat : Int) = _
  rw [BitVec.toNat_xor, BitVec.toNat_ofInt, BitVec.toNat_ofInt]
  have e1 : ((a : Int) % ((2 ^ 8 : Nat) : Int)).toNat = a := by omega
  have e2 : ((b : Int) % ((2 ^ 8 : Nat) : Int)).toNat = b := by omega
  rw [e1, e2, IntKind.wrap_u8']
  omega
theorem Mine.store {w : World} {base g n cap : Nat} {l : List Nat} (h : Mine w base (.slice (some ⟨g, 0, none⟩) n cap) l) (hn : l.length = n) (j x : Nat) (hx : x < 256) :
    Mine (w.setCell ⟨g, j, none⟩ (.int .u8 ((l.getD j 0 ^^^ x : Nat) : Int))) base (.slice (some ⟨g, 0, none⟩) n cap) (chg l j x) := by
  subst hn
  have := (h.own.stored j (.int .u8 ((l.getD j 0 ^^^ x : Nat) : Int))).1
  refine ⟨?_, chg_byt h.h8 _ _ hx⟩
  rw [chg_len]
  unfold chg bv at *
  rw [List.map_set]
  exact this
theorem Mine.open_ {w : World} {base n cap : Nat} {a : Option Addr} {l : List Nat} (h : Mine w base (.slice a n cap) l) (hl : 0 < l.length) :
    ∃ g, a = some ⟨g, 0, none⟩ ∧ base ≤ g ∧ g < w.heap.size ∧ (∀ j, j < l.length → w.cell? ⟨g, j, none⟩ = some (.int .u8 (l.getD j 0 : Nat))) ∧ ∀ j, w.frozen? ⟨g, j, none⟩ = false := by
  have hb := h.bs
  rcases h.own.2 with ⟨_, h0⟩ | ⟨g, cap2, cur, e, hbg, hg, _⟩
  · omega
  · injection e with e1 _ _
    subst e1
    obtain ⟨_, a', cap', e, _, hc⟩ := hb
    injection e with e1 _ _
    obtain ⟨b, off, ha, hF, hcell⟩ := hc hl
    rw [← e1] at ha
    injection ha with ha
    injection ha with e2 e3 _
    subst e2 e3
    refine ⟨g, rfl, hbg, hF.2, fun j hj => ?_, fun j => blk_frozen hg j⟩
    have := hcell j hj
    rwa [Nat.zero_add] at this
theorem q_left {P : Program} {f : FuncId} {args : Array Value} {w : World} {n : Nat} {v : Value} (h : Calls P f args (w.drewN n) fun e w' => e = .returned v ∧ w.drewN n = w') :
    Calls P f args (w.drewN n) fun e w'' => e = .returned v ∧ ∃ m, w'' = w.drewN m := h.mono fun _ _ ⟨he, hm⟩ => ⟨he, n, hm.symm⟩
theorem changed_no (a : Option Addr) (cap : Nat) (L : List (List Nat)) (t q x : Int) (w : World) (hv : Bss w (Old w) (.slice a L.length cap) L) (hL : L.length ≤ 9223372036854775807) (hH : Hv w) (hf : ¬ Few L ∨ L.length = 0 ∨ x = 0) :
    Calls Tryd.prog 6 #[.slice a L.length cap, .int .u8 t, .int .u8 q, .int .u8 x] w fun e w' => e = .returned (.bool true) ∧ Below w.heap.size w w' := by
  have H1 := few_any _ _ L w hv hL
  have HW := Lib.hid (works_any w hH)
  by_cases hf0 : Few L
  · have hfew : fewB L = true := by unfold fewB; simpa using hf0
    rw [hfew] at H1
    replace H1 := Lib.hid H1
    clear hfew
    by_cases h0 : L.length = 0
    · have hz : ((L.length : Int) == 0) = true := by simp; exact List.eq_nil_of_length_eq_zero h0
      replace h0 := Lib.hid h0
      go_enter Tryd.func6, Tryd.ntmps6
      go_wp2_with (first
        | (go_at_call 27; refine H1.out.mono ?_; rintro e w' ⟨rfl, rfl⟩)
        | (go_at_call 11; refine HW.out.mono ?_; rintro e w1 ⟨rfl, hb⟩))
      go_ret
      exact ⟨rfl, hb⟩
    · have hz : ((L.length : Int) == 0) = false := by simp; intro e; exact h0 (by rw [e]; rfl)
      have hx : x = 0 := by rcases hf with h | h | h; exact absurd hf0 h; exact absurd h h0; exact h
      subst hx
      replace h0 := Lib.hid h0
      go_enter Tryd.func6, Tryd.ntmps6
      go_wp2_with (first
        | (go_at_call 27; refine H1.out.mono ?_; rintro e w' ⟨rfl, rfl⟩)
        | (go_at_call 11; refine HW.out.mono ?_; rintro e w1 ⟨rfl, hb⟩))
      go_ret
      exact ⟨rfl, hb⟩
  · have hfew : fewB L = false := by unfold fewB; simpa using hf0
    rw [hfew] at H1
    replace H1 := Lib.hid H1
    clear hfew
    go_enter Tryd.func6, Tryd.ntmps6
    go_wp2_with (first
      | (go_at_call 27; refine H1.out.mono ?_; rintro e w' ⟨rfl, rfl⟩)
      | (go_at_call 11; refine HW.out.mono ?_; rintro e w1 ⟨rfl, hb⟩))
    go_ret
    exact ⟨rfl, hb⟩
set_option maxRecDepth 100000 in
set_option maxHeartbeats 4000000 in
theorem changed_go (a : Option Addr) (cap : Nat) (L : List (List Nat)) (t q x : Nat) (w : World) (hv : Bss w (Old w) (.slice a L.length cap) L) (hH : Hv w) (hf : Few L) (hL0 : 0 < L.length) (ht : t < 256) (hq : q < 256) (hx0 : 0 < x) (hx : x < 256) :
    Calls Tryd.prog 6 #[.slice a L.length cap, .int .u8 (t : Nat), .int .u8 (q : Nat), .int .u8 (x : Nat)] w fun e w' => e = .returned (.bool true) ∧ Below w.heap.size w w' := by
  obtain ⟨hs, hl4, htot⟩ := few_short hf
  have hfew : fewB L = true := by unfold fewB; simpa using hf
  have H1 := few_any _ _ L w hv (by omega)
  rw [hfew] at H1
  replace H1 := Lib.hid H1
  have HJ := Lib.hid (join_ok _ _ L w hv (fun k hk => hk) hH hl4 hs)
  have hbyt := hv.byt
  have hz : ((L.length : Int) == 0) = false := by simp; intro e; rw [e] at hL0; exact absurd hL0 (by decide)
  have hxz : ((x : Int) == 0) = false := by simp; omega
  obtain ⟨n, hn⟩ : ∃ n : Nat, t % L.length = n := ⟨_, rfl⟩
  have hnL : n < L.length := by rw [← hn]; exact Nat.mod_lt _ hL0
  have htm : (t : Int).tmod (L.length : Int) = (n : Int) := by rw [← Int.ofNat_tmod, hn]
  have hwt : IntKind.i64.wrap (t : Int) = (t : Int) := IntWalk.i64_in _ (by omega)
  have hwq : IntKind.i64.wrap (q : Int) = (q : Int) := IntWalk.i64_in _ (by omega)
  have hl0 : ¬ (L.length : Int) = 0 := by omega
  replace hn := Lib.hid hn
  have HV := Lib.hid hv
  obtain ⟨T, hT⟩ : ∃ T, (rcs L).length = T := ⟨_, rfl⟩
  have hTt : tot L = T := by rw [← rcs_len, hT]
  have hmaxn : tot (L.take n) + (8 + (L.getD n []).length) ≤ T := by have h1 := tot_take_le L (n + 1); have h2 := tot_take_succ L n hnL; omega
  rw [hTt] at htot
  replace hT := Lib.hid hT
  replace hTt := Lib.hid hTt
  clear hfew hv
  go_enter Tryd.func6, Tryd.ntmps6
  go_wp2_with (first
    | (go_at_call 27; refine H1.out.mono ?_; rintro e w' ⟨rfl, rfl⟩)
    | (go_at_call 14; refine HJ.out.mono ?_; rintro e w1 ⟨v1, rfl, hm1, hb1⟩; obtain ⟨a1, cap1, rfl⟩ := hm1.form; rw [hT.out]; rw [hT.out] at hm1; replace hm1 := Lib.hid hm1))
  have HV1 := Lib.hid (HV.out.later (fun k hk => hk) hb1)
  have hH1 := hv_later hH hb1
  go_loop [13, 12] (fun i f => ∃ k : Nat, k ≤ n ∧ i = .int .i64 k ∧ f = .int .i64 (tot (L.take k) : Nat)) (fun i _ => n - (intOf i).toNat)
  case atStart => exact ⟨0, Nat.zero_le _, rfl, rfl⟩
  case round =>
    obtain ⟨k, hk, rfl, rfl⟩ := hrel
    have hkT : tot (L.take k) ≤ T := by have := tot_take_le L k; have := hTt.out; omega
    obtain ⟨b2, off2, s, rfl, _, hsc, hb'⟩ := HV1.out.at_ k (by omega)
    by_cases hlt : k < n
    · have hnx := tot_take_succ L k (by omega)
      have hm' : (L.getD k []).length ≤ 65536 := hs _ (getD_mem (by omega))
      generalize L.getD k [] = d at *
      obtain ⟨_, a', cap', rfl, _⟩ := (show Bs w1 (Old w) s d from hb')
      generalize tot (L.take k) = tk at *
      have HNX := Lib.hid hnx
      clear hnx
      go_wp2_with (go_at_call 16; refine (size_is _ _ d _ hb' (by omega)).mono ?_; rintro e w' ⟨rfl, rfl⟩)
      go_round
      case rel => exact ⟨k + 1, by omega, by go_num, by rw [HNX.out]; go_num⟩
      case measure => simp [intOf]; omega
    · obtain rfl : k = n := by omega
      have hd8 : (L.getD k []).length ≤ 65536 := hs _ (getD_mem (by omega))
      have hqq : q % (4 + (L.getD k []).length) < 4 + (L.getD k []).length := Nat.mod_lt _ (by omega)
      have hch := changed hbyt hs hnL hqq hx0 hx
      rw [← Nat.add_assoc] at hch
      have htq : (q : Int).tmod (4 + ((L.getD k []).length : Int)) = ((q % (4 + (L.getD k []).length) : Nat) : Int) := by
        have e : (4 : Int) + ((L.getD k []).length : Int) = ((4 + (L.getD k []).length : Nat) : Int) := by omega
        rw [e, ← Int.ofNat_tmod]
      generalize q % (4 + (L.getD k []).length) = qq at *
      generalize L.getD k [] = d at *
      generalize htk : tot (L.take k) = tk at *
      obtain ⟨g, rfl, hbg, hgl, hcell, hfz⟩ := hm1.out.open_ (by have := hT.out; omega)
      have hc1 := hcell (tk + 4 + qq) (by have := hT.out; omega)
      have hms := Lib.hid (fun m => Mine.store (w := w1.drewN m) ⟨hm1.out.own, hm1.out.h8⟩ hT.out (tk + 4 + qq) x hx)
      have hv8 := byte_lt hm1.out.h8 (tk + 4 + qq)
      have hfz1 := hfz (tk + 4 + qq)
      have hxr := u8_xor2 _ x hv8 hx
      generalize (rcs L).getD (tk + 4 + qq) 0 = v at *
      obtain ⟨_, a', cap', rfl, _⟩ := (show Bs w1 (Old w) s d from hb')
      have hbq : ∀ q, Bs (w1.drewN q) (Old w) (.slice a' d.length cap') d := fun q => hb'
      have hs1 : IntKind.i64.wrap ((tk : Int) + (8 + (d.length : Int))) = (tk : Int) + (8 + (d.length : Int)) := IntWalk.i64_in _ (by omega)
      have hs2 : IntKind.i64.wrap (8 + (d.length : Int)) = 8 + (d.length : Int) := IntWalk.i64_in _ (by omega)
      have hd1 : decide ((T : Int) < (tk : Int) + (8 + (d.length : Int))) = false := by simp; omega
      have hch := Lib.hid hch
      clear hcell hfz
      go_wp2
      go_quiet ((go_at_call 16; exact q_left (size_is _ _ d _ (hbq _) (by omega))))
      clear hs1 hs2 hd1 hbq hb'
      have hdq : ¬ (4 + (d.length : Int)) = 0 := by omega
      go_wp2_with fail
      have bel2 : Below w.heap.size w ((w1.drewN nq).setCell ⟨g, tk + 4 + qq, none⟩ (.int .u8 ((v ^^^ x : Nat) : Int))) := (drewN_b hb1 nq).setCell hbg _
      have m2 := hms.out nq
      obtain ⟨hc1', hc2', hc3'⟩ := hch.out
      have hlB : (chg (rcs L) (tk + 4 + qq) x).length = T := by rw [chg_len]; exact hT.out
      generalize chg (rcs L) (tk + 4 + qq) x = B at *
      generalize (w1.drewN nq).setCell ⟨g, tk + 4 + qq, none⟩ (.int .u8 ((v ^^^ x : Nat) : Int)) = W2 at *
      have hlk : (L.take k).length = k := by rw [List.length_take]; omega
      have hH2 := hv_later hH bel2
      have hA := all_is _ _ B (L.take k) hc1' W2 m2.bs (fun k hk => hk.2) hH2 (by omega)
      rw [hlk, htk] at hA
      have hce : checkE B = 13 := by
        unfold checkE
        rw [hc1', htk, if_neg (by omega), hc2']
      have HM := Lib.hid (fun W (h : Below W2.heap.size W2 W) => (m2.later h).bs)
      have hN := fun W (h : Below W2.heap.size W2 W) => (next_at _ _ B ((tk : Nat) : Int) W (HM.out W h) (fun k hk => hk.2) (hv_later hH2 h) (by omega)).mono fun e w' h => nextp h
      rw [lkE_in (by omega), hc2'] at hN
      have hK := fun W (h : Below W2.heap.size W2 W) => check_is _ _ B W (HM.out W h) (fun k hk => hk.2) (hv_later hH2 h) (by omega)
      rw [hce] at hK
      generalize lkX 13 ((tk : Nat) : Int).toNat = X at hN
      generalize lkN 13 ((tk : Nat) : Int).toNat (restC (B.drop ((tk : Nat) : Int).toNat)) = N at hN
      generalize lkC 13 (restC (B.drop ((tk : Nat) : Int).toNat)) = D at hN
      have HA := Lib.hid hA
      have HN := Lib.hid hN
      have HK := Lib.hid hK
      clear hA hN hK hce hlk hc1' hc2' hc3' hlB m2 hms hch htk hc1 hfz1 hxr hsc htq hdq
      refine HA.out.mono ?_
      rintro e w3 ⟨a3, cap3, rfl, _, hb3⟩
      go_wp2_with fail
      refine (HN.out _ hb3).mono ?_
      rintro e w4 ⟨a4, cap4, rfl, _, hb4⟩
      have hb24 : Below W2.heap.size W2 (w4.alloc (.cells #[.int .i64 X, .slice a4 D.length cap4] 32)) := hb3.trans ((hb4.trans (((Below.refl _ _).alloc (Nat.le_refl _) _).mono hb4.size)).mono hb3.size)
      go_wp2_with fail
      refine (HK.out _ hb24).mono ?_
      rintro e w5 ⟨rfl, hb5⟩
      have hb25 := hb24.trans (hb5.mono hb24.size)
      have bel5 := bel2.trans (hb25.mono bel2.size)
      go_wp2_with (go_at_call 11; refine (works_any _ (hv_later hH bel5)).mono ?_; rintro e w6 ⟨rfl, hb6⟩)
      go_ret
      exact ⟨rfl, bel5.trans (hb6.mono bel5.size)⟩
theorem w_frameChanged (a : Option Addr) (len cap : Nat) (L : List (List Nat)) (t q x : Int) (w : World) (w0 : L.length = len ∧ Bss w (Old w) (.slice a len cap) L ∧ len ≤ 9223372036854775807) (w1 : (Lit.int .u8 t).wf = true) (w2 : (Lit.int .u8 q).wf = true) (w3 : (Lit.int .u8 x).wf = true) (hH : Hv w) :
    Calls Tryd.prog 6 #[.slice a len cap, .int .u8 t, .int .u8 q, .int .u8 x] w fun e w' => e = .returned (.bool true) ∧ Below w.heap.size w w' := by
  obtain ⟨rfl, hv, hL⟩ := w0
  have b1 := bounds_u8 w1
  have b2 := bounds_u8 w2
  have b3 := bounds_u8 w3
  by_cases h : ¬ Few L ∨ L.length = 0 ∨ x = 0
  · exact changed_no a cap L t q x w hv hL hH h
  · obtain ⟨h1, h2⟩ := not_or.1 h
    obtain ⟨h2, h3⟩ := not_or.1 h2
    obtain ⟨t, rfl⟩ := Int.eq_ofNat_of_zero_le b1.1
    obtain ⟨q, rfl⟩ := Int.eq_ofNat_of_zero_le b2.1
    obtain ⟨x, rfl⟩ := Int.eq_ofNat_of_zero_le b3.1
    exact changed_go a cap L t q x w hv hH (Classical.not_not.1 h1) (by omega) (by omega) (by omega) (by omega) (by omega)
end Go.Proofs.YtfodgdcdpdlikaaDoor.Frame
