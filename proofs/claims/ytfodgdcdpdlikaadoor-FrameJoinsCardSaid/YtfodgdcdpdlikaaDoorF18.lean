/- The document's Make, Join and Size; the walk of FrameMakes. -/
import Derived.Test.YtfodgdcdpdlikaaDoorF16
namespace Go.Proofs.YtfodgdcdpdlikaaDoor.Frame
open Go.RowKit Go.ChangeShapes
open Crc (Hv more more_lt ret_u32)
set_option linter.unusedVariables false
set_option linter.unusedSimpArgs false

theorem own_lit (w : World) (l : List Nat) (h8 : Byt l) (h : l.length ≤ 1000) : Mine (w.alloc (.cells (bv l).toArray 5)) w.heap.size (.slice (some ⟨w.heap.size, 0, none⟩) l.length l.length) l :=
  ⟨⟨by rw [bv_len, Nat.mul_one], .inr ⟨w.heap.size, l.length, (bv l).toArray, rfl, Nat.le_refl _, heap_alloc_new w _, Nat.le_refl _, by unfold maxLen; omega, by simp [bv_len], by rw [Nat.mul_one, ← bv_len l, List.take_length]⟩⟩, h8⟩
theorem ref_size_is (v : Value) (F : Nat → Prop) (l : List Nat) (w : World) (hv : Bs w F v l) (hlen : l.length ≤ 100000000) :
    Calls Tryd.prog 17 #[v] w fun e w' => e = .returned (.int .i64 ((8 + l.length : Nat) : Int)) ∧ w = w' := by
  obtain ⟨_, a, cap, rfl, _⟩ := hv
  go_enter Tryd.func17, Tryd.ntmps17
  go_wp2
  go_ret
  exact ⟨ret_i64 (by omega), rfl⟩
theorem rmake_long (F : Nat → Prop) (v : Value) (c : List Nat) (w : World) (hv : Bs w F v c) (h : 65536 < c.length) :
    Calls Tryd.prog 13 #[v] w (JoinR w w.heap.size [] 11) := by
  obtain ⟨_, a, cap, rfl, _⟩ := hv
  have hd : decide ((65536 : Int) < (c.length : Int)) = true := by simp; omega
  replace h := Lib.hid h
  go_enter Tryd.func13, Tryd.ntmps13
  go_wp2
  go_ret2
  exact ⟨_, rfl, nil_mine _ _, Below.refl _ _⟩
set_option maxHeartbeats 1000000 in
theorem rmake_ok (F : Nat → Prop) (v : Value) (c : List Nat) (w : World) (hv : Bs w F v c) (hF : ∀ k, F k → k < w.heap.size) (h : c.length ≤ 65536) :
    Calls Tryd.prog 13 #[v] w (JoinR w w.heap.size (rc c) 0) := by
  have hv0 := hv
  obtain ⟨h8, a, cap, rfl, _, _⟩ := hv0
  have hdm : decide ((65536 : Int) < (c.length : Int)) = false := by simp; omega
  have hwu : IntKind.u32.wrap (c.length : Int) = c.length := by rw [IntKind.wrap_u32']; omega
  have ml := more_lt 0 c (by omega) h8
  have hrc : hd c ++ c = rc c := rfl
  have hb1 : Below w.heap.size w (w.alloc (.cells (bv (be4 c.length)).toArray 5)) := (Below.refl _ _).alloc (Nat.le_refl _) _
  have hb2 : Below w.heap.size w ((w.alloc (.cells (bv (be4 c.length)).toArray 5)).alloc (.cells (bv (be4 (more 0 c))).toArray 5)) := hb1.alloc hb1.size _
  have m1 := own_lit w (be4 c.length) (be4_lt _) (by rw [be4_len]; omega)
  have m2 := Lib.hid (m1.later ((Below.refl _ (w.alloc (.cells (bv (be4 c.length)).toArray 5))).alloc (Nat.le_refl _) (.cells (bv (be4 (more 0 c))).toArray 5)))
  have B2 : Blk ((w.alloc (.cells (bv (be4 c.length)).toArray 5)).alloc (.cells (bv (be4 (more 0 c))).toArray 5)) (w.heap.size + 1) (bv (be4 (more 0 c))) 5 := by
    have := heap_alloc_new (w.alloc (.cells (bv (be4 c.length)).toArray 5)) (.cells (bv (be4 (more 0 c))).toArray 5)
    rwa [World.size_alloc] at this
  have bs2 := Lib.hid (B2.bs (be4_lt _) (Nat.le_refl 4))
  have hv1 := Lib.hid (hv.kept (Same.of_below hb1 hF))
  clear m1 B2
  have HV := Lib.hid hv
  clear hv
  go_enter Tryd.func13, Tryd.ntmps13
  go_wp2_with fail
  refine (four_any c.length (by omega) _).mono ?_
  rintro e w' ⟨rfl, rfl⟩
  go_wp2_with fail
  refine (ref_sum_any _ F c _ hv1.out (by omega)).mono ?_
  rintro e w' ⟨rfl, rfl⟩
  go_wp2_with fail
  refine (four_any (more 0 c) ml _).mono ?_
  rintro e w' ⟨rfl, rfl⟩
  rw [World.size_alloc]
  go_wp2_with (first
    | (at_builtin; refine wpList_append_b rfl _ _ rfl w.heap.size _ 4 (bv (be4 c.length)) rfl m2.out.own _ (some ⟨w.heap.size + 1, 0, none⟩) 4 4 (be4 (more 0 c)) rfl bs2.out (by omega) hb2.size ?_; intro v3 w3 hown3 hg3 _; have m3 : Mine w3 w.heap.size v3 (hd c) := mine_app m2.out (be4_lt _) hown3; have bel3 := grown_bel hb2 m2.out.own hg3 hb2.size; clear hown3 hg3; obtain ⟨a3, cap3, rfl⟩ := m3.form; have m3 := Lib.hid m3)
    | (at_builtin; refine wpList_append_b rfl _ _ rfl w.heap.size _ 8 (bv (hd c)) rfl m3.out.own _ a c.length cap c rfl (HV.out.kept (Same.of_below bel3 hF)) (by omega) bel3.size ?_; intro v4 w4 hown4 hg4 _; have m4 : Mine w4 w.heap.size v4 (hd c ++ c) := mine_app m3.out h8 hown4; have bel4 := grown_bel bel3 m3.out.own hg4 bel3.size; clear hown4 hg4; obtain ⟨a4, cap4, rfl⟩ := m4.form; have m4 := Lib.hid m4))
  go_ret2
  exact ⟨_, rfl, m4.out, bel4⟩
theorem rmake_any (F : Nat → Prop) (v : Value) (c : List Nat) (w : World) (hv : Bs w F v c) (hF : ∀ k, F k → k < w.heap.size) :
    Calls Tryd.prog 13 #[v] w (JoinR w w.heap.size (makeL c) (makeE c : Nat)) := by
  unfold makeL makeE
  by_cases h : 65536 < c.length
  · rw [if_pos h, if_pos h]; exact rmake_long F v c w hv h
  · rw [if_neg h, if_neg h]; exact rmake_ok F v c w hv hF (by omega)

theorem rjoin_many (F : Nat → Prop) (v : Value) (L : List (List Nat)) (w : World) (hv : Bss w F v L) (hL : 10000 < L.length) (hL2 : L.length ≤ 9223372036854775807) :
    Calls Tryd.prog 15 #[v] w (JoinR w w.heap.size [] 12) := by
  obtain ⟨a, cap, rfl, _⟩ := hv
  have hd : decide ((10000 : Int) < (L.length : Int)) = true := by simp; omega
  replace hL := Lib.hid hL
  go_enter Tryd.func15, Tryd.ntmps15
  go_wp2
  go_ret2
  exact ⟨_, rfl, nil_mine _ _, Below.refl _ _⟩
set_option maxHeartbeats 1000000 in
theorem rjoin_few (F : Nat → Prop) (v : Value) (L : List (List Nat)) (w : World) (hv : Bss w F v L) (hF : ∀ k, F k → k < w.heap.size) (hL : L.length ≤ 10000) :
    Calls Tryd.prog 15 #[v] w (JoinR w w.heap.size (joinL L) (joinE L : Nat)) := by
  have hj : joinE L = if ∀ c ∈ L, Short c then 0 else 11 := by unfold joinE; rw [if_neg (by omega)]
  have hjl : joinL L = if joinE L = 0 then rcs L else [] := rfl
  generalize joinE L = E at *
  generalize joinL L = R at *
  have HE := Lib.hid hj
  have HR := Lib.hid hjl
  clear hj hjl
  have hv0 := hv
  obtain ⟨a, cap, rfl, hcap, _⟩ := hv0
  have HV := Lib.hid hv
  have hdm : decide ((10000 : Int) < (L.length : Int)) = false := by simp; omega
  have hfirst : JAt w L 0 (.slice none 0 0) w := ⟨nil_mine _ _, Below.refl _ _⟩
  clear hv
  go_enter Tryd.func15, Tryd.ntmps15
  go_wp2
  go_loopw [4, 5] (fun u i wr => ∃ k : Nat, k ≤ L.length ∧ i = .int .i64 k ∧ JAt w L k u wr ∧ ∀ c ∈ L.take k, Short c) (fun _ i _ => L.length - (intOf i).toNat)
  case atStart => exact ⟨0, Nat.zero_le _, rfl, hfirst, fun c hc => absurd hc List.not_mem_nil⟩
  case round =>
    obtain ⟨k, hk, rfl, hJ, hall⟩ := hrel
    by_cases hlt : k < L.length
    · have hFr : ∀ k, F k → k < wr.heap.size := fun k hk => Nat.lt_of_lt_of_le (hF k hk) hJ.bel.size
      obtain ⟨b, off, s, eb, _, hs, hb⟩ := (HV.out.later hF hJ.bel).at_ k hlt
      cases eb
      have hn := rcs_take_succ L k hlt
      have hst := fun h => take_all hlt Short hall h
      have hmem := getD_mem hlt
      have ht1 : (rcs (L.take k)).length ≤ 655440000 := by
        rw [rcs_len]
        have := tot_le (L.take k) hall
        rw [List.length_take] at this
        omega
      have hmine := hJ.mine
      have hbel := hJ.bel
      generalize hd' : L.getD k [] = c at *
      have h8c := hb.1
      have hcat : rcs (L.take k) ++ hd c ++ c = rcs (L.take k) ++ rc c := by rw [List.append_assoc]; rfl
      rw [hcat] at hn
      have HJ : ∀ v w', Mine w' w.heap.size v (rcs (L.take k) ++ rc c) → Below w.heap.size w w' → JAt w L (k + 1) v w' := fun v w' h1 h2 => ⟨by rw [hn]; exact h1, h2⟩
      generalize rcs (L.take k) = Q at *
      replace HJ := Lib.hid HJ
      replace hst := Lib.hid hst
      replace hmem := Lib.hid hmem
      replace hall := Lib.hid hall
      clear hn hcat hJ hfirst hd'
      obtain ⟨a2, cap2, rfl⟩ := hmine.form
      obtain ⟨_, a', cap', rfl, _⟩ := (show Bs wr F s c from hb)
      by_cases hsh : c.length ≤ 65536
      · have hmk := rmake_ok F _ c wr hb hFr hsh
        have hrl := rc_len c
        have hr8 := rc_byt h8c
        generalize rc c = rcc at *
        have HMK := Lib.hid hmk
        have hrl2 : rcc.length ≤ 65544 := by omega
        have Hm := Lib.hid hmine
        clear hmk hrl hmine
        go_wp2_with fail
        refine HMK.out.mono ?_
        rintro e w2 ⟨v2, rfl, hm2, hb2⟩
        have bel2 := hbel.trans (hb2.mono hbel.size)
        have m2 := Lib.hid (Hm.out.later hb2)
        obtain ⟨a5, cap5, rfl⟩ := hm2.form
        have HM2 := Lib.hid hm2
        clear hm2
        go_wp2_with (first
          | (at_builtin; refine wpList_append_b rfl _ _ rfl w.heap.size _ Q.length (bv Q) rfl m2.out.own _ a5 rcc.length cap5 rcc rfl HM2.out.bs (by omega) bel2.size ?_; intro v4 w4 hown4 hg4 _; have m4 := mine_app m2.out hr8 hown4; have bel4 := grown_bel bel2 m2.out.own hg4 bel2.size; clear hown4 hg4))
        go_roundw
        case rel => exact ⟨k + 1, by omega, by go_num, HJ.out _ _ m4 bel4, hst.out hsh⟩
        case measure => simp [intOf]; omega
      · have hmk := Lib.hid (rmake_long F _ c wr hb (by omega))
        have hE : E = 11 := by rw [HE.out, if_neg (fun h => hsh (h c hmem.out))]
        have hR : R = [] := by rw [HR.out, hE, if_neg (by omega)]
        subst hE hR
        replace hsh := Lib.hid hsh
        go_wp2_with fail
        refine hmk.out.mono ?_
        rintro e w2 ⟨v2, rfl, hm2, hb2⟩
        obtain ⟨a5, cap5, rfl⟩ := hm2.form
        go_wp2
        go_ret2
        exact ⟨_, rfl, nil_mine _ _, hbel.trans (hb2.mono hbel.size)⟩
    · obtain rfl : k = L.length := by omega
      rw [List.take_length] at hall
      have hE : E = 0 := by rw [HE.out, if_pos hall]
      have hR : R = rcs L := by rw [HR.out, hE, if_pos rfl]
      subst hE hR
      have hm := hJ.mine
      have hbel := hJ.bel
      rw [List.take_length] at hm
      obtain ⟨a2, cap2, rfl⟩ := hm.form
      have hm := Lib.hid hm
      replace hall := Lib.hid hall
      clear hJ
      go_wp2
      go_ret2
      exact ⟨_, rfl, hm.out, hbel⟩
theorem rjoin_any (F : Nat → Prop) (v : Value) (L : List (List Nat)) (w : World) (hv : Bss w F v L) (hF : ∀ k, F k → k < w.heap.size) (hL2 : L.length ≤ 9223372036854775807) :
    Calls Tryd.prog 15 #[v] w (JoinR w w.heap.size (joinL L) (joinE L : Nat)) := by
  by_cases h1 : 10000 < L.length
  · have e : joinE L = 12 := by unfold joinE; rw [if_pos h1]
    have e2 : joinL L = [] := by unfold joinL; rw [e, if_neg (by omega)]
    rw [e, e2]
    exact rjoin_many F v L w hv h1 hL2
  · exact rjoin_few F v L w hv hF (by omega)
end Go.Proofs.YtfodgdcdpdlikaaDoor.Frame
