/- The document's Next. -/
import Derived.Test.YtojeccmnhgcmcaaDoorG18
namespace Go.Proofs.YtojeccmnhgcmcaaDoor.Frame
open Go.RowKit Go.ChangeShapes
open Crc (Hv more more_lt ret_u32)
set_option linter.unusedVariables false
set_option linter.unusedSimpArgs false

theorem nextE_ok (w : World) (k : Nat) (c : List Nat) (e : Ending) (w' : World) (v : Value) (h1 : e = .returned (.tuple #[.agg #[.int .i64 (k : Nat), v], .int .i64 ((k + (8 + c.length) : Nat) : Int), .int .i64 0])) (h2 : Mine w' w.heap.size v c) (h3 : Below w.heap.size w w') : NextE w k 0 c e w' := by
  refine ⟨v, ?_, ?_, h3⟩
  · unfold lkX lkN; rw [if_pos rfl, if_pos rfl]; exact h1
  · unfold lkC; rw [if_pos rfl]; exact h2
theorem nextE_no (w : World) (k E : Nat) (c : List Nat) (e : Ending) (w' : World) (hE : E ≠ 0) (h1 : e = .returned (.tuple #[.agg #[.int .i64 0, .slice none 0 0], .int .i64 0, .int .i64 (E : Nat)])) (h3 : Below w.heap.size w w') : NextE w k E c e w' := by
  refine ⟨.slice none 0 0, ?_, ?_, h3⟩
  · unfold lkX lkN; rw [if_neg hE, if_neg hE]; exact h1
  · unfold lkC; rw [if_neg hE]; exact nil_mine _ _
theorem rnext_out (F : Nat → Prop) (a : Option Addr) (cap : Nat) (b : List Nat) (x : Int) (k : Nat) (c : List Nat) (w : World) (hv : Bs w F (.slice a b.length cap) b) (hlen : b.length ≤ 100000000) (h : x < 0 ∨ (b.length : Int) < x) :
    Calls Tryd.prog 52 #[.slice a b.length cap, .int .i64 x] w (NextE w k 3 c) := by
  by_cases h0 : x < 0
  · have hd : decide (x < 0) = true := by simpa using h0
    go_enter Tryd.func52, Tryd.ntmps52
    go_wp2
    exact bodyPost_ret (v := .tuple #[.agg #[.int .i64 0, .slice none 0 0], .int .i64 0, .int .i64 3]) (by simp [results, Tryd.results52, go_sem]) rfl (nextE_no w k 3 c _ _ (by decide) rfl ((Below.refl _ _).alloc (Nat.le_refl _) _))
  · have hd : decide (x < 0) = false := by simpa using h0
    have hd2 : decide ((b.length : Int) < x) = true := by simp; omega
    go_enter Tryd.func52, Tryd.ntmps52
    go_wp2
    exact bodyPost_ret (v := .tuple #[.agg #[.int .i64 0, .slice none 0 0], .int .i64 0, .int .i64 3]) (by simp [results, Tryd.results52, go_sem]) rfl (nextE_no w k 3 c _ _ (by decide) rfl ((Below.refl _ _).alloc (Nat.le_refl _) _))
theorem rnext_end (F : Nat → Prop) (a : Option Addr) (cap : Nat) (b : List Nat) (k : Nat) (c : List Nat) (w : World) (hv : Bs w F (.slice a b.length cap) b) (hlen : b.length ≤ 100000000) :
    Calls Tryd.prog 52 #[.slice a b.length cap, .int .i64 (b.length : Nat)] w (NextE w k 5 c) := by
  have hd : decide (((b.length : Nat) : Int) < 0) = false := by simp
  have hd2 : decide ((b.length : Int) < (b.length : Int)) = false := by simp
  go_enter Tryd.func52, Tryd.ntmps52
  go_wp2
  exact bodyPost_ret (v := .tuple #[.agg #[.int .i64 0, .slice none 0 0], .int .i64 0, .int .i64 5]) (by simp [results, Tryd.results52, go_sem]) rfl (nextE_no w k 5 c _ _ (by decide) rfl ((Below.refl _ _).alloc (Nat.le_refl _) _))
theorem rnext_short (F : Nat → Prop) (a : Option Addr) (cap : Nat) (b : List Nat) (k : Nat) (c : List Nat) (w : World) (hv : Bs w F (.slice a b.length cap) b) (hlen : b.length ≤ 100000000) (hk : k < b.length) (h8 : b.length - k < 8) :
    Calls Tryd.prog 52 #[.slice a b.length cap, .int .i64 (k : Nat)] w (NextE w k 10 c) := by
  have hd : decide (((k : Nat) : Int) < 0) = false := by simp
  have hd2 : decide (b.length < k) = false := by simp; omega
  have hd3 : ((k : Int) == (b.length : Int)) = false := by simp; omega
  have hd4 : decide ((b.length : Int) - (k : Int) < 8) = true := by simp; omega
  go_enter Tryd.func52, Tryd.ntmps52
  go_wp2
  exact bodyPost_ret (v := .tuple #[.agg #[.int .i64 0, .slice none 0 0], .int .i64 0, .int .i64 10]) (by simp [results, Tryd.results52, go_sem]) rfl (nextE_no w k 10 c _ _ (by decide) rfl ((Below.refl _ _).alloc (Nat.le_refl _) _))
set_option maxRecDepth 100000 in
set_option maxHeartbeats 1000000 in
theorem rnext_more (F : Nat → Prop) (a : Option Addr) (cap : Nat) (b : List Nat) (k : Nat) (w : World) (hv : Bs w F (.slice a b.length cap) b) (hF : ∀ k, F k → k < w.heap.size) (hlen : b.length ≤ 100000000) (hk : k + 8 ≤ b.length) :
    Calls Tryd.prog 52 #[.slice a b.length cap, .int .i64 (k : Nat)] w (NextE w k (restE (b.drop k)) (restC (b.drop k))) := by
  have hv0 := hv
  obtain ⟨h8, a', cap', e0, hcap, hc⟩ := hv0
  injection e0 with e1 e2 e3
  subst e1 e3
  obtain ⟨blk, off, rfl, hFb, hcell⟩ := hc (by omega)
  have hlt := hF _ hFb
  have hA0 : ∀ W, Below w.heap.size w W → At4 W (.slice (some ⟨blk, off + k, none⟩) 4 (cap - k)) (b.drop k) := fun W hb => ⟨Byt.drop h8 k, by rw [List.length_drop]; omega, blk, off + k, _, rfl, fun i hi => by
    rw [hb.cell (p := ⟨blk, off + k + i, none⟩) hlt, Nat.add_assoc, hcell (k + i) (by omega)]
    congr 2
    rw [List.getD_eq_getElem?_getD, List.getD_eq_getElem?_getD, List.getElem?_drop]⟩
  have hA4 : ∀ W, Below w.heap.size w W → At4 W (.slice (some ⟨blk, off + (k + 4), none⟩) 4 (cap - (k + 4))) ((b.drop k).drop 4) := fun W hb => ⟨Byt.drop (Byt.drop h8 k) 4, by rw [List.length_drop, List.length_drop]; omega, blk, off + (k + 4), _, rfl, fun i hi => by
    rw [hb.cell (p := ⟨blk, off + (k + 4) + i, none⟩) hlt, Nat.add_assoc, hcell (k + 4 + i) (by omega)]
    congr 2
    rw [List.getD_eq_getElem?_getD, List.getD_eq_getElem?_getD, List.drop_drop, List.getElem?_drop]⟩
  have t0 : ∀ w, (Instr.slice 29 (.slice (some ⟨blk, off, none⟩) b.length cap) (some (.int .i64 ((k : Nat) : Int))) (some (.int .i64 ((k : Int) + 4))) none).run Tryd.prog w = .ok (.slice (some ⟨blk, off + k, none⟩) 4 (cap - k)) w := fun w => by
    have := mid_run (some ⟨blk, off, none⟩) b.length cap k (k + 4) (by omega) (by omega) w
    rw [cutA_some _ _ _ _ (by omega), Nat.add_sub_cancel_left] at this
    rw [← this]; congr 2
  have t4 : ∀ w, (Instr.slice 29 (.slice (some ⟨blk, off, none⟩) b.length cap) (some (.int .i64 ((k : Int) + 4))) (some (.int .i64 ((k : Int) + 8))) none).run Tryd.prog w = .ok (.slice (some ⟨blk, off + (k + 4), none⟩) 4 (cap - (k + 4))) w := fun w => by
    have := mid_run (some ⟨blk, off, none⟩) b.length cap (k + 4) (k + 8) (by omega) (by omega) w
    rw [cutA_some _ _ _ _ (by omega), show k + 8 - (k + 4) = 4 by omega] at this
    rw [← this]; congr 2
  have hd : decide (((k : Nat) : Int) < 0) = false := by simp
  have hd2 : decide (b.length < k) = false := by simp; omega
  have hd3 : ((k : Int) == (b.length : Int)) = false := by simp; omega
  have hd4 : decide ((b.length : Int) - (k : Int) < 8) = false := by simp; omega
  have hrl : (b.drop k).length = b.length - k := List.length_drop
  have hN0 := num4_lt (Byt.drop h8 k)
  have hM0 := num4_lt (Byt.drop (Byt.drop h8 k) 4)
  have hE := restE_ge (r := b.drop k) (by omega)
  rw [hrl] at hE
  have hCe : restC (b.drop k) = ((b.drop k).drop 8).take (num4 (b.drop k)) := rfl
  have hml : more 0 (restC (b.drop k)) < 4294967296 := more_lt 0 _ (by omega) ((Byt.drop (Byt.drop h8 k) 8).take _)
  have hC8 : Byt (restC (b.drop k)) := (Byt.drop (Byt.drop h8 k) 8).take _
  have n0 := fun W hb => number_any _ _ W (hA0 W hb)
  have n4 := fun W hb => number_any _ _ W (hA4 W hb)
  have hmid := fun (hi : Nat) (h : k + 8 + hi ≤ b.length) => hv.mid (k + 8) (k + 8 + hi) (by omega) h
  have hdt : ∀ hi, (b.take (k + 8 + hi)).drop (k + 8) = ((b.drop k).drop 8).take hi := fun hi => by
    rw [List.drop_drop, List.take_drop]
  generalize (b.drop k).drop 8 = r8 at *
  generalize num4 (b.drop k) = N at *
  generalize num4 ((b.drop k).drop 4) = M at *
  generalize restE (b.drop k) = E at *
  generalize restC (b.drop k) = c at *
  have HE := Lib.hid hE
  have HC := Lib.hid hCe
  have HN0 := Lib.hid n0
  have HN4 := Lib.hid n4
  have Hmid := Lib.hid hmid
  have Hdt := Lib.hid hdt
  clear hE hCe n0 n4 hA0 hA4 hmid hdt hrl hcell hc
  have hb0 : Below w.heap.size w (w.alloc (.cells #[.int .i64 0, .slice none 0 0] 69)) := (Below.refl _ _).alloc (Nat.le_refl _) _
  by_cases hbig : 65536 < N
  · have HE0 : E = 10 := by rw [HE.out, if_pos (.inl hbig)]
    subst HE0
    have hdb : decide ((65536 : Int) < (N : Int)) = true := by simp; omega
    replace hbig := Lib.hid hbig
    go_enter Tryd.func52, Tryd.ntmps52
    go_wp2_with fail
    refine (HN0.out _ hb0).mono ?_
    rintro e w1 ⟨rfl, hb1⟩
    have hR : Blk w1 w.heap.size [.int .i64 0, .slice none 0 0] 69 := Blk.later (heap_alloc_new w _) hb1
    have r0 := hR.cell 0 _ rfl
    have r1 := hR.cell 1 _ rfl
    have f0 := hR.free 0
    have f1 := hR.free 1
    have bel := hb0.trans (hb1.mono (by simp))
    go_wp2
    exact bodyPost_ret (v := .tuple #[.agg #[.int .i64 0, .slice none 0 0], .int .i64 0, .int .i64 10]) (by simp [results, Tryd.results52, go_sem, r0, r1]) rfl (nextE_no w k 10 c _ _ (by decide) rfl ((bel.setCell (p := ⟨w.heap.size, 0, none⟩) (Nat.le_refl _) _).setCell (p := ⟨w.heap.size, 1, none⟩) (Nat.le_refl _) _))
  have hdb : decide ((65536 : Int) < (N : Int)) = false := by simp; omega
  have hN5 : N ≤ 65536 := by omega
  clear hbig
  by_cases hfit : b.length - k - 8 < N
  · have HE0 : E = 10 := by rw [HE.out, if_pos (.inr hfit)]
    subst HE0
    have hdf : decide ((b.length : Int) - (k : Int) - 8 < (N : Int)) = true := by simp; omega
    replace hfit := Lib.hid hfit
    go_enter Tryd.func52, Tryd.ntmps52
    go_wp2_with fail
    refine (HN0.out _ hb0).mono ?_
    rintro e w1 ⟨rfl, hb1⟩
    have hR : Blk w1 w.heap.size [.int .i64 0, .slice none 0 0] 69 := Blk.later (heap_alloc_new w _) hb1
    have r0 := hR.cell 0 _ rfl
    have r1 := hR.cell 1 _ rfl
    have f0 := hR.free 0
    have f1 := hR.free 1
    have bel := hb0.trans (hb1.mono (by simp))
    go_wp2
    exact bodyPost_ret (v := .tuple #[.agg #[.int .i64 0, .slice none 0 0], .int .i64 0, .int .i64 10]) (by simp [results, Tryd.results52, go_sem, r0, r1]) rfl (nextE_no w k 10 c _ _ (by decide) rfl ((bel.setCell (p := ⟨w.heap.size, 0, none⟩) (Nat.le_refl _) _).setCell (p := ⟨w.heap.size, 1, none⟩) (Nat.le_refl _) _))
  have hdf : decide ((b.length : Int) - (k : Int) - 8 < (N : Int)) = false := by simp; omega
  have hkN : k + 8 + N ≤ b.length := by omega
  have hbm := Hmid.out N hkN
  rw [Hdt.out N, ← HC.out, Nat.add_sub_cancel_left] at hbm
  have hcl : c.length = N := by obtain ⟨_, _, _, e, _⟩ := hbm; injection e with _ e _; omega
  have t8 : ∀ w, (Instr.slice 29 (.slice (some ⟨blk, off, none⟩) b.length cap) (some (.int .i64 ((k : Int) + 8))) (some (.int .i64 ((k : Int) + 8 + (N : Int)))) none).run Tryd.prog w = .ok (.slice (cutA (some ⟨blk, off, none⟩) cap (k + 8)) N (cap - (k + 8))) w := fun w => by
    have := mid_run (some ⟨blk, off, none⟩) b.length cap (k + 8) (k + 8 + N) (by omega) (by omega) w
    rw [Nat.add_sub_cancel_left] at this
    rw [← this]; congr 2
  generalize cutA (some ⟨blk, off, none⟩) cap (k + 8) = a8 at *
  have hmw : IntKind.i64.wrap ((more 0 c : Nat) : Int) = ((more 0 c : Nat) : Int) := IntWalk.i64_in _ (by omega)
  obtain ⟨S, hS⟩ : ∃ S, more 0 c = S := ⟨_, rfl⟩
  rw [hS] at hmw hml
  have HSM : ∀ W u F', Bs W F' u c → Calls Tryd.prog 50 #[u] W fun e w' => e = .returned (.int .u32 (S : Nat)) ∧ W = w' := fun W u F' h => by
    have := ref_sum_any u F' c W h (by omega)
    rwa [hS] at this
  have HSM := Lib.hid HSM
  have HB := Lib.hid hbm
  replace hcl := Lib.hid hcl
  clear hfit hbm
  have tests : (E = 0 ∧ ((M : Int) != (S : Int)) = false) ∨ (E = 13 ∧ ((M : Int) != (S : Int)) = true) := by
    by_cases h : M = S
    · left; exact ⟨by rw [HE.out, if_neg (by omega), if_pos (by rw [hS]; exact h.symm)], by rw [h]; simp⟩
    · right; exact ⟨by rw [HE.out, if_neg (by omega), if_neg (by rw [hS]; exact fun h2 => h h2.symm)], by simp; omega⟩
  replace hS := Lib.hid hS
  rcases tests with ⟨rfl, hMS⟩ | ⟨rfl, hMS⟩
  all_goals
    go_enter Tryd.func52, Tryd.ntmps52
    go_wp2_with fail
    refine (HN0.out _ hb0).mono ?_
    rintro e w1 ⟨rfl, hb1⟩
    have bel1 := hb0.trans (hb1.mono (by simp))
    have hal : Below w1.heap.size w1 (w1.alloc (.cells #[] 5)) := (Below.refl _ _).alloc (Nat.le_refl _) _
    have hown : Mine (w1.alloc (.cells #[] 5)) w1.heap.size (.slice (some ⟨w1.heap.size, 0, none⟩) 0 0) [] := own_lit w1 [] (fun c hc => absurd hc List.not_mem_nil) (by decide)
    have HO := Lib.hid hown
    have bel2 := bel1.trans (hal.mono bel1.size)
    have HB2 := Lib.hid (HB.out.kept (Same.of_below bel2 hF))
    clear hown
    go_wp2_with (first
      | (at_builtin; refine wpList_append_b rfl _ _ rfl w1.heap.size _ 0 [] rfl HO.out.own F a8 N (cap - (k + 8)) c rfl HB2.out (by omega) (by simp) ?_; intro v3 w3 hown3 hg3 _; have hb13 : Below w1.heap.size w1 w3 := hal.grown hg3 (by simp) (fun k hk => (own_lt HO.out.own k hk).1); have m3 : Mine w3 w1.heap.size v3 c := by { have := mine_app HO.out hC8 hown3; rwa [List.nil_append] at this }; clear hown3 hg3; obtain ⟨a3, cap3, rfl⟩ := m3.form; have m3 := Lib.hid m3; have bel3 := bel1.trans (hb13.mono bel1.size)))
    refine (HN4.out _ bel3).mono ?_
    rintro e w4 ⟨rfl, hb4⟩
    have m4 := Lib.hid (m3.out.later hb4)
    have bel4 := bel3.trans (hb4.mono bel3.size)
    have hR : Blk w4 w.heap.size [.int .i64 0, .slice none 0 0] 69 := Blk.later (Blk.later (Blk.later (heap_alloc_new w _) hb1) hb13) hb4
    have r0 := hR.cell 0 _ rfl
    have r1 := hR.cell 1 _ rfl
    have f0 := hR.free 0
    have f1 := hR.free 1
    have hw1 := hb1.size
    rw [World.size_alloc] at hw1
    go_wp2_with fail
    refine (HSM.out _ _ _ m4.out.bs).mono ?_
    rintro e w' ⟨rfl, rfl⟩
    go_wp2
  · refine bodyPost_ret (v := .tuple #[.agg #[.int .i64 (k : Nat), .slice a3 c.length cap3], .int .i64 ((k : Int) + 8 + (N : Int)), .int .i64 0]) (by simp [results, Tryd.results52, go_sem, r0, r1]) rfl (nextE_ok w k c _ _ (.slice a3 c.length cap3) ?_ ?_ ?_)
    · have e : ((k + (8 + c.length) : Nat) : Int) = (k : Int) + 8 + (N : Int) := by rw [hcl.out]; omega
      rw [e]
    · exact ((m4.out.setOther _ _ (by show w.heap.size < _; omega)).setOther _ _ (by show w.heap.size < _; omega)).wide (by omega)
    · exact (bel4.setCell (p := ⟨w.heap.size, 0, none⟩) (Nat.le_refl _) _).setCell (p := ⟨w.heap.size, 1, none⟩) (Nat.le_refl _) _
  · exact bodyPost_ret (v := .tuple #[.agg #[.int .i64 0, .slice none 0 0], .int .i64 0, .int .i64 13]) (by simp [results, Tryd.results52, go_sem, r0, r1]) rfl (nextE_no w k 13 c _ _ (by decide) rfl ((bel4.setCell (p := ⟨w.heap.size, 0, none⟩) (Nat.le_refl _) _).setCell (p := ⟨w.heap.size, 1, none⟩) (Nat.le_refl _) _))
theorem rnext_at (F : Nat → Prop) (v : Value) (b : List Nat) (x : Int) (w : World) (hv : Bs w F v b) (hF : ∀ k, F k → k < w.heap.size) (hlen : b.length ≤ 100000000) :
    Calls Tryd.prog 52 #[v, .int .i64 x] w (NextA w b x) := by
  have hv0 := hv
  obtain ⟨_, a, cap, rfl, _⟩ := hv0
  unfold NextA
  by_cases h : x < 0 ∨ (b.length : Int) < x
  · rw [lkE_out h]
    exact rnext_out F a cap b x _ _ w hv hlen h
  · obtain ⟨k, rfl⟩ := Int.eq_ofNat_of_zero_le (show 0 ≤ x by omega)
    rw [lkE_in (by omega), Int.toNat_natCast]
    rcases Nat.lt_or_ge b.length (k + 8) with h | h
    · rcases Nat.lt_or_ge k b.length with h1 | h1
      · have e : restE (b.drop k) = 10 := by unfold restE; rw [List.length_drop, if_neg (by omega), if_pos (by omega)]
        rw [e]
        exact rnext_short F a cap b k _ w hv hlen h1 (by omega)
      · obtain rfl : k = b.length := by omega
        have e : restE (b.drop b.length) = 5 := restE_nil.2 (by rw [List.length_drop]; omega)
        rw [e]
        exact rnext_end F a cap b _ _ w hv hlen
    · exact rnext_more F a cap b k w hv hF hlen h
end Go.Proofs.YtojeccmnhgcmcaaDoor.Frame
