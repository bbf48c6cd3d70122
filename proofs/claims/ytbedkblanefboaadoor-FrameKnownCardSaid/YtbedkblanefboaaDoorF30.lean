/- FrameKnown: slices that are made, whole; the walk (not whole). -/
import Derived.Test.YtbedkblanefboaaDoorF29
import Derived.Test.YtbedkblanefboaaDoorF20
import Derived.OwnWalk
namespace Go.Proofs.YtbedkblanefboaaDoor.Frame
open Go.RowKit Go.ChangeShapes
open Crc (Hv more more_lt ret_u32)
set_option linter.unusedVariables false
set_option linter.unusedSimpArgs false

theorem made_bytes {w : World} {base n : Nat} {v : Value} (h : w.ownsRow base 5 1 v n (madeCells (Value.int .u8 0).cells (n * 1)).toList) : w.ownsRow base 5 1 v n (bv (zeros n)) := by
  rw [bv_zeros]
  rw [Nat.mul_one] at h
  rwa [show (Value.int .u8 0).cells = #[Value.int .u8 0] from rfl, made_rep] at h
theorem made_nils {w : World} {base n : Nat} {v : Value} (h : w.ownsRow base 22 1 v n (madeCells (Value.slice none 0 0).cells (n * 1)).toList) : w.ownsRow base 22 1 v n (List.replicate n (.slice none 0 0)) := by
  rw [Nat.mul_one] at h
  rwa [show (Value.slice none 0 0).cells = #[Value.slice none 0 0] from rfl, made_rep] at h
theorem zeros_take (n k : Nat) (h : k ≤ n) : (zeros n).take k = zeros k := by unfold zeros; rw [List.take_replicate, Nat.min_eq_left h]
theorem bss_nils {w : World} {base n : Nat} {v : Value} (h : w.ownsRow base 22 1 v n (List.replicate n (.slice none 0 0))) : Bss w (fun k => v.ownBlock = some k) v (nones n) := by
  rcases h.2 with ⟨rfl, rfl⟩ | ⟨g, cap, cur, hv, _, _, hnc, _⟩
  · exact Bss.nil _ _
  · subst hv
    refine ⟨_, _, by rw [nones_len], by rw [nones_len]; exact hnc, fun hp => ⟨g, 0, rfl, rfl, fun i hi => ?_⟩⟩
    rw [nones_len] at hi
    refine ⟨.slice none 0 0, ?_, ?_⟩
    · rw [Nat.zero_add, h.cellAt i (by simpa using hi), List.getElem?_replicate, if_pos hi]
    · rw [nones_get]
      exact Bs.nil _ _ _ _
theorem info_sl : (Tryd.prog.info? 22).map (fun i => (i.zero, i.size, i.bytes)) = some (some (.slice none 0 0), 1, 24) := by kernel_rfl
theorem two_bss (w : World) (F : Nat → Prop) (m : Value) (l : List Nat) (hm : Bs w F m l) (hF : ∀ k, F k → k < w.heap.size) :
    Bss ((w.alloc (.cells #[.int .u8 1] 5)).alloc (.cells #[.slice (some ⟨w.heap.size, 0, none⟩) 1 1, m] 22)) (fun k => F k ∨ k = w.heap.size ∨ k = w.heap.size + 1) (.slice (some ⟨w.heap.size + 1, 0, none⟩) 2 2) [[1], l] := by
  have b1 : Below w.heap.size w (w.alloc (.cells #[.int .u8 1] 5)) := (Below.refl _ _).alloc (Nat.le_refl _) _
  have b2 : ∀ o, Below (w.alloc (.cells #[.int .u8 1] 5)).heap.size (w.alloc (.cells #[.int .u8 1] 5)) ((w.alloc (.cells #[.int .u8 1] 5)).alloc o) := fun o => (Below.refl _ _).alloc (Nat.le_refl _) _
  have hB : Blk ((w.alloc (.cells #[.int .u8 1] 5)).alloc (.cells #[.slice (some ⟨w.heap.size, 0, none⟩) 1 1, m] 22)) (w.heap.size + 1) [.slice (some ⟨w.heap.size, 0, none⟩) 1 1, m] 22 := by
    have := heap_alloc_new (w.alloc (.cells #[.int .u8 1] 5)) (.cells #[.slice (some ⟨w.heap.size, 0, none⟩) 1 1, m] 22)
    rw [World.size_alloc] at this
    exact this
  have h1 := (bs_frozen w [1] 5 (0, 0) (by unfold Byt; decide)).kept (Same.of_below (b2 (.cells #[.slice (some ⟨w.heap.size, 0, none⟩) 1 1, m] 22)) (fun k hk => by rw [hk]; simp))
  have h2 := hm.kept (Same.of_below (b1.trans ((b2 (.cells #[.slice (some ⟨w.heap.size, 0, none⟩) 1 1, m] 22)).mono b1.size)) hF)
  refine ⟨_, _, rfl, Nat.le_refl _, fun _ => ⟨w.heap.size + 1, 0, rfl, Or.inr (Or.inr rfl), fun i hi => ?_⟩⟩
  match i, hi with
  | 0, _ => exact ⟨_, hB.cell 0 _ rfl, h1.wide fun k hk => Or.inr (Or.inl hk)⟩
  | 1, _ => exact ⟨_, hB.cell 1 _ rfl, h2.wide fun k hk => Or.inl hk⟩
theorem own_eight (w : World) : (w.alloc (.cells #[.int .u8 0, .int .u8 1, .int .u8 0, .int .u8 1, .int .u8 0, .int .u8 0, .int .u8 0, .int .u8 0] 5)).ownsRow w.heap.size 5 1 (.slice (some ⟨w.heap.size, 0, none⟩) 8 8) 8 (bv hl0) :=
  ⟨rfl, .inr ⟨w.heap.size, 8, #[.int .u8 0, .int .u8 1, .int .u8 0, .int .u8 1, .int .u8 0, .int .u8 0, .int .u8 0, .int .u8 0], rfl, Nat.le_refl _, heap_alloc_new _ _, Nat.le_refl _, by unfold maxLen; omega, rfl, rfl⟩⟩
theorem long_len : (hl0 ++ zeros 65537).length = 65545 := by rw [List.length_append, zeros_len]; rfl
theorem mine_opened {w : World} {base n cap : Nat} {a : Option Addr} {l : List Nat} (h : Mine w base (.slice a n cap) l) (hl : 0 < l.length) :
    ∃ g, a = some ⟨g, 0, none⟩ ∧ base ≤ g ∧ g < w.heap.size ∧ (∀ j, j < l.length → w.cell? ⟨g, j, none⟩ = some (.int .u8 (l.getD j 0 : Nat))) ∧ ∀ j, w.frozen? ⟨g, j, none⟩ = false := by
  have hb := h.bs
  rcases h.own.2 with ⟨_, h0⟩ | ⟨g, cap2, cur, e, hbg, hg, _⟩
  · omega
  · injection e with e1 _ _
    subst e1
    obtain ⟨_, a', cap', e, _, hc⟩ := hb
    injection e with e1 _ _
    obtain ⟨b, off, ha, hF, hcell⟩ := hc hl
    rw [← e1] at ha
    injection ha with ha
    injection ha with e2 e3 _
    subst e2 e3
    refine ⟨g, rfl, hbg, hF.2, fun j hj => ?_, fun j => blk_frozen hg j⟩
    have := hcell j hj
    rwa [Nat.zero_add] at this
theorem mine_put5 {w : World} {base g cap : Nat} (h : Mine w base (.slice (some ⟨g, 0, none⟩) ze.length cap) ze) : Mine (w.setCell ⟨g, 5, none⟩ (.int .u8 1)) base (.slice (some ⟨g, 0, none⟩) ze.length cap) (ze.set 5 1) := by
  have := (h.own.stored 5 (.int .u8 1)).1
  exact ⟨this, by unfold Byt; decide⟩
set_option maxRecDepth 100000 in
set_option maxHeartbeats 1000000 in
theorem known_go (w : World) (hH : Hv w) :
    Calls Tryd.prog 10 #[] w fun e w' => e = .returned (.bool true) ∧ Below w.heap.size w w' := by
  obtain ⟨i0, hi, hz0, hz1, hz2⟩ := info_parts info_u8
  obtain ⟨i1, ki, kz0, kz1, kz2⟩ := info_parts info_sl
  have G0 := Lib.hid (show Got w w from ⟨hH, Below.refl _ _⟩)
  go_enter Tryd.func10, Tryd.ntmps10
  go_wp2_with (first
    | (at_make; refine wpList_make_full _ rfl _ _ 22 rfl w.heap.size 5 i0 (.int .u8 0) 1 Tryd.underlying22 hi hz0 hz1 _ _ _ _ 65537 rfl rfl rfl rfl (by rw [hz2]; decide) (by unfold maxLen; decide) (Nat.le_refl _) ?_; intro w1 hown hg1; have hb1 : Below w.heap.size w w1 := (Below.refl _ _).grown hg1 (Nat.le_refl _) (fun _ h => by cases h); have ow1 := Lib.hid (made_bytes hown); have G1 := Lib.hid (G0.out.later hb1); clear hown hg1))
  have lt1 := Lib.hid (fun k hk => (own_lt ow1.out k hk).2)
  have bs1 := Lib.hid (own_bs ow1.out (zeros_byt 65537))
  have bu1 := bs1.out.upto 65536 (by rw [zeros_len]; decide)
  rw [zeros_take 65537 65536 (by decide)] at bu1
  refine (make_is _ _ (zeros 65536) _ 0 rfl make_most.1 w1 bu1 lt1.out G1.out.hv).mono ?_
  clear bu1
  rintro e w2 ⟨v2, rfl, hm2, hb2⟩
  obtain ⟨a2, c2, hv2⟩ := hm2.form
  rw [make_most.2] at hv2
  subst hv2
  clear hm2
  have G2 := Lib.hid (G1.out.later hb2)
  have bs2 := Lib.hid (bs1.out.kept (Same.of_below hb2 lt1.out))
  have lt2 := Lib.hid (fun k hk => Nat.lt_of_lt_of_le (lt1.out k hk) hb2.size)
  clear hb2 lt1 bs1 G1 G0
  go_wp2_with fail
  refine (make_is _ _ (zeros 65537) [] 11 make_over.2 make_over.1 w2 bs2.out lt2.out G2.out.hv).mono ?_
  rintro e w3 ⟨v3, rfl, hm3, hb3⟩
  obtain ⟨a3, c3, rfl⟩ := hm3.form
  clear hm3
  have G3 := Lib.hid (G2.out.later hb3)
  have bs3 := Lib.hid (bs2.out.kept (Same.of_below hb3 lt2.out))
  have lt3 := Lib.hid (fun k hk => Nat.lt_of_lt_of_le (lt2.out k hk) hb3.size)
  clear hb3 lt2 bs2 G2
  go_wp2_with fail
  refine (make_is (fun _ => False) _ [] ze 0 make_none.1 make_none.2 w3 (Bs.nil w3 _ none 0) (fun k hk => hk.elim) G3.out.hv).mono ?_
  rintro e w4 ⟨v4, rfl, hm4, hb4⟩
  obtain ⟨a4, c4, rfl⟩ := hm4.form
  have hm4 := Lib.hid hm4
  have G4 := Lib.hid (G3.out.later hb4)
  have bs4 := Lib.hid (bs3.out.kept (Same.of_below hb4 lt3.out))
  have lt4 := Lib.hid (fun k hk => Nat.lt_of_lt_of_le (lt3.out k hk) hb4.size)
  have sz3 := lt3.out w.heap.size rfl
  clear hb4 lt3 bs3 G3
  go_wp2_with (first
    | (at_make; refine wpList_make_full _ rfl _ _ 23 rfl w4.heap.size 22 i1 (.slice none 0 0) 1 Tryd.underlying23 ki kz0 kz1 _ _ _ _ 10001 rfl rfl rfl rfl (by rw [kz2]; decide) (by unfold maxLen; decide) (Nat.le_refl _) ?_; intro w5 hown hg5; have hb5 : Below w4.heap.size w4 w5 := (Below.refl _ _).grown hg5 (Nat.le_refl _) (fun _ h => by cases h); have ow5 := Lib.hid (made_nils hown); clear hown hg5)
    | fail)
  have G5 := Lib.hid (G4.out.later hb5)
  have bs5 := Lib.hid (bs4.out.kept (Same.of_below hb5 lt4.out))
  have lt5 := Lib.hid (fun k hk => Nat.lt_of_lt_of_le (lt4.out k hk) hb5.size)
  have hm5 := Lib.hid (hm4.out.later hb5)
  clear hb5 lt4 bs4 G4 hm4
  have hJ := join_any _ _ (nones 10001) w5 (bss_nils ow5.out) (fun k hk => (own_lt ow5.out k hk).2) G5.out.hv (by rw [nones_len]; decide)
  rw [join_over.1, join_over.2] at hJ
  refine hJ.mono ?_
  clear hJ
  rintro e w6 ⟨v6, rfl, hm6, hb6⟩
  obtain ⟨a6, c6, rfl⟩ := hm6.form
  clear hm6
  have G6 := Lib.hid (G5.out.later hb6)
  have bs6 := Lib.hid (bs5.out.kept (Same.of_below hb6 lt5.out))
  have lt6 := Lib.hid (fun k hk => Nat.lt_of_lt_of_le (lt5.out k hk) hb6.size)
  have hn6 := Lib.hid (hm5.out.later hb6)
  clear hb6 lt5 bs5 G5 hm5 ow5
  go_wp2_with (first
    | (at_make; refine wpList_make_full _ rfl _ _ 23 rfl w6.heap.size 22 i1 (.slice none 0 0) 1 Tryd.underlying23 ki kz0 kz1 _ _ _ _ 10000 rfl rfl rfl rfl (by rw [kz2]; decide) (by unfold maxLen; decide) (Nat.le_refl _) ?_; intro w7 hown hg7; have hb7 : Below w6.heap.size w6 w7 := (Below.refl _ _).grown hg7 (Nat.le_refl _) (fun _ h => by cases h); have ow7 := Lib.hid (made_nils hown); clear hown hg7)
    | fail)
  have G7 := Lib.hid (G6.out.later hb7)
  have bs7 := Lib.hid (bs6.out.kept (Same.of_below hb7 lt6.out))
  have lt7 := Lib.hid (fun k hk => Nat.lt_of_lt_of_le (lt6.out k hk) hb7.size)
  have hn7 := Lib.hid (hn6.out.later hb7)
  clear hb7 lt6 bs6 G6 hn6
  have hJ := join_any _ _ (nones 10000) w7 (bss_nils ow7.out) (fun k hk => (own_lt ow7.out k hk).2) G7.out.hv (by rw [nones_len]; decide)
  rw [join_full.1, join_full.2] at hJ
  refine hJ.mono ?_
  clear hJ
  rintro e w8 ⟨v8, rfl, hm8, hb8⟩
  obtain ⟨a8, c8, hv8⟩ := hm8.form
  rw [full_len] at hv8
  subst hv8
  have hm8 := Lib.hid hm8
  have G8 := Lib.hid (G7.out.later hb8)
  have bs8 := Lib.hid (bs7.out.kept (Same.of_below hb8 lt7.out))
  have lt8 := Lib.hid (fun k hk => Nat.lt_of_lt_of_le (lt7.out k hk) hb8.size)
  have hn8 := Lib.hid (hn7.out.later hb8)
  clear hb8 lt7 bs7 G7 hn7 ow7
  go_wp2_with fail
  have hal : Below w8.heap.size w8 ((w8.alloc (.cells #[.int .u8 1] 5)).alloc (.cells #[.slice (some ⟨w8.heap.size, 0, none⟩) 1 1, .slice (some ⟨w.heap.size, 0, none⟩) 65537 65537] 22)) := ((Below.refl _ _).alloc (Nat.le_refl _) _).alloc (by simp) _
  have hss := two_bss w8 _ _ _ bs8.out lt8.out
  have G9 := Lib.hid (G8.out.later hal)
  have bs9 := Lib.hid (bs8.out.kept (Same.of_below hal lt8.out))
  have lt9 := Lib.hid (fun k hk => Nat.lt_of_lt_of_le (lt8.out k hk) hal.size)
  have hn9 := Lib.hid (hn8.out.later hal)
  have hm9 := Lib.hid (hm8.out.later hal)
  have hJ := join_any _ _ [[1], zeros 65537] _ hss (fun k hk => by
    rcases hk with hk | hk | hk
    · exact lt9.out k hk
    · rw [hk]; simp; omega
    · rw [hk]; simp) G9.out.hv (by simp)
  rw [join_two.1, join_two.2] at hJ
  refine hJ.mono ?_
  clear hJ hss hal
  rintro e wa ⟨va, rfl, hma, hba⟩
  obtain ⟨aa, ca, rfl⟩ := hma.form
  clear hma
  have Ga := Lib.hid (G9.out.later hba)
  have bsa := Lib.hid (bs9.out.kept (Same.of_below hba lt9.out))
  have lta := Lib.hid (fun k hk => Nat.lt_of_lt_of_le (lt9.out k hk) hba.size)
  have hna := Lib.hid (hn9.out.later hba)
  have hma := Lib.hid (hm9.out.later hba)
  clear hba lt9 bs9 G9 hn9 hm9 lt8 bs8 G8 hn8 hm8
  have hs := bs_str hna.out.bs
  rw [str_ze] at hs
  go_wp2_with fail
  clear hs
  refine (all_is _ (.slice a8 80000 c8) (rcs (nones 10000)) (nones 10000) chain_full wa hma.out.bs (fun k hk => hk.2) Ga.out.hv (by rw [full_len]; decide)).mono ?_
  rintro e wb ⟨ab, cb, he, _, hbb⟩
  rw [nones_len, tot_full] at he
  subst he
  have Gb := Lib.hid (Ga.out.later hbb)
  have bsb := Lib.hid (bsa.out.kept (Same.of_below hbb lta.out))
  have ltb := Lib.hid (fun k hk => Nat.lt_of_lt_of_le (lta.out k hk) hbb.size)
  have hnb := Lib.hid (hna.out.later hbb)
  clear hbb lta bsa Ga hna hma
  have hal : Below wb.heap.size wb (wb.alloc (.cells #[.int .u8 0, .int .u8 1, .int .u8 0, .int .u8 1, .int .u8 0, .int .u8 0, .int .u8 0, .int .u8 0] 5)) := (Below.refl _ _).alloc (Nat.le_refl _) _
  have HO := Lib.hid (own_eight wb)
  have bsx := Lib.hid (bsb.out.kept (Same.of_below hal ltb.out))
  go_wp2_with (first
    | (at_builtin; refine wpList_append_b rfl _ _ rfl wb.heap.size _ 8 (bv hl0) rfl HO.out _ (some ⟨w.heap.size, 0, none⟩) 65537 65537 (zeros 65537) rfl bsx.out (by decide) hal.size ?_; intro vc wc hownc hgc _; have hbc := hal.grown hgc hal.size (fun k hk => (own_lt HO.out k hk).1); have mc : Mine wc wb.heap.size vc (hl0 ++ zeros 65537) := mine_app (⟨HO.out, hl0_byt⟩ : Mine _ _ _ hl0) (zeros_byt _) hownc; clear hownc hgc; obtain ⟨ac, cc, hvc⟩ := mc.form; rw [long_len] at hvc; subst hvc; have mc := Lib.hid mc)
    | fail)
  have Gc := Lib.hid (Gb.out.later hbc)
  have bsc := Lib.hid (bsb.out.kept (Same.of_below hbc ltb.out))
  have ltc := Lib.hid (fun k hk => Nat.lt_of_lt_of_le (ltb.out k hk) hbc.size)
  have hnc := Lib.hid (hnb.out.later hbc)
  clear hbc ltb bsb Gb hnb HO bsx hal
  refine (next_is _ _ (hl0 ++ zeros 65537) 0 10 0 0 [] look_long rfl rfl rfl wc mc.out.bs (fun k hk => hk.2) Gc.out.hv (by rw [long_len]; decide)).mono ?_
  rintro e wd ⟨ad, cd, rfl, _, hbd⟩
  have hbd := hbd.alloc hbd.size (.cells #[.int .i64 0, .slice ad 0 cd] 32)
  have Gd := Lib.hid (Gc.out.later hbd)
  have bsd := Lib.hid (bsc.out.kept (Same.of_below hbd ltc.out))
  have ltd := Lib.hid (fun k hk => Nat.lt_of_lt_of_le (ltc.out k hk) hbd.size)
  have hnd := Lib.hid (hnc.out.later hbd)
  clear hbd ltc bsc Gc hnc mc
  go_wp2_with fail
  refine (next_is (fun _ => False) _ [] 0 5 0 0 [] look_none rfl rfl rfl _ (Bs.nil _ _ none 0) (fun k hk => hk.elim) Gd.out.hv (by decide)).mono ?_
  rintro e we ⟨ae, ce, rfl, _, hbe⟩
  have hbe := hbe.alloc hbe.size (.cells #[.int .i64 0, .slice ae 0 ce] 32)
  have Ge := Lib.hid (Gd.out.later hbe)
  have bse := Lib.hid (bsd.out.kept (Same.of_below hbe ltd.out))
  have lte := Lib.hid (fun k hk => Nat.lt_of_lt_of_le (ltd.out k hk) hbe.size)
  have hne := Lib.hid (hnd.out.later hbe)
  clear hbe ltd bsd Gd hnd
  go_wp2_with fail
  refine (next_is _ _ ze (-1) 3 0 0 [] look_less rfl rfl rfl _ hne.out.bs (fun k hk => hk.2) Ge.out.hv (by decide)).mono ?_
  rintro e wf ⟨af, cf, rfl, _, hbf⟩
  have hbf := hbf.alloc hbf.size (.cells #[.int .i64 0, .slice af 0 cf] 32)
  have Gf := Lib.hid (Ge.out.later hbf)
  have bsf := Lib.hid (bse.out.kept (Same.of_below hbf lte.out))
  have ltf := Lib.hid (fun k hk => Nat.lt_of_lt_of_le (lte.out k hk) hbf.size)
  have hnf := Lib.hid (hne.out.later hbf)
  clear hbf lte bse Ge hne
  go_wp2_with fail
  have hC := cut_any _ _ ze 9 _ hnf.out.bs (fun k hk => hk.2) Gf.out.hv (by decide)
  rw [cut_nine.1, cut_nine.2] at hC
  refine hC.mono ?_
  clear hC
  rintro e wg ⟨rfl, hbg⟩
  have Gg := Lib.hid (Gf.out.later hbg)
  have bsg := Lib.hid (bsf.out.kept (Same.of_below hbg ltf.out))
  have ltg := Lib.hid (fun k hk => Nat.lt_of_lt_of_le (ltf.out k hk) hbg.size)
  have hng := Lib.hid (hnf.out.later hbg)
  clear hbg ltf bsf Gf hnf
  go_wp2_with fail
  have hC := cut_any _ _ ze 8 wg hng.out.bs (fun k hk => hk.2) Gg.out.hv (by decide)
  rw [cut_eight.1, cut_eight.2] at hC
  refine hC.mono ?_
  clear hC
  rintro e wh ⟨rfl, hbh⟩
  have Gh := Lib.hid (Gg.out.later hbh)
  have bsh := Lib.hid (bsg.out.kept (Same.of_below hbh ltg.out))
  have lth := Lib.hid (fun k hk => Nat.lt_of_lt_of_le (ltg.out k hk) hbh.size)
  have hnh := Lib.hid (hng.out.later hbh)
  clear hbh ltg bsg Gg hng
  obtain ⟨q, rfl, hbq, hqs, hqc, hqf⟩ := mine_opened hnh.out (by decide)
  have q5 := hqc 5 (by decide)
  have f5 := hqf 5
  have hnp := Lib.hid (mine_put5 hnh.out)
  clear hqc hqf
  go_wp2_with fail
  have bel := Gh.out.bel.setCell (p := ⟨q, 5, none⟩) (show w.heap.size ≤ q by omega) (.int .u8 1)
  have Gp := Lib.hid (show Got w _ from ⟨hv_later hH bel, bel⟩)
  have bsp := Lib.hid (bsh.out.kept (w' := wh.setCell ⟨q, 5, none⟩ (.int .u8 1)) (fun k hk => Below.heap_setCell _ _ _ _ (fun e => by
    have e2 : w.heap.size = k := by simpa [Value.ownBlock] using hk
    have e3 : k = q := by first | exact e | exact e.symm
    omega)))
  have ltp := Lib.hid (fun k (hk : (Value.slice (some ⟨w.heap.size, 0, none⟩) 65537 65537).ownBlock = some k) => (show k < (wh.setCell ⟨q, 5, none⟩ (.int .u8 1)).heap.size from by
    have := lth.out k hk
    simpa using this))
  have hC := check_is _ _ (ze.set 5 1) _ hnp.out.bs (fun k hk => hk.2) Gp.out.hv (by decide)
  rw [check_bad] at hC
  refine hC.mono ?_
  clear hC bel
  rintro e wi ⟨rfl, hbi⟩
  have Gi := Lib.hid (Gp.out.later hbi)
  have bsi := Lib.hid (bsp.out.kept (Same.of_below hbi ltp.out))
  have lti := Lib.hid (fun k hk => Nat.lt_of_lt_of_le (ltp.out k hk) hbi.size)
  clear hbi ltp bsp Gp hnp hnh Gh bsh lth
  go_wp2_with fail
  have hC := check_is (fun _ => False) _ [] wi (Bs.nil _ _ none 0) (fun k hk => hk.elim) Gi.out.hv (by decide)
  rw [check_none] at hC
  refine hC.mono ?_
  clear hC
  rintro e wj ⟨rfl, hbj⟩
  have Gj := Lib.hid (Gi.out.later hbj)
  have bsj := Lib.hid (bsi.out.kept (Same.of_below hbj lti.out))
  clear hbj lti bsi Gi
  have hC := size_is _ _ (zeros 65537) wj bsj.out (by rw [zeros_len]; decide)
  rw [zeros_len] at hC
  go_wp2_with fail
  refine hC.mono ?_
  clear hC bsj
  rintro e w' ⟨rfl, rfl⟩
  go_wp2_with fail
  refine (works_any _ Gj.out.hv).mono ?_
  rintro e wk ⟨rfl, hbk⟩
  have Gk := Lib.hid (Gj.out.later hbk)
  clear hbk Gj
  go_wp2
  go_ret
  exact ⟨rfl, Gk.out.bel⟩
end Go.Proofs.YtbedkblanefboaaDoor.Frame
