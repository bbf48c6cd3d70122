/- The walk of IdentNames. -/
import Derived.Test.YtllhgjenkchniaaDoorI42
namespace Go.Proofs.YtllhgjenkchniaaDoor.Ident
open Go.RowKit Go.Lib Go.ChangeShapes
set_option linter.unusedVariables false
set_option linter.unusedSimpArgs false
set_option maxRecDepth 100000

theorem wr_i {x : Int} (h0 : -9223372036854775808 ≤ x) (h1 : x ≤ 9223372036854775807) : IntKind.i64.wrap x = x := wr h0 h1
def StopI (p : Prop) : Prop := p
theorem StopI.mk {p : Prop} (h : StopI p) : p := h
theorem abc_get (x : Nat) (h : x % 36 < (ByteArray.mk ABC.toArray).size) : (ByteArray.mk ABC.toArray)[x % 36]'h = letA x := by
  have e : ∀ i (hi : i < (ByteArray.mk ABC.toArray).size), (ByteArray.mk ABC.toArray)[i]'hi = ABC.getD i 0 := by decide
  exact e _ h
set_option maxHeartbeats 4000000 in
theorem names_some (b off len cap k : Nat) (g : Nat → Nat) (u o : Nat) (hu : u < 256) (ho : o < 256) (h0 : 0 < k) (hk : min (len : Int) 16 = (k : Int)) (hlc : len ≤ cap) (w : World) (hH : Hv w) (hc : ∀ i, i < len → w.cell? ⟨b, off + i, none⟩ = some (.int .u8 (g i : Nat)) ∧ g i < 256) :
    Calls Tryd.prog 12 #[.slice (some ⟨b, off, none⟩) len cap, .int .u8 u, .int .u8 o] w fun e w' => e = .returned (.bool true) ∧ Below w.heap.size w w' := by
  have hkl : k ≤ len ∧ k ≤ 16 := by omega
  obtain ⟨i0, hi, hz0, hz1, hz2⟩ := info_parts info_u8
  have hC := Lib.hid hc
  have hbl : b < w.heap.size := World.block_lt_of_cell? w _ (hc 0 (by omega)).1
  have e1 : (0 : Int) ≤ (k : Int) := by omega
  have e2 : (k : Int) ≤ (cap : Int) := by omega
  clear hc
  go_enter Tryd.func12, Tryd.ntmps12
  go_wp2_with (at_make; refine wpList_make_own _ rfl _ _ 61 rfl w.heap.size 5 i0 (.int .u8 0) 1 Tryd.underlying61 hi hz0 hz1 _ _ _ 17 rfl rfl rfl (by rw [hz2]; omega) (by unfold maxLen; omega) (Nat.le_refl _) ?_; intro w1 ho1 hg1)
  have hb1 : Below w.heap.size w w1 := (Below.refl _ _).grown hg1 (Nat.le_refl _) (fun k e => by cases e)
  have hO1 : Ob w.heap.size (nmL g 0) (.slice (some ⟨w.heap.size, 0, none⟩) 0 17) w1 := ho1
  replace hO1 := Lib.hid hO1
  replace hb1 := Lib.hid hb1
  clear ho1 hg1
  go_wp2
  go_loopw [7, 18] (fun v j wr => ∃ i : Nat, i ≤ k ∧ j = .int .i64 i ∧ Ob w.heap.size (nmL g i) v wr ∧ Below w.heap.size w wr) (fun _ j _ => k - (intOf j).toNat)
  case atStart => exact ⟨0, Nat.zero_le _, rfl, hO1.out, hb1.out⟩
  case round =>
    obtain ⟨i, hi2, rfl, hOr, hBr⟩ := hrel
    by_cases hlt : i < k
    · obtain ⟨a', cap', rfl⟩ := hOr.form
      obtain ⟨c0, c1⟩ := hC.out i (by omega)
      have c2 := (hBr.cell (p := ⟨b, off + i, none⟩) hbl).trans c0
      clear c0
      rw [nmL_len]
      have hOr' := hOr
      rw [nmL_len] at hOr'
      have hgood := Lib.hid (nmL_succ g i)
      generalize g i = x at *
      have hE : ∀ h : x % 36 < (⟨#[97, 98, 99, 100, 101, 102, 103, 104, 105, 106, 107, 108, 109, 110, 111, 112, 113, 114, 115, 116, 117, 118, 119, 120, 121, 122, 48, 49, 50, 51, 52, 53, 54, 55, 56, 57]⟩ : ByteArray).size, (⟨#[97, 98, 99, 100, 101, 102, 103, 104, 105, 106, 107, 108, 109, 110, 111, 112, 113, 114, 115, 116, 117, 118, 119, 120, 121, 122, 48, 49, 50, 51, 52, 53, 54, 55, 56, 57]⟩ : ByteArray)[x % 36]'h = letA x := fun h => abc_get x h
      generalize letA x = c at *
      have f0 : (i : Int) < (k : Int) := by omega
      have f1 : (0 : Int) ≤ (i : Int) := by omega
      go_wp2_with (at_builtin; refine StopI.mk ?_)
      unfold StopI
      have hB3 := hBr.trans ((alloc_b wr (.cells #[.int .u8 (c.toNat : Nat)] 5)).mono hBr.size)
      have hO3 := hOr'.later (alloc_b wr (.cells #[.int .u8 (c.toNat : Nat)] 5))
      refine wpList_append_c rfl _ _ rfl w.heap.size _ (nmL g i) rfl hO3 wr.heap.size 1 c rfl (cell_of_row _ _ 0 _ _ _ (heap_alloc_new _ _)) (by rw [nmL_len]; omega) hB3.size ?_
      intro v4 w4 hO4 hg4
      have hB4 : Below w.heap.size w w4 := hB3.grown hg4 hB3.size (fun k e => (World.ownsRow.lt hO3 k e).1)
      replace hO4 := Lib.hid hO4
      replace hB4 := Lib.hid hB4
      clear hOr hOr' hBr hO3 hB3 hg4 c1 c2 hE
      go_wp2
      go_roundw
      case rel => exact ⟨i + 1, by omega, by go_num, by rw [hgood.out]; exact hO4.out, hB4.out⟩
      case measure => simp [intOf]; omega
    · obtain rfl : i = k := by omega
      obtain ⟨q, cap', rfl, hRb⟩ := ob_rb hOr (by rw [nmL_len]; exact h0) hBr (Nat.le_refl _)
      rw [nmL_len]
      have hlen := nmL_len g i
      have hgd := nmL_good g i
      generalize nmL g i = L at *
      have hN1 := fun W => name_any L W
      rw [name_good L hgd (by omega) (by omega)] at hN1
      have hrep := fun W => rep_any 97 (17 - i) W (by omega)
      have hN2 := fun W => name_any (L ++ List.replicate (17 - i) 97) W
      rw [name_long _ (by simp; omega)] at hN2
      rw [← tx_app] at hN2
      have hz1 := tx_size L
      have hz2 := tx_size (List.replicate (17 - i) (97 : UInt8))
      rw [List.length_replicate] at hz2
      have HE : Hid (∀ W, Rb w q L W → (convert 61 9 (.slice (some ⟨q, 0, none⟩) i cap')).run Tryd.prog W = .ok (.string (tx L)) W ∧ Rb w q L W) := fun W h => ⟨by have := rb_str (cap := cap') h; rwa [hlen] at this, h⟩
      have hset := Lib.hid (fun (j : Nat) (hj : j < L.length) (c : UInt8) => name_set L hgd (by omega) j hj c)
      have hRs := Lib.hid (fun (W : World) (h : Rb w q L W) (j : Nat) (c : UInt8) => h.set j c)
      have hstr := Lib.hid (fun (W : World) (j : Nat) (c : UInt8) (h : Rb w q (L.set j c) W) => (show (convert 61 9 (.slice (some ⟨q, 0, none⟩) i cap')).run Tryd.prog W = .ok (.string (tx (L.set j c))) W by have := rb_str (cap := cap') h; rwa [List.length_set, hlen] at this))
      have m1 : ¬ 9223372036854775807 < (tx L).size + (tx (List.replicate (17 - i) (97 : UInt8))).size := by rw [hz1, hz2]; omega
      have g1 : IntKind.i64.wrap (17 - (i : Int)) = ((17 - i : Nat) : Int) := by rw [wr_i (by omega) (by omega)]; omega
      have g2 : ¬ (i : Int) = 0 := by omega
      have g3 : ((i : Int) == 0) = false := by simpa using g2
      have g4 : ¬ i = 0 := by omega
      generalize hs : tx L = s at *
      generalize tx (List.replicate (17 - i) (97 : UInt8)) = r at *
      replace hN1 := Lib.hid hN1
      replace hN2 := Lib.hid hN2
      replace hrep := Lib.hid hrep
      replace hs := Lib.hid hs
      generalize hM : 17 - i = M at *
      replace hM := Lib.hid hM
      replace hlen := Lib.hid hlen
      clear hz1 hz2 hgd hOr hBr
      go_wp2
      go_region_held3 (fun W => (convert 61 9 (.slice (some ⟨q, 0, none⟩) i cap')).run Tryd.prog W = .ok (.string s) W ∧ Rb w q L W)
        ((first | exact HE.out _ (hRb.later (Below.refl _ _).drew) | exact HE.out _ (by assumption) | assumption))
        (first
          | (go_at_call 38; refine (hrep.out _).mono ?_; rintro e w6 ⟨rfl, hb6⟩; have hR6 := Rb.later (by assumption) hb6)
          | (go_at_call_of 30 (Value.string s); refine (hN1.out _).mono ?_; rintro e w5 ⟨rfl, hb5⟩; have hR5 := (hRb.later (Below.refl _ _).drew).later hb5)
          | (go_at_call 30; refine (hN2.out _).mono ?_; rintro e w7 ⟨rfl, hb7⟩; have hR7 := Rb.later (by assumption) hb7))
      rename Rb w q L _ => hF
      obtain ⟨c, hc⟩ : ∃ c : UInt8, c.toNat = o := ⟨UInt8.ofNat o, by simp [UInt8.toNat_ofNat']; omega⟩
      obtain ⟨J, hJ⟩ : ∃ J, u % i = J := ⟨_, rfl⟩
      have hJl : J < i := by rw [← hJ]; exact Nat.mod_lt _ h0
      have t1 : IntKind.i64.wrap (u : Int) = u := wr_i (by omega) (by omega)
      have t2 : (u : Int).tmod (i : Int) = (J : Int) := by rw [← hJ, ← Int.ofNat_tmod]
      have t3 : (u : Int) % (i : Int) = (J : Int) := by rw [← hJ]; exact (Int.natCast_emod _ _).symm
      have t4 : (J : Int) < (i : Int) := by omega
      have t5 : (0 : Int) ≤ (J : Int) := by omega
      obtain ⟨y0, y1⟩ := hF.cell J (by rw [hlen.out]; exact hJl)
      have hG := hRs.out _ hF J c
      rw [hc] at hG
      have hst := hstr.out _ J c hG
      have hnm := fun W => name_any (L.set J c) W
      rw [hset.out J (by rw [hlen.out]; exact hJl) c] at hnm
      have hgc : goodB c = ((decide (97 ≤ o) && decide (o ≤ 122)) || (decide (48 ≤ o) && decide (o ≤ 57))) := by
        unfold goodB badR
        rw [hc]
        rw [Bool.eq_iff_iff]
        simp <;> omega
      generalize tx (L.set J c) = z at *
      generalize goodB c = gb at *
      replace hnm := Lib.hid hnm
      replace hG := Lib.hid hG
      replace hJ := Lib.hid hJ
      clear hRb hrep hN1 hN2 hset hRs hstr HE
      have hcase : (97 ≤ o ∧ o ≤ 122 ∧ gb = true) ∨ (97 ≤ o ∧ ¬ o ≤ 122 ∧ ¬ o ≤ 57 ∧ gb = false) ∨ (¬ 97 ≤ o ∧ 48 ≤ o ∧ o ≤ 57 ∧ gb = true) ∨ (¬ 97 ≤ o ∧ 48 ≤ o ∧ ¬ o ≤ 57 ∧ gb = false) ∨ (¬ 97 ≤ o ∧ ¬ 48 ≤ o ∧ gb = false) := by
        by_cases h1 : 97 ≤ o
        · by_cases h2 : o ≤ 122
          · exact .inl ⟨h1, h2, by rw [hgc]; simp [h1, h2]⟩
          · exact .inr (.inl ⟨h1, h2, by omega, by rw [hgc]; simp; omega⟩)
        · by_cases h2 : 48 ≤ o
          · by_cases h3 : o ≤ 57
            · exact .inr (.inr (.inl ⟨h1, h2, h3, by rw [hgc]; simp [h2, h3]⟩))
            · exact .inr (.inr (.inr (.inl ⟨h1, h2, h3, by rw [hgc]; simp; omega⟩)))
          · exact .inr (.inr (.inr (.inr ⟨h1, h2, by rw [hgc]; simp; omega⟩)))
      clear hgc
      rcases hcase with ⟨k1, k2, rfl⟩ | ⟨k1, k2, k3, rfl⟩ | ⟨k1, k2, k3, rfl⟩ | ⟨k1, k2, k3, rfl⟩ | ⟨k1, k2, rfl⟩
      all_goals
        have k0 : True := trivial
        (try (have l1 : (97 : Int) ≤ (o : Int) := by omega))
        (try (have l1 : ¬ (97 : Int) ≤ (o : Int) := by omega))
        (try (have l2 : (o : Int) ≤ 122 := by omega))
        (try (have l2 : ¬ (o : Int) ≤ 122 := by omega))
        (try (have l3 : (48 : Int) ≤ (o : Int) := by omega))
        (try (have l3 : ¬ (48 : Int) ≤ (o : Int) := by omega))
        (try (have l4 : (o : Int) ≤ 57 := by omega))
        (try (have l4 : ¬ (o : Int) ≤ 57 := by omega))
        go_wp2_with fail
        refine (hnm.out _).mono ?_
        rintro e w8 ⟨rfl, hb8⟩
        have hH8 := hG.out.later hb8
        clear hb8
        replace hH8 := Lib.hid hH8
        go_wp2_with fail
        refine (works_any _ (hH.later hH8.out.bel)).mono ?_
        rintro e w9 ⟨rfl, hb9⟩
        have hz9 := below2 hH8.out.bel hb9
        go_wp2
        go_ret
        exact ⟨rfl, hz9⟩
theorem names_none (a : Option Addr) (cap : Nat) (u o : Nat) (ha : a = none ∨ ∃ x, a = some x) (hcap : a = none → cap = 0) (w : World) (hH : Hv w) :
    Calls Tryd.prog 12 #[.slice a 0 cap, .int .u8 u, .int .u8 o] w fun e w' => e = .returned (.bool true) ∧ Below w.heap.size w w' := by
  obtain ⟨i0, hi, hz0, hz1, hz2⟩ := info_parts info_u8
  have hN := fun W => name_any [] W
  rw [show nameOk [] = false from rfl, show tx [] = ⟨#[]⟩ from rfl] at hN
  replace hN := Lib.hid hN
  rcases ha with rfl | ⟨x, rfl⟩
  · obtain rfl := hcap rfl
    go_enter Tryd.func12, Tryd.ntmps12
    go_wp2_with (at_make; refine wpList_make_own _ rfl _ _ 61 rfl w.heap.size 5 i0 (.int .u8 0) 1 Tryd.underlying61 hi hz0 hz1 _ _ _ 17 rfl rfl rfl (by rw [hz2]; omega) (by unfold maxLen; omega) (Nat.le_refl _) ?_; intro w1 ho1 hg1)
    have hb1 := Lib.hid (show Below w.heap.size w w1 from (Below.refl _ _).grown hg1 (Nat.le_refl _) (fun k e => by cases e))
    clear ho1 hg1
    go_wp2
    refine wp_loop_rounds 1 ?_
    rw [rounds_succ]
    go_wp2_with fail
    refine (hN.out _).mono ?_
    rintro e w2 ⟨rfl, hb2⟩
    have hb3 := Lib.hid (below2 hb1.out hb2)
    go_wp2_with fail
    refine (works_any _ (hH.later hb3.out)).mono ?_
    rintro e w4 ⟨rfl, hb4⟩
    have hb5 := below2 hb3.out hb4
    go_wp2
    go_ret
    exact ⟨rfl, hb5⟩
  · go_enter Tryd.func12, Tryd.ntmps12
    go_wp2_with (at_make; refine wpList_make_own _ rfl _ _ 61 rfl w.heap.size 5 i0 (.int .u8 0) 1 Tryd.underlying61 hi hz0 hz1 _ _ _ 17 rfl rfl rfl (by rw [hz2]; omega) (by unfold maxLen; omega) (Nat.le_refl _) ?_; intro w1 ho1 hg1)
    have hb1 := Lib.hid (show Below w.heap.size w w1 from (Below.refl _ _).grown hg1 (Nat.le_refl _) (fun k e => by cases e))
    clear ho1 hg1
    go_wp2
    refine wp_loop_rounds 1 ?_
    rw [rounds_succ]
    go_wp2_with fail
    refine (hN.out _).mono ?_
    rintro e w2 ⟨rfl, hb2⟩
    have hb3 := Lib.hid (below2 hb1.out hb2)
    go_wp2_with fail
    refine (works_any _ (hH.later hb3.out)).mono ?_
    rintro e w4 ⟨rfl, hb4⟩
    have hb5 := below2 hb3.out hb4
    go_wp2
    go_ret
    exact ⟨rfl, hb5⟩
theorem w_identNames (a : Option Addr) (len cap : Nat) (zs : List Int) (u o : Int) (w : World) (w0 : IsRow .u8 w a len cap zs) (w1 : (Lit.int .u8 u).wf = true) (w2 : (Lit.int .u8 o).wf = true) (hH : Hv w) :
    Calls Tryd.prog 12 #[.slice a len cap, .int .u8 u, .int .u8 o] w fun e w' => e = .returned (.bool true) ∧ Below w.heap.size w w' := by
  have b1 := bounds_u8 w1
  have b2 := bounds_u8 w2
  obtain ⟨u, rfl⟩ := Int.eq_ofNat_of_zero_le b1.1
  obtain ⟨o, rfl⟩ := Int.eq_ofNat_of_zero_le b2.1
  obtain ⟨hlc, hn, g, hc⟩ := row_cs w0
  by_cases h0 : len = 0
  · subst h0
    refine names_none a cap u o ?_ hn w hH
    rcases w0 with ⟨rfl, _⟩ | ⟨⟨b, off, spot⟩, rfl, h1, h2, h3, h4, h5⟩
    · exact .inl rfl
    · exact .inr ⟨_, rfl⟩
  · obtain ⟨b, off, rfl, hd⟩ := hc (by omega)
    obtain ⟨k, hk⟩ : ∃ k : Nat, min (len : Int) 16 = (k : Int) := ⟨min len 16, by omega⟩
    exact names_some b off len cap k g u o (by omega) (by omega) (by omega) hk hlc w hH hd
end Go.Proofs.YtllhgjenkchniaaDoor.Ident
