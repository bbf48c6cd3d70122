/- The document's writer. -/
import Derived.Test.YtnkmiigcglddmaaW17
import Derived.Lib.ConvBytes
namespace Go.Proofs.Ytnkmiigcglddmaa.Wire
open Go.RowKit Go.ChangeShapes
set_option linter.unusedVariables false
set_option linter.unusedSimpArgs false

abbrev TW' : TypeId := 71
theorem tw'_ne : TW' ≠ 5 := by decide
theorem u8_small {n : Nat} (h : n < 128) : IntKind.u8.wrap (n : Int) = (n : Int) := by have := IntKind.wrap_u8 (n : Int); omega
theorem u8_one (w : World) (c : Nat) : (w.alloc (.cells #[.int .u8 (c : Nat)] 5)).ownsRow w.heap.size 5 1 (.slice (some ⟨w.heap.size, 0, none⟩) 1 1) 1 (bv [c]) :=
  World.ownsRow_lit (base := w.heap.size) (e := 5) (size := 1) w #[.int .u8 (c : Nat)] 1 (Nat.le_refl _) (by decide) rfl
theorem ge_own (w : World) (n c : Nat) : ∀ k, (Value.slice (some ⟨w.heap.size, 0, none⟩) n c).ownBlock = some k → w.heap.size ≤ k := by
  intro k h
  have h2 : w.heap.size = k := by simpa [Value.ownBlock] using h
  omega
set_option maxRecDepth 100000 in
theorem number_any : ∀ (m n : Nat) (w : World), n ≤ m → n < 18446744073709551616 → Calls Try.prog 76 #[.int .u64 (n : Nat)] w (Owned w (digs n))
  | m, n, w, hm, hn => by
    by_cases h : n < 128
    · have e1 := u8_small h
      rw [digs_small h]
      go_enter Try.func76, Try.ntmps76
      go_wp2
      go_ret
      exact ⟨_, rfl, u8_one w n, (Below.refl _ _).alloc (Nat.le_refl _) _⟩
    · cases m with
      | zero => omega
      | succ m =>
        have e1 := u64_byte n hn
        have hd := digs_big (show 128 ≤ n by omega)
        obtain ⟨D, hD⟩ : ∃ D, digs n = D := ⟨_, rfl⟩
        rw [hD] at hd
        rw [hD]
        have HDD := Lib.hid hd
        have hten := digs_ten (n / 128) (by omega)
        have HT := Lib.hid hten
        have ih := Lib.hid (fun w => number_any m (n / 128) w (by omega) (by omega))
        have e2 : ((n / 128 : Nat) : Int) = (n : Int) / 128 := by omega
        obtain ⟨c, hc⟩ : ∃ c, n % 128 + 128 = c := ⟨_, rfl⟩
        rw [hc] at e1 hd
        have HC := Lib.hid hc
        have HO := Lib.hid (u8_one w c)
        have hb0 : Below w.heap.size w (w.alloc (.cells #[.int .u8 (c : Nat)] 5)) := (Below.refl _ _).alloc (Nat.le_refl _) _
        have HB0 := Lib.hid hb0
        clear hd hD hten hc hb0
        go_enter Try.func76, Try.ntmps76
        go_wp2_with fail
        have ih2 := ih.out (w.alloc (.cells #[.int .u8 (c : Nat)] 5))
        rw [e2] at ih2
        refine ih2.mono ?_
        rintro e w1 ⟨v1, rfl, ho, hb⟩
        obtain ⟨a1, c1, rfl⟩ := own_form ho
        have HB := Lib.hid hb
        have HS := Lib.hid (own_bs ho (digs_lt _))
        have HO1 := Lib.hid (own_kept HO.out (w' := w1) (fun k hk => hb.block k (own_lt HO.out k hk).2))
        clear ho hb ih2
        go_wp2_with (at_builtin; refine wpList_append_b rfl _ _ rfl w.heap.size (.slice (some ⟨w.heap.size, 0, none⟩) 1 1) 1 _ rfl HO1.out _ a1 _ c1 (digs (n / 128)) rfl HS.out (by have := HT.out; omega) (Nat.le_trans HB0.out.size HB.out.size) ?_; intro v2 w2 ho hg _)
        have hb2 : Below w.heap.size w w2 := (HB0.out.trans (HB.out.mono HB0.out.size)).grown hg (Nat.le_trans HB0.out.size HB.out.size) (ge_own w 1 1)
        have ho2 : w2.ownsRow w.heap.size 5 1 v2 D.length (bv D) := by
          rw [HDD.out, HC.out]
          rw [bv_app] at ho
          have e : 1 + (digs (n / 128)).length = (c :: digs (n / 128)).length := by simp; omega
          rw [e] at ho
          exact ho
        go_wp2
        go_ret
        exact ⟨v2, rfl, ho2, hb2⟩
theorem wvalid_any (p : Nat) (b : Bool) (w : World) (h : w.cell? ⟨p, 0, none⟩ = some (.bool b)) :
    Calls Try.prog 50 #[.pointer (some ⟨p, 0, none⟩)] w fun e w' => e = .returned (.bool b) ∧ w = w' := by
  go_enter Try.func50, Try.ntmps50
  go_wp2
  go_ret
  exact ⟨rfl, rfl⟩
set_option maxRecDepth 100000 in
theorem add_any (p : Nat) (F G : Nat → Prop) (v : Value) (l : List Nat) (u : Value) (m : List Nat) (w : World) (h : WrAt TW' w p F v l) (hu : Bs w G u m) (hl : l.length + m.length ≤ 300000000) :
    Calls Try.prog 75 #[.pointer (some ⟨p, 0, none⟩), u] w (Wrote TW' w p F (l ++ m)) := by
  have hc := h.made
  have c1 := h.all
  have hu0 := hu
  obtain ⟨_, a, cap, rfl, _⟩ := hu0
  obtain ⟨k, hk⟩ : ∃ k, l.length = k := ⟨_, rfl⟩
  have hkl : k + m.length ≤ 300000000 := by omega
  have hown := h.own
  rw [hk] at hown
  have HO := Lib.hid hown
  have HW := Lib.hid h
  have HU := Lib.hid hu
  have HK := Lib.hid hk
  obtain ⟨av, cv, hv⟩ := h.form
  rw [hk] at hv
  clear h hu hown hk
  subst hv
  go_enter Try.func75, Try.ntmps75
  go_wp2_with (first
    | (go_at_call 50; refine (wvalid_any p true _ hc).mono ?_; rintro e w' ⟨rfl, rfl⟩)
    | (at_builtin; refine wpList_append_b rfl _ _ rfl 0 (.slice av k cv) k _ rfl HO.out G a m.length cap m rfl HU.out (by omega) (by simp) ?_; intro v2 w2 ho hg hl'; have HO2 := Lib.hid ho; have HG := Lib.hid hg; have HL := Lib.hid hl'; have hb1 := HG.out.block p (blk_lt HW.out.blk) (fun e => HW.out.ne tw'_ne e.symm); rw [HW.out.blk] at hb1; have c3 := blk_cell hb1 1 _ rfl; have f3 := blk_frozen hb1 1; obtain ⟨a', cap', hv2⟩ := (own_form ho); subst hv2; clear ho hg hl' hb1))
  go_end0
  have hz := HW.out.stored tw'_ne (Keeps.refl _ _) (fun _ _ => rfl) HG.out (l' := l ++ m) (by
    have := HO2.out
    rw [bv_app] at this
    exact this) (fun c hc => by
      rcases List.mem_append.1 hc with hc | hc
      · exact HW.out.h8 c hc
      · exact HU.out.1 c hc) HL.out (by rw [List.length_append, HK.out])
  exact ⟨rfl, ⟨_, hz.1⟩, hz.2⟩
theorem h_add (w0 W : World) (L : List Asrt) (p : Nat) (l : List Nat) (G : Nat → Prop) (u : Value) (m : List Nat) (h : Has w0 W (Wr TW' p l :: L)) (hu : Bs W G u m) (hl : l.length + m.length ≤ 300000000) :
    Calls Try.prog 75 #[.pointer (some ⟨p, 0, none⟩), u] W (Hs w0 (.tuple #[]) (Wr TW' p (l ++ m) :: L)) := by
  obtain ⟨F, ⟨v, hv⟩, _, hst⟩ := h.step
  exact (add_any p F G v l u m W hv hu hl).mono fun e W' ⟨he, hw, hk⟩ => ⟨he, hst _ W' (stable_wr _ _ _) hw hk⟩
theorem h_rnew (w0 W : World) (L : List Asrt) (h : Has w0 W L) : Calls Try.prog 15 #[] W fun e W' => ∃ p, e = .returned (.pointer (some ⟨p, 0, none⟩)) ∧ Has w0 W' (Wr TW' p [] :: L) := by
  have H := Lib.hid h
  clear h
  go_enter Try.func15, Try.ntmps15
  go_wp2
  go_ret
  exact ⟨_, rfl, H.out.add ((Below.refl _ _).alloc (Nat.le_refl _) _) (stable_wr _ _ _) ⟨_, fresh_wr TW' W⟩⟩
theorem h_wuint (w0 W : World) (L : List Asrt) (p : Nat) (l : List Nat) (n : Nat) (h : Has w0 W (Wr TW' p l :: L)) (hn : n < 18446744073709551616) (hl : l.length ≤ 100000000) :
    Calls Try.prog 45 #[.pointer (some ⟨p, 0, none⟩), .int .u64 n] W (Hs w0 (.tuple #[]) (Wr TW' p (l ++ digs n) :: L)) := by
  have H := Lib.hid h
  have HT := Lib.hid (digs_ten n hn)
  clear h
  go_enter Try.func45, Try.ntmps45
  go_wp2_with fail
  refine (number_any n n _ (Nat.le_refl _) hn).mono ?_
  rintro e w1 ⟨v1, rfl, ho, hb⟩
  obtain ⟨a1, c1, rfl⟩ := own_form ho
  have HS := Lib.hid (own_bs ho (digs_lt _))
  have H := Lib.hid (H.out.below hb)
  clear ho hb
  go_wp2_with fail
  refine (h_add w0 _ _ p l _ _ (digs n) H.out HS.out (by have := HT.out; omega)).mono ?_
  rintro e w2 ⟨rfl, h⟩
  have H := Lib.hid h
  clear h
  go_wp2_with fail
  go_end0
  exact ⟨rfl, H.out⟩
theorem h_wint (w0 W : World) (L : List Asrt) (p : Nat) (l : List Nat) (a : Int) (h : Has w0 W (Wr TW' p l :: L)) (ha : I64 a) (hl : l.length ≤ 100000000) :
    Calls Try.prog 46 #[.pointer (some ⟨p, 0, none⟩), .int .i64 a] W (Hs w0 (.tuple #[]) (Wr TW' p (l ++ digs (zig a)) :: L)) := by
  have H := Lib.hid h
  have HA := Lib.hid ha
  have HT := Lib.hid (digs_ten _ (zig_lt ha))
  clear h ha
  go_enter Try.func46, Try.ntmps46
  go_wp2_with fail
  refine (rzig_any a _ HA.out).mono ?_
  rintro e w' ⟨rfl, rfl⟩
  go_wp2_with fail
  refine (number_any _ _ _ (Nat.le_refl _) (zig_lt HA.out)).mono ?_
  rintro e w1 ⟨v1, rfl, ho, hb⟩
  obtain ⟨a1, c1, rfl⟩ := own_form ho
  have HS := Lib.hid (own_bs ho (digs_lt _))
  have H := Lib.hid (H.out.below hb)
  clear ho hb
  go_wp2_with fail
  refine (h_add w0 _ _ p l _ _ (digs (zig a)) H.out HS.out (by have := HT.out; omega)).mono ?_
  rintro e w2 ⟨rfl, h⟩
  have H := Lib.hid h
  clear h
  go_wp2_with fail
  go_end0
  exact ⟨rfl, H.out⟩
theorem h_wbool (w0 W : World) (L : List Asrt) (p : Nat) (l : List Nat) (b : Bool) (h : Has w0 W (Wr TW' p l :: L)) (hl : l.length ≤ 100000000) :
    Calls Try.prog 48 #[.pointer (some ⟨p, 0, none⟩), .bool b] W (Hs w0 (.tuple #[]) (Wr TW' p (l ++ digs (if b then 1 else 0)) :: L)) := by
  cases b
  · have e1 : digs (if false = true then 1 else 0) = [0] := digs_small (by decide)
    rw [e1]
    clear e1
    have H := Lib.hid (h.alloc (.cells #[.int .u8 0] 5))
    have HS := Lib.hid (bs_new W [0] (by decide))
    clear h
    go_enter Try.func48, Try.ntmps48
    go_wp2_with fail
    refine (h_add w0 _ _ p l _ _ [0] H.out HS.out (by simp; omega)).mono ?_
    rintro e w2 ⟨rfl, h⟩
    have H := Lib.hid h
    clear h
    go_wp2_with fail
    go_end0
    exact ⟨rfl, H.out⟩
  · have e1 : digs (if true = true then 1 else 0) = [1] := digs_small (by decide)
    rw [e1]
    clear e1
    have H := Lib.hid (h.alloc (.cells #[.int .u8 1] 5))
    have HS := Lib.hid (bs_new W [1] (by decide))
    clear h
    go_enter Try.func48, Try.ntmps48
    go_wp2_with fail
    refine (h_add w0 _ _ p l _ _ [1] H.out HS.out (by simp; omega)).mono ?_
    rintro e w2 ⟨rfl, h⟩
    have H := Lib.hid h
    clear h
    go_wp2_with fail
    go_end0
    exact ⟨rfl, H.out⟩
theorem bw_below (w : World) (s : ByteArray) : Below w.heap.size w (Lib.bytesWorld w 5 s) :=
  ⟨rfl, rfl, rfl, by rw [Lib.bytesWorld_size]; omega, fun k hk => Lib.bytesWorld_at_old w _ s k hk⟩
theorem bw_bs (w : World) (s : ByteArray) (cap : Nat) (hc : s.size ≤ cap) : Bs (Lib.bytesWorld w 5 s) (fun _ => True) (.slice (some ⟨w.heap.size, 0, none⟩) s.size cap) (sb s) := by
  refine ⟨sb_lt s, _, cap, by rw [sb_len], by rw [sb_len]; exact hc, fun _ => ⟨w.heap.size, 0, rfl, trivial, fun i hi => ?_⟩⟩
  rw [sb_len] at hi
  rw [Nat.zero_add, Lib.bytesWorld_cell w _ s i hi]
  have hi' : i < s.data.toList.length := hi
  congr 2
  unfold sb
  rw [List.getD_eq_getElem?_getD, List.getD_eq_getElem?_getD, List.getElem?_map, List.getElem?_eq_getElem hi']
  rfl
set_option maxRecDepth 100000 in
theorem h_wtext (w0 W : World) (L : List Asrt) (p : Nat) (l : List Nat) (s : ByteArray) (h : Has w0 W (Wr TW' p l :: L)) (hl : l.length ≤ 100000000) (hs : s.size ≤ 100000000) :
    Calls Try.prog 47 #[.pointer (some ⟨p, 0, none⟩), .string s] W (Hs w0 (.tuple #[]) (Wr TW' p (l ++ (digs s.size ++ sb s)) :: L)) := by
  have H := Lib.hid h
  have e1 : IntKind.u64.wrap (s.size : Int) = (s.size : Int) := by rw [IntKind.wrap_u64]; omega
  have HT := Lib.hid (digs_ten s.size (by omega))
  have hcv := fun w : World => Lib.run_convert_string_bytes (P := Try.prog) w 9 35 5 s Try.underlying9 Try.underlying35 Try.underlying5
  clear h
  go_enter Try.func47, Try.ntmps47
  go_wp2_with fail
  refine (number_any s.size s.size _ (Nat.le_refl _) (by omega)).mono ?_
  rintro e w1 ⟨v1, rfl, ho, hb⟩
  obtain ⟨a1, c1, rfl⟩ := own_form ho
  have HS := Lib.hid (own_bs ho (digs_lt _))
  have H := Lib.hid (H.out.below hb)
  clear ho hb
  go_wp2_with fail
  refine (h_add w0 _ _ p l _ _ (digs s.size) H.out HS.out (by have := HT.out; omega)).mono ?_
  rintro e w2 ⟨rfl, h⟩
  have H := Lib.hid (h.below (bw_below w2 s))
  have HB := Lib.hid (bw_bs w2 s (grownCap w2 s.size 0 5) (grownCap_ge w2 s.size 0 5))
  clear h
  go_wp2_with fail
  refine (h_add w0 _ _ p _ _ _ (sb s) H.out HB.out (by have := HT.out; rw [sb_len]; simp; omega)).mono ?_
  rintro e w3 ⟨rfl, h⟩
  rw [List.append_assoc] at h
  have H := Lib.hid h
  clear h
  go_wp2_with fail
  go_end0
  exact ⟨rfl, H.out⟩
theorem wbytes_any (p : Nat) (F : Nat → Prop) (v : Value) (l : List Nat) (w : World) (h : WrAt TW' w p F v l) (hl : l.length ≤ 100000000) :
    Calls Try.prog 21 #[.pointer (some ⟨p, 0, none⟩)] w (Owned w l) := by
  have hc := h.made
  have c1 := h.all
  have hpl := h.lt p h.fp
  have hb0 := h.bs.kept (Same.of_below ((Below.refl w.heap.size w).alloc (Nat.le_refl _) (.cells #[] 5)) h.lt)
  have HB := Lib.hid hb0
  have HO := Lib.hid (World.ownsRow_made (e := 5) (size := 1) w #[] 0 (Nat.le_refl _) (Nat.zero_le _) rfl)
  obtain ⟨a, cap, hv⟩ := h.form
  subst hv
  clear h hb0
  go_enter Try.func21, Try.ntmps21
  go_wp2_with (first
    | (go_at_call 50; refine (wvalid_any p true _ hc).mono ?_; rintro e w' ⟨rfl, rfl⟩)
    | (at_builtin; refine wpList_append_b rfl _ _ rfl w.heap.size (.slice (some ⟨w.heap.size, 0, none⟩) 0 0) 0 [] rfl HO.out F a l.length cap l rfl HB.out (by omega) (by simp) ?_; intro v' w1 ho hg _; have hb : Below w.heap.size w w1 := ((Below.refl w.heap.size w).alloc (Nat.le_refl _) _).grown hg (by simp) ge_size; obtain ⟨a1, c1, rfl⟩ := own_form ho))
  go_ret
  rw [Nat.zero_add] at ho
  exact ⟨_, rfl, by simpa using ho, hb⟩
theorem h_wbytes (w0 W : World) (L : List Asrt) (p : Nat) (l : List Nat) (h : Has w0 W (Wr TW' p l :: L)) (hl : l.length ≤ 100000000) :
    Calls Try.prog 21 #[.pointer (some ⟨p, 0, none⟩)] W fun e W' => ∃ a c, e = .returned (.slice a l.length c) ∧ Has w0 W' (Ow (.slice a l.length c) l :: Wr TW' p l :: L) := by
  obtain ⟨F, ⟨v, hv⟩, _⟩ := h.fst
  refine (wbytes_any p F v l W hv hl).mono fun e W' ⟨v1, he, ho, hb⟩ => ?_
  obtain ⟨a, c, rfl⟩ := own_form ho
  refine ⟨a, c, he, h.add hb (stable_ow _ _) ⟨⟨ho.1, ?_⟩, hv.h8, fun g hg => own_lt ho g hg, fun k hk => hk.2⟩⟩
  rcases ho.2 with h1 | ⟨g, cap, cur, h1, _, h2⟩
  · exact .inl h1
  · exact .inr ⟨g, cap, cur, h1, Nat.zero_le _, h2⟩
theorem h_wlen (w0 W : World) (L : List Asrt) (p : Nat) (l : List Nat) (h : Has w0 W (Wr TW' p l :: L)) (hl : l.length ≤ 100000000) :
    Calls Try.prog 18 #[.pointer (some ⟨p, 0, none⟩)] W (Hs w0 (.int .i64 (l.length : Nat)) (Wr TW' p l :: L)) := by
  have H := Lib.hid h
  clear h
  go_enter Try.func18, Try.ntmps18
  go_wp2_with fail
  refine (h_wbytes w0 _ _ p l H.out hl).mono ?_
  rintro e w1 ⟨a1, c1, rfl, h⟩
  have H := Lib.hid h.drop
  clear h
  go_wp2_with fail
  go_ret
  exact ⟨rfl, H.out⟩
end Go.Proofs.Ytnkmiigcglddmaa.Wire
