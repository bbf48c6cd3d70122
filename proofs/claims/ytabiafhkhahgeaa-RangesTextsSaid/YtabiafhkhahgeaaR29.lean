/- The document's Parse. -/
import Derived.Test.YtabiafhkhahgeaaR28
namespace Go.Proofs.Ytabiafhkhahgeaa.Rng
open Go.RowKit Go.Lib
set_option linter.unusedVariables false
set_option linter.unusedSimpArgs false
set_option maxRecDepth 100000

theorem Bx.store {w w' : World} {q B : Nat} {s t : ByteArray} (h : Bx w q s t w') (hB : q ≠ B) (hw : w.heap.size ≤ B) (x y : Value) :
    Bx w q s t ((w'.setCell ⟨B, 0, none⟩ x).setCell ⟨B, 1, none⟩ y) :=
  ⟨by rw [box_other _ (by omega)]; exact h.blk, (h.bel.setCell hw _).setCell hw _⟩
set_option maxHeartbeats 8000000 in
theorem rparse_any (l : List UInt8) (hl : l.length ≤ 1000) (w : World) :
    Calls Try.prog 16 #[.string (tx l)] w fun e w' => e = .returned (.tuple #[.agg #[.string (tx (rparseR l).1.f), .string (tx (rparseR l).1.t)], .int .i64 (rparseR l).2]) ∧ Below w.heap.size w w' := by
  have hz := tx_size l
  have hget : ∀ (k : Nat) (h : k < (tx l).size) (h2 : k < l.length), (tx l)[k]'h = l[k]'h2 := fun k h _ => tx_get l k h
  have hT := fun W => rtext_any (cutR l) (Nat.le_trans (cutR_len l).1 hl) (Nat.le_trans (cutR_len l).2 hl) W
  have hp : (tx l).extract 1 (com l) = tx (cutR l).f := tx_part l 1 (com l)
  have hq : (tx l).extract (com l + 1) (l.length - 1) = tx (cutR l).t := tx_part l (com l + 1) (l.length - 1)
  have hrA : com l < 1 → rparseR l = (⟨[], []⟩, 10) := fun h => by unfold rparseR; rw [if_pos (.inl h)]
  have hrB : l.length < com l + 2 → rparseR l = (⟨[], []⟩, 10) := fun h => by unfold rparseR; rw [if_pos (.inr h)]
  have hrC : ¬ com l < 1 → ¬ l.length < com l + 2 → (textR (cutR l)).2 = 0 → decide ((textR (cutR l)).1 = l) = true → rparseR l = (cutR l, 0) := fun h1 h2 h3 h4 => by
    unfold rparseR; rw [if_neg (fun h => h.elim h1 h2), if_pos ⟨h3, of_decide_eq_true h4⟩]
  have hrD : ¬ com l < 1 → ¬ l.length < com l + 2 → (textR (cutR l)).2 = 2 → rparseR l = (⟨[], []⟩, 10) := fun h1 h2 h3 => by
    unfold rparseR; rw [if_neg (fun h => h.elim h1 h2), if_neg (fun h => by rw [h3] at h; exact absurd h.1 (by decide))]
  have hrE : ¬ com l < 1 → ¬ l.length < com l + 2 → decide ((textR (cutR l)).1 = l) = false → rparseR l = (⟨[], []⟩, 10) := fun h1 h2 h3 => by
    unfold rparseR; rw [if_neg (fun h => h.elim h1 h2), if_neg (fun h => of_decide_eq_false h3 h.2)]
  have te : (textR (cutR l)).2 = 0 ∨ (textR (cutR l)).2 = 2 := by
    cases ho : okR (cutR l) with
    | false => rw [textR_no ho]; exact .inr rfl
    | true => rw [textR_yes ho]; exact .inl rfl
  have b1 : ((tx (textR (cutR l)).1).toList == (tx l).toList) = decide ((textR (cutR l)).1 = l) := by rw [tx_l, tx_l, Bool.eq_iff_iff]; simp
  have hc := com_le l
  have HB := Lib.hid (com_before l)
  have HT := Lib.hid (com_there l)
  have HG := Lib.hid hget
  have hx := bx_new w ⟨#[]⟩ ⟨#[]⟩
  unfold TR at hx
  have HR : Hid (∀ W (x y : ByteArray), Bx w w.heap.size ⟨#[]⟩ ⟨#[]⟩ W → B2 ((W.setCell ⟨w.heap.size, 0, none⟩ (.string x)).setCell ⟨w.heap.size, 1, none⟩ (.string y)) w.heap.size x y ∧ Below w.heap.size w ((W.setCell ⟨w.heap.size, 0, none⟩ (.string x)).setCell ⟨w.heap.size, 1, none⟩ (.string y))) :=
    fun W x y h => ⟨box_set h.blk x y, (h.bel.setCell (by exact Nat.le_refl _) _).setCell (by exact Nat.le_refl _) _⟩
  have HX : Hid (∀ W, Bx w w.heap.size ⟨#[]⟩ ⟨#[]⟩ W → B2 W w.heap.size ⟨#[]⟩ ⟨#[]⟩) := fun W h => h.blk
  replace hrA := Lib.hid hrA
  replace hrB := Lib.hid hrB
  replace hrC := Lib.hid hrC
  replace hrD := Lib.hid hrD
  replace hrE := Lib.hid hrE
  replace hT := Lib.hid hT
  clear hget
  generalize rparseR l = res at *
  generalize decide ((textR (cutR l)).1 = l) = z at *
  generalize (textR (cutR l)).2 = ec at *
  generalize tx (textR (cutR l)).1 = tt at *
  generalize tx l = s at *
  generalize hpv : tx (cutR l).f = pv at *
  generalize hqv : tx (cutR l).t = qv at *
  replace hpv := Lib.hid hpv
  replace hqv := Lib.hid hqv
  generalize cutR l = rr at *
  generalize com l = n at *
  go_enter Try.func16, Try.ntmps16
  go_wp2
  generalize w.alloc (.cells #[.string ⟨#[]⟩, .string ⟨#[]⟩] 23) = w0 at *
  go_loop [4] (fun i => ∃ k : Nat, k ≤ n ∧ i = .int .i64 k) (fun i => n - (intOf i).toNat)
  case atStart => exact ⟨0, Nat.zero_le _, rfl⟩
  case round =>
    obtain ⟨k, hk, rfl⟩ := hrel
    by_cases hlt : k < n
    · have hks : k < s.size := by omega
      have hne : (s[k]'hks).toNat ≠ 44 := fun h => HB.out k hlt (by omega) (by rw [← HG.out k hks (by omega)]; exact UInt8.toNat_inj.1 h)
      have d1 : ((s[k]'hks).toNat : Int) ≠ 44 := by omega
      have d2 : decide (((s[k]'hks).toNat : Int) = 44) = false := decide_eq_false d1
      have d3 : (((s[k]'hks).toNat : Int) == 44) = false := by simpa using d1
      have d4 : ((s[k]'hks).toNat = 44) = False := by simpa using hne
      have d5 : (k : Int) < (s.size : Int) := by omega
      go_wp2
      go_round
      case rel => exact ⟨k + 1, by omega, by go_num⟩
      case measure => simp [intOf]; omega
    · obtain rfl : k = n := by omega
      clear hlt hk
      have hcase : (k = s.size) ∨ (k < s.size) := by omega
      rcases hcase with he | hks
      · have d5 : ¬ (k : Int) < (s.size : Int) := by omega
        have r10 := Lib.hid (hrB.out (by omega))
        by_cases h1 : (k : Int) < 1
        · obtain ⟨k0, k1, k2, k3⟩ := (HX.out _ hx).cells
          go_wp2
          obtain ⟨y, hy⟩ := HR.out _ ⟨#[]⟩ ⟨#[]⟩ hx
          obtain ⟨y0, y1, _, _⟩ := y.cells
          refine bodyPost_ret (v := .tuple #[.agg #[.string ⟨#[]⟩, .string ⟨#[]⟩], .int .i64 10]) (by simp [results, Try.results16, go_sem, y0, y1]) rfl ⟨by rw [r10.out]; rfl, hy⟩
        · have d6 : ((s.size : Int) - 2 < (k : Int)) := by omega
          obtain ⟨k0, k1, k2, k3⟩ := (HX.out _ hx).cells
          go_wp2
          obtain ⟨y, hy⟩ := HR.out _ ⟨#[]⟩ ⟨#[]⟩ hx
          obtain ⟨y0, y1, _, _⟩ := y.cells
          refine bodyPost_ret (v := .tuple #[.agg #[.string ⟨#[]⟩, .string ⟨#[]⟩], .int .i64 10]) (by simp [results, Try.results16, go_sem, y0, y1]) rfl ⟨by rw [r10.out]; rfl, hy⟩
      · have heq : (s[k]'hks).toNat = 44 := by rw [HG.out k hks (by omega), HT.out (by omega)]; rfl
        have d1 : ((s[k]'hks).toNat : Int) = 44 := by omega
        have d5 : (k : Int) < (s.size : Int) := by omega
        by_cases h1 : (k : Int) < 1
        · have r10 := Lib.hid (hrA.out (by omega))
          obtain ⟨k0, k1, k2, k3⟩ := (HX.out _ hx).cells
          go_wp2
          obtain ⟨y, hy⟩ := HR.out _ ⟨#[]⟩ ⟨#[]⟩ hx
          obtain ⟨y0, y1, _, _⟩ := y.cells
          refine bodyPost_ret (v := .tuple #[.agg #[.string ⟨#[]⟩, .string ⟨#[]⟩], .int .i64 10]) (by simp [results, Try.results16, go_sem, y0, y1]) rfl ⟨by rw [r10.out]; rfl, hy⟩
        · by_cases h2 : ((s.size : Int) - 2 < (k : Int))
          · have r10 := Lib.hid (hrB.out (by omega))
            obtain ⟨k0, k1, k2, k3⟩ := (HX.out _ hx).cells
            go_wp2
            obtain ⟨y, hy⟩ := HR.out _ ⟨#[]⟩ ⟨#[]⟩ hx
            obtain ⟨y0, y1, _, _⟩ := y.cells
            refine bodyPost_ret (v := .tuple #[.agg #[.string ⟨#[]⟩, .string ⟨#[]⟩], .int .i64 10]) (by simp [results, Try.results16, go_sem, y0, y1]) rfl ⟨by rw [r10.out]; rfl, hy⟩
          · have n1 : ¬ k < 1 := by omega
            have n2 : ¬ l.length < k + 2 := by omega
            have RC := Lib.hid (hrC.out n1 n2)
            have RD := Lib.hid (hrD.out n1 n2)
            have RE := Lib.hid (hrE.out n1 n2)
            go_wp2
            have v1 : (1 : Int) ≤ (k : Int) := by omega
            have v2 : (k : Int) ≤ (l.length : Int) := by omega
            have v3 : (k : Int) + 1 ≤ (l.length : Int) - 1 := by omega
            have v4 : (l.length : Int) - 1 ≤ (l.length : Int) := by omega
            have v5 : (0 : Int) ≤ (k : Int) + 1 := by omega
            have t1 : ((k : Int) + 1).toNat = k + 1 := by omega
            have t2 : ((l.length : Int) - 1).toNat = l.length - 1 := by omega
            have t3 : ((k : Int)).toNat = k := by omega
            have u1 : IntKind.i64.wrap ((k : Int) + 1) = (k : Int) + 1 := IntWalk.i64_in _ (by omega)
            have u2 : IntKind.i64.wrap ((l.length : Int) - 1) = (l.length : Int) - 1 := IntWalk.i64_in _ (by omega)
            refine wp_region_held_drew (S := (fun W => Bx w w.heap.size ⟨#[]⟩ ⟨#[]⟩ W)) (by kernel_rfl) hx.drew (fun hS => ?_)
            try simp only [Act.put, List.setIfInBounds_toArray, List.set_cons_zero, List.set_cons_succ]
            have hxd := hx.drew
            generalize w0.drew = w2 at *
            clear hx
            refine wpAnyH_take (i := 0) (v := .string s) rfl (by kernel_rfl) (by kernel_rfl) (by kernel_rfl) (fun _ _ _ h => h) (Or.inl ⟨by kernel_rfl, by intro w' hSw; obtain ⟨s0, s1⟩ := hSw; go_simp⟩) hS ?_
            try simp only [Act.put, List.setIfInBounds_toArray, List.set_cons_zero, List.set_cons_succ]
            refine wpAnyH_take (i := 1) (v := .int .i64 (k : Int)) rfl (by kernel_rfl) (by kernel_rfl) (by kernel_rfl) (fun _ _ _ h => h) (Or.inl ⟨by kernel_rfl, by intro w' hSw; obtain ⟨s0, s1⟩ := hSw; go_simp⟩) hS ?_
            try simp only [Act.put, List.setIfInBounds_toArray, List.set_cons_zero, List.set_cons_succ]
            refine wpAnyH_take (i := 2) (v := .string pv) rfl (by kernel_rfl) (by kernel_rfl) (by kernel_rfl) (fun _ _ _ h => h) (Or.inl ⟨by kernel_rfl, by intro w' hSw; obtain ⟨s0, s1⟩ := hSw; go_simp⟩) hS ?_
            try simp only [Act.put, List.setIfInBounds_toArray, List.set_cons_zero, List.set_cons_succ]
            refine wpAnyH_take (i := 3) (v := .string s) rfl (by kernel_rfl) (by kernel_rfl) (by kernel_rfl) (fun _ _ _ h => h) (Or.inl ⟨by kernel_rfl, by intro w' hSw; obtain ⟨s0, s1⟩ := hSw; go_simp⟩) hS ?_
            try simp only [Act.put, List.setIfInBounds_toArray, List.set_cons_zero, List.set_cons_succ]
            refine wpAnyH_take (i := 4) (v := .int .i64 (k : Int)) rfl (by kernel_rfl) (by kernel_rfl) (by kernel_rfl) (fun _ _ _ h => h) (Or.inl ⟨by kernel_rfl, by intro w' hSw; obtain ⟨s0, s1⟩ := hSw; go_simp⟩) hS ?_
            try simp only [Act.put, List.setIfInBounds_toArray, List.set_cons_zero, List.set_cons_succ]
            refine wpAnyH_take (i := 5) (v := .int .i64 ((k : Int) + 1)) rfl (by kernel_rfl) (by kernel_rfl) (by kernel_rfl) (fun _ _ _ h => h) (Or.inl ⟨by kernel_rfl, by intro w' hSw; obtain ⟨s0, s1⟩ := hSw; go_simp⟩) hS ?_
            try simp only [Act.put, List.setIfInBounds_toArray, List.set_cons_zero, List.set_cons_succ]
            refine wpAnyH_take (i := 6) (v := .string s) rfl (by kernel_rfl) (by kernel_rfl) (by kernel_rfl) (fun _ _ _ h => h) (Or.inl ⟨by kernel_rfl, by intro w' hSw; obtain ⟨s0, s1⟩ := hSw; go_simp⟩) hS ?_
            try simp only [Act.put, List.setIfInBounds_toArray, List.set_cons_zero, List.set_cons_succ]
            refine wpAnyH_take (i := 7) (v := .int .i64 (l.length : Int)) rfl (by kernel_rfl) (by kernel_rfl) (by kernel_rfl) (fun _ _ _ h => h) (Or.inl ⟨by kernel_rfl, by intro w' hSw; obtain ⟨s0, s1⟩ := hSw; go_simp⟩) hS ?_
            try simp only [Act.put, List.setIfInBounds_toArray, List.set_cons_zero, List.set_cons_succ]
            refine wpAnyH_take (i := 8) (v := .int .i64 ((l.length : Int) - 1)) rfl (by kernel_rfl) (by kernel_rfl) (by kernel_rfl) (fun _ _ _ h => h) (Or.inl ⟨by kernel_rfl, by intro w' hSw; obtain ⟨s0, s1⟩ := hSw; go_simp⟩) hS ?_
            try simp only [Act.put, List.setIfInBounds_toArray, List.set_cons_zero, List.set_cons_succ]
            refine wpAnyH_take (i := 9) (v := .string qv) rfl (by kernel_rfl) (by kernel_rfl) (by kernel_rfl) (fun _ _ _ h => h) (Or.inl ⟨by kernel_rfl, by intro w' hSw; obtain ⟨s0, s1⟩ := hSw; go_simp⟩) hS ?_
            try simp only [Act.put, List.setIfInBounds_toArray, List.set_cons_zero, List.set_cons_succ]
            refine wpAnyH_take (i := 10) (v := .agg #[.string pv, .string qv]) rfl (by kernel_rfl) (by kernel_rfl) (by kernel_rfl) (fun _ _ _ h => h) (Or.inl ⟨by kernel_rfl, by intro w' hSw; obtain ⟨s0, s1⟩ := hSw; go_simp⟩) hS ?_
            try simp only [Act.put, List.setIfInBounds_toArray, List.set_cons_zero, List.set_cons_succ]
            refine wpAnyH_ready (rs := [11]) (by kernel_rfl) (by simp) ?_
            refine AllReadyH.cons rfl (fun K hK => ?_) AllReadyH.nil
            go_simp
            have hx3 := hxd.later (alloc_b w2 (.cells #[.string ⟨#[]⟩, .string ⟨#[]⟩] TR))
            have hB := hxd.lt
            have hbn := B2.new w2 ⟨#[]⟩ ⟨#[]⟩
            generalize hwq : w2.alloc (.cells #[.string ⟨#[]⟩, .string ⟨#[]⟩] TR) = w3 at *
            generalize hBq : w2.heap.size = B at *
            clear hwq hBq
            refine hK.out _ _ hx3 (fun hS => ?_)
            clear hK K
            try simp only [Act.put, List.setIfInBounds_toArray, List.set_cons_zero, List.set_cons_succ]
            refine wpAnyH_ready (rs := [12]) (by kernel_rfl) (by simp) ?_
            refine AllReadyH.cons rfl (fun K hK => ?_) AllReadyH.nil
            obtain ⟨j0, j1, f0, f1⟩ := hbn.cells
            go_simp
            have hy := hx3.store (by omega) (by omega) (.string pv) (.string qv) (B := B)
            have hz2 : B2 _ B pv qv := box_set hbn pv qv
            clear j0 j1 f0 f1
            refine hK.out _ _ hy (fun hS => ?_)
            clear hK K
            try simp only [Act.put, List.setIfInBounds_toArray, List.set_cons_zero, List.set_cons_succ]
            refine wpAnyH_done (by kernel_rfl) ?_ _
            clear hS
            generalize hwr : (World.setCell (World.setCell _ _ _) _ _) = w4 at *
            clear hwr hbn hx3 hxd t1 t2 t3 u1 u2 v3 v4 v5
            obtain ⟨j0, j1, _, _⟩ := hz2.cells
            rcases te with rfl | rfl
            · cases z
              · have r10 := Lib.hid (RE.out rfl)
                go_wp2_with (go_at_call 14; refine (hT.out _).mono ?_; rintro e w5 ⟨rfl, hb5⟩; have hx5 := hy.later hb5; obtain ⟨k0, k1, k2, k3⟩ := (HX.out _ hx5).cells; obtain ⟨m0, m1, m2, m3⟩ := (B2.later hz2 hb5).cells)
                obtain ⟨y, hy⟩ := HR.out _ ⟨#[]⟩ ⟨#[]⟩ hx5
                obtain ⟨y0, y1, _, _⟩ := y.cells
                refine bodyPost_ret (v := .tuple #[.agg #[.string ⟨#[]⟩, .string ⟨#[]⟩], .int .i64 10]) (by simp [results, Try.results16, go_sem, y0, y1]) rfl ⟨by rw [r10.out]; rfl, hy⟩
              · have r10 := Lib.hid (RC.out rfl rfl)
                go_wp2_with (go_at_call 14; refine (hT.out _).mono ?_; rintro e w5 ⟨rfl, hb5⟩; have hx5 := hy.later hb5; obtain ⟨k0, k1, k2, k3⟩ := (HX.out _ hx5).cells; obtain ⟨m0, m1, m2, m3⟩ := (B2.later hz2 hb5).cells)
                obtain ⟨y, hy⟩ := HR.out _ pv qv hx5
                obtain ⟨y0, y1, _, _⟩ := y.cells
                refine bodyPost_ret (v := .tuple #[.agg #[.string pv, .string qv], .int .i64 0]) (by simp [results, Try.results16, go_sem, y0, y1]) rfl ⟨by rw [r10.out, ← hpv.out, ← hqv.out], hy⟩
            · have r10 := Lib.hid (RD.out rfl)
              go_wp2_with (go_at_call 14; refine (hT.out _).mono ?_; rintro e w5 ⟨rfl, hb5⟩; have hx5 := hy.later hb5; obtain ⟨k0, k1, k2, k3⟩ := (HX.out _ hx5).cells; obtain ⟨m0, m1, m2, m3⟩ := (B2.later hz2 hb5).cells)
              obtain ⟨y, hy⟩ := HR.out _ ⟨#[]⟩ ⟨#[]⟩ hx5
              obtain ⟨y0, y1, _, _⟩ := y.cells
              refine bodyPost_ret (v := .tuple #[.agg #[.string ⟨#[]⟩, .string ⟨#[]⟩], .int .i64 10]) (by simp [results, Try.results16, go_sem, y0, y1]) rfl ⟨by rw [r10.out]; rfl, hy⟩
end Go.Proofs.Ytabiafhkhahgeaa.Rng
