/- The walks of CrcSums, CrcTexts, CrcBack. -/
import Derived.Test.YtnpkdieblejliaaDoorK13
import Derived.ChangeKeysEq
import Derived.ShutString
namespace Go.Proofs.YtnpkdieblejliaaDoor.Crc
open Go.RowKit Go.ChangeShapes
set_option linter.unusedVariables false

/-! A slice of bytes that came in. -/
def IsRow (k : IntKind) (w : World) (a : Option Addr) (len cap : Nat) (zs : List Int) : Prop :=
  (a = none ∧ len = 0 ∧ cap = 0 ∧ zs = []) ∨
  ∃ x, a = some x ∧ len ≤ cap ∧ cap ≤ maxLen ∧ zs.length = cap ∧ (∀ i, i < zs.length → w.cell? (x.add i) = some (.int k (zs.getD i 0))) ∧ ∀ n ∈ zs, (Lit.int k n).wf = true
theorem addr_add (b off i : Nat) : (⟨b, off, none⟩ : Addr).add i = ⟨b, off + i, none⟩ := by unfold Addr.add; split <;> simp_all
theorem row_bs {w : World} {a : Option Addr} {len cap : Nat} {zs : List Int} (h : IsRow .u8 w a len cap zs) :
    ∃ l : List Nat, l.length = len ∧ Bs w (.slice a len cap) l := by
  rcases h with ⟨rfl, rfl, rfl, rfl⟩ | ⟨⟨b, off, spot⟩, rfl, hl, hm, hz, hcell, hwz⟩
  · exact ⟨[], rfl, ⟨fun c hc => absurd hc (List.not_mem_nil), none, 0, rfl, fun hp => absurd hp (Nat.lt_irrefl 0)⟩⟩
  · have e : ((zs.take len).map Int.toNat).length = len := by rw [List.length_map, List.length_take]; omega
    refine ⟨(zs.take len).map Int.toNat, e, ⟨fun c hc => ?_, some ⟨b, off, spot⟩, cap, by rw [e], fun hp => ?_⟩⟩
    · obtain ⟨z, hz1, rfl⟩ := List.mem_map.1 hc
      have hb := bounds_u8 (hwz z (List.mem_of_mem_take hz1))
      omega
    · rw [e] at hp
      have h0 := hcell 0 (by omega)
      have hspot : spot = none := by simpa [Addr.add] using World.cell?_spot h0
      subst hspot
      refine ⟨b, off, rfl, fun i hi => ?_⟩
      rw [e] at hi
      have hi2 : i < zs.length := by omega
      have hc := hcell i hi2
      rw [addr_add] at hc
      rw [hc]
      have hb := bounds_u8 (hwz (zs[i]) (List.getElem_mem hi2))
      rw [List.getD_eq_getElem?_getD, List.getElem?_eq_getElem hi2, List.getD_eq_getElem?_getD, List.getElem?_map, List.getElem?_take_of_lt hi, List.getElem?_eq_getElem hi2]
      show some (Value.int .u8 zs[i]) = some (.int .u8 ((zs[i]).toNat : Int))
      rw [Int.toNat_of_nonneg hb.1]

theorem eq_u32 (d : Nat) (a : Int) (w : World) : (Op.equalIn (d + 1) 23 (.int .u32 a) (.int .u32 a)).run Tryd.prog w = .ok true w := by
  simp [Op.equalIn, run_underlying Tryd.underlying23]
theorem tab_items (d : Nat) (w : World) : ∀ is : List Nat, (∀ j ∈ is, j < 256) → (Op.eqItems (d + 1) 23 1 tab tab is).run Tryd.prog w = .ok true w := by
  intro is
  induction is with
  | nil => intro _; simp [Op.eqItems]
  | cons j is ih =>
    intro h
    have hj := h j (List.mem_cons_self ..)
    have hp : (part 23 tab j).run Tryd.prog w = .ok (.int .u32 (stps 8 j : Nat)) w := by
      refine run_part_plain w (by kernel_rfl) ?_
      unfold tab
      rw [fill_get _ _ _ _ hj, if_pos hj]
    have ht := ih (fun k hk => h k (List.mem_cons_of_mem _ hk))
    have he := eq_u32 d (stps 8 j : Nat) w
    simp [Op.eqItems, Sem.run_bind, hp, he, ht]
theorem eq_tab (w : World) : (Op.equalIn 10000 34 (.agg tab) (.agg tab)).run Tryd.prog w = .ok true w := by
  obtain ⟨i, hi⟩ := Option.isSome_iff_exists.1 (show (Tryd.prog.info? 23).isSome = true by kernel_rfl)
  rw [run_equalIn_array w 9999 _ _ Tryd.underlying34 hi]
  have hc : Tryd.prog.cellsOf 23 = 1 := by kernel_rfl
  rw [hc]
  exact tab_items 9998 w _ (fun j hj => List.mem_range.1 hj)

theorem w_crcTexts (s0 : ByteArray) (a1 : Int) (w0 : s0.size ≤ maxLen) (w1 : (Lit.int .u32 a1).wf = true) (w : World) (hH : Hv w) :
    Calls Tryd.prog 5 #[.string s0, .int .u32 a1] w fun e w' => e = .returned (.bool true) ∧ Below w.heap.size w w' := by
  obtain ⟨a, rfl, ha⟩ := nat_u32 w1
  clear w0 w1
  have G := Below.refl w.heap.size w
  have heq := eq_tab
  by_cases h : 100 < s0.size
  · have hd : decide (100 < (s0.size : Int)) = true := by simp; omega
    go_enter Tryd.func5, Tryd.ntmps5
    go_wp2_with (go_at_call 13; refine (works_any _ (hH.later G)).mono ?_; rintro e w2 ⟨rfl, hb2⟩; have G := more_b G hb2)
    go_ret
    exact ⟨rfl, G⟩
  · have hd : decide (100 < (s0.size : Int)) = false := by simp; omega
    go_enter Tryd.func5, Tryd.ntmps5
    go_wp2_with (first
      | (go_at_call 22; refine (parse_any s0 _).mono ?_; rintro e w' ⟨rfl, rfl⟩)
      | (go_at_call 23; refine (ref_parse_any s0 _).mono ?_; rintro e w' ⟨rfl, rfl⟩)
      | (go_at_call 24; refine (hex_any a ha _).mono ?_; rintro e w1 ⟨rfl, hb1⟩; have G := more_b G hb1)
      | (go_at_call 25; refine (ref_hex_any a ha _).mono ?_; rintro e w' ⟨rfl, rfl⟩)
      | (go_at_call 26; refine (table_any _ (hH.later G)).mono ?_; rintro e w1 ⟨rfl, hb1⟩; have G := more_b G hb1)
      | (go_at_call 27; refine (ref_table_any _ (hH.later G)).mono ?_; rintro e w1 ⟨rfl, hb1⟩; have G := more_b G hb1)
      | (go_at_call 13; refine (works_any _ (hH.later G)).mono ?_; rintro e w2 ⟨rfl, hb2⟩; have G := more_b G hb2))
    go_ret
    exact ⟨rfl, G⟩

theorem bs_conv {w : World} {a : Option Addr} {n cap : Nat} {l : List Nat} (h : Bs w (.slice a n cap) l) :
    (convert 22 9 (.slice a n cap)).run Tryd.prog w = .ok (.string (bstr l)) w := by
  obtain ⟨h8, a', cap', hv, hc⟩ := h
  injection hv with e1 e2 e3
  subst e1 e2 e3
  rcases Nat.eq_zero_or_pos l.length with h0 | h0
  · have hl := List.eq_nil_of_length_eq_zero h0
    subst hl
    cases a with
    | none => exact str_none w cap
    | some x =>
      rw [run_convert_bytes_string w _ _ _ _ _ _ Tryd.underlying22 Tryd.underlying5 Tryd.underlying9]
      exact run_bytesToString w x 0 cap [] (by simp [loadCells, loadCellsFrom])
  · obtain ⟨b, off, rfl, hcell⟩ := hc h0
    exact str_some w b off cap l hcell

theorem w_crcSums (a0 : Option Addr) (len0 cap0 : Nat) (z0 : List Int) (a1 : Int) (w : World) (w0 : IsRow .u8 w a0 len0 cap0 z0) (w1 : (Lit.int .u32 a1).wf = true) (hH : Hv w) :
    Calls Tryd.prog 3 #[.slice a0 len0 cap0, .int .u32 a1] w fun e w' => e = .returned (.bool true) ∧ Below w.heap.size w w' := by
  obtain ⟨a, rfl, ha⟩ := nat_u32 w1
  obtain ⟨l, hl, hv⟩ := row_bs w0
  clear w0 w1
  by_cases h : 3000 < len0
  · clear hv hl
    have hd : decide (3000 < (len0 : Int)) = true := by simp; omega
    go_enter Tryd.func3, Tryd.ntmps3
    go_wp2_with (go_at_call 13; refine (works_any _ hH).mono ?_; rintro e w2 ⟨rfl, G⟩)
    go_ret
    exact ⟨rfl, G⟩
  · have hd : decide (3000 < (len0 : Int)) = false := by simp; omega
    have hlen : l.length ≤ 140737488355328 := by omega
    have hcv := bs_conv hv
    have Hl := Lib.hid hl
    clear hl
    go_enter Tryd.func3, Tryd.ntmps3
    go_wp2_with (first
      | (go_at_call 14; refine (sum_any _ l _ hv hlen hH).mono ?_; rintro e w' ⟨rfl, rfl⟩)
      | (go_at_call 15; refine (ref_sum_any _ l _ hv hlen).mono ?_; rintro e w' ⟨rfl, rfl⟩)
      | (go_at_call 16; refine (more_any a ha _ l _ hv hlen hH).mono ?_; rintro e w' ⟨rfl, rfl⟩)
      | (go_at_call 17; refine (ref_more_any a ha _ l _ hv hlen).mono ?_; rintro e w' ⟨rfl, rfl⟩)
      | (go_at_call 18; refine (check_any _ l _ _ hv hlen hH).mono ?_; rintro e w' ⟨rfl, rfl⟩)
      | (go_at_call 19; refine (ref_check_any _ l _ _ hv hlen).mono ?_; rintro e w' ⟨rfl, rfl⟩)
      | (go_at_call 13; refine (works_any _ hH).mono ?_; rintro e w2 ⟨rfl, G⟩))
    go_ret
    exact ⟨rfl, G⟩

/-! Texts of checksums, and back. -/
theorem dv_hexd (d : Nat) (h : d < 16) : dv (hexd d) = some d := by
  have := (by decide : ∀ i : Fin 16, dv (hexd i) = some i.val) ⟨d, h⟩
  exact this
theorem hexd_dv {c d : Nat} (h : dv c = some d) : hexd d = c := by
  unfold hexd
  rcases dv_cases c with ⟨h1, h2, h3⟩ | ⟨h1, h2, h3⟩ | ⟨_, h3⟩ | ⟨_, _, h3⟩ | ⟨_, h3⟩ <;> rw [h3] at h <;> cases h
  · rw [if_pos (by omega)]; omega
  · rw [if_neg (by omega)]; omega
theorem prs_hx (s k : Nat) : ∀ a, prs a (hx s k) = some (a * 16 ^ k + s % 16 ^ k) := by
  induction k with
  | zero => intro a; simp [hx, prs, Nat.mod_one]
  | succ k ih =>
    intro a
    show prs a (hexd (s / 16 ^ k % 16) :: hx s k) = _
    rw [prs_step (dv_hexd _ (by omega)), ih, Nat.pow_succ, Nat.mod_mul, Nat.add_mul, Nat.mul_assoc, Nat.mul_comm 16 (16 ^ k)]
    congr 1
    rw [Nat.mul_comm (s / 16 ^ k % 16)]
    omega
theorem hx_prs (l : List Nat) : ∀ a y, prs a l = some y → y / 16 ^ l.length = a ∧ hx y l.length = l := by
  induction l with
  | nil => intro a y h; cases h; exact ⟨by simp, rfl⟩
  | cons c l ih =>
    intro a y h
    cases hd : dv c with
    | none => rw [prs_stop hd] at h; cases h
    | some d =>
      rw [prs_step hd] at h
      obtain ⟨h1, h2⟩ := ih _ _ h
      have h16 := dv_lt hd
      refine ⟨?_, ?_⟩
      · rw [List.length_cons, Nat.pow_succ, ← Nat.div_div_eq_div_mul, h1]; omega
      · show hexd (y / 16 ^ l.length % 16) :: hx y l.length = _
        rw [h1, h2, show (a * 16 + d) % 16 = d by omega, hexd_dv hd]
theorem hx_lt (s k : Nat) : ∀ c ∈ hx s k, c < 256 := by
  induction k with
  | zero => intro c h; cases h
  | succ k ih =>
    intro c h
    rcases List.mem_cons.1 h with rfl | h
    · unfold hexd; split <;> omega
    · exact ih c h
theorem prsS_hexs (s : Nat) (hs : s < 4294967296) : prsS (lst (hexs s)) = some s := by
  unfold hexs
  rw [lst_bstr _ (hx_lt s 8)]
  unfold prsS
  rw [if_pos (hx_len s 8), prs_hx, Nat.mod_eq_of_lt (by omega), Nat.zero_mul, Nat.zero_add]
theorem hexs_prsS {s : ByteArray} {y : Nat} (h : prsS (lst s) = some y) : hexs y = s ∧ y < 4294967296 := by
  unfold prsS at h
  split at h
  · rename_i h8
    obtain ⟨h1, h2⟩ := hx_prs _ _ _ h
    rw [h8] at h1 h2
    refine ⟨?_, by omega⟩
    unfold hexs
    rw [h2, bstr_lst]
  · cases h
theorem hexs_size (s : Nat) : (hexs s).size = 8 := by unfold hexs; rw [bstr_size, hx_len]
theorem parse_some (s : ByteArray) (y : Nat) (h : prsS (lst s) = some y) (w : World) :
    Calls Tryd.prog 22 #[.string s] w fun e w' => e = .returned (.tuple #[.int .u32 y, .int .i64 0]) ∧ w = w' := by
  have := parse_any s w
  rw [h] at this
  exact this
theorem parse_none (s : ByteArray) (h : prsS (lst s) = none) (w : World) :
    Calls Tryd.prog 22 #[.string s] w fun e w' => e = .returned (.tuple #[.int .u32 0, .int .i64 10]) ∧ w = w' := by
  have := parse_any s w
  rw [h] at this
  exact this

theorem w_crcBack (a0 : Int) (s1 : ByteArray) (w0 : (Lit.int .u32 a0).wf = true) (w1 : s1.size ≤ maxLen) (w : World) (hH : Hv w) :
    Calls Tryd.prog 12 #[.int .u32 a0, .string s1] w fun e w' => e = .returned (.bool true) ∧ Below w.heap.size w w' := by
  obtain ⟨a, rfl, ha⟩ := nat_u32 w0
  clear w0 w1
  by_cases h : 100 < s1.size
  · have hd : decide (100 < (s1.size : Int)) = true := by simp; omega
    go_enter Tryd.func12, Tryd.ntmps12
    go_wp2_with (go_at_call 13; refine (works_any _ hH).mono ?_; rintro e w2 ⟨rfl, G⟩)
    go_ret
    exact ⟨rfl, G⟩
  · have hd : decide (100 < (s1.size : Int)) = false := by simp; omega
    have HX := Lib.hid (hex_any a ha)
    have HP := Lib.hid (parse_some _ a (prsS_hexs a ha))
    have hsz := hexs_size a
    generalize hexs a = t at *
    cases hp : prsS (lst s1) with
    | none =>
      have HN := Lib.hid (parse_none s1 hp)
      clear hp
      go_enter Tryd.func12, Tryd.ntmps12
      go_wp2_with fail
      refine (HX.out _).mono ?_
      rintro e w1 ⟨rfl, G⟩
      go_wp2_with fail
      refine (HP.out _).mono ?_
      rintro e w' ⟨rfl, rfl⟩
      go_wp2_with fail
      refine (HN.out _).mono ?_
      rintro e w' ⟨rfl, rfl⟩
      go_wp2_with (go_at_call 13; refine (works_any _ (hH.later G)).mono ?_; rintro e w2 ⟨rfl, hb2⟩; have G := more_b G hb2)
      go_ret
      exact ⟨rfl, G⟩
    | some y =>
      have HN := Lib.hid (parse_some s1 y hp)
      obtain ⟨h1, h2⟩ := hexs_prsS hp
      have hy := hex_any y h2
      rw [h1] at hy
      have HY := Lib.hid hy
      clear hp h1 hy
      go_enter Tryd.func12, Tryd.ntmps12
      go_wp2_with fail
      refine (HX.out _).mono ?_
      rintro e w1 ⟨rfl, G⟩
      go_wp2_with fail
      refine (HP.out _).mono ?_
      rintro e w' ⟨rfl, rfl⟩
      go_wp2_with fail
      refine (HN.out _).mono ?_
      rintro e w' ⟨rfl, rfl⟩
      go_wp2_with fail
      refine (HY.out _).mono ?_
      rintro e w2 ⟨rfl, hb2⟩
      have G := more_b G hb2
      go_wp2_with (go_at_call 13; refine (works_any _ (hH.later G)).mono ?_; rintro e w2 ⟨rfl, hb2⟩; have G := more_b G hb2)
      go_ret
      exact ⟨rfl, G⟩
end Go.Proofs.YtnpkdieblejliaaDoor.Crc
