/- strings.Repeat at this program; bits of a set; SlotsCounts. -/
import Derived.Test.YtgeejkedljhcoaaT14
import Derived.Shelf.Strings.Repeat
namespace Go.Proofs.Ytgeejkedljhcoaa.Slt
open Go.RowKit Go.Maps Go.Lib
set_option linter.unusedVariables false
set_option linter.unusedSimpArgs false
set_option maxRecDepth 100000

def rep_ren : Go.Shelf.Ren := ⟨fun | 99 => 51 | 105 => 30 | 165 => 52 | 166 => 53 | 169 => 55 | 170 => 54 | 206 => 62 | 212 => 50 | 240 => 63 | 241 => 64 | 263 => 60 | 264 => 61 | 276 => 65 | 277 => 66 | n => n, fun | 0 => 0 | 3 => 3 | 4 => 4 | 5 => 5 | 9 => 9 | 20 => 20 | 37 => 58 | 46 => 76 | 109 => 77 | 51 => 89 | 53 => 54 | 70 => 80 | 72 => 82 | 75 => 84 | 76 => 85 | 80 => 52 | 127 => 94 | 146 => 90 | 148 => 92 | 164 => 95 | n => n, fun | n => n⟩
theorem rep_lays : Go.Proofs.Lays.n105 Try.prog rep_ren := {
  mixed := by kernel_rfl
  f99 := Try.func51.trans (congrArg some (by kernel_rfl))
  f105 := Try.func30.trans (congrArg some (by kernel_rfl))
  f165 := Try.func52.trans (congrArg some (by kernel_rfl))
  f166 := Try.func53.trans (congrArg some (by kernel_rfl))
  f169 := Try.func55.trans (congrArg some (by kernel_rfl))
  f170 := Try.func54.trans (congrArg some (by kernel_rfl))
  f206 := Try.func62.trans (congrArg some (by kernel_rfl))
  f212 := Try.func50.trans (congrArg some (by kernel_rfl))
  f240 := Try.func63.trans (congrArg some (by kernel_rfl))
  f241 := Try.func64.trans (congrArg some (by kernel_rfl))
  f263 := Try.func60.trans (congrArg some (by kernel_rfl))
  f264 := Try.func61.trans (congrArg some (by kernel_rfl))
  f276 := Try.func65.trans (congrArg some (by kernel_rfl))
  f277 := Try.func66.trans (congrArg some (by kernel_rfl))
  t0 := Try.underlying0
  a0 := Try.isAgg0
  z0 := Try.sizeOf0
  v0 := Try.zeroValue0
  t3 := Try.underlying3
  a3 := Try.isAgg3
  z3 := Try.sizeOf3
  v3 := Try.zeroValue3
  t4 := Try.underlying4
  a4 := Try.isAgg4
  z4 := Try.sizeOf4
  v4 := Try.zeroValue4
  t5 := Try.underlying5
  a5 := Try.isAgg5
  z5 := Try.sizeOf5
  v5 := Try.zeroValue5
  t9 := Try.underlying9
  a9 := Try.isAgg9
  z9 := Try.sizeOf9
  v9 := Try.zeroValue9
  t20 := Try.underlying20
  a20 := Try.isAgg20
  z20 := Try.sizeOf20
  v20 := Try.zeroValue20
  t37 := Try.underlying58
  a37 := Try.isAgg58
  z37 := Try.sizeOf58
  v37 := Try.zeroValue58
  t46 := Try.underlying76
  a46 := Try.isAgg76
  z46 := Try.sizeOf76
  v46 := Try.zeroValue76
  t51 := Try.underlying89
  a51 := Try.isAgg89
  z51 := Try.sizeOf89
  v51 := Try.zeroValue89
  t53 := Try.underlying54
  a53 := Try.isAgg54
  z53 := Try.sizeOf54
  v53 := Try.zeroValue54
  t70 := Try.underlying80
  a70 := Try.isAgg80
  z70 := Try.sizeOf80
  v70 := Try.zeroValue80
  t72 := Try.underlying82
  a72 := Try.isAgg82
  z72 := Try.sizeOf82
  v72 := Try.zeroValue82
  t75 := Try.underlying84
  a75 := Try.isAgg84
  z75 := Try.sizeOf84
  v75 := Try.zeroValue84
  t76 := Try.underlying85
  a76 := Try.isAgg85
  z76 := Try.sizeOf85
  v76 := Try.zeroValue85
  t109 := Try.underlying77
  a109 := Try.isAgg77
  z109 := Try.sizeOf77
  v109 := Try.zeroValue77
  t127 := Try.underlying94
  a127 := Try.isAgg94
  z127 := Try.sizeOf94
  v127 := Try.zeroValue94
  t146 := Try.underlying90
  a146 := Try.isAgg90
  z146 := Try.sizeOf90
  v146 := Try.zeroValue90
  t148 := Try.underlying92
  a148 := Try.isAgg92
  z148 := Try.sizeOf92
  v148 := Try.zeroValue92
  t164 := Try.underlying95
  a164 := Try.isAgg95
  z164 := Try.sizeOf95
  v164 := Try.zeroValue95 }
theorem rep_extra : Builder.Extra Try.prog rep_ren where
  sizeBuilder := by kernel_rfl
  liesBuilder := by kernel_rfl
  t5 := rep_lays.t5
  a5 := rep_lays.a5
  z5 := rep_lays.z5
  v5 := rep_lays.v5
  infoByte := by kernel_rfl
  cellsByte := by kernel_rfl
  sizeByte := by kernel_rfl
  neB5 := by decide
theorem repL_one (b : UInt8) : ∀ c : Nat, Lib.repeatL [b] c = List.replicate c b
  | 0 => rfl
  | c + 1 => by
    show [b] ++ Lib.repeatL [b] c = _
    rw [repL_one b c, List.replicate_succ]
    rfl

def vr (c : Nat) : ByteArray := ⟨(List.replicate c 118).toArray⟩
theorem vr_size (c : Nat) : (vr c).size = c := by show (List.replicate c (118 : UInt8)).toArray.size = c; simp
theorem rep_any (c : Nat) (w : World) (hc : c ≤ 1000000) :
    Calls Try.prog 30 #[.string ⟨#[118]⟩, .int .i64 (c : Nat)] w fun e w' => e = .returned (.string (vr c)) ∧ Below w.heap.size w w' := by
  have h := Any.strings_Repeat rep_lays rep_extra ⟨#[118]⟩ c w (by omega) (by show 1 * c ≤ _; omega)
  rw [show ((⟨#[118]⟩ : ByteArray).data.toList) = [118] from rfl, repL_one] at h
  exact h
theorem shr_nat (x k : Nat) : (x : Int) / 2 ^ k = ((x / 2 ^ k : Nat) : Int) := by
  rw [show (2 : Int) ^ k = ((2 ^ k : Nat) : Int) by rw [Int.natCast_pow]; rfl, ← Int.natCast_ediv]
theorem and_1 (x : Nat) (h : x < 18446744073709551616) : bits .and .u64 (x : Int) 1 = ((x % 2 : Nat) : Int) := by
  have := bits_and_u64_nat x 1 h (by omega)
  refine Eq.trans this ?_
  rw [show (1 : Nat) = 2 ^ 1 - 1 from rfl, Nat.and_two_pow_sub_one_eq_mod]
theorem bit_one (x k : Nat) : x.testBit k = decide (x / 2 ^ k % 2 = 1) := by
  rw [Nat.testBit_eq_decide_div_mod_eq]
theorem bit_high {x : Nat} (h : x < 18446744073709551616) {k : Nat} (hk : 64 ≤ k) : x.testBit k = false := by
  refine Nat.testBit_lt_two_pow (Nat.lt_of_lt_of_le h ?_)
  exact Nat.pow_le_pow_right (n := 2) (by omega) hk
theorem div_zero {x : Nat} (h : x < 18446744073709551616) (j : Nat) : x / 2 ^ j = 0 ↔ ∀ k, j ≤ k → k < 64 → x.testBit k = false := by
  constructor
  · intro h0 k hk _
    have h1 : (x / 2 ^ j).testBit (k - j) = false := by rw [h0]; exact Nat.zero_testBit _
    rw [Nat.testBit_div_two_pow, show k - j + j = k by omega] at h1
    exact h1
  · intro hh
    refine Nat.eq_of_testBit_eq fun i => ?_
    rw [Nat.zero_testBit, Nat.testBit_div_two_pow]
    by_cases hi : i + j < 64
    · exact hh _ (by omega) hi
    · exact bit_high h (by omega)
/-- The slots from u on, k of them, that are missing below one that is there. -/
def wl (x u : Nat) : Nat → List Int
  | 0 => []
  | k + 1 => wl x u k ++ (if x / 2 ^ (u + k) % 2 = 0 ∧ x / 2 ^ (u + k) ≠ 0 then [((u + k : Nat) : Int)] else [])
theorem wl_mem (x u : Nat) : ∀ (k : Nat) (j : Int), j ∈ wl x u k ↔ ∃ i : Nat, j = (i : Int) ∧ u ≤ i ∧ i < u + k ∧ x / 2 ^ i % 2 = 0 ∧ x / 2 ^ i ≠ 0
  | 0, j => by
    show j ∈ [] ↔ _
    constructor
    · intro h; cases h
    · rintro ⟨i, _, h1, h2, _⟩; omega
  | k + 1, j => by
    show j ∈ wl x u k ++ _ ↔ _
    rw [List.mem_append, wl_mem x u k j]
    constructor
    · rintro (⟨i, h1, h2, h3, h4⟩ | h)
      · exact ⟨i, h1, h2, by omega, h4⟩
      · split at h
        · rename_i hc
          rw [List.mem_singleton] at h
          exact ⟨u + k, h, by omega, by omega, hc⟩
        · cases h
    · rintro ⟨i, h1, h2, h3, h4⟩
      by_cases hi : i = u + k
      · subst hi
        right
        rw [if_pos h4, h1]
        exact List.mem_singleton_self _
      · exact .inl ⟨i, h1, h2, by omega, h4⟩
theorem wl_srt (x u : Nat) : ∀ k : Nat, (wl x u k).Pairwise (· < ·)
  | 0 => List.Pairwise.nil
  | k + 1 => by
    show (wl x u k ++ _).Pairwise _
    rw [List.pairwise_append]
    refine ⟨wl_srt x u k, ?_, fun a ha b hb => ?_⟩
    · split
      · exact List.pairwise_singleton _ _
      · exact List.Pairwise.nil
    · obtain ⟨i, rfl, _, h3, _⟩ := (wl_mem x u k a).1 ha
      split at hb
      · rw [List.mem_singleton] at hb; omega
      · cases hb
theorem wl_len (x u : Nat) : ∀ k : Nat, (wl x u k).length ≤ k
  | 0 => Nat.le_refl 0
  | k + 1 => by
    show (wl x u k ++ _).length ≤ _
    have := wl_len x u k
    rw [List.length_append]
    split <;> simp <;> omega
/-- The log of a set's slots, each with its value. -/
abbrev setN (x : Nat) (vf : Nat → ByteArray) (k : Nat) : St := setS (fun i => x.testBit i) vf k
theorem set_has {x : Nat} {vf : Nat → ByteArray} (hv : ∀ i, (vf i).size ≤ 65536) (j : Int) : (getM (setN x vf 64).M j).isSome = true ↔ 0 ≤ j ∧ j < 64 ∧ x.testBit j.toNat = true := by
  obtain ⟨_, _, h3, _⟩ := set_facts (bt := fun i => x.testBit i) hv 64 (by omega)
  rw [h3]
  by_cases hc : 0 ≤ j ∧ j < ((64 : Nat) : Int) ∧ x.testBit j.toNat = true
  · rw [if_pos hc]; exact ⟨fun _ => ⟨hc.1, by omega, hc.2.2⟩, fun _ => rfl⟩
  · rw [if_neg hc]; exact ⟨fun h => (by cases h), fun h => absurd ⟨h.1, by omega, h.2.2⟩ hc⟩
theorem set_upto {x : Nat} {vf : Nat → ByteArray} (hv : ∀ i, (vf i).size ≤ 65536) {u : Nat} (hu : u ≤ 64) (hall : ∀ i, i < u → x.testBit i = true) (hn : u < 64 → x.testBit u = false) : uptoV (setN x vf 64) = u := by
  obtain ⟨h1, h2, _, _⟩ := set_facts (bt := fun i => x.testBit i) hv 64 (by omega)
  refine upto_eq h1 (by rw [h2]; omega) (fun k g1 g2 => ?_) ?_
  · rw [h2] at g1
    exact (set_has hv k).2 ⟨g1, by omega, hall _ (by omega)⟩
  · cases hc : (getM (setN x vf 64).M (u : Int)).isSome with
    | false => rfl
    | true =>
      obtain ⟨_, g2, g3⟩ := (set_has hv _).1 hc
      have := hn (by omega)
      rw [show ((u : Nat) : Int).toNat = u by omega, this] at g3
      cases g3
theorem set_gaps {x : Nat} (hx : x < 18446744073709551616) {vf : Nat → ByteArray} (hv : ∀ i, (vf i).size ≤ 65536) {u B : Nat} (hu : u ≤ 64) (hB : B ≤ u) (hU : uptoV (setN x vf 64) = u) : gapV (rsS (setN x vf 64) B) = wl x u (64 - u) := by
  obtain ⟨h1, h2, _, _⟩ := set_facts (bt := fun i => x.testBit i) hv 64 (by omega)
  have hO : OkS (rsS (setN x vf 64) B) := ok_rs h1 (by omega)
  have hU2 : uptoV (rsS (setN x vf 64) B) = u := by rw [rs_upto h1 (by rw [hU]; omega), hU]
  refine srt_ext (gap_srt hO) (wl_srt x u _) fun j => ?_
  rw [wl_mem]
  have hh : ∀ k : Int, (getM (rsS (setN x vf 64) B).M k).isSome = true ↔ (B : Int) ≤ k ∧ k < 64 ∧ x.testBit k.toNat = true := fun k => by
    rw [rs_get h1]
    by_cases hc : (B : Int) ≤ k
    · rw [if_pos hc, set_has hv]
      exact ⟨fun h => ⟨hc, h.2⟩, fun h => ⟨by omega, h.2⟩⟩
    · rw [if_neg hc]
      exact ⟨fun h => (by cases h), fun h => absurd h.1 hc⟩
  constructor
  · intro hj
    obtain ⟨_, g1, _⟩ := gap_in hO hj
    rw [hU2] at g1
    obtain ⟨_, g2, k, g3, g4⟩ := (gap_mem hO j).1 hj
    obtain ⟨k1, k2, k3⟩ := (hh k).1 g4
    have hb : x.testBit j.toNat = false := by
      cases hc : x.testBit j.toNat with
      | false => rfl
      | true => rw [(hh j).2 ⟨by omega, by omega, hc⟩] at g2; cases g2
    refine ⟨j.toNat, by omega, by omega, by omega, ?_, ?_⟩
    · rw [bit_one] at hb
      have := of_decide_eq_false hb
      omega
    · intro h0
      have := (div_zero hx _).1 h0 k.toNat (by omega) (by omega)
      rw [this] at k3; cases k3
  · rintro ⟨i, rfl, g1, g2, g3, g4⟩
    refine (gap_mem hO _).2 ⟨by show max (setN x vf 64).b (B : Int) ≤ _; rw [h2]; omega, ?_, ?_⟩
    · cases hc : (getM (rsS (setN x vf 64) B).M (i : Int)).isSome with
      | false => rfl
      | true =>
        have := ((hh _).1 hc).2.2
        rw [show ((i : Nat) : Int).toNat = i by omega, bit_one] at this
        have := of_decide_eq_true this
        omega
    · have hne : ¬ ∀ k, i ≤ k → k < 64 → x.testBit k = false := fun h => g4 ((div_zero hx i).2 h)
      obtain ⟨k, hk⟩ := Classical.not_forall.1 hne
      have k1 : i ≤ k := by
        by_cases h : i ≤ k
        · exact h
        · exact absurd (fun h' => absurd h' h) hk
      have k2 : k < 64 := by
        by_cases h : k < 64
        · exact h
        · exact absurd (fun _ h' => absurd h' h) hk
      have k3 : x.testBit k = true := by
        cases hc : x.testBit k with
        | true => rfl
        | false => exact absurd (fun _ _ => hc) hk
      have k4 : k ≠ i := fun e => by
        rw [e, bit_one] at k3
        have := of_decide_eq_true k3
        omega
      exact ⟨(k : Int), by omega, (hh _).2 ⟨by omega, by omega, k3⟩⟩
theorem gap_first {s : St} (h : OkS s) (hne : 0 < (gapV s).length) : (gapV s)[0]? = some (uptoV s) := by
  have hs := gap_srt h
  have hall : ∀ x ∈ gapV s, uptoV s ≤ x := fun x hx => (gap_in h hx).2.1
  have hm : uptoV s ∈ gapV s := by
    obtain ⟨x, hx⟩ := List.exists_mem_of_length_pos hne
    obtain ⟨_, _, j, h3, h4⟩ := (gap_mem h x).1 hx
    exact (gap_mem h _).2 ⟨(upto_le h).1, upto_not h, j, by have := hall x hx; omega, h4⟩
  match hg : gapV s, hs, hall, hm with
  | y :: r, hs, hall, hm =>
    have h1 := (List.pairwise_cons.1 hs).1
    have h2 := hall y (List.mem_cons_self ..)
    rcases List.mem_cons.1 hm with e | hm
    · rw [e]; rfl
    · have := h1 _ hm; omega
/-- An append of a number, the length a letter. -/
theorem wpList_append_m {ops : Array Oper} {rest : List Oper} {o : Oper} {a : Act} {w : World} {Q : Exit → Act → World → Prop} (hgd : o.guard = none) (s x : Operand)
    (ho : o.op = .call { callee := .builtin .append, args := #[s, x], argTypes := #[TIs, TIs] })
    (base : Nat) (v : Value) (m : Nat) (xs : List Value) (hs : a.eval s = v) (hown : w.ownsRow base TI 1 v m xs) (g c : Nat) (y : Int) (hx : a.eval x = .slice (some ⟨g, 0, none⟩) 1 c) (hc : w.heap[g]? = some (.cells #[.int .i64 y] TI (0, 0)))
    (hn : m ≤ 100000) (hbase : base ≤ w.heap.size)
    (h : ∀ v' w', w'.ownsRow base TI 1 v' (m + 1) (xs ++ [.int .i64 y]) → w.grownBy w' v.ownBlock → wpList Try.prog ops Q rest (a.put o.dst v') w') :
    wpList Try.prog ops Q (o :: rest) a w := by
  refine wpList_plain hgd fun K hK => ?_
  obtain ⟨i0, hi, hz0, hz1, hz2⟩ := info_p info_i
  obtain ⟨v', w', hrun, h1, h2, _, h4⟩ := run_append_own_at (P := Try.prog) w base TIs o.type TI i0 _ 1 8 Try.underlying45 hi hz0 hz1 hz2 rfl (by decide) v m xs hown ⟨g, 0, none⟩ 1 c [.int .i64 y] rfl
    (fun j u hu => by rw [addr_add, Nat.zero_add, cell_of_row w g j _ TI _ hc]; simpa using hu) (fun u hu => by simp at hu; subst hu; rfl) (by unfold maxLen; omega) (by omega) hbase
  unfold Oper.wp execOp
  simp only [ho, resolve, invoke, builtin, Sem.run_bind, Sem.run_pure, Result.andThen_ok, List.map_toArray, List.map_cons, List.map_nil, hs, hx, hrun]
  exact hK _ _ (h v' w' h1 h2)
end Go.Proofs.Ytgeejkedljhcoaa.Slt
