/- Contracts of matrices: of, twice. -/
import Derived.Test.YtnpkdieblejliaaDoorK04
namespace Go.Proofs.YtnpkdieblejliaaDoor.Crc
open Go.RowKit Go.ChangeShapes
set_option linter.unusedVariables false

theorem run_index_fill (f : Nat → Nat) (k : Nat) (hk : k < 32) (w : World) :
    (Instr.index 48 (.agg (fill f 32 32)) (.int .i64 k)).run Tryd.prog w = .ok (.int .u32 (f k : Nat)) w := by
  have hsz : (Tryd.prog.info? 23).map (·.size) = some 1 := by kernel_rfl
  have hg := fill_get f 32 32 k hk
  rw [if_pos hk] at hg
  simp [Instr.index, asIntOf, run_underlying Tryd.underlying48, run_underlying Tryd.underlying23, go_sem, hk, part, isAgg, hg]

theorem fill_hi (F : Nat → Nat) : (Tryd.prog.info? 48).map (·.size) = some (fill F 32 32).size := by rw [fill_size]; exact size32

theorem ofN_lt (F : Nat → Nat) (n r : Nat) (h : ∀ i, i < n → F (2 ^ i) < 4294967296) : ofN F n r < 4294967296 := by
  induction n with
  | zero => show 0 < _; omega
  | succ n ih =>
    refine Nat.xor_lt_two_pow (n := 32) (ih fun i hi => h i (by omega)) ?_
    split
    · exact h n (by omega)
    · omega
theorem bit_eq (r k : Nat) (hr : r < 4294967296) : bits .and .u32 ((r : Int) / 2 ^ k) 1 = ((r / 2 ^ k % 2 : Nat) : Int) := by
  have h2 : (2 : Int) ^ k = ((2 ^ k : Nat) : Int) := by rw [Int.natCast_pow]; rfl
  rw [h2, ← Int.natCast_ediv]
  exact and1 _ (Nat.lt_of_le_of_lt (Nat.div_le_self _ _) hr)
theorem bit_yes (r k : Nat) (hr : r < 4294967296) (h : r / 2 ^ k % 2 = 1) : (bits .and .u32 ((r : Int) / 2 ^ k) 1 == 1) = true := by
  rw [bit_eq r k hr, beq_iff_eq, h]; rfl
theorem bit_no (r k : Nat) (hr : r < 4294967296) (h : ¬ r / 2 ^ k % 2 = 1) : (bits .and .u32 ((r : Int) / 2 ^ k) 1 == 1) = false := by
  rw [bit_eq r k hr, beq_eq_false_iff_ne]
  intro e
  exact h (by omega)

theorem of_any (F : Nat → Nat) (r : Nat) (hF : ∀ i, i < 32 → F (2 ^ i) < 4294967296) (hr : r < 4294967296) (w : World) :
    Calls Tryd.prog 31 #[.agg (fill (fun i => F (2 ^ i)) 32 32), .int .u32 r] w fun e w' => e = .returned (.int .u32 (ofN F 32 r : Nat)) ∧ Below w.heap.size w w' := by
  have hi := Lib.hid (fill_hi (fun i => F (2 ^ i)))
  have hx := fun k hk w => run_index_fill (fun i => F (2 ^ i)) k hk w
  have Hx := Lib.hid hx
  have HFl := Lib.hid hF
  clear hx hF
  generalize hM : fill (fun i => F (2 ^ i)) 32 32 = M at *
  clear hM
  have hnew : Hid ((w.alloc (.cells M 48)).heap[w.heap.size]? = some (.cells M 48 (0, 0))) := heap_alloc_new w _
  go_enter Tryd.func31, Tryd.ntmps31
  go_wp2_with (refine wpList_load_row rfl 48 _ rfl w.heap.size rfl 48 _ (0, 0) _ hnew.out Tryd.underlying48 rfl hi.out ?_)
  go_loop [5, 9] (fun t i => ∃ k : Nat, k ≤ 32 ∧ i = .int .i64 k ∧ t = .int .u32 (ofN F k r : Nat)) (fun _ i => 32 - (intOf i).toNat)
  case atStart => exact ⟨0, by omega, rfl, rfl⟩
  case round =>
    obtain ⟨k, hk, rfl, rfl⟩ := hrel
    by_cases hlt : k < 32
    · have hix := Hx.out k hlt
      have ho := ofN_lt F k r (fun i hi => HFl.out i (by omega))
      have hfk := HFl.out k hlt
      by_cases hb : r / 2 ^ k % 2 = 1
      · have hy := bit_yes r k hr hb
        have hn : ofN F (k + 1) r = ofN F k r ^^^ F (2 ^ k) := by show _ ^^^ _ = _; rw [if_pos hb]
        have hx := u32_xor_nat _ _ ho hfk
        have HN := Lib.hid hn
        clear hb hn
        go_wp2
        go_round
        case rel => exact ⟨k + 1, by omega, by go_num, by rw [HN.out]⟩
        case measure => simp [intOf]; omega
      · have hy := bit_no r k hr hb
        have hn : ofN F (k + 1) r = ofN F k r := by show _ ^^^ _ = _; rw [if_neg hb, Nat.xor_zero]
        have HN := Lib.hid hn
        clear hb hn
        go_wp2
        go_round
        case rel => exact ⟨k + 1, by omega, by go_num, by rw [HN.out]⟩
        case measure => simp [intOf]; omega
    · obtain rfl : k = 32 := by omega
      go_wp2
      go_ret
      exact ⟨rfl, (Below.refl _ _).alloc (Nat.le_refl _) _⟩

/-- The matrix of the steps n, at a register. -/
theorem of_stps (n r : Nat) (hr : r < 4294967296) (w : World) :
    Calls Tryd.prog 31 #[.agg (cols n), .int .u32 r] w fun e w' => e = .returned (.int .u32 (stps n r : Nat)) ∧ Below w.heap.size w w' := by
  have h := of_any (stps n) r (fun i hi => stps_lt n _ (pow_lt i hi)) hr w
  rw [ofN_all (lin_stps n) r hr] at h
  exact h

theorem alloc3_first (w : World) (A B C : Obj) : (((w.alloc A).alloc B).alloc C).heap[w.heap.size]? = some A := by
  rw [Below.heap_alloc _ _ _ (by simp; omega)]
  exact heap_alloc2_old w A B
theorem twice_any (n : Nat) (w : World) (hH : Hv w) :
    Calls Tryd.prog 32 #[.agg (cols n)] w fun e w' => e = .returned (.agg (cols (n + n))) ∧ Below w.heap.size w w' := by
  have hi0 := fill_hi (fun i => stps n (2 ^ i))
  have hi := Lib.hid hi0
  have hx := fun k hk w => run_index_fill (fun i => stps n (2 ^ i)) k hk w
  have Hx := Lib.hid hx
  clear hx hi0
  have hfs : ∀ k, k < 32 → stps (n + n) (2 ^ k) = stps n (stps n (2 ^ k)) := fun k _ => stps_add n n _
  have Hs := Lib.hid hfs
  clear hfs
  have hof := fun r hr w => of_stps n r hr w
  have Hof := Lib.hid hof
  clear hof
  unfold cols at *
  generalize hM : fill (fun i => stps n (2 ^ i)) 32 32 = M at *
  clear hM
  go_enter Tryd.func32, Tryd.ntmps32
  go_wp2_with (refine wpList_load_row rfl 48 _ rfl w.heap.size rfl 48 _ (0, 0) _ (alloc3_first w _ _ _) Tryd.underlying48 rfl hi.out ?_)
  go_loopw [7] (fun i wr => ∃ k : Nat, k ≤ 32 ∧ i = .int .i64 k ∧ MAt (w.alloc (.cells M 48)) (w.heap.size + 1) (fun i => stps (n + n) (2 ^ i)) k wr) (fun i _ => 32 - (intOf i).toNat)
  case atStart =>
    have hs : (w.alloc (.cells M 48)).heap.size = w.heap.size + 1 := by simp
    have hb := ((Below.refl (w.heap.size + 1) (w.alloc (.cells M 48))).alloc (by simp) (.cells (fill (fun _ => 0) 32 0) 48)).alloc (by simp) (.cells (fill (fun _ => 0) 32 0) 48)
    have hH1 : Hv (w.alloc (.cells M 48)) := hH.later ((Below.refl _ _).alloc (Nat.le_refl _) _)
    refine ⟨0, Nat.zero_le _, rfl, ⟨?_, ?_, hb, hH1.later (by rw [hs]; exact hb)⟩⟩
    · have := heap_alloc2_new (w.alloc (.cells M 48)) (.cells (fill (fun _ => 0) 32 0) 48) (.cells (fill (fun _ => 0) 32 0) 48)
      rw [hs] at this
      exact this
    · have := heap_alloc2_old (w.alloc (.cells M 48)) (.cells (fill (fun _ => 0) 32 0) 48) (.cells (fill (fun _ => 0) 32 0) 48)
      rw [hs] at this
      exact this
  case round =>
    obtain ⟨k, hk, rfl, hm⟩ := hrel
    have hv := hm.hv
    have hold : wr.heap[w.heap.size]? = some (.cells M 48 (0, 0)) := by
      rw [hm.bel.block w.heap.size (by omega)]; exact heap_alloc_new w _
    have Hold := Lib.hid hold
    clear hold
    have hge : w.heap.size + 1 ≤ wr.heap.size := by have := hm.bel.size; simp at this; omega
    have hg := hH.lt
    by_cases hlt : k < 32
    · have hix := Hx.out k hlt
      have hpl := stps_lt n _ (pow_lt k hlt)
      have HM := Lib.hid hm
      have hsk := Hs.out k hlt
      have HSK := Lib.hid hsk
      clear hm hsk
      generalize stps n (2 ^ k) = q at *
      go_wp2_with (refine wpList_load_row rfl 48 _ rfl w.heap.size rfl 48 _ (0, 0) _ Hold.out Tryd.underlying48 rfl hi.out ?_)
      refine (Hof.out q hpl _).mono ?_
      rintro e w1 ⟨rfl, hb⟩
      have hm1 := HM.out.later hb hge
      have hc := hm1.new.cell k _ (fill_get _ 32 k k hlt)
      have hf := hm1.new.free k
      have hnext := hm1.next hlt (by omega)
      rw [HSK.out] at hnext
      have HN := Lib.hid hnext
      clear hm1 hnext
      go_wp2
      go_roundw
      case rel => exact ⟨k + 1, by omega, by go_num, HN.out⟩
      case measure => simp [intOf]; omega
    · obtain rfl : k = 32 := by omega
      have Hn := Lib.hid hm.new
      have Hr := Lib.hid hm.res
      have HM := Lib.hid hm
      clear hm
      have Hi1 := Lib.hid (fill_hi (fun i => stps (n + n) (2 ^ i)))
      have Ho : Hid ((fill (fun i => stps (n + n) (2 ^ i)) 32 0).size = (fill (fun i => stps (n + n) (2 ^ i)) 32 32).size) := by show _ = _; rw [fill_size, fill_size]
      have H1 := Lib.hid (fill_one (fun i => stps (n + n) (2 ^ i)) 32 32)
      go_wp2_with (first
        | (refine wpList_load_row rfl 48 _ rfl (w.heap.size + 1 + 1) rfl 48 _ (0, 0) _ Hn.out Tryd.underlying48 rfl Hi1.out ?_)
        | (refine wpList_store_row rfl 48 _ _ rfl (w.heap.size + 1) _ rfl rfl 48 _ Hr.out Hi1.out Ho.out H1.out ?_))
      refine bodyPost_ret (v := .agg (fill (fun i => stps (n + n) (2 ^ i)) 32 32)) ?_ rfl ⟨rfl, ?_⟩
      · rw [results_cell_row (fn := Tryd.f32) Tryd.results32 _ _ (w.heap.size + 1) 48 _ (0, 0) _ rfl (Hr.out.row) Tryd.underlying48 rfl Hi1.out]
      · have hb0 : Below w.heap.size w wr := ((Below.refl _ _).alloc (Nat.le_refl _) (.cells M 48)).trans (HM.out.bel.mono (by omega))
        exact below_setRow hb0 (by omega) _
end Go.Proofs.YtnpkdieblejliaaDoor.Crc
