/- bytes.Repeat of one byte. -/
import Derived.Test.YtnkmiigcglddmaaW36
import Derived.Lib.MakeNoZero
import Derived.Laws.CopyOwn
import Derived.Deep.RegionLaw
import Derived.Deep.DeepMust
import Derived.Maps.RangeWalk
namespace Go.Proofs.Ytnkmiigcglddmaa.Wire
open Go.RowKit Go.ChangeShapes
set_option linter.unusedVariables false
set_option linter.unusedSimpArgs false

theorem mul_one_any (n : Nat) (hn : n ≤ 1000) (w : World) : Calls Try.prog 68 #[.int .u64 1, .int .u64 n] w fun e w' => e = .returned (.tuple #[.int .u64 0, .int .u64 n]) ∧ w = w' := by
  refine (Any.bits_Mul (ρ := rep_ren) { rep_lays with } 1 n (by omega) (by omega) w).mono fun e w' ⟨h1, h2⟩ => ⟨?_, h2.symm⟩
  rw [h1, Nat.one_mul, Nat.div_eq_of_lt (by omega), Nat.mod_eq_of_lt (by omega)]
  rfl
theorem splice_take {α : Type} (L : List α) (off : Nat) (cs : List α) (h : off ≤ L.length) : (splice L off cs).take (off + cs.length) = L.take off ++ cs := by
  unfold splice
  rw [← List.append_assoc, List.take_append_of_le_length (by simp; omega)]
  exact List.take_of_length_le (by simp; omega)
/-- The first m cells of the block g hold x. -/
structure RepB (w : World) (g n x m : Nat) (w' : World) : Prop where
  blk : ∃ cur : List Value, n ≤ cur.length ∧ w'.heap[g]? = some (.cells cur.toArray 5 (0, 0)) ∧ cur.take m = List.replicate m (.int .u8 (x : Nat))
  pos : 1 ≤ m
  le : m ≤ n
  bel : Below w.heap.size w w'
theorem RepB.next {w w1 w2 : World} {g n x m : Nat} {cur : List Value} (h : RepB w g n x m w1) (hcl : n ≤ cur.length) (ht : cur.take m = List.replicate m (.int .u8 (x : Nat))) {k : Nat} (hk : k = min m (n - m))
    (hb : w2.heap[g]? = some (.cells (splice cur m (List.replicate k (.int .u8 (x : Nat)))).toArray 5 (0, 0))) (hbel : Below w.heap.size w w2) : RepB w g n x (m + k) w2 := by
  have hle := h.le
  have hp := h.pos
  refine ⟨⟨_, ?_, hb, ?_⟩, by omega, by omega, hbel⟩
  · rw [length_splice _ _ _ (by simp; omega)]; exact hcl
  · have h1 := splice_take cur m (List.replicate k (Value.int .u8 (x : Nat))) (by omega)
    rw [List.length_replicate, ht, List.replicate_append_replicate] at h1
    exact h1
def CopySrc (w : World) (dp sp : Option Addr) (g off : Nat) (cs : List Value) : Prop :=
  0 < cs.length → dp = some ⟨g, off, none⟩ ∧ ∃ ad, sp = some ad ∧ ∀ (j : Nat) (v : Value), cs[j]? = some v → w.cell? (ad.add j) = some v
theorem CopySrc.out {w : World} {dp sp : Option Addr} {g off : Nat} {cs : List Value} (h : CopySrc w dp sp g off cs) :
    0 < cs.length → dp = some ⟨g, off, none⟩ ∧ ∃ ad, sp = some ad ∧ ∀ (j : Nat) (v : Value), cs[j]? = some v → w.cell? (ad.add j) = some v := h
theorem size_u8c : (Try.prog.info? 5).map (·.size) = some 1 := by kernel_rfl
theorem one_src {w : World} {b off x : Nat} (h : w.cell? ⟨b, off, none⟩ = some (.int .u8 (x : Nat))) : ∀ (j : Nat) (v : Value), [Value.int .u8 (x : Nat)][j]? = some v → w.cell? ((⟨b, off, none⟩ : Addr).add j) = some v := by
  intro j v hj
  cases j with
  | zero => rw [addr_add, Nat.add_zero, h]; exact hj
  | succ j => simp at hj
theorem one_cell {x : Nat} : ∀ v ∈ [Value.int .u8 (x : Nat)], v.oneCell' = true := by intro v hv; rw [List.mem_singleton.1 hv]; rfl
set_option maxRecDepth 100000 in
set_option maxHeartbeats 1000000 in
theorem brep_any (F : Nat → Prop) (v : Value) (x n : Nat) (w : World) (hv : Bs w F v [x]) (hF : ∀ k, F k → k < w.heap.size) (hn1 : 1 ≤ n) (hn : n ≤ 1000) :
    Calls Try.prog 43 #[v, .int .i64 n] w fun e w' => e = .returned (.slice (some ⟨w.heap.size, 0, none⟩) n n) ∧ RepB w w.heap.size n x n w' := by
  obtain ⟨_, a, cap, rfl, hcap, hc⟩ := hv
  obtain ⟨b, off, rfl, hFb, hcell⟩ := hc (by simp)
  have hc0 : w.cell? ⟨b, off, none⟩ = some (.int .u8 (x : Nat)) := hcell 0 (by simp)
  have hbw := hF b hFb
  obtain ⟨cs, hrunM, hle, _⟩ := Lib.run_makeNoZero (P := Try.prog) w #[3] 35 5 Try.underlying35 n (by omega)
  have hcall : (callFunc 69 #[.int .i64 (n : Nat)]).run Try.prog w = .ok (.value (.slice (some ⟨w.heap.size, 0, none⟩) n cs.size)) ((w.alloc (.cells cs 5)).drewN 2) := by
    rw [run_callFunc_extern Try.func69 (by kernel_rfl) (by kernel_rfl) (by kernel_rfl) (e := Extern.BytealgMakeNoZero.makeNoZero #[3] #[35]) (by kernel_rfl), hrunM]
    rfl
  clear hrunM hcell hc
  have i0 : (0 : Int) ≤ (n : Int) := by omega
  have i1 : (n : Int) ≤ (cs.size : Int) := by omega
  have d0 : ((n : Int) == 0) = false := by rw [beq_eq_false_iff_ne]; omega
  have d1 : decide ((n : Int) < 0) = false := decide_eq_false (by omega)
  have d2 : decide ((9223372036854775807 : Int) < (n : Int)) = false := decide_eq_false (by omega)
  have d3 : decide ((8192 : Int) < (n : Int)) = false := decide_eq_false (by omega)
  have hb0 : Below w.heap.size w ((w.alloc (.cells cs 5)).drewN 2) := ⟨rfl, rfl, rfl, by simp, fun k hk => heap_alloc_old w _ hk⟩
  have hblk : Hid (((w.alloc (.cells cs 5)).drewN 2).heap[w.heap.size]? = some (.cells cs.toList.toArray 5 (0, 0))) := by
    show ((w.alloc (.cells cs 5)).drewN 2).heap[w.heap.size]? = _
    rw [Array.toArray_toList]
    exact World.alloc_heap_new w _
  have hsrc := Lib.hid ((hb0.cell (p := ⟨b, off, none⟩) hbw).trans hc0)
  have HB := Lib.hid hb0
  have hmin1 : [Value.int .u8 (x : Nat)].length = Nat.min 1 n := (Nat.min_eq_left hn1).symm
  have hlen1 : 0 + [Value.int .u8 (x : Nat)].length ≤ cs.toList.length := by rw [Array.length_toList]; exact Nat.le_trans hn1 hle
  have hmin1 := Lib.hid hmin1
  have hlen1 := Lib.hid hlen1
  clear hb0
  go_enter Try.func43, Try.ntmps43
  go_wp2_with (first
    | (go_at_call 68; refine (mul_one_any n hn _).mono ?_; rintro e w' ⟨rfl, rfl⟩)
    | (with_reducible refine wpList_copy_splice rfl _ _ 35 35 rfl 5 Try.underlying35 size_u8c (some ⟨w.heap.size, 0, none⟩) (some ⟨b, off, none⟩) n n 1 cap rfl rfl w.heap.size 0 cs.toList 5 hblk.out [.int .u8 (x : Nat)] hmin1.out (fun _ => ⟨rfl, _, rfl, one_src hsrc.out⟩) hlen1.out one_cell w.heap.size w HB.out (Nat.le_refl _) ?_; intro w2 hblk2 hb2))
  have hfirst := Lib.hid (show RepB w w.heap.size n x 1 w2 from ⟨⟨_, by rw [length_splice _ _ _ (by simp; omega)]; simpa using hle, hblk2.out, splice_take cs.toList 0 [.int .u8 (x : Nat)] (Nat.zero_le _)⟩, Nat.le_refl _, hn1, hb2⟩)
  clear hblk hblk2 hb2 hcall hsrc HB hc0 hbw i1 hle
  go_loopw [10] (fun i wr => ∃ m : Nat, i = .int .i64 m ∧ RepB w w.heap.size n x m wr) (fun i _ => n - (intOf i).toNat)
  case atStart => exact ⟨1, rfl, hfirst.out⟩
  case round =>
    obtain ⟨m, rfl, hs⟩ := hrel
    obtain ⟨cu, hcu, hblk, htk⟩ := hs.blk
    have hmn := hs.le
    have hm1 := hs.pos
    have hbel := hs.bel.drew
    have hblk : Hid (wr.drew.heap[w.heap.size]? = some (.cells cu.toArray 5 (0, 0))) := hblk
    have htk := Lib.hid htk
    have hs := Lib.hid hs
    by_cases hlt : m < n
    · obtain ⟨k, hk⟩ : ∃ k, min m (n - m) = k := ⟨_, rfl⟩
      have f1 : (List.replicate k (Value.int .u8 (x : Nat))).length = k := List.length_replicate
      have F2 : CopySrc wr.drew (some ⟨w.heap.size, m, none⟩) (some ⟨w.heap.size, 0, none⟩) w.heap.size m (List.replicate k (.int .u8 (x : Nat))) := by
        intro _
        refine ⟨rfl, _, rfl, fun j v hj => ?_⟩
        rw [addr_add, Nat.zero_add]
        have hj2 : j < k := by
          have := (List.getElem?_eq_some_iff.1 hj).1
          rwa [List.length_replicate] at this
        have hv : v = .int .u8 (x : Nat) := List.eq_of_mem_replicate (List.mem_of_getElem? hj)
        subst hv
        refine blk_cell hblk.out j _ ?_
        rw [List.getElem?_toArray]
        have h1 : (cu.take m)[j]? = some (.int .u8 (x : Nat)) := by rw [htk.out]; exact List.getElem?_eq_some_iff.2 ⟨by rw [List.length_replicate]; omega, by simp⟩
        rw [List.getElem?_take] at h1
        split at h1
        · exact h1
        · cases h1
      have f3 : ∀ v ∈ List.replicate k (Value.int .u8 (x : Nat)), v.oneCell' = true := by intro v hv; rw [List.eq_of_mem_replicate hv]; rfl
      have F7 := Lib.hid (fun w2 (hb : w2.heap[w.heap.size]? = some (.cells (splice cu m (List.replicate k (.int .u8 (x : Nat)))).toArray 5 (0, 0))) (hbel : Below w.heap.size w w2) => hs.out.next hcu htk.out hk.symm hb hbel)
      generalize hcs : List.replicate k (Value.int .u8 (x : Nat)) = cs2 at *
      clear hcs
      have F3 := Lib.hid f3
      have F4 := Lib.hid (show m + cs2.length ≤ cu.length by rw [f1]; omega)
      have hsum : IntKind.i64.wrap ((m : Int) + (cs2.length : Int)) = (m : Int) + (cs2.length : Int) := by rw [IntKind.wrap_i64, f1]; omega
      have F1 := Lib.hid (show cs2.length = Nat.min m (n - m) by rw [f1]; exact hk.symm)
      have b1 : cs2.length ≤ n - m := by rw [f1]; omega
      have b2 : 1 ≤ cs2.length := by rw [f1]; omega
      have F8 := Lib.hid (show m + k = m + cs2.length by rw [f1])
      clear f1 f3 hcu hk
      have hnm : ¬ n = m := by omega
      have hmi : min (m : Int) (n : Int) = (m : Int) := by omega
      go_wp2
      clear hmi
      go_region_law (refine step_copy_splice rfl (.tmp 70) (.tmp 73) 35 35 rfl 5 Try.underlying35 size_u8c (some ⟨w.heap.size, m, none⟩) (some ⟨w.heap.size, 0, none⟩) (n - m) (n - m) m n (by simp [Act.eval, Act.put]) (by simp [Act.eval, Act.put]) w.heap.size m cu 5 hblk.out cs2 F1.out F2.out F4.out F3.out w.heap.size w hbel (Nat.le_refl _) ?_; intro w2 hblk2 hb2)
      simp only [List.getElem_toArray, List.getElem_cons_succ, List.getElem_cons_zero]
      go_frame
      go_roundw
      case rel =>
        repeat apply Exists.intro
        refine ⟨?_, rfl⟩
        exact ⟨m + cs2.length, by go_num, by rw [← F8.out]; exact F7.out _ hblk2.out hb2⟩
      case measure =>
        simp [intOf]
        omega
    · obtain rfl : m = n := by omega
      have hfin := Lib.hid hs.out
      clear hblk htk hcu hbel
      go_wp2
      go_ret
      exact ⟨rfl, hfin.out⟩
end Go.Proofs.Ytnkmiigcglddmaa.Wire
