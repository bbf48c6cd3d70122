/- Contracts of slices.Repeat, Clone and Equal at []int64. -/
import Derived.Test.YtkphkjcpbnnpfaaC07
import Derived.OwnWalk
import Derived.Laws.CopyOwn
import Derived.Deep.RegionLaw
import Derived.Deep.DeepMust
import Derived.Shelf.Bits.Mul64
namespace Go.Proofs.Ytkphkjcpbnnpfaa.Num
open Go.RowKit Go.ChangeShapes
set_option linter.unusedVariables false

/-! Plain: a list repeated. -/
def rep {α : Type} (l : List α) (c : Nat) : List α := (List.replicate c l).flatten
theorem rep_len {α : Type} (l : List α) (c : Nat) : (rep l c).length = c * l.length := by
  unfold rep; induction c with
  | zero => simp
  | succ c ih => rw [List.replicate_succ, List.flatten_cons, List.length_append, ih, Nat.succ_mul]; omega
theorem rep_add {α : Type} (l : List α) (a b : Nat) : rep l (a + b) = rep l a ++ rep l b := by
  unfold rep; rw [← List.replicate_append_replicate, List.flatten_append]
theorem rep_drop {α : Type} (l : List α) (c k : Nat) (h : k ≤ c) : (rep l c).drop (k * l.length) = rep l (c - k) := by
  have e : c = k + (c - k) := by omega
  rw [show rep l c = rep l k ++ rep l (c - k) by rw [← rep_add, ← e], List.drop_append_of_le_length (by rw [rep_len]; omega), List.drop_eq_nil_of_le (by rw [rep_len]; omega)]
  rfl
theorem rep_take {α : Type} (l : List α) (c k m : Nat) (h : k ≤ c) (hm : m ≤ (c - k) * l.length) : (rep l (c - k)).take m = (rep l c).take m := by
  have e : c = (c - k) + k := by omega
  rw [show rep l c = rep l (c - k) ++ rep l k by rw [← rep_add, ← e], List.take_append_of_le_length (by rw [rep_len]; exact hm)]
/-- What is copied behind k whole copies goes on with them. -/
theorem rep_more {α : Type} (l : List α) (c k m : Nat) (h : k ≤ c) (hm : k * l.length + m ≤ c * l.length) :
    (rep l c).take (k * l.length) ++ (rep l c).take m = (rep l c).take (k * l.length + m) := by
  rw [List.take_add, rep_drop l c k h, rep_take l c k m h (by rw [Nat.sub_mul]; omega)]
theorem rep_map {α β : Type} (f : α → β) (l : List α) (c : Nat) : (rep l c).map f = rep (l.map f) c := by
  unfold rep; rw [List.map_flatten, List.map_replicate]

/-! Reading. -/
/-- The value v is a slice that reads as l in w. -/
def IsList (w : World) (v : Value) (l : List Int) : Prop :=
  ∃ a cap, v = .slice a l.length cap ∧ (0 < l.length → ∃ b off, a = some ⟨b, off, none⟩ ∧ ∀ i, i < l.length → w.cell? ⟨b, off + i, none⟩ = some (.int .i64 (l.getD i 0)))
theorem IsList.later {w w' : World} {v : Value} {l : List Int} (h : IsList w v l) (hb : Below w.heap.size w w') : IsList w' v l := by
  obtain ⟨a, cap, hv, h⟩ := h
  refine ⟨a, cap, hv, fun hp => ?_⟩
  obtain ⟨b, off, ha, hc⟩ := h hp
  refine ⟨b, off, ha, fun i hi => ?_⟩
  rw [hb.cell (p := ⟨b, off + i, none⟩) (World.block_lt_of_cell? w _ (hc i hi))]
  exact hc i hi

/-! The library's contract of bits.Mul at this program. -/
def mul_ren : Go.Shelf.Ren := ⟨fun | 212 => 46 | 263 => 52 | 264 => 51 | n => n, fun | 46 => 42 | 51 => 61 | 146 => 62 | 53 => 37 | 148 => 58 | n => n, fun | n => n⟩
theorem mul_lays : Go.Proofs.Lays.n212 Try.prog mul_ren := {
  mixed := by kernel_rfl
  f212 := Try.func46.trans (congrArg some (by kernel_rfl))
  f263 := Try.func52.trans (congrArg some (by kernel_rfl))
  f264 := Try.func51.trans (congrArg some (by kernel_rfl))
  t46 := Try.underlying42
  a46 := Try.isAgg42
  z46 := Try.sizeOf42
  v46 := Try.zeroValue42
  t51 := Try.underlying61
  a51 := Try.isAgg61
  z51 := Try.sizeOf61
  v51 := Try.zeroValue61
  t53 := Try.underlying37
  a53 := Try.isAgg37
  z53 := Try.sizeOf37
  v53 := Try.zeroValue37
  t146 := Try.underlying62
  a146 := Try.isAgg62
  z146 := Try.sizeOf62
  v146 := Try.zeroValue62
  t148 := Try.underlying58
  a148 := Try.isAgg58
  z148 := Try.sizeOf58
  v148 := Try.zeroValue58 }
theorem mul_small (x y n : Nat) (hn : x * y = n) (hx : x ≤ 12000) (hy : y ≤ 70000) (hs : n ≤ 12000) (w : World) :
    Calls Try.prog 46 #[.int .u64 x, .int .u64 y] w fun e w' => e = .returned (.tuple #[.int .u64 0, .int .u64 n]) ∧ w = w' := by
  refine (Any.bits_Mul mul_lays x y (by omega) (by omega) w).mono fun e w' ⟨h1, h2⟩ => ⟨?_, h2.symm⟩
  rw [h1, hn, Nat.div_eq_of_lt (by omega), Nat.mod_eq_of_lt (by omega)]
  rfl

theorem info_i64 : (Try.prog.info? 2).map (fun i => (i.zero, i.size, i.bytes)) = some (some (.int .i64 0), 1, 8) := by kernel_rfl
theorem size_i64 : (Try.prog.info? 2).map (·.size) = some 1 := by kernel_rfl

def ints (l : List Int) : List Value := l.map (Value.int .i64)

theorem ints_len (l : List Int) : (ints l).length = l.length := by simp [ints]
theorem ints_one (l : List Int) : ∀ v ∈ ints l, v.oneCell' = true := by intro v hv; obtain ⟨x, _, rfl⟩ := List.mem_map.1 hv; rfl
theorem ints_get (l : List Int) (j : Nat) (v : Value) (h : (ints l)[j]? = some v) : j < l.length ∧ v = .int .i64 (l.getD j 0) := by
  have hj : j < (ints l).length := by
    rcases Nat.lt_or_ge j (ints l).length with h1 | h1
    · exact h1
    · rw [List.getElem?_eq_none h1] at h; cases h
  rw [ints_len] at hj
  refine ⟨hj, ?_⟩
  simp [ints, List.getElem?_map, List.getElem?_eq_getElem hj] at h
  simp [List.getD_eq_getElem?_getD, List.getElem?_eq_getElem hj, h]

theorem own_block {w : World} {base g n cap : Nat} {e : TypeId} {xs : List Value} (h : w.ownsRow base e 1 (.slice (some ⟨g, 0, none⟩) n cap) n xs) :
    ∃ cur : List Value, cur.length = cap ∧ cur.take n = xs ∧ base ≤ g ∧ Hid (w.heap[g]? = some (.cells cur.toArray e (0, 0))) := by
  obtain ⟨_, h | ⟨g', cap', cur, hv, hb, hh, _, _, hsz, hx⟩⟩ := h
  · obtain ⟨h, _⟩ := h; cases h
  · injection hv with h1 h2 h3
    injection h1 with h1
    injection h1 with h1
    subst h1 h3
    exact ⟨cur.toList, by simpa using hsz, by simpa using hx, hb, by simpa [Hid] using hh⟩

/-- A cell of a block that is known whole. -/
theorem blk_cell {w : World} {g : Nat} {cur : List Value} {e : TypeId} (h : w.heap[g]? = some (.cells cur.toArray e (0, 0))) (i : Nat) (v : Value) (hv : cur[i]? = some v) : w.cell? ⟨g, i, none⟩ = some v := by
  simp [World.cell?, h, hv]

/-- The first m cells of the block g, of n cells, are those of l, c times. -/
structure RepAt (w : World) (g n : Nat) (l : List Int) (c m : Nat) (w' : World) : Prop where
  blk : ∃ cur : List Value, cur.length = n ∧ w'.heap[g]? = some (.cells cur.toArray 2 (0, 0)) ∧ cur.take m = (ints (rep l c)).take m
  le : m ≤ n
  whole : m = n ∨ ∃ k, m = k * l.length ∧ 1 ≤ k ∧ k ≤ c
  bel : Below w.heap.size w w'

theorem take_splice {α : Type} (L : List α) (off : Nat) (cs : List α) (h : off ≤ L.length) : (splice L off cs).take (off + cs.length) = L.take off ++ cs := by
  unfold splice
  rw [← List.append_assoc, List.take_append_of_le_length (by simp; omega)]
  exact List.take_of_length_le (by simp; omega)

theorem RepAt.first {w w' : World} {g n : Nat} {l : List Int} {c : Nat} {cur : List Value} (hc : 1 ≤ c) (hn : c * l.length = n) (hl : cur.length = n) (hb : w'.heap[g]? = some (.cells (splice cur 0 (ints l)).toArray 2 (0, 0))) (hbel : Below w.heap.size w w') :
    RepAt w g n l c l.length w' := by
  have hle : l.length ≤ n := by rw [← hn]; exact Nat.le_mul_of_pos_left _ hc
  refine ⟨⟨_, ?_, hb, ?_⟩, hle, .inr ⟨1, by omega, by omega, hc⟩, hbel⟩
  · rw [length_splice _ _ _ (by rw [ints_len]; omega)]; exact hl
  · have h1 := take_splice cur 0 (ints l) (by omega)
    rw [ints_len, Nat.zero_add] at h1
    rw [h1]
    simp only [List.take_zero, List.nil_append]
    have e : c = 1 + (c - 1) := by omega
    rw [e, rep_add]
    have e1 : rep l 1 = l := by simp [rep]
    rw [e1]
    unfold ints
    rw [List.map_append, List.take_append_of_le_length (by simp)]
    exact (List.take_of_length_le (by simp)).symm

/-- What a copy takes lies at the source, and goes where it shall. -/
def CopyFrom (w : World) (dp sp : Option Addr) (g off : Nat) (cs : List Value) : Prop :=
  0 < cs.length → dp = some ⟨g, off, none⟩ ∧ ∃ ad, sp = some ad ∧ ∀ (j : Nat) (v : Value), cs[j]? = some v → w.cell? (ad.add j) = some v
theorem CopyFrom.out {w : World} {dp sp : Option Addr} {g off : Nat} {cs : List Value} (h : CopyFrom w dp sp g off cs) :
    0 < cs.length → dp = some ⟨g, off, none⟩ ∧ ∃ ad, sp = some ad ∧ ∀ (j : Nat) (v : Value), cs[j]? = some v → w.cell? (ad.add j) = some v := h
theorem addr_add (b off j : Nat) : (⟨b, off, none⟩ : Addr).add j = ⟨b, off + j, none⟩ := by simp [Addr.add]
theorem src_of {w w1 : World} {a : Option Addr} {l : List Int} (h : 0 < l.length → ∃ b off, a = some ⟨b, off, none⟩ ∧ ∀ i, i < l.length → w.cell? ⟨b, off + i, none⟩ = some (.int .i64 (l.getD i 0))) (hb : Below w.heap.size w w1) :
    0 < (ints l).length → ∃ ad, a = some ad ∧ ∀ (j : Nat) (v : Value), (ints l)[j]? = some v → w1.cell? (ad.add j) = some v := by
  intro hp
  rw [ints_len] at hp
  obtain ⟨b, off, ha, hc⟩ := h hp
  refine ⟨_, ha, fun j v hv => ?_⟩
  obtain ⟨hj, rfl⟩ := ints_get l j v hv
  have h1 := hc j hj
  rw [addr_add, hb.cell (p := ⟨b, off + j, none⟩) (World.block_lt_of_cell? w _ h1)]
  exact h1

/-- A round: behind m cells that are right the first ones of them are copied. -/
theorem RepAt.next {w w1 w2 : World} {g n : Nat} {l : List Int} {c m : Nat} {cur : List Value} (h : RepAt w g n l c m w1) (hn : c * l.length = n) (hm : m < n) (hcl : cur.length = n) (ht : cur.take m = (ints (rep l c)).take m)
    (hb : w2.heap[g]? = some (.cells (splice cur m (cur.take (min m (n - m)))).toArray 2 (0, 0))) (hbel : Below w.heap.size w w2) :
    RepAt w g n l c (m + min m (n - m)) w2 := by
  obtain ⟨k, hk, hk1, hkc⟩ : ∃ k, m = k * l.length ∧ 1 ≤ k ∧ k ≤ c := by
    rcases h.whole with h | h
    · omega
    · exact h
  have hlen : (cur.take (min m (n - m))).length = min m (n - m) := by rw [List.length_take]; omega
  refine ⟨⟨_, ?_, hb, ?_⟩, by omega, ?_, hbel⟩
  · rw [length_splice _ _ _ (by rw [hlen]; omega)]; exact hcl
  · have h1 := take_splice cur m (cur.take (min m (n - m))) (by omega)
    rw [hlen] at h1
    rw [h1, ht]
    have e : cur.take (min m (n - m)) = (ints (rep l c)).take (min m (n - m)) := by
      have e1 : (cur.take m).take (min m (n - m)) = cur.take (min m (n - m)) := by rw [List.take_take]; congr 1; omega
      rw [← e1, ht, List.take_take]; congr 1; omega
    rw [e]
    unfold ints
    rw [rep_map]
    have hlm : (l.map (Value.int .i64)).length = l.length := by simp
    have := rep_more (l.map (Value.int .i64)) c k (min m (n - m)) hkc (by rw [hlm, hn, ← hk]; omega)
    rw [hlm, ← hk] at this
    exact this
  · by_cases g2 : m ≤ n - m
    · right
      have hkk : 2 * k ≤ c := by
        rcases Nat.lt_or_ge c (2 * k) with h3 | h3
        · exfalso
          have hl0 : 0 < l.length := by
            rcases Nat.eq_zero_or_pos l.length with h4 | h4
            · rw [h4] at hn; omega
            · exact h4
          have h5 : c * l.length < 2 * k * l.length := Nat.mul_lt_mul_of_pos_right h3 hl0
          rw [Nat.mul_assoc] at h5
          omega
        · exact h3
      exact ⟨2 * k, by rw [Nat.min_eq_left g2, Nat.mul_assoc, ← hk]; omega, by omega, hkk⟩
    · left; omega

set_option maxRecDepth 100000 in
set_option maxHeartbeats 1000000 in
theorem repeat_any (v : Value) (l : List Int) (c n : Nat) (w : World) (hv : IsList w v l) (hc1 : 1 ≤ c) (hn : c * l.length = n) (hs : n ≤ 12000) (hc : c ≤ 70000) (hl : l.length ≤ 12000) :
    Calls Try.prog 22 #[v, .int .i64 c] w fun e w' => e = .returned (.slice (some ⟨w.heap.size, 0, none⟩) n n) ∧ Hid (w'.heap[w.heap.size]? = some (.cells (ints (rep l c)).toArray 2 (0, 0))) ∧ Below w.heap.size w w' := by
  obtain ⟨a, cap, rfl, hcells⟩ := hv
  have hcells := Lib.hid hcells
  have hle : l.length ≤ n := by rw [← hn]; exact Nat.le_mul_of_pos_left _ hc1
  have hn' := Lib.hid hn
  have hn2 := Lib.hid (show l.length * c = n by rw [Nat.mul_comm]; exact hn)
  obtain ⟨i0, hi, hz0, hz1, hz2⟩ := info_parts info_i64
  clear hn
  have d1 : decide ((c : Int) < 0) = false := by simp
  have d2 : decide ((9223372036854775807 : Int) < (n : Int)) = false := by simp; omega
  go_enter Try.func22, Try.ntmps22
  go_wp2_with (first
    | (go_at_call 46; refine (mul_small l.length c n hn2.out hl hc hs _).mono ?_; rintro e w' ⟨rfl, rfl⟩)
    | (at_make; refine wpList_make_full _ rfl _ _ 28 rfl w.heap.size 2 i0 (.int .i64 0) 1 Try.underlying28 hi hz0 hz1 _ _ _ _ n rfl rfl rfl rfl (by rw [hz2]; omega) (by unfold maxLen; omega) (Nat.le_refl _) ?_; intro w1 hown hg1; obtain ⟨cur, hcl, _, _, hblk⟩ := own_block hown; have hb1 : Below w.heap.size w w1 := (Below.refl _ _).grown hg1 (Nat.le_refl _) (fun _ h => by cases h); clear hown hg1)
    | (with_reducible refine wpList_copy_splice rfl _ _ 28 28 rfl 2 Try.underlying28 size_i64 (some ⟨w.heap.size, 0, none⟩) a n n l.length cap rfl rfl w.heap.size 0 cur 2 hblk.out (ints l) (by rw [ints_len]; exact (Nat.min_eq_left hle).symm) (fun hp => ⟨rfl, src_of hcells.out hb1 hp⟩) (by rw [ints_len]; omega) (ints_one l) w.heap.size w hb1 (Nat.le_refl _) ?_; intro w2 hblk2 hb2))
  have hfirst := Lib.hid (RepAt.first hc1 hn'.out hcl hblk2.out hb2)
  clear hblk hb1 hblk2 hb2
  go_loopw [8] (fun i wr => ∃ m : Nat, i = .int .i64 m ∧ RepAt w w.heap.size n l c m wr) (fun i _ => n - (intOf i).toNat)
  case atStart => exact ⟨_, by simp [ints_len], hfirst.out⟩
  case round =>
    obtain ⟨m, rfl, hs⟩ := hrel
    obtain ⟨cu, hcu, hblk, htk⟩ := hs.blk
    have hmn := hs.le
    have hbel := hs.bel.drew
    have hblk : Hid (wr.drew.heap[w.heap.size]? = some (.cells cu.toArray 2 (0, 0))) := hblk
    have htk := Lib.hid htk
    have hs := Lib.hid hs
    by_cases hlt : m < n
    · have hm1 : 1 ≤ m := by
        rcases hs.out.whole with h | ⟨k, h1, h2, _⟩
        · omega
        · rcases Nat.eq_zero_or_pos l.length with h4 | h4
          · have := hn'.out; rw [h4] at this; omega
          · rw [h1]; exact Nat.mul_pos h2 h4
      have f1 : (cu.take (min m (n - m))).length = min m (n - m) := by rw [List.length_take]; omega
      have F2 : CopyFrom wr.drew (some ⟨w.heap.size, m, none⟩) (some ⟨w.heap.size, 0, none⟩) w.heap.size m (cu.take (min m (n - m))) := by
        intro _
        refine ⟨rfl, _, rfl, fun j v hj => ?_⟩
        rw [addr_add, Nat.zero_add]
        refine blk_cell hblk.out j v ?_
        rw [List.getElem?_take] at hj
        split at hj
        · exact hj
        · cases hj
      have f3 : ∀ v ∈ cu.take (min m (n - m)), v.oneCell' = true := by
        intro v hv
        have e1 : (cu.take m).take (min m (n - m)) = cu.take (min m (n - m)) := by rw [List.take_take]; congr 1; omega
        rw [← e1, htk.out, List.take_take] at hv
        exact ints_one _ v (List.mem_of_mem_take hv)
      have F7 := Lib.hid (fun w2 (hb : w2.heap[w.heap.size]? = some (.cells (splice cu m (cu.take (min m (n - m)))).toArray 2 (0, 0))) (hbel : Below w.heap.size w w2) => hs.out.next hn'.out hlt hcu htk.out hb hbel)
      generalize cu.take (min m (n - m)) = cs at *
      have F3 := Lib.hid f3
      have F4 := Lib.hid (show m + cs.length ≤ cu.length by rw [f1, hcu]; omega)
      have hsum : IntKind.i64.wrap ((m : Int) + (cs.length : Int)) = (m : Int) + (cs.length : Int) := IntWalk.i64_in _ (by rw [f1]; omega)
      have F1 := Lib.hid (show cs.length = Nat.min m (n - m) from f1)
      have b1 : cs.length ≤ n - m := by rw [f1]; omega
      have b2 : 1 ≤ cs.length := by rw [f1]; omega
      have F8 := Lib.hid (show m + min m (n - m) = m + cs.length by rw [f1])
      clear f1 f3 hcu
      have hnm : ¬ n = m := by omega
      go_wp2
      go_region_law (refine step_copy_splice rfl (.tmp 41) (.tmp 44) 28 28 rfl 2 Try.underlying28 size_i64 (some ⟨w.heap.size, m, none⟩) (some ⟨w.heap.size, 0, none⟩) (n - m) (n - m) m n (by simp [Act.eval, Act.put]) (by simp [Act.eval, Act.put]) w.heap.size m cu 2 hblk.out cs F1.out F2.out F4.out F3.out w.heap.size w hbel (Nat.le_refl _) ?_; intro w2 hblk2 hb2)
      simp only [List.getElem_toArray, List.getElem_cons_succ, List.getElem_cons_zero]
      go_frame
      go_roundw
      case rel => exact ⟨_, _, _, _, _, _, _, _, _, _, _, _, _, _, ⟨m + cs.length, by go_num, by rw [← F8.out]; exact F7.out _ hblk2.out hb2⟩, rfl⟩
      case measure =>
        simp [intOf]
        omega
    · obtain rfl : m = n := by omega
      have e1 : ints (rep l c) = cu := by
        have h1 := htk.out
        rw [List.take_of_length_le (by omega), List.take_of_length_le (by rw [ints_len, rep_len, hn'.out]; exact Nat.le_refl _)] at h1
        exact h1.symm
      have hfin : Hid (wr.heap[w.heap.size]? = some (.cells (ints (rep l c)).toArray 2 (0, 0))) := by rw [e1]; exact hblk.out
      have hbel := hs.out.bel
      clear e1 hcu
      go_wp2
      go_ret
      exact ⟨rfl, hfin, hbel⟩

end Go.Proofs.Ytkphkjcpbnnpfaa.Num
