/- Contracts of numbers of four bytes: headOf, said, and the document's four and number. -/
import Derived.Test.YtojeccmnhgcmcaaDoorF03
import Derived.Laws.BitsAllLaws
import Derived.IntWalk
namespace Go.Proofs.YtojeccmnhgcmcaaDoor.Frame
open Go.RowKit Go.ChangeShapes
open Crc (Hv more more_lt ret_u32)
set_option linter.unusedVariables false

/-! A block that is known whole. -/
def Blk (w : World) (g : Nat) (cur : List Value) (e : TypeId) : Prop := w.heap[g]? = some (.cells cur.toArray e (0, 0))
theorem Blk.cell {w : World} {g : Nat} {cur : List Value} {e : TypeId} (h : Blk w g cur e) (i : Nat) (v : Value) (hv : cur[i]? = some v) : w.cell? ⟨g, i, none⟩ = some v := blk_cell (cs := cur.toArray) h i v (by simpa using hv)
theorem Blk.free {w : World} {g : Nat} {cur : List Value} {e : TypeId} (h : Blk w g cur e) (i : Nat) : w.frozen? ⟨g, i, none⟩ = false := blk_frozen (cs := cur.toArray) h i
theorem Blk.set {w : World} {g : Nat} {cur : List Value} {e : TypeId} (h : Blk w g cur e) (i : Nat) (v : Value) : Blk (w.setCell ⟨g, i, none⟩ v) g (cur.set i v) e := by
  unfold Blk at *
  simp [World.setCell, Array.getElem?_modify, h]
theorem Blk.lt {w : World} {g : Nat} {cur : List Value} {e : TypeId} (h : Blk w g cur e) : g < w.heap.size := blk_lt h
theorem Blk.later {w w' : World} {g : Nat} {cur : List Value} {e : TypeId} (h : Blk w g cur e) (hb : Below w.heap.size w w') : Blk w' g cur e := (hb.block g h.lt).trans h

/-! The document's number, out of four bytes. -/
theorem or_add (x y k : Nat) (hx : x % 2 ^ k = 0) (hy : y < 2 ^ k) : x ||| y = x + y := nat_join k x y hx hy

theorem four_any (n : Nat) (hn : n < 4294967296) (w : World) :
    Calls Tryd.prog 49 #[.int .u32 n] w fun e w' => e = .returned (.slice (some ⟨w.heap.size, 0, none⟩) 4 4) ∧ w' = w.alloc (.cells (bv (be4 n)).toArray 5) := by
  have e0 : IntKind.u8.wrap ((n : Int) / 16777216) = ((n / 16777216 % 256 : Nat) : Int) := by rw [IntKind.wrap_u8']; omega
  have e1 : IntKind.u8.wrap ((n : Int) / 65536) = ((n / 65536 % 256 : Nat) : Int) := by rw [IntKind.wrap_u8']; omega
  have e2 : IntKind.u8.wrap ((n : Int) / 256) = ((n / 256 % 256 : Nat) : Int) := by rw [IntKind.wrap_u8']; omega
  have e3 : IntKind.u8.wrap (n : Int) = ((n % 256 : Nat) : Int) := by rw [IntKind.wrap_u8']; omega
  go_enter Tryd.func49, Tryd.ntmps49
  go_wp2
  go_ret
  exact ⟨rfl, rfl⟩

theorem i64_or_nat (a b : Nat) (ha : a < 9223372036854775808) (hb : b < 9223372036854775808) : bits .or .i64 (a : Int) (b : Int) = ((a ||| b : Nat) : Int) := by
  have hx : a ||| b < 2 ^ 63 := Nat.or_lt_two_pow (by omega) (by omega)
  show IntKind.i64.wrap ((BitVec.ofInt 64 (a : Int) ||| BitVec.ofInt 64 (b : Int)).toNat : Int) = _
  rw [BitVec.toNat_or, ofInt_u64 a (by omega), ofInt_u64 b (by omega)]
  exact IntWalk.i64_in _ (by omega)
/-- Four bytes as a number, in the walk's own spelling. -/
theorem num_or (a b c d : Nat) (ha : a < 256) (hb : b < 256) (hc : c < 256) (hd : d < 256) :
    a * 16777216 ||| b * 65536 = a * 16777216 + b * 65536 ∧ (a * 16777216 + b * 65536) ||| c * 256 = a * 16777216 + b * 65536 + c * 256 ∧ (a * 16777216 + b * 65536 + c * 256) ||| d = a * 16777216 + b * 65536 + c * 256 + d :=
  ⟨or_add _ _ 24 (by omega) (by omega), or_add _ _ 16 (by omega) (by omega), or_add _ _ 8 (by omega) (by omega)⟩
theorem drewN_b {B : Nat} {a w : World} (h : Below B a w) (n : Nat) : Below B a (w.drewN n) := h.trans ⟨rfl, rfl, rfl, Nat.le_refl _, fun _ _ => rfl⟩
theorem ret_i64 {a b : Int} (h : a = b) : Ending.returned (.int .i64 a) = .returned (.int .i64 b) := by rw [h]
/-- The four bytes that stand at the head of a slice. -/
structure At4 (w : World) (v : Value) (l : List Nat) : Prop where
  h8 : Byt l
  ge : 4 ≤ l.length
  ex : ∃ b off cap, v = .slice (some ⟨b, off, none⟩) 4 cap ∧ ∀ i, i < 4 → w.cell? ⟨b, off + i, none⟩ = some (.int .u8 (l.getD i 0 : Nat))

theorem number_any (v : Value) (l : List Nat) (w : World) (h : At4 w v l) :
    Calls Tryd.prog 59 #[v] w fun e w' => e = .returned (.int .i64 (num4 l : Nat)) ∧ Below w.heap.size w w' := by
  obtain ⟨h8, ge, b, off, cap, rfl, hc⟩ := h
  have c0 := hc 0 (by omega)
  rw [Nat.add_zero] at c0
  have c1 := hc 1 (by omega)
  have c2 := hc 2 (by omega)
  have c3 := hc 3 (by omega)
  have b0 := byte_lt h8 0
  have b1 := byte_lt h8 1
  have b2 := byte_lt h8 2
  have b3 := byte_lt h8 3
  have hn : num4 l = l.getD 0 0 * 16777216 + l.getD 1 0 * 65536 + l.getD 2 0 * 256 + l.getD 3 0 := rfl
  generalize l.getD 0 0 = x0 at *
  generalize l.getD 1 0 = x1 at *
  generalize l.getD 2 0 = x2 at *
  generalize l.getD 3 0 = x3 at *
  have HN := Lib.hid hn
  clear hn hc
  obtain ⟨o1, o2, o3⟩ := num_or x0 x1 x2 x3 b0 b1 b2 b3
  have q1 := i64_or_nat (x0 * 16777216) (x1 * 65536) (by omega) (by omega)
  have q2 := i64_or_nat (x0 * 16777216 + x1 * 65536) (x2 * 256) (by omega) (by omega)
  have q3 := i64_or_nat (x0 * 16777216 + x1 * 65536 + x2 * 256) x3 (by omega) (by omega)
  rw [o1] at q1; rw [o2] at q2; rw [o3] at q3
  have HQ : Hid (bits .or .i64 (bits .or .i64 (bits .or .i64 ((x0 : Int) * 16777216) ((x1 : Int) * 65536)) ((x2 : Int) * 256)) (x3 : Int) = ((x0 * 16777216 + x1 * 65536 + x2 * 256 + x3 : Nat) : Int)) := by
    show _ = _
    rw [← q3, ← q2, ← q1]
    simp only [Int.natCast_mul]
    rfl
  clear q1 q2 q3 o1 o2 o3
  have s1 : IntKind.i64.wrap ((x0 : Int) * 16777216) = ((x0 * 16777216 : Nat) : Int) := by rw [IntWalk.i64_in _ (by omega)]; omega
  have s2 : IntKind.i64.wrap ((x1 : Int) * 65536) = ((x1 * 65536 : Nat) : Int) := by rw [IntWalk.i64_in _ (by omega)]; omega
  have s3 : IntKind.i64.wrap ((x2 : Int) * 256) = ((x2 * 256 : Nat) : Int) := by rw [IntWalk.i64_in _ (by omega)]; omega
  have w0 : IntKind.i64.wrap (x0 : Int) = (x0 : Int) := IntWalk.i64_in _ (by omega)
  have w1 : IntKind.i64.wrap (x1 : Int) = (x1 : Int) := IntWalk.i64_in _ (by omega)
  have w2 : IntKind.i64.wrap (x2 : Int) = (x2 : Int) := IntWalk.i64_in _ (by omega)
  have w3 : IntKind.i64.wrap (x3 : Int) = (x3 : Int) := IntWalk.i64_in _ (by omega)
  go_enter Tryd.func59, Tryd.ntmps59
  go_wp2
  go_quiet (fail)
  go_wp2
  go_ret
  exact ⟨ret_i64 (by rw [HQ.out, HN.out]), drewN_b (Below.refl _ _) _⟩

/-! The head of a record: put. -/
/-- The block h holds l, but for the bytes of n from the place p on, k of them. -/
def putL (l : List Nat) (p n k : Nat) : List Nat := l.take p ++ (be4 n).take k ++ l.drop (p + k)
theorem putL_zero (l : List Nat) (p n : Nat) : putL l p n 0 = l := by unfold putL; rw [List.take_zero, List.append_nil, Nat.add_zero, List.take_append_drop]
theorem putL_set (l : List Nat) (p n k : Nat) (hk : k < 4) (hp : p + k < l.length) : (putL l p n k).set (p + k) ((be4 n).getD k 0) = putL l p n (k + 1) := by
  have h1 : (l.take p ++ (be4 n).take k).length = p + k := by rw [List.length_append, List.length_take, List.length_take, be4_len]; omega
  unfold putL
  rw [List.set_append_right _ _ (by rw [h1]; exact Nat.le_refl _), h1, Nat.sub_self]
  have h2 : l.drop (p + k) = l[p + k] :: l.drop (p + (k + 1)) := by rw [List.drop_eq_getElem_cons hp]; rfl
  rw [h2, List.set_cons_zero]
  have h3 : (be4 n).take (k + 1) = (be4 n).take k ++ [(be4 n).getD k 0] := by
    rw [List.take_succ_eq_append_getElem (by rw [be4_len]; exact hk), List.getD_eq_getElem?_getD, List.getElem?_eq_getElem (by rw [be4_len]; exact hk)]
    rfl
  rw [h3]
  simp
theorem putL_len (l : List Nat) (p n k : Nat) (hk : k ≤ 4) (hp : p + k ≤ l.length) : (putL l p n k).length = l.length := by
  unfold putL
  rw [List.length_append, List.length_append, List.length_take, List.length_take, List.length_drop, be4_len]; omega
theorem bv_set (l : List Nat) (i x : Nat) : (bv l).set i (.int .u8 (x : Nat)) = bv (l.set i x) := by unfold bv; rw [List.map_set]
structure PutAt (w : World) (h : Nat) (l : List Nat) (p n k : Nat) (wr : World) : Prop where
  blk : Blk wr h (bv (putL l p n k)) 90
  kp : Keeps (· = h) w wr
theorem PutAt.next {w wr : World} {h : Nat} {l : List Nat} {p n k : Nat} (hm : PutAt w h l p n k wr) (hk : k < 4) (hp : p + k < l.length) : PutAt w h l p n (k + 1) (wr.setCell ⟨h, p + k, none⟩ (.int .u8 ((be4 n).getD k 0 : Nat))) := by
  refine ⟨?_, hm.kp.setCell (p := ⟨h, p + k, none⟩) (.inl rfl) _⟩
  have := hm.blk.set (p + k) (.int .u8 ((be4 n).getD k 0 : Nat))
  rwa [bv_set, putL_set l p n k hk hp] at this

theorem put_any (h : Nat) (l : List Nat) (p n : Nat) (w : World) (hb : Blk w h (bv l) 90) (hl : l.length = 8) (hp : p ≤ 4) (hn : n < 4294967296) :
    Calls Tryd.prog 64 #[.int .i64 p, .int .u32 n, .pointer (some ⟨h, 0, none⟩)] w fun e w' => e = .returned (.tuple #[]) ∧ PutAt w h l p n 4 w' := by
  have h0 : PutAt w h l p n 0 w := ⟨by rw [putL_zero]; exact hb, Keeps.refl _ _⟩
  clear hb
  go_enter Tryd.func64, Tryd.ntmps64
  go_wp2
  go_loopw [6] (fun i wr => ∃ k : Nat, k ≤ 4 ∧ i = .int .i64 k ∧ PutAt w h l p n k wr) (fun i _ => 4 - (intOf i).toNat)
  case atStart => exact ⟨0, Nat.zero_le _, rfl, h0⟩
  case round =>
    obtain ⟨k, hk, rfl, hm⟩ := hrel
    by_cases hlt : k < 4
    · have hkl : p + k < (putL l p n k).length := by rw [putL_len l p n k hk (by omega)]; omega
      have hc := hm.blk.cell (p + k) _ (bv_at _ _ hkl)
      have hf := hm.blk.free (p + k)
      have hN := hm.next hlt (by omega)
      clear hm h0 hkl
      rcases (by omega : k = 0 ∨ k = 1 ∨ k = 2 ∨ k = 3) with rfl | rfl | rfl | rfl
      · have e : (((be4 n).getD 0 0 : Nat) : Int) = (n : Int) / 16777216 := by show ((n / 16777216 % 256 : Nat) : Int) = _; omega
        rw [e, Nat.add_zero] at hN
        rw [Nat.add_zero] at hc hf
        clear e
        have HN := Lib.hid hN
        clear hN
        go_wp2
        go_roundw
        case rel => exact ⟨1, by omega, by go_num, HN.out⟩
        case measure => simp [intOf]
      · have e : (((be4 n).getD 1 0 : Nat) : Int) = (n : Int) / 65536 % 256 := by show ((n / 65536 % 256 : Nat) : Int) = _; omega
        rw [e] at hN
        clear e
        have HN := Lib.hid hN
        clear hN
        go_wp2
        go_roundw
        case rel => exact ⟨2, by omega, by go_num, HN.out⟩
        case measure => simp [intOf]
      · have e : (((be4 n).getD 2 0 : Nat) : Int) = (n : Int) / 256 % 256 := by show ((n / 256 % 256 : Nat) : Int) = _; omega
        rw [e] at hN
        clear e
        have HN := Lib.hid hN
        clear hN
        go_wp2
        go_roundw
        case rel => exact ⟨3, by omega, by go_num, HN.out⟩
        case measure => simp [intOf]
      · have e : (((be4 n).getD 3 0 : Nat) : Int) = (n : Int) % 256 := by show ((n % 256 : Nat) : Int) = _; omega
        rw [e] at hN
        clear e
        have HN := Lib.hid hN
        clear hN
        go_wp2
        go_roundw
        case rel => exact ⟨4, by omega, by go_num, HN.out⟩
        case measure => simp [intOf]
    · obtain rfl : k = 4 := by omega
      go_wp2
      go_end0
      exact ⟨rfl, hm⟩

theorem crc_bs {w : World} {F : Nat → Prop} {v : Value} {l : List Nat} (h : Bs w F v l) : Crc.Bs w v l := by
  obtain ⟨h8, a, cap, hv, _, hc⟩ := h
  exact ⟨h8, a, cap, hv, fun hp => let ⟨b, off, ha, _, hcell⟩ := hc hp; ⟨b, off, ha, hcell⟩⟩
theorem sum_any (v : Value) (F : Nat → Prop) (l : List Nat) (w : World) (hv : Bs w F v l) (hlen : l.length ≤ 140737488355328) (hH : Hv w) :
    Calls Tryd.prog 65 #[v] w fun e w' => e = .returned (.int .u32 (more 0 l : Nat)) ∧ w = w' := Crc.sum_any v l w (crc_bs hv) hlen hH
theorem check_any (v : Value) (F : Nat → Prop) (l : List Nat) (s : Nat) (w : World) (hv : Bs w F v l) (hlen : l.length ≤ 140737488355328) (hH : Hv w) :
    Calls Tryd.prog 68 #[v, .int .u32 s] w fun e w' => e = .returned (.bool (decide (more 0 l = s))) ∧ w = w' := Crc.check_any v l s w (crc_bs hv) hlen hH
theorem ref_sum_any (v : Value) (F : Nat → Prop) (l : List Nat) (w : World) (hv : Bs w F v l) (hlen : l.length ≤ 140737488355328) :
    Calls Tryd.prog 50 #[v] w fun e w' => e = .returned (.int .u32 (more 0 l : Nat)) ∧ w = w' := Crc.ref_sum_any v l w (crc_bs hv) hlen

/-- The table of half bytes lies below what is made. -/
theorem hv_lt {w : World} (h : Hv w) : 0 < w.heap.size := World.block_lt_of_cell? w _ (h 0 (by omega))
theorem Hv.keeps {w w' : World} {F : Nat → Prop} (h : Hv w) (hk : Keeps F w w') (hF : ¬ F 0) : Hv w' := by
  intro i hi
  exact (World.cell?_of_block (w := w) (a := ⟨0, i, none⟩) (hk.block _ (hv_lt h) hF)).trans (h i hi)
theorem hv_later {w w' : World} (h : Hv w) (hb : Below w.heap.size w w') : Hv w' := h.later hb
theorem below_setRow {B g : Nat} {a w : World} (h : Below B a w) (hg : B ≤ g) (cs : Array Value) : Below B a (w.setRow g cs) :=
  ⟨h.os, h.tape, h.output, by rw [size_setRow]; exact h.size, fun k hk => (setRow_other w g k cs (by omega)).trans (h.block k hk)⟩
abbrev z8 : Array Value := (bv [0, 0, 0, 0, 0, 0, 0, 0]).toArray
def hd (c : List Nat) : List Nat := be4 c.length ++ be4 (more 0 c)
theorem hd_len (c : List Nat) : (hd c).length = 8 := rfl
theorem put_hd (c : List Nat) : putL (putL [0, 0, 0, 0, 0, 0, 0, 0] 0 c.length 4) 4 (more 0 c) 4 = hd c := rfl

theorem headOf_any (v : Value) (F : Nat → Prop) (c : List Nat) (w : World) (hv : Bs w F v c) (hF : ∀ k, F k → k < w.heap.size) (hlen : c.length ≤ 65536) (hH : Hv w) :
    Calls Tryd.prog 60 #[v] w fun e w' => e = .returned (.agg (bv (hd c)).toArray) ∧ Below w.heap.size w w' := by
  have hv0 := hv
  obtain ⟨h8, a, cap, rfl, _, _⟩ := hv0
  have hw : IntKind.u32.wrap (c.length : Int) = c.length := by rw [IntKind.wrap_u32']; omega
  have hg := hv_lt hH
  have ml := more_lt 0 c (by omega) h8
  have hb0 : Below w.heap.size w ((w.alloc (.cells z8 90)).alloc (.cells z8 90)) := ((Below.refl _ _).alloc (Nat.le_refl _) _).alloc (by simp) _
  have hblk : Hid (Blk ((w.alloc (.cells z8 90)).alloc (.cells z8 90)) (w.heap.size + 1) (bv [0, 0, 0, 0, 0, 0, 0, 0]) 90) := by
    show _ = _
    have := heap_alloc_new (w.alloc (.cells z8 90)) (.cells z8 90)
    rwa [World.size_alloc] at this
  go_enter Tryd.func60, Tryd.ntmps60
  go_wp2_with (first
    | (go_at_call 64; refine (put_any (w.heap.size + 1) _ 0 c.length _ hblk.out rfl (by omega) (by omega)).mono ?_; rintro e w1 ⟨rfl, hp1⟩))
  have hk1 : Below w.heap.size w w1 := hb0.trans (hp1.kp.below (by simp; omega) (fun k hk => by omega))
  refine (sum_any _ F c w1 (hv.kept (Same.of_below hk1 hF)) (by omega) (hv_later hH hk1)).mono ?_
  rintro e w' ⟨rfl, rfl⟩
  go_wp2_with fail
  refine (put_any (w.heap.size + 1) _ 4 (more 0 c) _ hp1.blk rfl (by omega) ml).mono ?_
  rintro e w2 ⟨rfl, hp2⟩
  have hk2 : Below w.heap.size w w2 := hk1.trans (hp2.kp.below hk1.size (fun k hk => by omega))
  have B1 : Hid (w2.heap[w.heap.size + 1]? = some (.cells (bv (hd c)).toArray 90 (0, 0))) := hp2.blk
  have B0 : Hid (w2.heap[w.heap.size]? = some (.cells z8 90 (0, 0))) := by
    show _ = _
    have hlt : w.heap.size < w1.heap.size := by have := hp1.kp.size; simp at this; omega
    rw [hp2.kp.block _ hlt (by omega), hp1.kp.block _ (by simp; omega) (by omega)]
    rw [Below.heap_alloc _ _ _ (by simp)]
    exact heap_alloc_new w _
  clear hp1 hp2 hk1 hb0 hblk
  go_wp2_with (first
    | (refine wpList_load_row rfl 90 _ rfl (w.heap.size + 1) rfl 90 (bv (hd c)).toArray (0, 0) _ B1.out Tryd.underlying90 rfl (by kernel_rfl) ?_)
    | (refine wpList_store_row rfl 90 _ _ rfl w.heap.size (bv (hd c)).toArray rfl rfl 90 _ B0.out (by kernel_rfl) rfl (by kernel_rfl) ?_))
  refine bodyPost_ret (v := .agg (bv (hd c)).toArray) ?_ rfl ⟨rfl, ?_⟩
  · rw [results_cell_row (fn := Tryd.f60) Tryd.results60 _ _ w.heap.size 90 (bv (hd c)).toArray (0, 0) _ rfl (setRow_heap _ _ _ _ _ _ B0.out) Tryd.underlying90 rfl (by kernel_rfl)]
  · exact below_setRow hk2 (Nat.le_refl _) _

/-! What a head says. -/
theorem said_num (x0 x1 x2 x3 : Nat) (b0 : x0 < 256) (b1 : x1 < 256) (b2 : x2 < 256) (b3 : x3 < 256) :
    bits .or .u32 0 (x0 : Int) = (x0 : Int) ∧ bits .or .u32 ((x0 : Int) * 256) (x1 : Int) = (x0 : Int) * 256 + (x1 : Int) ∧
    bits .or .u32 (((x0 : Int) * 256 + (x1 : Int)) * 256) (x2 : Int) = ((x0 : Int) * 256 + (x1 : Int)) * 256 + (x2 : Int) ∧
    bits .or .u32 ((((x0 : Int) * 256 + (x1 : Int)) * 256 + (x2 : Int)) * 256) (x3 : Int) = (((x0 : Int) * 256 + (x1 : Int)) * 256 + (x2 : Int)) * 256 + (x3 : Int) := by
  refine ⟨?_, ?_, ?_, ?_⟩
  · rw [show (0 : Int) = ((0 : Nat) : Int) from rfl, u32_or_nat 0 x0 (by omega) (by omega), Nat.zero_or]
  · rw [show (x0 : Int) * 256 = ((x0 * 256 : Nat) : Int) by omega, u32_or_nat _ _ (by omega) (by omega), or_add _ _ 8 (by omega) (by omega)]
    omega
  · rw [show ((x0 : Int) * 256 + (x1 : Int)) * 256 = ((x0 * 65536 + x1 * 256 : Nat) : Int) by omega, u32_or_nat _ _ (by omega) (by omega), or_add _ _ 8 (by omega) (by omega)]
    omega
  · rw [show (((x0 : Int) * 256 + (x1 : Int)) * 256 + (x2 : Int)) * 256 = ((x0 * 16777216 + x1 * 65536 + x2 * 256 : Nat) : Int) by omega, u32_or_nat _ _ (by omega) (by omega), or_add _ _ 8 (by omega) (by omega)]
    omega
theorem said1_any (h : Nat) (l : List Nat) (p : Nat) (w : World) (hb : Blk w h (bv l) 90) (hl : l.length = 8) (h8 : Byt l) (hp : p = 0 ∨ p = 4) :
    Calls Tryd.prog 70 #[.int .i64 p, .pointer (some ⟨h, 0, none⟩)] w fun e w' => e = .returned (.int .u32 (num4 (l.drop p) : Nat)) ∧ w = w' := by
  have c0 := hb.cell p _ (bv_at l p (by omega))
  have c1 := hb.cell (p + 1) _ (bv_at l (p + 1) (by omega))
  have c2 := hb.cell (p + 2) _ (bv_at l (p + 2) (by omega))
  have c3 := hb.cell (p + 3) _ (bv_at l (p + 3) (by omega))
  have b0 := byte_lt h8 p
  have b1 := byte_lt h8 (p + 1)
  have b2 := byte_lt h8 (p + 2)
  have b3 := byte_lt h8 (p + 3)
  have hn : num4 (l.drop p) = l.getD p 0 * 16777216 + l.getD (p + 1) 0 * 65536 + l.getD (p + 2) 0 * 256 + l.getD (p + 3) 0 := by
    have e : ∀ i, (l.drop p).getD i 0 = l.getD (p + i) 0 := fun i => by rw [List.getD_eq_getElem?_getD, List.getD_eq_getElem?_getD, List.getElem?_drop]
    unfold num4
    rw [e, e, e, e]
    rfl
  generalize l.getD p 0 = x0 at *
  generalize l.getD (p + 1) 0 = x1 at *
  generalize l.getD (p + 2) 0 = x2 at *
  generalize l.getD (p + 3) 0 = x3 at *
  have HN := Lib.hid hn
  clear hn
  obtain ⟨q0, q1, q2, q3⟩ := said_num x0 x1 x2 x3 b0 b1 b2 b3
  rcases hp with rfl | rfl
  · go_enter Tryd.func70, Tryd.ntmps70
    go_wp2
    refine wp_loop_rounds 5 ?_
    rw [rounds_succ]
    go_wp2
    rw [rounds_succ]
    go_wp2
    rw [rounds_succ]
    go_wp2
    rw [rounds_succ]
    go_wp2
    rw [rounds_succ]
    go_wp2
    go_ret
    exact ⟨ret_u32 (by rw [HN.out]; omega), rfl⟩
  · go_enter Tryd.func70, Tryd.ntmps70
    go_wp2
    refine wp_loop_rounds 5 ?_
    rw [rounds_succ]
    go_wp2
    rw [rounds_succ]
    go_wp2
    rw [rounds_succ]
    go_wp2
    rw [rounds_succ]
    go_wp2
    rw [rounds_succ]
    go_wp2
    go_ret
    exact ⟨ret_u32 (by rw [HN.out]; omega), rfl⟩

theorem len8 {l : List Nat} (hl : l.length = 8) : ∃ x0 x1 x2 x3 x4 x5 x6 x7, l = [x0, x1, x2, x3, x4, x5, x6, x7] := by
  obtain ⟨x0, l, rfl⟩ := List.exists_cons_of_length_eq_add_one (n := 7) hl
  have hl : l.length = 7 := by simpa using hl
  obtain ⟨x1, l, rfl⟩ := List.exists_cons_of_length_eq_add_one (n := 6) hl
  have hl : l.length = 6 := by simpa using hl
  obtain ⟨x2, l, rfl⟩ := List.exists_cons_of_length_eq_add_one (n := 5) hl
  have hl : l.length = 5 := by simpa using hl
  obtain ⟨x3, l, rfl⟩ := List.exists_cons_of_length_eq_add_one (n := 4) hl
  have hl : l.length = 4 := by simpa using hl
  obtain ⟨x4, l, rfl⟩ := List.exists_cons_of_length_eq_add_one (n := 3) hl
  have hl : l.length = 3 := by simpa using hl
  obtain ⟨x5, l, rfl⟩ := List.exists_cons_of_length_eq_add_one (n := 2) hl
  have hl : l.length = 2 := by simpa using hl
  obtain ⟨x6, l, rfl⟩ := List.exists_cons_of_length_eq_add_one (n := 1) hl
  have hl : l.length = 1 := by simpa using hl
  obtain ⟨x7, l, rfl⟩ := List.exists_cons_of_length_eq_add_one (n := 0) hl
  have hl : l.length = 0 := by simpa using hl
  have hl := List.eq_nil_of_length_eq_zero hl
  subst hl
  exact ⟨_, _, _, _, _, _, _, _, rfl⟩
theorem said_any (l : List Nat) (w : World) (hl : l.length = 8) (h8 : Byt l) :
    Calls Tryd.prog 67 #[.agg (bv l).toArray] w fun e w' => e = .returned (.tuple #[.int .u32 (num4 l : Nat), .int .u32 (num4 (l.drop 4) : Nat)]) ∧ Below w.heap.size w w' := by
  have hb : Hid (Blk (w.alloc (.cells (bv l).toArray 90)) w.heap.size (bv l) 90) := heap_alloc_new w _
  have h0 := said1_any w.heap.size l 0 _ hb.out hl h8 (.inl rfl)
  have h4 := said1_any w.heap.size l 4 _ hb.out hl h8 (.inr rfl)
  rw [List.drop_zero] at h0
  have H0 := Lib.hid h0
  have H4 := Lib.hid h4
  clear h0 h4
  obtain ⟨x0, x1, x2, x3, x4, x5, x6, x7, rfl⟩ := len8 hl
  show Calls _ _ #[.agg #[.int .u8 x0, .int .u8 x1, .int .u8 x2, .int .u8 x3, .int .u8 x4, .int .u8 x5, .int .u8 x6, .int .u8 x7]] _ _
  go_enter Tryd.func67, Tryd.ntmps67
  go_wp2_with fail
  refine H0.out.mono ?_
  rintro e w' ⟨rfl, rfl⟩
  go_wp2_with fail
  refine H4.out.mono ?_
  rintro e w' ⟨rfl, rfl⟩
  go_wp2
  go_ret2
  exact ⟨rfl, (Below.refl _ _).alloc (Nat.le_refl _) _⟩
end Go.Proofs.YtojeccmnhgcmcaaDoor.Frame
