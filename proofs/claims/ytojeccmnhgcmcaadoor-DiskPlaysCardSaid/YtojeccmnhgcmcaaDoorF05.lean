/- Parts of slices of bytes; look, own, Next, Size. -/
import Derived.Test.YtojeccmnhgcmcaaDoorF04
import Derived.Laws.StructEq
namespace Go.Proofs.YtojeccmnhgcmcaaDoor.Frame
open Go.RowKit Go.ChangeShapes
open Crc (Hv more more_lt ret_u32)
set_option linter.unusedVariables false
set_option linter.unusedSimpArgs false

def cutA (a : Option Addr) (cap j : Nat) : Option Addr := if cap = j then a else a.map (·.add j)
theorem size_u8 (w : World) : (Go.sizeOf 5).run Tryd.prog w = .ok 1 w := by
  obtain ⟨i0, hi, hz0, hz1, hz2⟩ := info_parts info_u8
  simp [Go.sizeOf, typeInfo, hi, hz1]
theorem und_b : Tryd.prog.underlying 29 = some (.slice (Tryd.prog.elem 29)) := by simp [Program.elem, Tryd.underlying29]
theorem elem_b : Tryd.prog.elem 29 = 5 := by simp [Program.elem, Tryd.underlying29]
theorem tail_run (a : Option Addr) (len cap j : Nat) (hj : j ≤ len) (w : World) :
    (Instr.slice 29 (.slice a len cap) (some (.int .i64 (j : Int))) none none).run Tryd.prog w = .ok (.slice (cutA a cap j) (len - j) (cap - j)) w := by
  rw [run_slice_l w 29 _ _ _ und_b .i64 _ (by omega) (by omega), elem_b, size_u8]
  simp [Result.andThen, sliced, cutA]
theorem mid_run (a : Option Addr) (len cap lo hi : Nat) (h1 : lo ≤ hi) (h2 : hi ≤ cap) (w : World) :
    (Instr.slice 29 (.slice a len cap) (some (.int .i64 (lo : Int))) (some (.int .i64 (hi : Int))) none).run Tryd.prog w = .ok (.slice (cutA a cap lo) (hi - lo) (cap - lo)) w := by
  rw [run_slice_lh w 29 _ _ _ und_b .i64 .i64 _ _ (by omega) (by omega) (by omega), elem_b, size_u8]
  simp [Result.andThen, sliced, cutA]
theorem head_run (k : IntKind) (a : Option Addr) (len cap hi : Nat) (h2 : hi ≤ cap) (w : World) :
    (Instr.slice 29 (.slice a len cap) none (some (.int k (hi : Int))) none).run Tryd.prog w = .ok (.slice (cutA a cap 0) hi cap) w := by
  rw [run_slice_h w 29 _ _ _ und_b k _ (by omega) (by omega), elem_b, size_u8]
  simp [Result.andThen, sliced, cutA]
theorem tail_run_u (a : Option Addr) (len cap j : Nat) (hj : j ≤ len) (w : World) :
    (Instr.slice 29 (.slice a len cap) (some (.int .u64 (j : Int))) none none).run Tryd.prog w = .ok (.slice (cutA a cap j) (len - j) (cap - j)) w := by
  rw [run_slice_l w 29 _ _ _ und_b .u64 _ (by omega) (by omega), elem_b, size_u8]
  simp [Result.andThen, sliced, cutA]
theorem Bs.mid {w : World} {F : Nat → Prop} {a : Option Addr} {cap n : Nat} {l : List Nat} (h : Bs w F (.slice a n cap) l) (lo hi : Nat) (h1 : lo ≤ hi) (h2 : hi ≤ l.length) : Bs w F (.slice (cutA a cap lo) (hi - lo) (cap - lo)) ((l.take hi).drop lo) := by
  obtain ⟨h8, a', cap', hv, hcap, hc⟩ := h
  injection hv with e1 e2 e3
  subst e1 e2 e3
  have hl : ((l.take hi).drop lo).length = hi - lo := by rw [List.length_drop, List.length_take]; omega
  refine ⟨fun c hc => h8 c (List.mem_of_mem_take (List.mem_of_mem_drop hc)), _, _, by rw [hl], by rw [hl]; omega, fun hp => ?_⟩
  rw [hl] at hp
  obtain ⟨b, off, rfl, hF, hcell⟩ := hc (by omega)
  refine ⟨b, off + lo, ?_, hF, fun i hi' => ?_⟩
  · unfold cutA
    rw [if_neg (by omega)]
    simp [addr_add]
  · rw [hl] at hi'
    rw [Nat.add_assoc, hcell (lo + i) (by omega)]
    congr 2
    rw [List.getD_eq_getElem?_getD, List.getD_eq_getElem?_getD, List.getElem?_drop, List.getElem?_take_of_lt (by omega)]
theorem Bs.tail {w : World} {F : Nat → Prop} {a : Option Addr} {cap n : Nat} {l : List Nat} (h : Bs w F (.slice a n cap) l) (j : Nat) (hj : j ≤ l.length) : Bs w F (.slice (cutA a cap j) (n - j) (cap - j)) (l.drop j) := by
  have hn : n = l.length := by obtain ⟨_, _, _, hv, _⟩ := h; injection hv
  have := h.mid j l.length hj (Nat.le_refl _)
  rw [List.take_length] at this
  rw [hn]
  exact this
theorem Bs.head {w : World} {F : Nat → Prop} {a : Option Addr} {cap n : Nat} {l : List Nat} (h : Bs w F (.slice a n cap) l) (j : Nat) (hj : j ≤ l.length) : Bs w F (.slice (cutA a cap 0) j cap) (l.take j) := by
  have := h.mid 0 j (Nat.zero_le _) hj
  exact this

theorem cutA_zero (a : Option Addr) (cap : Nat) : cutA a cap 0 = a := by
  have e : ∀ x : Addr, x.add 0 = x := fun x => by cases x; simp [Addr.add]
  unfold cutA
  split
  · rfl
  · cases a with
    | none => rfl
    | some x => simp [e]
theorem upto_run (a : Option Addr) (len cap hi : Nat) (h2 : hi ≤ cap) (w : World) :
    (Instr.slice 29 (.slice a len cap) none (some (.int .i64 (hi : Int))) none).run Tryd.prog w = .ok (.slice a hi cap) w := by
  have := head_run .i64 a len cap hi h2 w
  rwa [cutA_zero] at this
theorem Bs.upto {w : World} {F : Nat → Prop} {a : Option Addr} {n cap : Nat} {l : List Nat} (h : Bs w F (.slice a n cap) l) (j : Nat) (hj : j ≤ l.length) : Bs w F (.slice a j cap) (l.take j) := by
  have := h.head j hj
  rwa [cutA_zero] at this

/-! A slice of bytes that came in. -/
def IsRow (k : IntKind) (w : World) (a : Option Addr) (len cap : Nat) (zs : List Int) : Prop :=
  (a = none ∧ len = 0 ∧ cap = 0 ∧ zs = []) ∨
  ∃ x, a = some x ∧ len ≤ cap ∧ cap ≤ maxLen ∧ zs.length = cap ∧ (∀ i, i < zs.length → w.cell? (x.add i) = some (.int k (zs.getD i 0))) ∧ ∀ n ∈ zs, (Lit.int k n).wf = true
/-- All that was there. -/
def Old (w : World) (k : Nat) : Prop := k < w.heap.size
theorem row_bs {w : World} {a : Option Addr} {len cap : Nat} {zs : List Int} (h : IsRow .u8 w a len cap zs) :
    ∃ l : List Nat, l.length = len ∧ Bs w (Old w) (.slice a len cap) l := by
  rcases h with ⟨rfl, rfl, rfl, rfl⟩ | ⟨⟨b, off, spot⟩, rfl, hl, hm, hz, hcell, hwz⟩
  · exact ⟨[], rfl, Bs.nil _ _ _ _⟩
  · have e : ((zs.take len).map Int.toNat).length = len := by rw [List.length_map, List.length_take]; omega
    refine ⟨(zs.take len).map Int.toNat, e, ⟨fun c hc => ?_, some ⟨b, off, spot⟩, cap, by rw [e], by rw [e]; exact hl, fun hp => ?_⟩⟩
    · obtain ⟨z, hz1, rfl⟩ := List.mem_map.1 hc
      have hb := bounds_u8 (hwz z (List.mem_of_mem_take hz1))
      omega
    · rw [e] at hp
      have h0 := hcell 0 (by omega)
      have hspot : spot = none := by simpa [Addr.add] using World.cell?_spot h0
      subst hspot
      have h0' := hcell 0 (by omega)
      refine ⟨b, off, rfl, ?_, fun i hi => ?_⟩
      · rw [addr_add] at h0'; exact World.block_lt_of_cell? w _ h0'
      · rw [e] at hi
        have hi2 : i < zs.length := by omega
        have hc := hcell i hi2
        rw [addr_add] at hc
        rw [hc]
        have hb := bounds_u8 (hwz (zs[i]) (List.getElem_mem hi2))
        rw [List.getD_eq_getElem?_getD, List.getElem?_eq_getElem hi2, List.getD_eq_getElem?_getD, List.getElem?_map, List.getElem?_take_of_lt hi, List.getElem?_eq_getElem hi2]
        show some (Value.int .u8 zs[i]) = some (.int .u8 ((zs[i]).toNat : Int))
        rw [Int.toNat_of_nonneg hb.1]
theorem Bs.late {w W : World} {v : Value} {l : List Nat} (h : Bs w (Old w) v l) (hb : Below w.heap.size w W) : Bs W (Old w) v l := h.kept fun k hk => hb.block k hk

theorem cutA_some (b off cap k : Nat) (h : k < cap) : cutA (some ⟨b, off, none⟩) cap k = some ⟨b, off + k, none⟩ := by
  unfold cutA
  rw [if_neg (by omega)]
  simp [addr_add]
theorem size_is (v : Value) (F : Nat → Prop) (l : List Nat) (w : World) (hv : Bs w F v l) (hlen : l.length ≤ 100000000) :
    Calls Tryd.prog 37 #[v] w fun e w' => e = .returned (.int .i64 ((8 + l.length : Nat) : Int)) ∧ w = w' := by
  obtain ⟨_, a, cap, rfl, _⟩ := hv
  go_enter Tryd.func37, Tryd.ntmps37
  go_wp2
  go_ret
  exact ⟨ret_i64 (by omega), rfl⟩

/-- What look gives back: the place, the content, the next place, the error. -/
def LookR (F : Nat → Prop) (w : World) (x : Int) (c : List Nat) (n : Int) (er : Int) (e : Ending) (w' : World) : Prop :=
  ∃ v, e = .returned (.tuple #[.agg #[.int .i64 x, v], .int .i64 n, .int .i64 er]) ∧ Bs w F v c ∧ Below w.heap.size w w'
theorem look_out (F : Nat → Prop) (a : Option Addr) (cap : Nat) (b : List Nat) (at_ : Int) (w : World) (hv : Bs w F (.slice a b.length cap) b) (hlen : b.length ≤ 100000000) (h : at_ < 0 ∨ (b.length : Int) < at_) :
    Calls Tryd.prog 63 #[.slice a b.length cap, .int .i64 at_] w (LookR F w 0 [] 0 3) := by
  by_cases h0 : at_ < 0
  · have hd : decide (at_ < 0) = true := by simpa using h0
    go_enter Tryd.func63, Tryd.ntmps63
    go_wp2
    refine bodyPost_ret (v := .tuple #[.agg #[.int .i64 0, .slice none 0 0], .int .i64 0, .int .i64 3]) (by simp [results, Tryd.results63, go_sem]) rfl ⟨_, rfl, Bs.nil _ _ _ _, ?_⟩
    exact (Below.refl w.heap.size w).alloc (Nat.le_refl _) _
  · have hd : decide (at_ < 0) = false := by simpa using h0
    have hd2 : decide ((b.length : Int) < at_) = true := by simp; omega
    go_enter Tryd.func63, Tryd.ntmps63
    go_wp2
    refine bodyPost_ret (v := .tuple #[.agg #[.int .i64 0, .slice none 0 0], .int .i64 0, .int .i64 3]) (by simp [results, Tryd.results63, go_sem]) rfl ⟨_, rfl, Bs.nil _ _ _ _, ?_⟩
    exact (Below.refl w.heap.size w).alloc (Nat.le_refl _) _
theorem look_end (F : Nat → Prop) (a : Option Addr) (cap : Nat) (b : List Nat) (w : World) (hv : Bs w F (.slice a b.length cap) b) (hlen : b.length ≤ 100000000) :
    Calls Tryd.prog 63 #[.slice a b.length cap, .int .i64 (b.length : Nat)] w (LookR F w 0 [] 0 5) := by
  have ht := fun w => tail_run a b.length cap b.length (Nat.le_refl _) w
  have hd : decide (((b.length : Nat) : Int) < 0) = false := by simp
  have hd2 : decide ((b.length : Int) < (b.length : Int)) = false := by simp
  go_enter Tryd.func63, Tryd.ntmps63
  go_wp2
  refine bodyPost_ret (v := .tuple #[.agg #[.int .i64 0, .slice none 0 0], .int .i64 0, .int .i64 5]) (by simp [results, Tryd.results63, go_sem]) rfl ⟨_, rfl, Bs.nil _ _ _ _, ?_⟩
  exact (Below.refl w.heap.size w).alloc (Nat.le_refl _) _
theorem look_short (F : Nat → Prop) (a : Option Addr) (cap : Nat) (b : List Nat) (k : Nat) (w : World) (hv : Bs w F (.slice a b.length cap) b) (hlen : b.length ≤ 100000000) (hk : k < b.length) (h8 : b.length - k < 8) :
    Calls Tryd.prog 63 #[.slice a b.length cap, .int .i64 (k : Nat)] w (LookR F w 0 [] 0 10) := by
  have ht := fun w => tail_run a b.length cap k (by omega) w
  have hd : decide (((k : Nat) : Int) < 0) = false := by simp
  have hd2 : decide (b.length < k) = false := by simp; omega
  have hd3 : ((b.length - k : Nat) : Int) = (b.length : Int) - k := by omega
  have hd4 : ¬ b.length - k = 0 := by omega
  go_enter Tryd.func63, Tryd.ntmps63
  go_wp2
  refine bodyPost_ret (v := .tuple #[.agg #[.int .i64 0, .slice none 0 0], .int .i64 0, .int .i64 10]) (by simp [results, Tryd.results63, go_sem]) rfl ⟨_, rfl, Bs.nil _ _ _ _, ?_⟩
  exact (Below.refl w.heap.size w).alloc (Nat.le_refl _) _

def lkX (E k : Nat) : Int := if E = 0 then ((k : Nat) : Int) else 0
def lkC (E : Nat) (c : List Nat) : List Nat := if E = 0 then c else []
def lkN (E k : Nat) (c : List Nat) : Int := if E = 0 then ((k + (8 + c.length) : Nat) : Int) else 0
def LookE (F : Nat → Prop) (w : World) (k E : Nat) (c : List Nat) : Ending → World → Prop := LookR F w (lkX E k) (lkC E c) (lkN E k c) E
theorem lookE_ok (F : Nat → Prop) (w : World) (k : Nat) (c : List Nat) : LookE F w k 0 c = LookR F w ((k : Nat) : Int) c ((k + (8 + c.length) : Nat) : Int) ((0 : Nat) : Int) := by
  unfold LookE lkX lkC lkN
  rw [if_pos rfl, if_pos rfl, if_pos rfl]
theorem lookE_no (F : Nat → Prop) (w : World) (k E : Nat) (c : List Nat) (h : E ≠ 0) : LookE F w k E c = LookR F w 0 [] 0 (E : Nat) := by
  unfold LookE lkX lkC lkN
  rw [if_neg h, if_neg h, if_neg h]
/-- What look gives back at a place of the bytes. -/
def LookK (F : Nat → Prop) (w : World) (b : List Nat) (k : Nat) : Ending → World → Prop := LookE F w k (restE (b.drop k)) (restC (b.drop k))
/-- Eight bytes at a place. -/
theorem look_more (F : Nat → Prop) (a : Option Addr) (cap : Nat) (b : List Nat) (k : Nat) (w : World) (hv : Bs w F (.slice a b.length cap) b) (hF : ∀ k, F k → k < w.heap.size) (hH : Hv w) (hlen : b.length ≤ 100000000) (hk : k + 8 ≤ b.length) :
    Calls Tryd.prog 63 #[.slice a b.length cap, .int .i64 (k : Nat)] w (LookK F w b k) := by
  have hv0 := hv
  obtain ⟨h8, a', cap', e0, hcap, hc⟩ := hv0
  injection e0 with e1 e2 e3
  subst e1 e3
  obtain ⟨blk, off, rfl, hFb, hcell⟩ := hc (by omega)
  have t1 : ∀ w, (Instr.slice 29 (.slice (some ⟨blk, off, none⟩) b.length cap) (some (.int .i64 ((k : Nat) : Int))) none none).run Tryd.prog w = .ok (.slice (some ⟨blk, off + k, none⟩) (b.length - k) (cap - k)) w := fun w => by
    have := tail_run (some ⟨blk, off, none⟩) b.length cap k (by omega) w
    rwa [cutA_some _ _ _ _ (by omega)] at this
  have t2 : ∀ w, (Instr.slice 29 (.slice (some ⟨blk, off + k, none⟩) (b.length - k) (cap - k)) none (some (.int .i64 8)) none).run Tryd.prog w = .ok (.slice (some ⟨blk, off + k, none⟩) 8 (cap - k)) w := fun w => upto_run (some ⟨blk, off + k, none⟩) (b.length - k) (cap - k) 8 (by omega) w
  have t3 : ∀ w, (Instr.slice 29 (.slice (some ⟨blk, off + k, none⟩) (b.length - k) (cap - k)) (some (.int .i64 8)) none none).run Tryd.prog w = .ok (.slice (cutA (some ⟨blk, off + k, none⟩) (cap - k) 8) (b.length - k - 8) (cap - k - 8)) w := fun w => tail_run (some ⟨blk, off + k, none⟩) (b.length - k) (cap - k) 8 (by omega) w
  have ta := fun (w : World) => run_arrayAt (P := Tryd.prog) (w := w) 90 5 8 (some ⟨blk, off + k, none⟩) 8 (cap - k) Tryd.underlying90 (Nat.le_refl _)
  have hd : decide (((k : Nat) : Int) < 0) = false := by simp
  have hd2 : decide (b.length < k) = false := by simp; omega
  have hB3 := (hv.tail k (by omega))
  rw [cutA_some _ _ _ _ (by omega)] at hB3
  have hB3 := hB3.tail 8 (by rw [List.length_drop]; omega)
  have hl8 : ((b.drop k).take 8).length = 8 := by rw [List.length_take, List.length_drop]; omega
  have hc8 : ∀ i, i < 8 → w.cell? ⟨blk, off + k + i, none⟩ = some (.int .u8 (((b.drop k).take 8).getD i 0 : Nat)) := fun i hi => by
    rw [Nat.add_assoc, hcell (k + i) (by omega)]
    congr 2
    rw [List.getD_eq_getElem?_getD, List.getD_eq_getElem?_getD, List.getElem?_take_of_lt hi, List.getElem?_drop]
  have n0 : num4 ((b.drop k).take 8) = num4 (b.drop k) := num4_take (by omega)
  have n4 : num4 (((b.drop k).take 8).drop 4) = num4 ((b.drop k).drop 4) := by rw [List.drop_take]; exact num4_take (by omega)
  have hs8 : Byt ((b.drop k).take 8) := Byt.take (Byt.drop h8 k) 8
  obtain ⟨x0, x1, x2, x3, x4, x5, x6, x7, e8⟩ := len8 hl8
  rw [e8] at hc8 hs8 n0 n4
  have c0 : w.cell? ⟨blk, off + k, none⟩ = some (.int .u8 (x0 : Nat)) := hc8 0 (by omega)
  have c1 : w.cell? ⟨blk, off + k + 1, none⟩ = some (.int .u8 (x1 : Nat)) := hc8 1 (by omega)
  have c2 : w.cell? ⟨blk, off + k + 2, none⟩ = some (.int .u8 (x2 : Nat)) := hc8 2 (by omega)
  have c3 : w.cell? ⟨blk, off + k + 3, none⟩ = some (.int .u8 (x3 : Nat)) := hc8 3 (by omega)
  have c4 : w.cell? ⟨blk, off + k + 4, none⟩ = some (.int .u8 (x4 : Nat)) := hc8 4 (by omega)
  have c5 : w.cell? ⟨blk, off + k + 5, none⟩ = some (.int .u8 (x5 : Nat)) := hc8 5 (by omega)
  have c6 : w.cell? ⟨blk, off + k + 6, none⟩ = some (.int .u8 (x6 : Nat)) := hc8 6 (by omega)
  have c7 : w.cell? ⟨blk, off + k + 7, none⟩ = some (.int .u8 (x7 : Nat)) := hc8 7 (by omega)
  have HS := fun w => said_any [x0, x1, x2, x3, x4, x5, x6, x7] w rfl hs8
  rw [n0, n4] at HS
  replace HS := Lib.hid HS
  have hrl : (b.drop k).length = b.length - k := List.length_drop
  have hN0 := num4_lt (Byt.drop h8 k)
  have hM0 := num4_lt (Byt.drop (Byt.drop h8 k) 4)
  have hE := restE_ge (r := b.drop k) (by omega)
  rw [hrl] at hE
  have hCe : restC (b.drop k) = ((b.drop k).drop 8).take (num4 (b.drop k)) := rfl
  have hdl : ((b.drop k).drop 8).length = b.length - k - 8 := by rw [List.length_drop, List.length_drop]
  have hlt := hF _ hFb
  clear hcell hc8 hl8 e8 n0 n4 hrl
  generalize (b.drop k).drop 8 = r8 at *
  generalize num4 (b.drop k) = N at *
  generalize num4 ((b.drop k).drop 4) = M at *
  unfold LookK
  generalize restE (b.drop k) = E at *
  generalize restC (b.drop k) = c at *
  obtain ⟨L1, hL1⟩ : ∃ L1, b.length - k = L1 := ⟨_, rfl⟩
  obtain ⟨C1, hC1⟩ : ∃ C1, cap - k = C1 := ⟨_, rfl⟩
  obtain ⟨L2, hL2⟩ : ∃ L2, L1 - 8 = L2 := ⟨_, rfl⟩
  obtain ⟨C2, hC2⟩ : ∃ C2, C1 - 8 = C2 := ⟨_, rfl⟩
  have hLb : k + 8 + L2 = b.length ∧ L1 = L2 + 8 ∧ C1 = C2 + 8 ∧ L2 ≤ C2 := by omega
  obtain ⟨g1, g2, g3, g4⟩ := hLb
  rw [hL1, hC1] at t1 t2 t3 hB3
  rw [hC1] at ta
  rw [hL2, hC2] at t3 hB3
  rw [hL1, hL2] at hE hdl
  generalize cutA (some ⟨blk, off + k, none⟩) C1 8 = a3 at *
  have hd3 : (L1 : Int) = L2 + 8 := by omega
  replace g1 := Lib.hid g1
  have HE := Lib.hid hE
  have HC := Lib.hid hCe
  have Hdl := Lib.hid hdl
  clear hE hCe hL1 hC1 hL2 hC2 hdl g2 g3
  have hwN : IntKind.i64.wrap (N : Int) = N := IntWalk.i64_in _ (by omega)
  by_cases hbig : 65536 < N
  · have HE0 : E = 10 := by rw [HE.out, if_pos (.inl hbig)]
    subst HE0
    rw [lookE_no _ _ _ _ _ (by omega)]
    have hdb : decide ((65536 : Int) < (N : Int)) = true := by simp; omega
    replace hbig := Lib.hid hbig
    go_enter Tryd.func63, Tryd.ntmps63
    go_wp2_with (fail)
    refine (HS.out _).mono ?_
    rintro e w1 ⟨rfl, hb1⟩
    have hR : Blk w1 w.heap.size [.int .i64 0, .slice none 0 0] 81 := Blk.later (heap_alloc_new w _) hb1
    have r0 := hR.cell 0 _ rfl
    have r1 := hR.cell 1 _ rfl
    have f0 := hR.free 0
    have f1 := hR.free 1
    have bel := ((Below.refl w.heap.size w).alloc (Nat.le_refl _) _).trans (hb1.mono (by simp))
    go_wp2
    refine bodyPost_ret (v := .tuple #[.agg #[.int .i64 0, .slice none 0 0], .int .i64 0, .int .i64 10]) (by simp [results, Tryd.results63, go_sem, r0, r1]) rfl ⟨_, rfl, Bs.nil _ _ _ _, ?_⟩
    exact (bel.setCell (p := ⟨w.heap.size, 0, none⟩) (Nat.le_refl _) _).setCell (p := ⟨w.heap.size, 1, none⟩) (Nat.le_refl _) _
  have hdb : decide ((65536 : Int) < (N : Int)) = false := by simp; omega
  have hN5 : N ≤ 65536 := by omega
  clear hbig
  by_cases hfit : L2 < N
  · have HE0 : E = 10 := by rw [HE.out, if_pos (.inr hfit)]
    subst HE0
    rw [lookE_no _ _ _ _ _ (by omega)]
    have hdf : decide (L2 < N) = true := by simpa using hfit
    have hdf2 : decide ((L2 : Int) < (N : Int)) = true := by simpa using hfit
    replace hfit := Lib.hid hfit
    go_enter Tryd.func63, Tryd.ntmps63
    go_wp2_with (fail)
    refine (HS.out _).mono ?_
    rintro e w1 ⟨rfl, hb1⟩
    have hR : Blk w1 w.heap.size [.int .i64 0, .slice none 0 0] 81 := Blk.later (heap_alloc_new w _) hb1
    have r0 := hR.cell 0 _ rfl
    have r1 := hR.cell 1 _ rfl
    have f0 := hR.free 0
    have f1 := hR.free 1
    have bel := ((Below.refl w.heap.size w).alloc (Nat.le_refl _) _).trans (hb1.mono (by simp))
    go_wp2
    refine bodyPost_ret (v := .tuple #[.agg #[.int .i64 0, .slice none 0 0], .int .i64 0, .int .i64 10]) (by simp [results, Tryd.results63, go_sem, r0, r1]) rfl ⟨_, rfl, Bs.nil _ _ _ _, ?_⟩
    exact (bel.setCell (p := ⟨w.heap.size, 0, none⟩) (Nat.le_refl _) _).setCell (p := ⟨w.heap.size, 1, none⟩) (Nat.le_refl _) _
  have hdf : decide (L2 < N) = false := by simp; omega
  have hdf2 : decide ((L2 : Int) < (N : Int)) = false := by simp; omega
  have t4 := fun w => head_run .u32 a3 L2 C2 N (by omega) w
  rw [cutA_zero] at t4
  have hB4 := hB3.upto N (by rw [Hdl.out]; omega)
  rw [← HC.out] at hB4
  have hcl : c.length = N := by rw [HC.out, List.length_take, Hdl.out]; omega
  by_cases hsum : more 0 c = M
  · have HE0 : E = 0 := by rw [HE.out, if_neg (by omega), if_pos hsum]
    subst HE0
    rw [lookE_ok]
    have hds : decide (more 0 c = M) = true := by simpa using hsum
    replace hsum := Lib.hid hsum
    replace g1 := g1.out
    have hc5 : c.length ≤ 65536 := by omega
    have hk5 : k ≤ 100000000 := by omega
    have hnx : IntKind.i64.wrap ((k : Int) + ((8 + c.length : Nat) : Int)) = ((k + (8 + c.length) : Nat) : Int) := by rw [IntWalk.i64_in _ (by omega)]; omega
    replace hcl := Lib.hid hcl
    go_enter Tryd.func63, Tryd.ntmps63
    go_wp2_with (fail)
    refine (HS.out _).mono ?_
    rintro e w1 ⟨rfl, hb1⟩
    have hR : Blk w1 w.heap.size [.int .i64 0, .slice none 0 0] 81 := Blk.later (heap_alloc_new w _) hb1
    have r0 := hR.cell 0 _ rfl
    have r1 := hR.cell 1 _ rfl
    have f0 := hR.free 0
    have f1 := hR.free 1
    have bel := ((Below.refl w.heap.size w).alloc (Nat.le_refl _) _).trans (hb1.mono (by simp))
    go_wp2_with (first
      | (go_at_call 68; refine (check_any _ F c M _ (hB4.kept (Same.of_below bel hF)) (by have := hcl.out; omega) (hv_later hH bel)).mono ?_; rintro e w' ⟨rfl, rfl⟩; rw [hds])
      | (go_at_call 37; refine (size_is _ F c _ (hB4.kept (Same.of_below bel hF)) (by have := hcl.out; omega)).mono ?_; rintro e w' ⟨rfl, rfl⟩))
    refine bodyPost_ret (v := .tuple #[.agg #[.int .i64 (k : Nat), .slice a3 N C2], .int .i64 ((k : Int) + (8 + (c.length : Int))), .int .i64 0]) (by simp [results, Tryd.results63, go_sem, r0, r1]) rfl ⟨_, ?_, hB4, ?_⟩
    · simp
    · exact (bel.setCell (p := ⟨w.heap.size, 0, none⟩) (Nat.le_refl _) _).setCell (p := ⟨w.heap.size, 1, none⟩) (Nat.le_refl _) _
  · have HE0 : E = 13 := by rw [HE.out, if_neg (by omega), if_neg hsum]
    subst HE0
    rw [lookE_no _ _ _ _ _ (by omega)]
    have hds : decide (more 0 c = M) = false := by simpa using hsum
    replace hsum := Lib.hid hsum
    replace hcl := Lib.hid hcl
    go_enter Tryd.func63, Tryd.ntmps63
    go_wp2_with (fail)
    refine (HS.out _).mono ?_
    rintro e w1 ⟨rfl, hb1⟩
    have hR : Blk w1 w.heap.size [.int .i64 0, .slice none 0 0] 81 := Blk.later (heap_alloc_new w _) hb1
    have r0 := hR.cell 0 _ rfl
    have r1 := hR.cell 1 _ rfl
    have f0 := hR.free 0
    have f1 := hR.free 1
    have bel := ((Below.refl w.heap.size w).alloc (Nat.le_refl _) _).trans (hb1.mono (by simp))
    go_wp2_with (first
      | (go_at_call 68; refine (check_any _ F c M _ (hB4.kept (Same.of_below bel hF)) (by have := hcl.out; omega) (hv_later hH bel)).mono ?_; rintro e w' ⟨rfl, rfl⟩; rw [hds]))
    refine bodyPost_ret (v := .tuple #[.agg #[.int .i64 0, .slice none 0 0], .int .i64 0, .int .i64 13]) (by simp [results, Tryd.results63, go_sem, r0, r1]) rfl ⟨_, rfl, Bs.nil _ _ _ _, ?_⟩
    exact (bel.setCell (p := ⟨w.heap.size, 0, none⟩) (Nat.le_refl _) _).setCell (p := ⟨w.heap.size, 1, none⟩) (Nat.le_refl _) _
end Go.Proofs.YtojeccmnhgcmcaaDoor.Frame
