/- What a memo stands for. -/
import Derived.Test.YtbgjiokocjnjhaaD19
import Derived.Laws.IdiomStrings
namespace Go.Proofs.Ytbgjiokocjnjhaa.Ded
open Go.RowKit Go.Lib Go.Shelf
open Rng (tx tx_of)
open Eff (TE effOk)
set_option linter.unusedVariables false
set_option linter.unusedSimpArgs false
set_option maxRecDepth 100000

/-- The entry of a memo. -/
def enM (m : Mm) : En := ⟨m.e % 19, m.n, List.replicate (m.e % 4).toNat 120, ⟨1 + m.s % 5, m.p % 8, 1 + m.p / 8 % 3⟩, [UInt8.ofNat (97 + m.k % 26).toNat]⟩
theorem u8_all : ∀ k : Nat, k < 26 → Rng.nameOk [UInt8.ofNat (97 + k)] = true ∧ ((UInt8.ofNat (97 + k)).toNat = 97 + k) := by decide
theorem enM_ok (m : Mm) (h : MmOk m) : OkN (enM m) := by
  obtain ⟨h1, h2, h3, h4, h5⟩ := h
  refine ⟨by show 1 ≤ 1 + m.s % 5 ∧ 1 + m.s % 5 ≤ 9999 ∧ 0 ≤ m.p % 8 ∧ m.p % 8 ≤ 7 ∧ 1 ≤ 1 + m.p / 8 % 3 ∧ 1 + m.p / 8 % 3 ≤ 3; omega, ?_, ?_⟩
  · have h6 := (u8_all (m.k % 26).toNat (by omega)).1
    show Rng.nameOk [UInt8.ofNat (97 + m.k % 26).toNat] = true
    rwa [show (97 + m.k % 26).toNat = 97 + (m.k % 26).toNat by omega]
  · exact decide_eq_true ⟨by show 0 ≤ m.e % 19; omega, by show m.e % 19 ≤ 18; omega, by show _ ≤ m.n; omega, by show m.n ≤ _; omega, by show (List.replicate (m.e % 4).toNat (120 : UInt8)).length ≤ 65536; rw [List.length_replicate]; omega⟩
theorem wf_small (n : Int) (h0 : 0 ≤ n) (h1 : n ≤ 10000) : (Lit.int .i64 n).wf = true := by
  have e1 : IntKind.i64.min = -9223372036854775808 := by decide
  have e2 : IntKind.i64.max = 9223372036854775807 := by decide
  show (decide (IntKind.i64.min ≤ n) && decide (n ≤ IntKind.i64.max)) = true
  rw [e1, e2, Bool.and_eq_true]
  exact ⟨decide_eq_true (by omega), decide_eq_true (by omega)⟩
theorem enM_wf (m : Mm) (h : MmOk m) : WfE (enM m).ef := by
  obtain ⟨h1, h2, h3, h4, h5⟩ := h
  exact ⟨wf_small (1 + m.s % 5) (by omega) (by omega), wf_small (m.p % 8) (by omega) (by omega), wf_small (1 + m.p / 8 % 3) (by omega) (by omega)⟩
abbrev TB : TypeId := 66
theorem conv_key (W : World) (g c : Nat) (b : UInt8) (n : Int) (hn : n = (b.toNat : Int)) (h : W.cell? ⟨g, 0, none⟩ = some (.int .u8 n)) :
    (convert TB 9 (.slice (some ⟨g, 0, none⟩) 1 c)).run Try.prog W = .ok (.string ⟨#[b]⟩) W := by
  exact run_convert_bytes_back W TB 9 5 ⟨g, 0, none⟩ c [b] Try.underlying66 Try.underlying5 Try.underlying9 (fun j hj => by
    have hj0 : j = 0 := by simp at hj; omega
    subst hj0
    rw [addr_add, h, hn]
    rfl)
def Ofd (m : Mm) (w : World) (r : Ending) (w' : World) : Prop := r = .returned (.tuple #[efA (enM m).ef, .string (tx (enM m).ky), rpA (enM m)]) ∧ Below w.heap.size w w'
/-- The four boxes of Memo.of: the memo, the two results, the effect. -/
structure OA (w : World) (m : Mm) (c1 c2 : Array Value) (W : World) : Prop where
  b0 : W.heap[w.heap.size]? = some (.cells #[.int .u8 m.s, .int .u8 m.p, .int .u8 m.k, .int .i32 m.n, .int .u8 m.e] TMm (0, 0))
  b1 : W.heap[w.heap.size + 1]? = some (.cells c1 TE (0, 0))
  b2 : W.heap[w.heap.size + 2]? = some (.cells c2 TRp (0, 0))
  b3 : W.heap[w.heap.size + 3]? = some (eBx (enM m).ef)
  bel : Below w.heap.size w W
theorem OA.later {w W W' : World} {m : Mm} {c1 c2 : Array Value} (h : OA w m c1 c2 W) (hb : Below W.heap.size W W') : OA w m c1 c2 W' :=
  ⟨(hb.block _ (Array.getElem?_eq_some_iff.1 h.b0).1).trans h.b0, (hb.block _ (Array.getElem?_eq_some_iff.1 h.b1).1).trans h.b1, (hb.block _ (Array.getElem?_eq_some_iff.1 h.b2).1).trans h.b2, (hb.block _ (Array.getElem?_eq_some_iff.1 h.b3).1).trans h.b3, h.bel.trans (hb.mono h.bel.size)⟩
abbrev zE : Array Value := #[.int .i64 0, .int .i64 0, .int .i64 0]
abbrev zR : Array Value := #[.int .i64 0, .int .i64 0, .string ⟨#[]⟩]
theorem OA.new (w : World) (m : Mm) : OA w m zE zR ((((w.alloc (.cells #[.int .u8 m.s, .int .u8 m.p, .int .u8 m.k, .int .i32 m.n, .int .u8 m.e] TMm)).alloc (.cells #[.int .i64 0, .int .i64 0, .int .i64 0] TE)).alloc (.cells #[.int .i64 0, .int .i64 0, .string ⟨#[]⟩] TRp)).alloc (.cells #[.int .i64 (1 + m.s % 5), .int .i64 (m.p % 8), .int .i64 (1 + m.p / 8 % 3)] TE)) := by
  have h1 := heap_alloc_new (w.alloc (.cells #[.int .u8 m.s, .int .u8 m.p, .int .u8 m.k, .int .i32 m.n, .int .u8 m.e] TMm)) (.cells #[.int .i64 0, .int .i64 0, .int .i64 0] TE)
  have h2 := heap_alloc_new ((w.alloc (.cells #[.int .u8 m.s, .int .u8 m.p, .int .u8 m.k, .int .i32 m.n, .int .u8 m.e] TMm)).alloc (.cells #[.int .i64 0, .int .i64 0, .int .i64 0] TE)) (.cells #[.int .i64 0, .int .i64 0, .string ⟨#[]⟩] TRp)
  have h3 := heap_alloc_new (((w.alloc (.cells #[.int .u8 m.s, .int .u8 m.p, .int .u8 m.k, .int .i32 m.n, .int .u8 m.e] TMm)).alloc (.cells #[.int .i64 0, .int .i64 0, .int .i64 0] TE)).alloc (.cells #[.int .i64 0, .int .i64 0, .string ⟨#[]⟩] TRp)) (.cells #[.int .i64 (1 + m.s % 5), .int .i64 (m.p % 8), .int .i64 (1 + m.p / 8 % 3)] TE)
  simp only [World.size_alloc] at h1 h2 h3
  refine ⟨?_, ?_, ?_, h3, (((alloc_b _ _).alloc (by simp) _).alloc (by simp; omega) _).alloc (by simp; omega) _⟩
  · rw [Below.heap_alloc _ _ _ (by simp; omega), Below.heap_alloc _ _ _ (by simp; omega), Below.heap_alloc _ _ _ (by simp)]
    exact heap_alloc_new _ _
  · rw [Below.heap_alloc _ _ _ (by simp), Below.heap_alloc _ _ _ (by simp)]
    exact h1
  · rw [Below.heap_alloc _ _ _ (by simp)]
    exact h2
theorem row3 {W : World} {g : Nat} {T : TypeId} {a b c : Value} (h : W.heap[g]? = some (.cells #[a, b, c] T (0, 0))) :
    W.cell? ⟨g, 0, none⟩ = some a ∧ W.cell? ⟨g, 1, none⟩ = some b ∧ W.cell? ⟨g, 2, none⟩ = some c ∧ W.frozen? ⟨g, 0, none⟩ = false ∧ W.frozen? ⟨g, 1, none⟩ = false ∧ W.frozen? ⟨g, 2, none⟩ = false :=
  ⟨cell_of_row W _ 0 _ T _ h, cell_of_row W _ 1 _ T _ h, cell_of_row W _ 2 _ T _ h, by simp [World.frozen?, h], by simp [World.frozen?, h], by simp [World.frozen?, h]⟩
abbrev set3 (W : World) (g : Nat) (a b c : Value) : World := ((W.setCell ⟨g, 0, none⟩ a).setCell ⟨g, 1, none⟩ b).setCell ⟨g, 2, none⟩ c
theorem set3_same {W : World} {g : Nat} {T : TypeId} {x y z : Value} (h : W.heap[g]? = some (.cells #[x, y, z] T (0, 0))) (a b c : Value) : (set3 W g a b c).heap[g]? = some (.cells #[a, b, c] T (0, 0)) := by
  have h1 := heap_setCell_same W g 0 _ T a h
  have h2 := heap_setCell_same _ g 1 _ T b h1
  have h3 := heap_setCell_same _ g 2 _ T c h2
  rw [h3]
  simp
theorem set3_other {W : World} {g k : Nat} (a b c : Value) (h : k ≠ g) : (set3 W g a b c).heap[k]? = W.heap[k]? := by
  unfold set3
  rw [heap_setCell_other _ ⟨g, 2, none⟩ k c h, heap_setCell_other _ ⟨g, 1, none⟩ k b h, heap_setCell_other _ ⟨g, 0, none⟩ k a h]
theorem OA.put1 {w W : World} {m : Mm} {x y z : Value} {c2 : Array Value} (h : OA w m #[x, y, z] c2 W) (a b c : Value) : OA w m #[a, b, c] c2 (set3 W (w.heap.size + 1) a b c) :=
  ⟨(set3_other a b c (by omega)).trans h.b0, set3_same h.b1 a b c, (set3_other a b c (by omega)).trans h.b2, (set3_other a b c (by omega)).trans h.b3, ((h.bel.setCell (Nat.le_add_right _ _) a).setCell (Nat.le_add_right _ _) b).setCell (Nat.le_add_right _ _) c⟩
theorem OA.put2 {w W : World} {m : Mm} {x y z : Value} {c1 : Array Value} (h : OA w m c1 #[x, y, z] W) (a b c : Value) : OA w m c1 #[a, b, c] (set3 W (w.heap.size + 2) a b c) :=
  ⟨(set3_other a b c (by omega)).trans h.b0, (set3_other a b c (by omega)).trans h.b1, set3_same h.b2 a b c, (set3_other a b c (by omega)).trans h.b3, ((h.bel.setCell (Nat.le_add_right _ _) a).setCell (Nat.le_add_right _ _) b).setCell (Nat.le_add_right _ _) c⟩
/-- What the region reads. -/
structure OB (w : World) (m : Mm) (W : World) : Prop where
  b0 : W.heap[w.heap.size]? = some (.cells #[.int .u8 m.s, .int .u8 m.p, .int .u8 m.k, .int .i32 m.n, .int .u8 m.e] TMm (0, 0))
  b3 : W.heap[w.heap.size + 3]? = some (eBx (enM m).ef)
abbrev S20 (w : World) (m : Mm) (W : World) : Prop :=
  W.cell? ⟨w.heap.size, 2, none⟩ = some (.int .u8 m.k) ∧ W.cell? ⟨w.heap.size, 3, none⟩ = some (.int .i32 m.n) ∧ W.cell? ⟨w.heap.size, 4, none⟩ = some (.int .u8 m.e) ∧
    W.cell? ⟨w.heap.size + 3, 0, none⟩ = some (.int .i64 (1 + m.s % 5)) ∧ W.cell? ⟨w.heap.size + 3, 1, none⟩ = some (.int .i64 (m.p % 8)) ∧ W.cell? ⟨w.heap.size + 3, 2, none⟩ = some (.int .i64 (1 + m.p / 8 % 3)) ∧ OB w m W
theorem OB.s20 {w W : World} {m : Mm} (h : OB w m W) : S20 w m W :=
  ⟨cell_of_row W _ 2 _ TMm _ h.b0, cell_of_row W _ 3 _ TMm _ h.b0, cell_of_row W _ 4 _ TMm _ h.b0, cell_of_row W _ 0 _ TE _ h.b3, cell_of_row W _ 1 _ TE _ h.b3, cell_of_row W _ 2 _ TE _ h.b3, h⟩
theorem OA.s20 {w W : World} {m : Mm} {c1 c2 : Array Value} (h : OA w m c1 c2 W) : S20 w m W := (OB.mk h.b0 h.b3).s20
set_option maxHeartbeats 4000000 in
theorem of_any (m : Mm) (h : MmOk m) (w : World) : Calls Try.prog 26 #[mmA m] w (Ofd m w) := by
  obtain ⟨⟨h1, h1'⟩, ⟨h2, h2'⟩, ⟨h3, h3'⟩, ⟨h4, h4'⟩, ⟨h5, h5'⟩⟩ := h
  have hN := OA.new w m
  replace hN := Lib.hid hN
  have hky : (97 + m.k % 26) = ((UInt8.ofNat (97 + m.k % 26).toNat).toNat : Int) := by
    have h6 := (u8_all (m.k % 26).toNat (by omega)).2
    rw [show (97 + m.k % 26).toNat = 97 + (m.k % 26).toNat by omega, h6]
    omega
  replace hky := Lib.hid hky
  have hrp : m.e % 4 = ((m.e % 4).toNat : Int) := by omega
  have hrl : (m.e % 4).toNat ≤ 1000000 := by omega
  have HR := Lib.hid (fun W => rep_any 120 (m.e % 4).toNat W hrl)
  rw [← hrp] at HR
  replace hrp := Lib.hid hrp
  go_enter Try.func26, Try.ntmps26
  go_wp2
  have hD := hN.out.later (Below.refl _ _).drew
  have hS0 := hD.s20
  have hD' := Lib.hid hD
  clear hD
  have hD := hD'.out
  have t1 : m.k.tmod 26 = m.k % 26 := Int.tmod_eq_emod_of_nonneg h3
  have t2 : m.e.tmod 19 = m.e % 19 := Int.tmod_eq_emod_of_nonneg h5
  have t3 : m.e.tmod 4 = m.e % 4 := Int.tmod_eq_emod_of_nonneg h5
  have t4 : IntKind.u8.wrap (97 + m.k % 26) = 97 + m.k % 26 := by rw [IntKind.wrap_u8]; omega
  have t5 : IntKind.i64.wrap (m.e % 19) = m.e % 19 := by rw [IntKind.wrap_i64]; omega
  have t6 : IntKind.i64.wrap (m.e % 4) = m.e % 4 := by rw [IntKind.wrap_i64]; omega
  have t7 : IntKind.i64.wrap m.n = m.n := by rw [IntKind.wrap_i64]; omega
  generalize hW0 : ((((w.alloc (.cells #[.int .u8 m.s, .int .u8 m.p, .int .u8 m.k, .int .i32 m.n, .int .u8 m.e] TMm)).alloc (.cells #[.int .i64 0, .int .i64 0, .int .i64 0] TE)).alloc (.cells #[.int .i64 0, .int .i64 0, .string ⟨#[]⟩] TRp)).alloc (.cells #[.int .i64 (1 + m.s % 5), .int .i64 (m.p % 8), .int .i64 (1 + m.p / 8 % 3)] TE)) = W0 at *
  clear hW0 hN
  refine wp_region_held_drew (S := (S20 w m)) (by kernel_rfl) (hS0) (fun hS => ?_)
  try simp only [Act.put, List.setIfInBounds_toArray, List.set_cons_zero, List.set_cons_succ]
  refine wpAnyH_take (i := 0) (v := .agg #[.int .i64 (1 + m.s % 5), .int .i64 (m.p % 8), .int .i64 (1 + m.p / 8 % 3)]) rfl (by kernel_rfl) (by kernel_rfl) (by kernel_rfl) (fun _ _ _ h => h) (Or.inl ⟨by kernel_rfl, by intro w' hSw; obtain ⟨s0, s1, s2, s3, s4, s5, s6⟩ := hSw; go_simp⟩) hS ?_
  try simp only [Act.put, List.setIfInBounds_toArray, List.set_cons_zero, List.set_cons_succ]
  refine wpAnyH_take (i := 1) (v := .pointer (some ⟨w.heap.size, 2, none⟩)) rfl (by kernel_rfl) (by kernel_rfl) (by kernel_rfl) (fun _ _ _ h => h) (Or.inl ⟨by kernel_rfl, by intro w' hSw; obtain ⟨s0, s1, s2, s3, s4, s5, s6⟩ := hSw; go_simp⟩) hS ?_
  try simp only [Act.put, List.setIfInBounds_toArray, List.set_cons_zero, List.set_cons_succ]
  refine wpAnyH_take (i := 2) (v := .int .u8 m.k) rfl (by kernel_rfl) (by kernel_rfl) (by kernel_rfl) (fun _ _ _ h => h) (Or.inl ⟨by kernel_rfl, by intro w' hSw; obtain ⟨s0, s1, s2, s3, s4, s5, s6⟩ := hSw; go_simp⟩) hS ?_
  try simp only [Act.put, List.setIfInBounds_toArray, List.set_cons_zero, List.set_cons_succ]
  refine wpAnyH_take (i := 3) (v := .int .u8 (m.k % 26)) rfl (by kernel_rfl) (by kernel_rfl) (by kernel_rfl) (fun _ _ _ h => h) (Or.inl ⟨by kernel_rfl, by intro w' hSw; obtain ⟨s0, s1, s2, s3, s4, s5, s6⟩ := hSw; go_simp⟩) hS ?_
  try simp only [Act.put, List.setIfInBounds_toArray, List.set_cons_zero, List.set_cons_succ]
  refine wpAnyH_take (i := 4) (v := .int .u8 (97 + m.k % 26)) rfl (by kernel_rfl) (by kernel_rfl) (by kernel_rfl) (fun _ _ _ h => h) (Or.inl ⟨by kernel_rfl, by intro w' hSw; obtain ⟨s0, s1, s2, s3, s4, s5, s6⟩ := hSw; go_simp⟩) hS ?_
  try simp only [Act.put, List.setIfInBounds_toArray, List.set_cons_zero, List.set_cons_succ]
  refine wpAnyH_take (i := 7) (v := .pointer (some ⟨w.heap.size, 4, none⟩)) rfl (by kernel_rfl) (by kernel_rfl) (by kernel_rfl) (fun _ _ _ h => h) (Or.inl ⟨by kernel_rfl, by intro w' hSw; obtain ⟨s0, s1, s2, s3, s4, s5, s6⟩ := hSw; go_simp⟩) hS ?_
  try simp only [Act.put, List.setIfInBounds_toArray, List.set_cons_zero, List.set_cons_succ]
  refine wpAnyH_take (i := 8) (v := .int .u8 m.e) rfl (by kernel_rfl) (by kernel_rfl) (by kernel_rfl) (fun _ _ _ h => h) (Or.inl ⟨by kernel_rfl, by intro w' hSw; obtain ⟨s0, s1, s2, s3, s4, s5, s6⟩ := hSw; go_simp⟩) hS ?_
  try simp only [Act.put, List.setIfInBounds_toArray, List.set_cons_zero, List.set_cons_succ]
  refine wpAnyH_take (i := 9) (v := .int .u8 (m.e % 19)) rfl (by kernel_rfl) (by kernel_rfl) (by kernel_rfl) (fun _ _ _ h => h) (Or.inl ⟨by kernel_rfl, by intro w' hSw; obtain ⟨s0, s1, s2, s3, s4, s5, s6⟩ := hSw; go_simp⟩) hS ?_
  try simp only [Act.put, List.setIfInBounds_toArray, List.set_cons_zero, List.set_cons_succ]
  refine wpAnyH_take (i := 10) (v := .int .i64 (m.e % 19)) rfl (by kernel_rfl) (by kernel_rfl) (by kernel_rfl) (fun _ _ _ h => h) (Or.inl ⟨by kernel_rfl, by intro w' hSw; obtain ⟨s0, s1, s2, s3, s4, s5, s6⟩ := hSw; go_simp⟩) hS ?_
  try simp only [Act.put, List.setIfInBounds_toArray, List.set_cons_zero, List.set_cons_succ]
  refine wpAnyH_take (i := 11) (v := .pointer (some ⟨w.heap.size, 3, none⟩)) rfl (by kernel_rfl) (by kernel_rfl) (by kernel_rfl) (fun _ _ _ h => h) (Or.inl ⟨by kernel_rfl, by intro w' hSw; obtain ⟨s0, s1, s2, s3, s4, s5, s6⟩ := hSw; go_simp⟩) hS ?_
  try simp only [Act.put, List.setIfInBounds_toArray, List.set_cons_zero, List.set_cons_succ]
  refine wpAnyH_take (i := 12) (v := .int .i32 m.n) rfl (by kernel_rfl) (by kernel_rfl) (by kernel_rfl) (fun _ _ _ h => h) (Or.inl ⟨by kernel_rfl, by intro w' hSw; obtain ⟨s0, s1, s2, s3, s4, s5, s6⟩ := hSw; go_simp⟩) hS ?_
  try simp only [Act.put, List.setIfInBounds_toArray, List.set_cons_zero, List.set_cons_succ]
  refine wpAnyH_take (i := 13) (v := .int .i64 m.n) rfl (by kernel_rfl) (by kernel_rfl) (by kernel_rfl) (fun _ _ _ h => h) (Or.inl ⟨by kernel_rfl, by intro w' hSw; obtain ⟨s0, s1, s2, s3, s4, s5, s6⟩ := hSw; go_simp⟩) hS ?_
  try simp only [Act.put, List.setIfInBounds_toArray, List.set_cons_zero, List.set_cons_succ]
  refine wpAnyH_take (i := 14) (v := .pointer (some ⟨w.heap.size, 4, none⟩)) rfl (by kernel_rfl) (by kernel_rfl) (by kernel_rfl) (fun _ _ _ h => h) (Or.inl ⟨by kernel_rfl, by intro w' hSw; obtain ⟨s0, s1, s2, s3, s4, s5, s6⟩ := hSw; go_simp⟩) hS ?_
  try simp only [Act.put, List.setIfInBounds_toArray, List.set_cons_zero, List.set_cons_succ]
  refine wpAnyH_take (i := 15) (v := .int .u8 m.e) rfl (by kernel_rfl) (by kernel_rfl) (by kernel_rfl) (fun _ _ _ h => h) (Or.inl ⟨by kernel_rfl, by intro w' hSw; obtain ⟨s0, s1, s2, s3, s4, s5, s6⟩ := hSw; go_simp⟩) hS ?_
  try simp only [Act.put, List.setIfInBounds_toArray, List.set_cons_zero, List.set_cons_succ]
  refine wpAnyH_take (i := 16) (v := .int .u8 (m.e % 4)) rfl (by kernel_rfl) (by kernel_rfl) (by kernel_rfl) (fun _ _ _ h => h) (Or.inl ⟨by kernel_rfl, by intro w' hSw; obtain ⟨s0, s1, s2, s3, s4, s5, s6⟩ := hSw; go_simp⟩) hS ?_
  try simp only [Act.put, List.setIfInBounds_toArray, List.set_cons_zero, List.set_cons_succ]
  refine wpAnyH_take (i := 17) (v := .int .i64 (m.e % 4)) rfl (by kernel_rfl) (by kernel_rfl) (by kernel_rfl) (fun _ _ _ h => h) (Or.inl ⟨by kernel_rfl, by intro w' hSw; obtain ⟨s0, s1, s2, s3, s4, s5, s6⟩ := hSw; go_simp⟩) hS ?_
  try simp only [Act.put, List.setIfInBounds_toArray, List.set_cons_zero, List.set_cons_succ]
  clear t1 t2 t3 t4 t5 t6 t7 h1 h1' h2 h2' h3 h3' h4 h4' h5 h5' hrl
  refine wpAnyH_ready (rs := [5, 18]) (by kernel_rfl) (by simp) ?_
  refine (AllReadyH.cons rfl (fun K hK => ?_) (AllReadyH.cons rfl (fun K hK => ?_) AllReadyH.nil))
  · go_simp
    have A1 : OA w m _ _ (W0.alloc (.cells #[.int .u8 (97 + m.k % 26)] 5)).drew := hD.later (alloc_b W0.drew (.cells #[.int .u8 (97 + m.k % 26)] 5))
    have k1 : (W0.alloc (.cells #[.int .u8 (97 + m.k % 26)] 5)).drew.cell? ⟨W0.heap.size, 0, none⟩ = some (.int .u8 (97 + m.k % 26)) := cell_of_row _ _ 0 _ _ _ (heap_alloc_new W0 _)
    have hnek1 : W0.heap.size ≠ w.heap.size + 1 := by have := (Array.getElem?_eq_some_iff.1 (show W0.heap[w.heap.size + 1]? = _ from hD.b1)).1; omega
    refine hK.out _ _ A1.s20 (fun hS => ?_)
    clear hK K
    try simp only [Act.put, List.setIfInBounds_toArray, List.set_cons_zero, List.set_cons_succ]
    refine wpAnyH_ready (rs := [6, 18]) (by kernel_rfl) (by simp) ?_
    refine (AllReadyH.cons rfl (fun K hK => ?_) (AllReadyH.cons rfl (fun K hK => ?_) AllReadyH.nil))
    · have kc := fun c => conv_key _ W0.heap.size c _ _ hky.out k1
      go_simp
      clear kc
      refine hK.out _ _ hS (fun hS => ?_)
      clear hK K
      try simp only [Act.put, List.setIfInBounds_toArray, List.set_cons_zero, List.set_cons_succ]
      refine wpAnyH_ready (rs := [18]) (by kernel_rfl) (by simp) ?_
      refine (AllReadyH.cons rfl (fun K hK => ?_) AllReadyH.nil)
      · go_simp
        go_at_call 35
        refine (HR.out _).mono ?_
        rintro r V3 ⟨rfl, hb⟩
        have A3 := A1.later hb
        have k3 := (hb.cell (p := ⟨W0.heap.size, 0, none⟩) (World.block_lt_of_cell? _ _ k1)).trans k1
        clear hb
        refine hK.out _ _ A3.s20 (fun hS => ?_)
        clear hK K
        try simp only [Act.put, List.setIfInBounds_toArray, List.set_cons_zero, List.set_cons_succ]
        refine wpAnyH_take (i := 19) (v := .agg #[.int .i64 (m.e % 19), .int .i64 m.n, .string (tx (List.replicate (m.e % 4).toNat 120))]) rfl (by kernel_rfl) (by kernel_rfl) (by kernel_rfl) (fun _ _ _ h => h) (Or.inl ⟨by kernel_rfl, by intro w' hSw; obtain ⟨s0, s1, s2, s3, s4, s5, s6⟩ := hSw; go_simp⟩) hS ?_
        try simp only [Act.put, List.setIfInBounds_toArray, List.set_cons_zero, List.set_cons_succ]
        have hnek3 := hnek1
        refine wpAnyH_ready (rs := [20]) (by kernel_rfl) (by simp) ?_
        refine (AllReadyH.cons rfl (fun K hK => ?_) AllReadyH.nil)
        · obtain ⟨p0, p1, p2, p3, p4, p5⟩ := row3 A3.b1
          go_simp
          have A4 := A3.put1 (.int .i64 (1 + m.s % 5)) (.int .i64 (m.p % 8)) (.int .i64 (1 + m.p / 8 % 3))
          have k4 : (set3 V3 (w.heap.size + 1) (.int .i64 (1 + m.s % 5)) (.int .i64 (m.p % 8)) (.int .i64 (1 + m.p / 8 % 3))).cell? ⟨W0.heap.size, 0, none⟩ = some (.int .u8 (97 + m.k % 26)) := (World.cell?_of_block (set3_other _ _ _ (hnek3))).trans k3
          refine hK.out _ _ A4.s20 (fun hS => ?_)
          clear hK K
          try simp only [Act.put, List.setIfInBounds_toArray, List.set_cons_zero, List.set_cons_succ]
          clear p0 p1 p2 p3 p4 p5
          have hnek4 := hnek3
          refine wpAnyH_ready (rs := [21]) (by kernel_rfl) (by simp) ?_
          refine AllReadyH.cons rfl (fun K hK => ?_) AllReadyH.nil
          go_simp
          refine hK.out _ _ hS (fun hS => ?_)
          clear hK K
          try simp only [Act.put, List.setIfInBounds_toArray, List.set_cons_zero, List.set_cons_succ]
          obtain ⟨p0, p1, p2, p3, p4, p5⟩ := row3 A4.b2
          refine wpAnyH_ready (rs := [22]) (by kernel_rfl) (by simp) ?_
          refine AllReadyH.cons rfl (fun K hK => ?_) AllReadyH.nil
          go_simp
          have Z5 := A4.put2 (.int .i64 (m.e % 19)) (.int .i64 m.n) (.string (tx (List.replicate (m.e % 4).toNat 120)))
          refine hK.out _ _ Z5.s20 (fun hS => ?_)
          clear hK K
          try simp only [Act.put, List.setIfInBounds_toArray, List.set_cons_zero, List.set_cons_succ]
          clear p0 p1 p2 p3 p4 p5
          refine wpAnyH_done (by kernel_rfl) ?_ _
          clear hS
          obtain ⟨c0, c1, c2, _, _, _⟩ := row3 Z5.b1
          obtain ⟨d0, d1, d2, _, _, _⟩ := row3 Z5.b2
          have hB := Lib.hid Z5.bel
          clear Z5
          go_wp2
          exact bodyPost_ret (v := .tuple #[.agg #[.int .i64 (1 + m.s % 5), .int .i64 (m.p % 8), .int .i64 (1 + m.p / 8 % 3)], .string ⟨#[UInt8.ofNat (97 + m.k % 26).toNat]⟩, .agg #[.int .i64 (m.e % 19), .int .i64 m.n, .string (tx (List.replicate (m.e % 4).toNat 120))]]) (by simp [results, Try.results26, go_sem, c0, c1, c2, d0, d1, d2]) rfl ⟨rfl, hB.out⟩
    · go_simp
      go_at_call 35
      refine (HR.out _).mono ?_
      rintro r V6 ⟨rfl, hb⟩
      have A6 := A1.later hb
      have k6 := (hb.cell (p := ⟨W0.heap.size, 0, none⟩) (World.block_lt_of_cell? _ _ k1)).trans k1
      clear hb
      refine hK.out _ _ A6.s20 (fun hS => ?_)
      clear hK K
      try simp only [Act.put, List.setIfInBounds_toArray, List.set_cons_zero, List.set_cons_succ]
      refine wpAnyH_take (i := 19) (v := .agg #[.int .i64 (m.e % 19), .int .i64 m.n, .string (tx (List.replicate (m.e % 4).toNat 120))]) rfl (by kernel_rfl) (by kernel_rfl) (by kernel_rfl) (fun _ _ _ h => h) (Or.inl ⟨by kernel_rfl, by intro w' hSw; obtain ⟨s0, s1, s2, s3, s4, s5, s6⟩ := hSw; go_simp⟩) hS ?_
      try simp only [Act.put, List.setIfInBounds_toArray, List.set_cons_zero, List.set_cons_succ]
      have hnek6 := hnek1
      refine wpAnyH_ready (rs := [6, 20]) (by kernel_rfl) (by simp) ?_
      refine (AllReadyH.cons rfl (fun K hK => ?_) (AllReadyH.cons rfl (fun K hK => ?_) AllReadyH.nil))
      · have kc := fun c => conv_key _ W0.heap.size c _ _ hky.out k6
        go_simp
        clear kc
        refine hK.out _ _ hS (fun hS => ?_)
        clear hK K
        try simp only [Act.put, List.setIfInBounds_toArray, List.set_cons_zero, List.set_cons_succ]
        refine wpAnyH_ready (rs := [20]) (by kernel_rfl) (by simp) ?_
        refine (AllReadyH.cons rfl (fun K hK => ?_) AllReadyH.nil)
        · obtain ⟨p0, p1, p2, p3, p4, p5⟩ := row3 A6.b1
          go_simp
          have A8 := A6.put1 (.int .i64 (1 + m.s % 5)) (.int .i64 (m.p % 8)) (.int .i64 (1 + m.p / 8 % 3))
          have k8 : (set3 V6 (w.heap.size + 1) (.int .i64 (1 + m.s % 5)) (.int .i64 (m.p % 8)) (.int .i64 (1 + m.p / 8 % 3))).cell? ⟨W0.heap.size, 0, none⟩ = some (.int .u8 (97 + m.k % 26)) := (World.cell?_of_block (set3_other _ _ _ (hnek6))).trans k6
          refine hK.out _ _ A8.s20 (fun hS => ?_)
          clear hK K
          try simp only [Act.put, List.setIfInBounds_toArray, List.set_cons_zero, List.set_cons_succ]
          clear p0 p1 p2 p3 p4 p5
          have hnek8 := hnek6
          refine wpAnyH_ready (rs := [21]) (by kernel_rfl) (by simp) ?_
          refine AllReadyH.cons rfl (fun K hK => ?_) AllReadyH.nil
          go_simp
          refine hK.out _ _ hS (fun hS => ?_)
          clear hK K
          try simp only [Act.put, List.setIfInBounds_toArray, List.set_cons_zero, List.set_cons_succ]
          obtain ⟨p0, p1, p2, p3, p4, p5⟩ := row3 A8.b2
          refine wpAnyH_ready (rs := [22]) (by kernel_rfl) (by simp) ?_
          refine AllReadyH.cons rfl (fun K hK => ?_) AllReadyH.nil
          go_simp
          have Z9 := A8.put2 (.int .i64 (m.e % 19)) (.int .i64 m.n) (.string (tx (List.replicate (m.e % 4).toNat 120)))
          refine hK.out _ _ Z9.s20 (fun hS => ?_)
          clear hK K
          try simp only [Act.put, List.setIfInBounds_toArray, List.set_cons_zero, List.set_cons_succ]
          clear p0 p1 p2 p3 p4 p5
          refine wpAnyH_done (by kernel_rfl) ?_ _
          clear hS
          obtain ⟨c0, c1, c2, _, _, _⟩ := row3 Z9.b1
          obtain ⟨d0, d1, d2, _, _, _⟩ := row3 Z9.b2
          have hB := Lib.hid Z9.bel
          clear Z9
          go_wp2
          exact bodyPost_ret (v := .tuple #[.agg #[.int .i64 (1 + m.s % 5), .int .i64 (m.p % 8), .int .i64 (1 + m.p / 8 % 3)], .string ⟨#[UInt8.ofNat (97 + m.k % 26).toNat]⟩, .agg #[.int .i64 (m.e % 19), .int .i64 m.n, .string (tx (List.replicate (m.e % 4).toNat 120))]]) (by simp [results, Try.results26, go_sem, c0, c1, c2, d0, d1, d2]) rfl ⟨rfl, hB.out⟩
      · obtain ⟨p0, p1, p2, p3, p4, p5⟩ := row3 A6.b1
        go_simp
        have A10 := A6.put1 (.int .i64 (1 + m.s % 5)) (.int .i64 (m.p % 8)) (.int .i64 (1 + m.p / 8 % 3))
        have k10 : (set3 V6 (w.heap.size + 1) (.int .i64 (1 + m.s % 5)) (.int .i64 (m.p % 8)) (.int .i64 (1 + m.p / 8 % 3))).cell? ⟨W0.heap.size, 0, none⟩ = some (.int .u8 (97 + m.k % 26)) := (World.cell?_of_block (set3_other _ _ _ (hnek6))).trans k6
        refine hK.out _ _ A10.s20 (fun hS => ?_)
        clear hK K
        try simp only [Act.put, List.setIfInBounds_toArray, List.set_cons_zero, List.set_cons_succ]
        clear p0 p1 p2 p3 p4 p5
        have hnek10 := hnek6
        refine wpAnyH_ready (rs := [6]) (by kernel_rfl) (by simp) ?_
        refine (AllReadyH.cons rfl (fun K hK => ?_) AllReadyH.nil)
        · have kc := fun c => conv_key _ W0.heap.size c _ _ hky.out k10
          go_simp
          clear kc
          refine hK.out _ _ hS (fun hS => ?_)
          clear hK K
          try simp only [Act.put, List.setIfInBounds_toArray, List.set_cons_zero, List.set_cons_succ]
          refine wpAnyH_ready (rs := [21]) (by kernel_rfl) (by simp) ?_
          refine AllReadyH.cons rfl (fun K hK => ?_) AllReadyH.nil
          go_simp
          refine hK.out _ _ hS (fun hS => ?_)
          clear hK K
          try simp only [Act.put, List.setIfInBounds_toArray, List.set_cons_zero, List.set_cons_succ]
          obtain ⟨p0, p1, p2, p3, p4, p5⟩ := row3 A10.b2
          refine wpAnyH_ready (rs := [22]) (by kernel_rfl) (by simp) ?_
          refine AllReadyH.cons rfl (fun K hK => ?_) AllReadyH.nil
          go_simp
          have Z12 := A10.put2 (.int .i64 (m.e % 19)) (.int .i64 m.n) (.string (tx (List.replicate (m.e % 4).toNat 120)))
          refine hK.out _ _ Z12.s20 (fun hS => ?_)
          clear hK K
          try simp only [Act.put, List.setIfInBounds_toArray, List.set_cons_zero, List.set_cons_succ]
          clear p0 p1 p2 p3 p4 p5
          refine wpAnyH_done (by kernel_rfl) ?_ _
          clear hS
          obtain ⟨c0, c1, c2, _, _, _⟩ := row3 Z12.b1
          obtain ⟨d0, d1, d2, _, _, _⟩ := row3 Z12.b2
          have hB := Lib.hid Z12.bel
          clear Z12
          go_wp2
          exact bodyPost_ret (v := .tuple #[.agg #[.int .i64 (1 + m.s % 5), .int .i64 (m.p % 8), .int .i64 (1 + m.p / 8 % 3)], .string ⟨#[UInt8.ofNat (97 + m.k % 26).toNat]⟩, .agg #[.int .i64 (m.e % 19), .int .i64 m.n, .string (tx (List.replicate (m.e % 4).toNat 120))]]) (by simp [results, Try.results26, go_sem, c0, c1, c2, d0, d1, d2]) rfl ⟨rfl, hB.out⟩
  · go_simp
    go_at_call 35
    refine (HR.out _).mono ?_
    rintro r V13 ⟨rfl, hb⟩
    have A13 := hD.later hb
    clear hb
    refine hK.out _ _ A13.s20 (fun hS => ?_)
    clear hK K
    try simp only [Act.put, List.setIfInBounds_toArray, List.set_cons_zero, List.set_cons_succ]
    refine wpAnyH_take (i := 19) (v := .agg #[.int .i64 (m.e % 19), .int .i64 m.n, .string (tx (List.replicate (m.e % 4).toNat 120))]) rfl (by kernel_rfl) (by kernel_rfl) (by kernel_rfl) (fun _ _ _ h => h) (Or.inl ⟨by kernel_rfl, by intro w' hSw; obtain ⟨s0, s1, s2, s3, s4, s5, s6⟩ := hSw; go_simp⟩) hS ?_
    try simp only [Act.put, List.setIfInBounds_toArray, List.set_cons_zero, List.set_cons_succ]
    refine wpAnyH_ready (rs := [5, 20]) (by kernel_rfl) (by simp) ?_
    refine (AllReadyH.cons rfl (fun K hK => ?_) (AllReadyH.cons rfl (fun K hK => ?_) AllReadyH.nil))
    · go_simp
      have A14 : OA w m _ _ (V13.alloc (.cells #[.int .u8 (97 + m.k % 26)] 5)) := A13.later (alloc_b V13 (.cells #[.int .u8 (97 + m.k % 26)] 5))
      have k14 : (V13.alloc (.cells #[.int .u8 (97 + m.k % 26)] 5)).cell? ⟨V13.heap.size, 0, none⟩ = some (.int .u8 (97 + m.k % 26)) := cell_of_row _ _ 0 _ _ _ (heap_alloc_new V13 _)
      have hnek14 : V13.heap.size ≠ w.heap.size + 1 := by have := (Array.getElem?_eq_some_iff.1 (show V13.heap[w.heap.size + 1]? = _ from A13.b1)).1; omega
      refine hK.out _ _ A14.s20 (fun hS => ?_)
      clear hK K
      try simp only [Act.put, List.setIfInBounds_toArray, List.set_cons_zero, List.set_cons_succ]
      refine wpAnyH_ready (rs := [6, 20]) (by kernel_rfl) (by simp) ?_
      refine (AllReadyH.cons rfl (fun K hK => ?_) (AllReadyH.cons rfl (fun K hK => ?_) AllReadyH.nil))
      · have kc := fun c => conv_key _ V13.heap.size c _ _ hky.out k14
        go_simp
        clear kc
        refine hK.out _ _ hS (fun hS => ?_)
        clear hK K
        try simp only [Act.put, List.setIfInBounds_toArray, List.set_cons_zero, List.set_cons_succ]
        refine wpAnyH_ready (rs := [20]) (by kernel_rfl) (by simp) ?_
        refine (AllReadyH.cons rfl (fun K hK => ?_) AllReadyH.nil)
        · obtain ⟨p0, p1, p2, p3, p4, p5⟩ := row3 A14.b1
          go_simp
          have A16 := A14.put1 (.int .i64 (1 + m.s % 5)) (.int .i64 (m.p % 8)) (.int .i64 (1 + m.p / 8 % 3))
          have k16 : (set3 (V13.alloc (.cells #[.int .u8 (97 + m.k % 26)] 5)) (w.heap.size + 1) (.int .i64 (1 + m.s % 5)) (.int .i64 (m.p % 8)) (.int .i64 (1 + m.p / 8 % 3))).cell? ⟨V13.heap.size, 0, none⟩ = some (.int .u8 (97 + m.k % 26)) := (World.cell?_of_block (set3_other _ _ _ (hnek14))).trans k14
          refine hK.out _ _ A16.s20 (fun hS => ?_)
          clear hK K
          try simp only [Act.put, List.setIfInBounds_toArray, List.set_cons_zero, List.set_cons_succ]
          clear p0 p1 p2 p3 p4 p5
          have hnek16 := hnek14
          refine wpAnyH_ready (rs := [21]) (by kernel_rfl) (by simp) ?_
          refine AllReadyH.cons rfl (fun K hK => ?_) AllReadyH.nil
          go_simp
          refine hK.out _ _ hS (fun hS => ?_)
          clear hK K
          try simp only [Act.put, List.setIfInBounds_toArray, List.set_cons_zero, List.set_cons_succ]
          obtain ⟨p0, p1, p2, p3, p4, p5⟩ := row3 A16.b2
          refine wpAnyH_ready (rs := [22]) (by kernel_rfl) (by simp) ?_
          refine AllReadyH.cons rfl (fun K hK => ?_) AllReadyH.nil
          go_simp
          have Z17 := A16.put2 (.int .i64 (m.e % 19)) (.int .i64 m.n) (.string (tx (List.replicate (m.e % 4).toNat 120)))
          refine hK.out _ _ Z17.s20 (fun hS => ?_)
          clear hK K
          try simp only [Act.put, List.setIfInBounds_toArray, List.set_cons_zero, List.set_cons_succ]
          clear p0 p1 p2 p3 p4 p5
          refine wpAnyH_done (by kernel_rfl) ?_ _
          clear hS
          obtain ⟨c0, c1, c2, _, _, _⟩ := row3 Z17.b1
          obtain ⟨d0, d1, d2, _, _, _⟩ := row3 Z17.b2
          have hB := Lib.hid Z17.bel
          clear Z17
          go_wp2
          exact bodyPost_ret (v := .tuple #[.agg #[.int .i64 (1 + m.s % 5), .int .i64 (m.p % 8), .int .i64 (1 + m.p / 8 % 3)], .string ⟨#[UInt8.ofNat (97 + m.k % 26).toNat]⟩, .agg #[.int .i64 (m.e % 19), .int .i64 m.n, .string (tx (List.replicate (m.e % 4).toNat 120))]]) (by simp [results, Try.results26, go_sem, c0, c1, c2, d0, d1, d2]) rfl ⟨rfl, hB.out⟩
      · obtain ⟨p0, p1, p2, p3, p4, p5⟩ := row3 A14.b1
        go_simp
        have A18 := A14.put1 (.int .i64 (1 + m.s % 5)) (.int .i64 (m.p % 8)) (.int .i64 (1 + m.p / 8 % 3))
        have k18 : (set3 (V13.alloc (.cells #[.int .u8 (97 + m.k % 26)] 5)) (w.heap.size + 1) (.int .i64 (1 + m.s % 5)) (.int .i64 (m.p % 8)) (.int .i64 (1 + m.p / 8 % 3))).cell? ⟨V13.heap.size, 0, none⟩ = some (.int .u8 (97 + m.k % 26)) := (World.cell?_of_block (set3_other _ _ _ (hnek14))).trans k14
        refine hK.out _ _ A18.s20 (fun hS => ?_)
        clear hK K
        try simp only [Act.put, List.setIfInBounds_toArray, List.set_cons_zero, List.set_cons_succ]
        clear p0 p1 p2 p3 p4 p5
        have hnek18 := hnek14
        refine wpAnyH_ready (rs := [6]) (by kernel_rfl) (by simp) ?_
        refine (AllReadyH.cons rfl (fun K hK => ?_) AllReadyH.nil)
        · have kc := fun c => conv_key _ V13.heap.size c _ _ hky.out k18
          go_simp
          clear kc
          refine hK.out _ _ hS (fun hS => ?_)
          clear hK K
          try simp only [Act.put, List.setIfInBounds_toArray, List.set_cons_zero, List.set_cons_succ]
          refine wpAnyH_ready (rs := [21]) (by kernel_rfl) (by simp) ?_
          refine AllReadyH.cons rfl (fun K hK => ?_) AllReadyH.nil
          go_simp
          refine hK.out _ _ hS (fun hS => ?_)
          clear hK K
          try simp only [Act.put, List.setIfInBounds_toArray, List.set_cons_zero, List.set_cons_succ]
          obtain ⟨p0, p1, p2, p3, p4, p5⟩ := row3 A18.b2
          refine wpAnyH_ready (rs := [22]) (by kernel_rfl) (by simp) ?_
          refine AllReadyH.cons rfl (fun K hK => ?_) AllReadyH.nil
          go_simp
          have Z20 := A18.put2 (.int .i64 (m.e % 19)) (.int .i64 m.n) (.string (tx (List.replicate (m.e % 4).toNat 120)))
          refine hK.out _ _ Z20.s20 (fun hS => ?_)
          clear hK K
          try simp only [Act.put, List.setIfInBounds_toArray, List.set_cons_zero, List.set_cons_succ]
          clear p0 p1 p2 p3 p4 p5
          refine wpAnyH_done (by kernel_rfl) ?_ _
          clear hS
          obtain ⟨c0, c1, c2, _, _, _⟩ := row3 Z20.b1
          obtain ⟨d0, d1, d2, _, _, _⟩ := row3 Z20.b2
          have hB := Lib.hid Z20.bel
          clear Z20
          go_wp2
          exact bodyPost_ret (v := .tuple #[.agg #[.int .i64 (1 + m.s % 5), .int .i64 (m.p % 8), .int .i64 (1 + m.p / 8 % 3)], .string ⟨#[UInt8.ofNat (97 + m.k % 26).toNat]⟩, .agg #[.int .i64 (m.e % 19), .int .i64 m.n, .string (tx (List.replicate (m.e % 4).toNat 120))]]) (by simp [results, Try.results26, go_sem, c0, c1, c2, d0, d1, d2]) rfl ⟨rfl, hB.out⟩
    · obtain ⟨p0, p1, p2, p3, p4, p5⟩ := row3 A13.b1
      go_simp
      have A21 := A13.put1 (.int .i64 (1 + m.s % 5)) (.int .i64 (m.p % 8)) (.int .i64 (1 + m.p / 8 % 3))
      refine hK.out _ _ A21.s20 (fun hS => ?_)
      clear hK K
      try simp only [Act.put, List.setIfInBounds_toArray, List.set_cons_zero, List.set_cons_succ]
      clear p0 p1 p2 p3 p4 p5
      refine wpAnyH_ready (rs := [5]) (by kernel_rfl) (by simp) ?_
      refine (AllReadyH.cons rfl (fun K hK => ?_) AllReadyH.nil)
      · go_simp
        have A22 : OA w m _ _ ((set3 V13 (w.heap.size + 1) (.int .i64 (1 + m.s % 5)) (.int .i64 (m.p % 8)) (.int .i64 (1 + m.p / 8 % 3))).alloc (.cells #[.int .u8 (97 + m.k % 26)] 5)) := A21.later (alloc_b (set3 V13 (w.heap.size + 1) (.int .i64 (1 + m.s % 5)) (.int .i64 (m.p % 8)) (.int .i64 (1 + m.p / 8 % 3))) (.cells #[.int .u8 (97 + m.k % 26)] 5))
        have k22 : ((set3 V13 (w.heap.size + 1) (.int .i64 (1 + m.s % 5)) (.int .i64 (m.p % 8)) (.int .i64 (1 + m.p / 8 % 3))).alloc (.cells #[.int .u8 (97 + m.k % 26)] 5)).cell? ⟨V13.heap.size, 0, none⟩ = some (.int .u8 (97 + m.k % 26)) := by have h := heap_alloc_new (set3 V13 (w.heap.size + 1) (.int .i64 (1 + m.s % 5)) (.int .i64 (m.p % 8)) (.int .i64 (1 + m.p / 8 % 3))) (.cells #[.int .u8 (97 + m.k % 26)] 5); simp only [World.size_setCell] at h; exact cell_of_row _ _ 0 _ _ _ h
        refine hK.out _ _ A22.s20 (fun hS => ?_)
        clear hK K
        try simp only [Act.put, List.setIfInBounds_toArray, List.set_cons_zero, List.set_cons_succ]
        refine wpAnyH_ready (rs := [6]) (by kernel_rfl) (by simp) ?_
        refine (AllReadyH.cons rfl (fun K hK => ?_) AllReadyH.nil)
        · have kc := fun c => conv_key _ V13.heap.size c _ _ hky.out k22
          go_simp
          clear kc
          refine hK.out _ _ hS (fun hS => ?_)
          clear hK K
          try simp only [Act.put, List.setIfInBounds_toArray, List.set_cons_zero, List.set_cons_succ]
          refine wpAnyH_ready (rs := [21]) (by kernel_rfl) (by simp) ?_
          refine AllReadyH.cons rfl (fun K hK => ?_) AllReadyH.nil
          go_simp
          refine hK.out _ _ hS (fun hS => ?_)
          clear hK K
          try simp only [Act.put, List.setIfInBounds_toArray, List.set_cons_zero, List.set_cons_succ]
          obtain ⟨p0, p1, p2, p3, p4, p5⟩ := row3 A22.b2
          refine wpAnyH_ready (rs := [22]) (by kernel_rfl) (by simp) ?_
          refine AllReadyH.cons rfl (fun K hK => ?_) AllReadyH.nil
          go_simp
          have Z24 := A22.put2 (.int .i64 (m.e % 19)) (.int .i64 m.n) (.string (tx (List.replicate (m.e % 4).toNat 120)))
          refine hK.out _ _ Z24.s20 (fun hS => ?_)
          clear hK K
          try simp only [Act.put, List.setIfInBounds_toArray, List.set_cons_zero, List.set_cons_succ]
          clear p0 p1 p2 p3 p4 p5
          refine wpAnyH_done (by kernel_rfl) ?_ _
          clear hS
          obtain ⟨c0, c1, c2, _, _, _⟩ := row3 Z24.b1
          obtain ⟨d0, d1, d2, _, _, _⟩ := row3 Z24.b2
          have hB := Lib.hid Z24.bel
          clear Z24
          go_wp2
          exact bodyPost_ret (v := .tuple #[.agg #[.int .i64 (1 + m.s % 5), .int .i64 (m.p % 8), .int .i64 (1 + m.p / 8 % 3)], .string ⟨#[UInt8.ofNat (97 + m.k % 26).toNat]⟩, .agg #[.int .i64 (m.e % 19), .int .i64 m.n, .string (tx (List.replicate (m.e % 4).toNat 120))]]) (by simp [results, Try.results26, go_sem, c0, c1, c2, d0, d1, d2]) rfl ⟨rfl, hB.out⟩
end Go.Proofs.Ytbgjiokocjnjhaa.Ded
