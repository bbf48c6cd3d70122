/- Parts of slices; readers: what is known of them; the first value that bytes begin with, of each kind. -/
import Derived.Test.YtnkmiigcglddmaaW07
namespace Go.Proofs.Ytnkmiigcglddmaa.Wire
open Go.RowKit Go.ChangeShapes
set_option linter.unusedVariables false
set_option linter.unusedSimpArgs false

def cutA (a : Option Addr) (cap j : Nat) : Option Addr := if cap = j then a else a.map (·.add j)
theorem size_u8 (w : World) : (Go.sizeOf 5).run Try.prog w = .ok 1 w := by
  obtain ⟨i0, hi, hz0, hz1, hz2⟩ := info_parts info_u8
  simp [Go.sizeOf, typeInfo, hi, hz1]
theorem und_b : Try.prog.underlying 35 = some (.slice (Try.prog.elem 35)) := by simp [Program.elem, Try.underlying35]
theorem elem_b : Try.prog.elem 35 = 5 := by simp [Program.elem, Try.underlying35]
theorem tail_run (a : Option Addr) (len cap j : Nat) (hj : j ≤ len) (w : World) :
    (Instr.slice 35 (.slice a len cap) (some (.int .i64 (j : Int))) none none).run Try.prog w = .ok (.slice (cutA a cap j) (len - j) (cap - j)) w := by
  rw [run_slice_l w 35 _ _ _ und_b .i64 _ (by omega) (by omega), elem_b, size_u8]
  simp [Result.andThen, sliced, cutA]
theorem mid_run (a : Option Addr) (len cap lo hi : Nat) (h1 : lo ≤ hi) (h2 : hi ≤ cap) (w : World) :
    (Instr.slice 35 (.slice a len cap) (some (.int .i64 (lo : Int))) (some (.int .i64 (hi : Int))) none).run Try.prog w = .ok (.slice (cutA a cap lo) (hi - lo) (cap - lo)) w := by
  rw [run_slice_lh w 35 _ _ _ und_b .i64 .i64 _ _ (by omega) (by omega) (by omega), elem_b, size_u8]
  simp [Result.andThen, sliced, cutA]
theorem head_run (k : IntKind) (a : Option Addr) (len cap hi : Nat) (h2 : hi ≤ cap) (w : World) :
    (Instr.slice 35 (.slice a len cap) none (some (.int k (hi : Int))) none).run Try.prog w = .ok (.slice (cutA a cap 0) hi cap) w := by
  rw [run_slice_h w 35 _ _ _ und_b k _ (by omega) (by omega), elem_b, size_u8]
  simp [Result.andThen, sliced, cutA]
theorem tail_run_u (a : Option Addr) (len cap j : Nat) (hj : j ≤ len) (w : World) :
    (Instr.slice 35 (.slice a len cap) (some (.int .u64 (j : Int))) none none).run Try.prog w = .ok (.slice (cutA a cap j) (len - j) (cap - j)) w := by
  rw [run_slice_l w 35 _ _ _ und_b .u64 _ (by omega) (by omega), elem_b, size_u8]
  simp [Result.andThen, sliced, cutA]
theorem Bs.mid {w : World} {F : Nat → Prop} {a : Option Addr} {cap n : Nat} {l : List Nat} (h : Bs w F (.slice a n cap) l) (lo hi : Nat) (h1 : lo ≤ hi) (h2 : hi ≤ l.length) : Bs w F (.slice (cutA a cap lo) (hi - lo) (cap - lo)) ((l.take hi).drop lo) := by
  obtain ⟨h8, a', cap', hv, hcap, hc⟩ := h
  injection hv with e1 e2 e3
  subst e1 e2 e3
  have hl : ((l.take hi).drop lo).length = hi - lo := by rw [List.length_drop, List.length_take]; omega
  refine ⟨fun c hc => h8 c (List.mem_of_mem_take (List.mem_of_mem_drop hc)), _, _, by rw [hl], by rw [hl]; omega, fun hp => ?_⟩
  rw [hl] at hp
  obtain ⟨b, off, rfl, hF, hcell⟩ := hc (by omega)
  refine ⟨b, off + lo, ?_, hF, fun i hi' => ?_⟩
  · unfold cutA
    rw [if_neg (by omega)]
    simp [addr_add]
  · rw [hl] at hi'
    rw [Nat.add_assoc, hcell (lo + i) (by omega)]
    congr 2
    rw [List.getD_eq_getElem?_getD, List.getD_eq_getElem?_getD, List.getElem?_drop, List.getElem?_take_of_lt (by omega)]
theorem Bs.tail {w : World} {F : Nat → Prop} {a : Option Addr} {cap n : Nat} {l : List Nat} (h : Bs w F (.slice a n cap) l) (j : Nat) (hj : j ≤ l.length) : Bs w F (.slice (cutA a cap j) (n - j) (cap - j)) (l.drop j) := by
  have hn : n = l.length := by obtain ⟨_, _, _, hv, _⟩ := h; injection hv
  have := h.mid j l.length hj (Nat.le_refl _)
  rw [List.take_length] at this
  rw [hn]
  exact this
theorem Bs.head {w : World} {F : Nat → Prop} {a : Option Addr} {cap n : Nat} {l : List Nat} (h : Bs w F (.slice a n cap) l) (j : Nat) (hj : j ≤ l.length) : Bs w F (.slice (cutA a cap 0) j cap) (l.take j) := by
  have := h.mid 0 j (Nat.zero_le _) hj
  exact this

/-! The values that bytes begin with. -/
def rdI (l : List Nat) : Option (Int × List Nat) := (rdU l).map fun x => (zag x.1, x.2)
def rdB (l : List Nat) : Option (Bool × List Nat) := match rdU l with | some (n, r) => if n ≤ 1 then some (decide (n = 1), r) else none | none => none
def rdT (l : List Nat) : Option (List Nat × List Nat) := match rdU l with | some (n, r) => if n ≤ 65536 ∧ n ≤ r.length then some (r.take n, r.drop n) else none | none => none
def First {α : Type} (enc : α → Value) (rd : List Nat → Option (α × List Nat)) (l : List Nat) (w : World) (e : Ending) (w' : World) : Prop :=
  ∃ x j ok, e = .returned (.tuple #[enc x, .int .i64 (j : Nat), .bool ok]) ∧ j ≤ l.length ∧ rd l = (if ok = true then some (x, l.drop j) else none) ∧ w = w'
def encU (n : Nat) : Value := .int .u64 (n : Nat)
def encI (a : Int) : Value := .int .i64 a
def encB (b : Bool) : Value := .bool b
def encT (l : List Nat) : Value := .string (str l)
theorem FirstU.first {l : List Nat} {w : World} {e : Ending} {w' : World} (h : FirstU l w e w') : First encU rdU l w e w' := by
  obtain ⟨u, j, ok, h1, _, h3, h4, h5⟩ := h; exact ⟨u, j, ok, h1, h3, h4, h5⟩
theorem first_u (F : Nat → Prop) (v : Value) (l : List Nat) (w : World) (h : Bs w F v l) (hlen : l.length ≤ 1000000000) :
    Calls Try.prog 61 #[v] w (First encU rdU l w) := (first_any F v l w h hlen).mono fun _ _ h => h.first
theorem first_i (F : Nat → Prop) (v : Value) (l : List Nat) (w : World) (h : Bs w F v l) (hlen : l.length ≤ 1000000000) :
    Calls Try.prog 63 #[v] w (First encI rdI l w) := by
  have H := Lib.hid (first_any F v l w h hlen)
  obtain ⟨_, a, cap, rfl, _⟩ := h
  go_enter Try.func63, Try.ntmps63
  go_wp2_with (first
    | (go_at_call 61; refine H.out.mono ?_; rintro e w' ⟨u, j, ok, rfl, hu, hj, hr, rfl⟩; have HR := Lib.hid hr; have HU := Lib.hid hu; clear hr hu)
    | (go_at_call 81; refine (zag_any u _ HU.out).mono ?_; rintro e w' ⟨rfl, rfl⟩))
  refine bodyPost_ret (v := .tuple #[.int .i64 (zag u), .int .i64 (j : Nat), .bool ok]) (by simp [results, Try.results63, go_sem]) rfl ?_
  exact ⟨zag u, j, ok, rfl, hj, by unfold rdI; rw [HR.out]; cases ok <;> rfl, rfl⟩
theorem first_b (F : Nat → Prop) (v : Value) (l : List Nat) (w : World) (h : Bs w F v l) (hlen : l.length ≤ 1000000000) :
    Calls Try.prog 67 #[v] w (First encB rdB l w) := by
  have H := Lib.hid (first_any F v l w h hlen)
  obtain ⟨_, a, cap, rfl, _⟩ := h
  go_enter Try.func67, Try.ntmps67
  go_wp2_with fail
  refine H.out.mono ?_
  rintro e w' ⟨u, j, ok, rfl, hu, hj, hr, rfl⟩
  have HR := Lib.hid hr
  clear hr
  cases ok
  · go_wp2
    refine bodyPost_ret (v := .tuple #[.bool ((u : Int) == 1), .int .i64 (j : Nat), .bool false]) (by simp [results, Try.results67, go_sem]) rfl ?_
    exact ⟨_, j, false, rfl, hj, by unfold rdB; rw [HR.out]; rfl, rfl⟩
  · by_cases h1 : u ≤ 1
    · have d1 : decide ((u : Int) ≤ 1) = true := by simp; omega
      go_wp2
      refine bodyPost_ret (v := .tuple #[.bool ((u : Int) == 1), .int .i64 (j : Nat), .bool true]) (by simp [results, Try.results67, go_sem]) rfl ?_
      refine ⟨_, j, true, rfl, hj, ?_, rfl⟩
      unfold rdB
      rw [HR.out]
      have e : decide (u = 1) = ((u : Int) == 1) := by rw [Bool.eq_iff_iff, beq_iff_eq, decide_eq_true_iff]; omega
      simp [h1, e]
    · have d1 : decide ((u : Int) ≤ 1) = false := by simp; omega
      go_wp2
      refine bodyPost_ret (v := .tuple #[.bool ((u : Int) == 1), .int .i64 (j : Nat), .bool false]) (by simp [results, Try.results67, go_sem]) rfl ?_
      exact ⟨_, j, false, rfl, hj, by unfold rdB; rw [HR.out]; simp [h1], rfl⟩
set_option maxRecDepth 100000 in
theorem first_t (F : Nat → Prop) (v : Value) (l : List Nat) (w : World) (h : Bs w F v l) (hlen : l.length ≤ 1000000000) :
    Calls Try.prog 65 #[v] w (First encT rdT l w) := by
  have H := Lib.hid (first_any F v l w h hlen)
  have HB := Lib.hid h
  obtain ⟨_, a, cap, rfl, hcap, _⟩ := h
  have hlen2 : l.length ≤ 1000000000 := hlen
  go_enter Try.func65, Try.ntmps65
  go_wp2_with fail
  refine H.out.mono ?_
  rintro e w' ⟨u, j, ok, rfl, hu, hj, hr, rfl⟩
  have HR := Lib.hid hr
  clear hr
  have hs : str [] = ⟨#[]⟩ := rfl
  cases ok
  · go_wp2
    refine bodyPost_ret (v := .tuple #[.string ⟨#[]⟩, .int .i64 0, .bool false]) (by simp [results, Try.results65, go_sem]) rfl ?_
    exact ⟨[], 0, false, rfl, Nat.zero_le _, by unfold rdT; rw [HR.out]; rfl, rfl⟩
  · by_cases h1 : 65536 < u
    · have d1 : decide ((65536 : Int) < (u : Int)) = true := by simp; omega
      go_wp2
      refine bodyPost_ret (v := .tuple #[.string ⟨#[]⟩, .int .i64 0, .bool false]) (by simp [results, Try.results65, go_sem]) rfl ?_
      refine ⟨[], 0, false, rfl, Nat.zero_le _, ?_, rfl⟩
      unfold rdT
      rw [HR.out]
      simp; omega
    · have d1 : decide ((65536 : Int) < (u : Int)) = false := by simp; omega
      by_cases h2 : l.length - j < u
      · have d2 : decide ((l.length : Int) - (j : Int) < (u : Int)) = true := by simp; omega
        go_wp2
        refine bodyPost_ret (v := .tuple #[.string ⟨#[]⟩, .int .i64 0, .bool false]) (by simp [results, Try.results65, go_sem]) rfl ?_
        refine ⟨[], 0, false, rfl, Nat.zero_le _, ?_, rfl⟩
        unfold rdT
        rw [HR.out]
        simp; omega
      · have d2 : decide ((l.length : Int) - (j : Int) < (u : Int)) = false := by simp; omega
        have hm := fun w => mid_run a l.length cap j (j + u) (by omega) (by omega) w
        have e3 : ((j + u : Nat) : Int) = (j : Int) + (u : Int) := by omega
        rw [e3] at hm
        have hb := HB.out.mid j (j + u) (by omega) (by omega)
        have hcv := bs_str hb
        have e4 : j + u - j = u := by omega
        rw [e4] at hm hcv
        clear hb
        go_wp2
        refine bodyPost_ret (v := .tuple #[.string (str ((l.take (j + u)).drop j)), .int .i64 ((j + u : Nat) : Int), .bool true]) (by simp [results, Try.results65, go_sem]) rfl ?_
        refine ⟨_, j + u, true, rfl, by omega, ?_, rfl⟩
        unfold rdT
        rw [HR.out]
        have e5 : (l.take (j + u)).drop j = (l.drop j).take u := by rw [List.drop_take, show j + u - j = u by omega]
        have h3 : u ≤ 65536 := by omega
        have h4 : u ≤ l.length - j := by omega
        simp [e5, h3, h4, List.drop_drop]
end Go.Proofs.Ytnkmiigcglddmaa.Wire
