/- The reader: skip, need, number, phase, atEnd. -/
import Derived.Test.YtllhgjenkchniaaDoorI03
namespace Go.Proofs.YtllhgjenkchniaaDoor.Ident
open Go.RowKit Go.Lib
set_option linter.unusedVariables false
set_option linter.unusedSimpArgs false

/-- What was there is as it was, but for block b. -/
structure But (b : Nat) (w w' : World) : Prop where
  os : w'.os = w.os
  tape : w'.tape = w.tape
  output : w'.output = w.output
  size : w.heap.size ≤ w'.heap.size
  block : ∀ k, k < w.heap.size → k ≠ b → w'.heap[k]? = w.heap[k]?
theorem But.refl (b : Nat) (w : World) : But b w w := ⟨rfl, rfl, rfl, Nat.le_refl _, fun _ _ _ => rfl⟩
theorem But.trans {b : Nat} {w w1 w2 : World} (h : But b w w1) (k : But b w1 w2) : But b w w2 :=
  ⟨k.os.trans h.os, k.tape.trans h.tape, k.output.trans h.output, Nat.le_trans h.size k.size, fun i hi hn => (k.block i (Nat.lt_of_lt_of_le hi h.size) hn).trans (h.block i hi hn)⟩
theorem But.of_below {b : Nat} {w w' : World} (h : Below w.heap.size w w') : But b w w' := ⟨h.os, h.tape, h.output, h.size, fun i hi _ => h.block i hi⟩
theorem But.below {b B : Nat} {w w' : World} (h : But b w w') (h1 : B ≤ b) (h2 : B ≤ w.heap.size) : Below B w w' := ⟨h.os, h.tape, h.output, h.size, fun i hi => h.block i (by omega) (by omega)⟩
theorem But.setCell {b : Nat} {w w' : World} (h : But b w w') (i : Nat) (v : Value) : But b w (w'.setCell ⟨b, i, none⟩ v) :=
  h.trans ⟨rfl, rfl, rfl, by simp [World.setCell], fun k hk hn => Below.heap_setCell _ _ _ _ hn⟩
/-- A block that is none of the library's variables. -/
def Far (b : Nat) : Prop := b ≠ 1 ∧ b ≠ 2 ∧ b ≠ 3
theorem gn1 : Tryd.prog.globalNamed "internal/strconv.uint64pow10" = some 1 := by kernel_rfl
theorem gn2 : Tryd.prog.globalNamed "strconv.ErrSyntax" = some 2 := by kernel_rfl
theorem gn3 : Tryd.prog.globalNamed "strconv.ErrRange" = some 3 := by kernel_rfl
theorem var_lt {w : World} {n : String} {g : Nat} {cs : Array Value} (hg : Tryd.prog.globalNamed n = some g) (h : w.var? Tryd.prog n = some cs) : g < w.heap.size := by
  unfold World.var? at h
  simp only [hg, Option.bind_some] at h
  rcases Nat.lt_or_ge g w.heap.size with h' | h'
  · exact h'
  · simp [Array.getElem?_eq_none h'] at h
theorem var_but {b : Nat} {w w' : World} {n : String} {g : Nat} {cs : Array Value} (hg : Tryd.prog.globalNamed n = some g) (h : w.var? Tryd.prog n = some cs) (hb : But b w w') (hn : b ≠ g) : w'.var? Tryd.prog n = some cs := by
  have hlt := var_lt hg h
  unfold World.var? at h ⊢
  simp only [hg, Option.bind_some] at h ⊢
  rw [hb.block g hlt (Ne.symm hn)]
  exact h
theorem Hv.but {b : Nat} {w w' : World} (hH : Hv w) (h : But b w w') (hf : Far b) : Hv w' := by
  obtain ⟨h1, ⟨t2, p2, h2⟩, ⟨t3, p3, h3⟩⟩ := hH
  exact ⟨var_but gn1 h1 h hf.1, ⟨t2, p2, var_but gn2 h2 h hf.2.1⟩, ⟨t3, p3, var_but gn3 h3 h hf.2.2⟩⟩
theorem Hv.far {w : World} (hH : Hv w) {b : Nat} (hb : w.heap.size ≤ b) : Far b := by
  obtain ⟨h1, ⟨t2, p2, h2⟩, ⟨t3, p3, h3⟩⟩ := hH
  have l1 := var_lt gn1 h1
  have l2 := var_lt gn2 h2
  have l3 := var_lt gn3 h3
  exact ⟨by omega, by omega, by omega⟩

/-- Where a reader is. -/
def RdAt (w : World) (b : Nat) (r : Rd) : Prop := w.heap[b]? = some (.cells #[.string (tx r.rest), .bool r.wrong] 67 (0, 0))
theorem RdAt.lt {w : World} {b : Nat} {r : Rd} (h : RdAt w b r) : b < w.heap.size := (Array.getElem?_eq_some_iff.1 h).1
theorem RdAt.c0 {w : World} {b : Nat} {r : Rd} (h : RdAt w b r) : w.cell? ⟨b, 0, none⟩ = some (.string (tx r.rest)) := cell_of_row w b 0 _ _ _ h
theorem RdAt.c1 {w : World} {b : Nat} {r : Rd} (h : RdAt w b r) : w.cell? ⟨b, 1, none⟩ = some (.bool r.wrong) := cell_of_row w b 1 _ _ _ h
theorem RdAt.fr {w : World} {b : Nat} {r : Rd} (h : RdAt w b r) (i : Nat) : w.frozen? ⟨b, i, none⟩ = false := frozen_of_row w b i _ _ h
theorem RdAt.later {w w' : World} {b : Nat} {r : Rd} (h : RdAt w b r) (hb : Below w.heap.size w w') : RdAt w' b r := (hb.block b h.lt).trans h
theorem RdAt.set0 {w : World} {b : Nat} {r : Rd} (h : RdAt w b r) (l : List UInt8) : RdAt (w.setCell ⟨b, 0, none⟩ (.string (tx l))) b ⟨l, r.wrong⟩ := heap_setCell_same w b 0 _ _ _ h
theorem RdAt.set1 {w : World} {b : Nat} {r : Rd} (h : RdAt w b r) (x : Bool) : RdAt (w.setCell ⟨b, 1, none⟩ (.bool x)) b ⟨r.rest, x⟩ := heap_setCell_same w b 1 _ _ _ h

theorem skip_any (b : Nat) (r : Rd) (p : List UInt8) (w : World) (hr : RdAt w b r) :
    Calls Tryd.prog 65 #[.pointer (some ⟨b, 0, none⟩), .string (tx p)] w fun e w' => e = .returned (.bool (hasPrefix r.rest p)) ∧ RdAt w' b ⟨trimPrefix r.rest p, r.wrong⟩ ∧ But b w w' := by
  have c0 := hr.c0
  have f0 := hr.fr 0
  have hs := hr.set0 (trimPrefix r.rest p)
  go_enter Tryd.func65, Tryd.ntmps65
  go_wp2_with (go_at_call 75; refine (cut_any _ _ _).mono ?_; rintro e w' ⟨rfl, rfl⟩)
  go_ret
  exact ⟨rfl, hs, (But.refl _ _).setCell _ _⟩
theorem need_any (b : Nat) (r : Rd) (p : List UInt8) (w : World) (hr : RdAt w b r) :
    Calls Tryd.prog 63 #[.pointer (some ⟨b, 0, none⟩), .string (tx p)] w fun e w' => e = .returned (.tuple #[]) ∧ RdAt w' b (need p r) ∧ But b w w' := by
  have hk := fun w hr => skip_any b r p w hr
  cases hp : hasPrefix r.rest p with
  | true =>
    rw [hp] at hk
    have hn : need p r = ⟨trimPrefix r.rest p, r.wrong⟩ := by unfold need; rw [hp]; simp
    rw [hn]
    clear hn
    go_enter Tryd.func63, Tryd.ntmps63
    go_wp2_with (go_at_call 65; refine (hk _ hr).mono ?_; rintro e w1 ⟨rfl, hr1, hb1⟩)
    go_end0
    exact ⟨rfl, hr1, hb1⟩
  | false =>
    rw [hp] at hk
    have hn : need p r = ⟨trimPrefix r.rest p, true⟩ := by unfold need; rw [hp]; simp
    rw [hn]
    clear hn
    go_enter Tryd.func63, Tryd.ntmps63
    go_wp2_with (go_at_call 65; refine (hk _ hr).mono ?_; rintro e w1 ⟨rfl, hr1, hb1⟩; have c1 := hr1.c1; have f1 := hr1.fr 1; have hs := hr1.set1 true)
    go_end0
    exact ⟨rfl, hs, hb1.setCell _ _⟩
theorem tx_bytes (l : List UInt8) : (tx l).toList = l := by rw [ByteArray.toList_eq]; exact tx_list l
theorem tx_beq (l m : List UInt8) : ((tx l).toList == (tx m).toList) = decide (l = m) := by rw [tx_bytes, tx_bytes]; by_cases h : l = m <;> simp [h]
theorem end_any (b : Nat) (r : Rd) (w : World) (hr : RdAt w b r) :
    Calls Tryd.prog 42 #[.pointer (some ⟨b, 0, none⟩)] w fun e w' => e = .returned (.bool (!r.wrong && decide (r.rest = []))) ∧ w = w' := by
  have c0 := hr.c0
  have c1 := hr.c1
  have he : (tx r.rest).toList.isEmpty = decide (r.rest = []) := by
    rw [tx_bytes]
    cases r.rest <;> rfl
  cases hw : r.wrong with
  | true =>
    rw [hw] at c1
    go_enter Tryd.func42, Tryd.ntmps42
    go_wp2
    go_ret
    exact ⟨rfl, rfl⟩
  | false =>
    rw [hw] at c1
    generalize tx r.rest = s at *
    go_enter Tryd.func42, Tryd.ntmps42
    go_wp2
    go_ret
    exact ⟨by simp [he], rfl⟩

/-! A number. -/
theorem take_dig (l : List UInt8) (k : Nat) (h : k < (numD l).length) : ∃ hk : k < l.length, isDig l[k] = true := by
  have hs : numD l ++ numE l = l := List.takeWhile_append_dropWhile
  have hl : (numD l).length ≤ l.length := by rw [← congrArg List.length hs, List.length_append]; omega
  refine ⟨by omega, ?_⟩
  have hall := List.all_eq_true.1 (List.all_takeWhile (l := l) (p := isDig)) ((numD l)[k]'h) (List.getElem_mem h)
  have e : l[k]'(by omega) = (numD l)[k]'h := by
    have : (numD l ++ numE l)[k]? = some ((numD l)[k]'h) := by rw [List.getElem?_append_left h, List.getElem?_eq_getElem h]
    rw [hs, List.getElem?_eq_getElem (by omega)] at this
    exact Option.some.inj this
  rw [e]; exact hall
theorem stop_dig (l : List UInt8) (h : (numD l).length < l.length) : isDig (l[(numD l).length]'h) = false := by
  have hs : numD l ++ numE l = l := List.takeWhile_append_dropWhile
  have : (numD l ++ numE l)[(numD l).length]? = (numE l).head? := by rw [List.getElem?_append_right (Nat.le_refl _), Nat.sub_self, List.head?_eq_getElem?]
  rw [hs, List.getElem?_eq_getElem h] at this
  have h2 := List.head?_dropWhile_not isDig l
  rw [show l.dropWhile isDig = numE l from rfl, ← this] at h2
  simpa using h2
theorem num_len (l : List UInt8) : (numD l).length ≤ l.length ∧ (numE l).length ≤ l.length := by
  have hs : numD l ++ numE l = l := List.takeWhile_append_dropWhile
  have := congrArg List.length hs
  rw [List.length_append] at this
  omega
theorem cut_d (l : List UInt8) : (tx l).extract 0 (numD l).length = tx (numD l) := by
  have hs : numD l ++ numE l = l := List.takeWhile_append_dropWhile
  apply ByteArray.ext
  rw [ByteArray.data_extract]
  simp only [tx]
  apply Array.ext'
  rw [Array.toList_extract]
  simp only [List.extract_eq_take_drop]
  conv => lhs; arg 2; arg 2; rw [← hs]
  simp
theorem cut_e (l : List UInt8) : (tx l).extract (numD l).length (tx l).size = tx (numE l) := by
  have hs : numD l ++ numE l = l := List.takeWhile_append_dropWhile
  apply ByteArray.ext
  rw [ByteArray.data_extract, tx_size]
  simp only [tx]
  apply Array.ext'
  rw [Array.toList_extract]
  simp only [List.extract_eq_take_drop]
  conv => lhs; arg 2; arg 2; rw [← hs]
  rw [List.drop_left' rfl, List.take_of_length_le (by have := congrArg List.length hs; rw [List.length_append] at this; omega)]
theorem tx_get (l : List UInt8) (k : Nat) (h : k < (tx l).size) : (tx l)[k] = l[k]'(by rw [tx_size] at h; exact h) := by
  show (tx l).data[k] = _
  simp [tx]
end Go.Proofs.YtllhgjenkchniaaDoor.Ident
