/- A writer's other methods: New, Int, Text, Bool, Bytes, Len; writers that are not valid; the document's zigzag. -/
import Derived.Test.YtnkmiigcglddmaaW05
import Derived.Laws.DeepNot64
namespace Go.Proofs.Ytnkmiigcglddmaa.Wire
open Go.RowKit Go.ChangeShapes
set_option linter.unusedVariables false
set_option linter.unusedSimpArgs false

theorem ret_int {k : IntKind} {a b : Int} (h : a = b) : Ending.returned (.int k a) = .returned (.int k b) := by rw [h]
def I64 (a : Int) : Prop := -9223372036854775808 ≤ a ∧ a ≤ 9223372036854775807
def zig (a : Int) : Nat := if a < 0 then (-2 * a - 1).toNat else (2 * a).toNat
def zag (n : Nat) : Int := if n % 2 = 1 then -((n : Int) / 2) - 1 else (n : Int) / 2
theorem zig_lt {a : Int} (h : I64 a) : zig a < 18446744073709551616 := by
  obtain ⟨h1, h2⟩ := h
  unfold zig; split <;> omega
theorem zag_in {n : Nat} (h : n < 18446744073709551616) : I64 (zag n) := by unfold zag I64; split <;> omega
theorem zag_zig (a : Int) : zag (zig a) = a := by unfold zag zig; split <;> split <;> omega
theorem zig_zag (n : Nat) : zig (zag n) = n := by unfold zag zig; split <;> split <;> omega
theorem not_u64 (x : Int) (h0 : 0 ≤ x) (h : x ≤ 18446744073709551615) : bits .xor .u64 IntKind.u64.max x = 18446744073709551615 - x := by
  obtain ⟨n, rfl⟩ := Int.eq_ofNat_of_zero_le h0
  have e : IntKind.u64.max = ((18446744073709551615 : Nat) : Int) := by decide
  rw [e, bits_xor_u64_nat _ _ (by omega) (by omega)]
  have h1 : (BitVec.allOnes 64 ^^^ BitVec.ofNat 64 n).toNat = (~~~ (BitVec.ofNat 64 n)).toNat := by rw [BitVec.allOnes_xor]
  rw [BitVec.toNat_xor, BitVec.toNat_not, BitVec.toNat_allOnes, BitVec.toNat_ofNat, Nat.mod_eq_of_lt (by omega)] at h1
  have h2 : (18446744073709551615 ^^^ n) = 18446744073709551615 - n := h1
  rw [h2]
  omega
theorem not_i64 (x : Int) (h0 : 0 ≤ x) (h : x ≤ 9223372036854775807) : bits .xor .i64 (-1) x = -1 - x := by
  obtain ⟨n, rfl⟩ := Int.eq_ofNat_of_zero_le h0
  exact i64_not n (by omega)
theorem and1_u64 (x : Int) (h0 : 0 ≤ x) (h : x ≤ 18446744073709551615) : bits .and .u64 x 1 = x % 2 := by
  obtain ⟨n, rfl⟩ := Int.eq_ofNat_of_zero_le h0
  have := bits_and_u64_nat n 1 (by omega) (by omega)
  rw [Nat.and_one_is_mod] at this
  exact this
theorem sg_u64 : IntKind.u64.signed = false := rfl
theorem sg_i64 : IntKind.i64.signed = true := rfl
theorem zig_any (a : Int) (w : World) (h : I64 a) :
    Calls Try.prog 59 #[.int .i64 a] w fun e w' => e = .returned (.int .u64 (zig a : Nat)) ∧ w = w' := by
  unfold I64 at h
  by_cases g : a < 0
  · have n1 := not_u64 (IntKind.u64.wrap (IntKind.u64.wrap a * 2)) (by rw [IntKind.wrap_u64]; omega) (by rw [IntKind.wrap_u64]; omega)
    have e1 : 18446744073709551615 - IntKind.u64.wrap (IntKind.u64.wrap a * 2) = (zig a : Nat) := by
      rw [IntKind.wrap_u64, IntKind.wrap_u64]; unfold zig; rw [if_pos g]; omega
    rw [e1] at n1
    clear e1
    have s1 := sg_u64
    go_enter Try.func59, Try.ntmps59
    go_wp2
    go_ret
    exact ⟨rfl, rfl⟩
  · have e1 : a * 2 = (zig a : Nat) := by unfold zig; rw [if_neg g]; omega
    go_enter Try.func59, Try.ntmps59
    go_wp2
    go_ret
    exact ⟨rfl, rfl⟩
theorem zag_any (u : Nat) (w : World) (h : u < 18446744073709551616) :
    Calls Try.prog 81 #[.int .u64 u] w fun e w' => e = .returned (.int .i64 (zag u)) ∧ w = w' := by
  have n2 := and1_u64 u (by omega) (by omega)
  by_cases g : u % 2 = 1
  · have n1 := not_i64 ((u : Int) / 2) (by omega) (by omega)
    have e1 : -1 - (u : Int) / 2 = zag u := by unfold zag; rw [if_pos g]; omega
    have g' : (u : Int) % 2 = 1 := by omega
    rw [e1] at n1
    clear e1
    have s1 := sg_i64
    go_enter Try.func81, Try.ntmps81
    go_wp2
    go_ret
    exact ⟨rfl, rfl⟩
  · have e1 : (u : Int) / 2 = zag u := by unfold zag; rw [if_neg g]
    have g' : (u : Int) % 2 = 0 := by omega
    go_enter Try.func81, Try.ntmps81
    go_wp2
    go_ret
    exact ⟨rfl, rfl⟩
theorem rzig_any (a : Int) (w : World) (h : I64 a) :
    Calls Try.prog 77 #[.int .i64 a] w fun e w' => e = .returned (.int .u64 (zig a : Nat)) ∧ w = w' := by
  unfold I64 at h
  by_cases g : a < 0
  · go_enter Try.func77, Try.ntmps77
    go_wp2
    go_ret
    exact ⟨ret_int (by unfold zig; rw [if_pos g]; omega), rfl⟩
  · go_enter Try.func77, Try.ntmps77
    go_wp2
    go_ret
    exact ⟨ret_int (by unfold zig; rw [if_neg (by omega)]; omega), rfl⟩
theorem rzag_any (u : Nat) (w : World) (h : u < 18446744073709551616) :
    Calls Try.prog 78 #[.int .u64 u] w fun e w' => e = .returned (.int .i64 (zag u)) ∧ w = w' := by
  by_cases g : u % 2 = 1
  · have g' : (u : Int) % 2 = 1 := by omega
    go_enter Try.func78, Try.ntmps78
    go_wp2
    go_ret
    exact ⟨ret_int (by unfold zag; rw [if_pos g]), rfl⟩
  · have g' : (u : Int) % 2 = 0 := by omega
    go_enter Try.func78, Try.ntmps78
    go_wp2
    go_ret
    exact ⟨ret_int (by unfold zag; rw [if_neg g]), rfl⟩

theorem Wrote.then {T : TypeId} {w w1 w2 : World} {p : Nat} {F : Nat → Prop} {l : List Nat} {e : Ending} (hF : ∀ k, F k → k < w.heap.size) (k1 : Keeps F w w1) (h2 : Wrote T w1 p (More F w w1) l e w2) : Wrote T w p F l e w2 := by
  obtain ⟨he, ⟨v, hv⟩, k2⟩ := h2
  have hk := k1.next k2
  refine ⟨he, ⟨v, hv.wide (fun k hk' => ?_) (More.lt hF hk.size)⟩, hk⟩
  rcases hk' with hk' | hk'
  · exact More.le k2.size k hk'
  · exact .inr ⟨by have := k1.size; omega, hk'.2⟩
/-- A new writer: all of it lies in what is new. -/
def Fresh (T : TypeId) (w : World) (e : Ending) (w' : World) : Prop :=
  e = .returned (.pointer (some ⟨w.heap.size, 0, none⟩)) ∧ WrAt T w' w.heap.size (fun k => w.heap.size ≤ k ∧ k < w'.heap.size) (.slice none 0 0) [] ∧ Below w.heap.size w w'
theorem fresh_wr (T : TypeId) (w : World) : WrAt T (w.alloc (.cells #[.bool true, .slice none 0 0] T)) w.heap.size (fun k => w.heap.size ≤ k ∧ k < (w.alloc (.cells #[.bool true, .slice none 0 0] T)).heap.size) (.slice none 0 0) [] :=
  ⟨World.alloc_heap_new w _, World.ownsRow_nil _ _ _ _, fun c hc => absurd hc List.not_mem_nil, ⟨Nat.le_refl _, by simp⟩, fun g hg => (by cases hg), fun k hk => hk.2⟩
theorem new_any (w : World) : Calls Try.prog 14 #[] w (Fresh TW w) := by
  go_enter Try.func14, Try.ntmps14
  go_wp2
  go_ret
  exact ⟨rfl, fresh_wr TW w, (Below.refl _ _).alloc (Nat.le_refl _) _⟩

theorem int_any (p : Nat) (F : Nat → Prop) (v : Value) (l : List Nat) (a : Int) (w : World) (h : WrAt TW w p F v l) (ha : I64 a) (hl : l.length ≤ 100000000) :
    Calls Try.prog 31 #[.pointer (some ⟨p, 0, none⟩), .int .i64 a] w (Wrote TW w p F (l ++ digs (zig a))) := by
  have H := Lib.hid (uint_any p F v l (zig a) w h (zig_lt ha) hl)
  have HA := Lib.hid ha
  clear h ha
  go_enter Try.func31, Try.ntmps31
  go_wp2_with (first
    | (go_at_call 59; refine (zig_any a _ HA.out).mono ?_; rintro e w' ⟨rfl, rfl⟩)
    | (go_at_call 30; refine H.out.mono ?_; rintro e w1 ⟨rfl, hw1, hk1⟩))
  go_end0
  exact ⟨rfl, hw1, hk1⟩
theorem bool_any (p : Nat) (F : Nat → Prop) (v : Value) (l : List Nat) (b : Bool) (w : World) (h : WrAt TW w p F v l) (hl : l.length ≤ 100000000) :
    Calls Try.prog 33 #[.pointer (some ⟨p, 0, none⟩), .bool b] w (Wrote TW w p F (l ++ digs (if b then 1 else 0))) := by
  cases b
  · have H := Lib.hid (uint_any p F v l 0 w h (by omega) hl)
    clear h
    go_enter Try.func33, Try.ntmps33
    go_wp2_with (go_at_call 30; refine H.out.mono ?_; rintro e w1 ⟨rfl, hw1, hk1⟩)
    go_end0
    exact ⟨rfl, hw1, hk1⟩
  · have H := Lib.hid (uint_any p F v l 1 w h (by omega) hl)
    clear h
    go_enter Try.func33, Try.ntmps33
    go_wp2_with (go_at_call 30; refine H.out.mono ?_; rintro e w1 ⟨rfl, hw1, hk1⟩)
    go_end0
    exact ⟨rfl, hw1, hk1⟩
set_option maxRecDepth 100000 in
theorem text_any (p : Nat) (F : Nat → Prop) (v : Value) (l : List Nat) (s : ByteArray) (w : World) (h : WrAt TW w p F v l) (hl : l.length ≤ 100000000) (hs : s.size ≤ 140737488355328) (hs2 : s.size ≤ 100000000) :
    Calls Try.prog 32 #[.pointer (some ⟨p, 0, none⟩), .string s] w (Wrote TW w p F (l ++ (digs s.size ++ sb s))) := by
  have H := Lib.hid (uint_any p F v l s.size w h (by omega) hl)
  have hc := h.made
  have HW := Lib.hid h
  have e1 : IntKind.u64.wrap (s.size : Int) = (s.size : Int) := by rw [IntKind.wrap_u64]; omega
  have hdl : (digs s.size).length ≤ 10 := digs_ten _ (by omega)
  obtain ⟨k, hk⟩ : ∃ k, (l ++ digs s.size).length = k := ⟨_, rfl⟩
  have hkl : k ≤ 100000010 := by rw [← hk]; simp; omega
  have HK := Lib.hid hk
  clear h hdl hk
  go_enter Try.func32, Try.ntmps32
  go_wp2_with (first
    | (go_at_call 49; refine (valid_any p true _ hc).mono ?_; rintro e w' ⟨rfl, rfl⟩)
    | (go_at_call 30; refine H.out.mono ?_; rintro e w1 ⟨rfl, ⟨v1, hw1⟩, hk1⟩; have c1 := hw1.all; have HW1 := Lib.hid hw1; clear hw1)
    | (at_builtin; refine wpList_append_s rfl _ _ rfl 0 v1 k _ rfl (by have := HW1.out.own; rw [HK.out] at this; exact this) s rfl (by omega) (by simp) ?_; intro v2 w2 ho hg hl'; have HO := Lib.hid ho; have HG := Lib.hid hg; have HL := Lib.hid hl'; have hb1 := HG.out.block p (blk_lt HW1.out.blk) (fun e => HW1.out.ne tw_ne e.symm); rw [HW1.out.blk] at hb1; have c3 := blk_cell hb1 1 _ rfl; have f3 := blk_frozen hb1 1; obtain ⟨a', cap', hv2⟩ := (own_form ho); subst hv2; clear ho hg hl' hb1))
  go_end0
  have hz := HW1.out.stored tw_ne (Keeps.refl _ _) (fun _ _ => rfl) HG.out (l' := l ++ (digs s.size ++ sb s)) (by
    have := HO.out
    rw [bv_app, List.append_assoc] at this
    exact this) (fun c hc => by
      rw [← List.append_assoc] at hc
      rcases List.mem_append.1 hc with hc | hc
      · exact HW1.out.h8 c hc
      · exact sb_lt s c hc) HL.out (by rw [← HK.out]; simp [sb_len]; omega)
  exact Wrote.then HW.out.lt hk1 ⟨rfl, ⟨_, hz.1⟩, hz.2⟩
theorem bytes_any (p : Nat) (F : Nat → Prop) (v : Value) (l : List Nat) (w : World) (h : WrAt TW w p F v l) (hl : l.length ≤ 100000000) :
    Calls Try.prog 20 #[.pointer (some ⟨p, 0, none⟩)] w (Owned w l) := by
  have H := Lib.hid (clone_any F v l w h.bs h.lt hl)
  have hc := h.made
  have c1 := h.all
  obtain ⟨a, cap, hv⟩ := h.form
  subst hv
  clear h
  go_enter Try.func20, Try.ntmps20
  go_wp2_with (first
    | (go_at_call 49; refine (valid_any p true _ hc).mono ?_; rintro e w' ⟨rfl, rfl⟩)
    | (go_at_call 22; refine H.out.mono ?_; rintro e w1 ⟨v1, rfl, ho, hb⟩))
  go_ret
  exact ⟨v1, rfl, ho, hb⟩
theorem len_any (p : Nat) (F : Nat → Prop) (v : Value) (l : List Nat) (w : World) (h : WrAt TW w p F v l) :
    Calls Try.prog 17 #[.pointer (some ⟨p, 0, none⟩)] w fun e w' => e = .returned (.int .i64 (l.length : Nat)) ∧ w = w' := by
  have hc := h.made
  have c1 := h.all
  obtain ⟨a, cap, hv⟩ := h.form
  subst hv
  clear h
  go_enter Try.func17, Try.ntmps17
  go_wp2_with (go_at_call 49; refine (valid_any p true _ hc).mono ?_; rintro e w' ⟨rfl, rfl⟩)
  go_ret
  exact ⟨rfl, rfl⟩

/-! Writers that are not valid: nil, or not made by New. -/
def Bad (w : World) (x : Option Addr) : Prop := x = none ∨ ∃ p, x = some ⟨p, 0, none⟩ ∧ w.cell? ⟨p, 0, none⟩ = some (.bool false)
theorem Bad.later {w w' : World} {x : Option Addr} (h : Bad w x) (hb : Below w.heap.size w w') : Bad w' x := by
  rcases h with h | ⟨p, h, hc⟩
  · exact .inl h
  · exact .inr ⟨p, h, (hb.cell (p := ⟨p, 0, none⟩) (World.block_lt_of_cell? w _ hc)).trans hc⟩
theorem valid_bad (x : Option Addr) (w : World) (h : Bad w x) : Calls Try.prog 49 #[.pointer x] w fun e w' => e = .returned (.bool false) ∧ w = w' := by
  rcases h with rfl | ⟨p, rfl, hc⟩
  · exact valid_nil w
  · exact valid_any p false w hc
def Quiet (w : World) (v : Value) (e : Ending) (w' : World) : Prop := e = .returned v ∧ Below w.heap.size w w'
theorem uint_bad (x : Option Addr) (n : Nat) (w : World) (h : Bad w x) : Calls Try.prog 30 #[.pointer x, .int .u64 n] w (Quiet w (.tuple #[])) := by
  have hb : Below w.heap.size w (w.alloc (.cells #[.pointer x] 25)) := (Below.refl _ _).alloc (Nat.le_refl _) _
  have H := Lib.hid (h.later hb)
  clear h
  go_enter Try.func30, Try.ntmps30
  go_wp2_with (go_at_call 49; refine (valid_bad x _ H.out).mono ?_; rintro e w' ⟨rfl, rfl⟩)
  go_end0
  exact ⟨rfl, hb⟩
theorem int_bad (x : Option Addr) (a : Int) (ha : I64 a) (w : World) (h : Bad w x) : Calls Try.prog 31 #[.pointer x, .int .i64 a] w (Quiet w (.tuple #[])) := by
  have H := Lib.hid h
  have HA := Lib.hid ha
  clear h ha
  go_enter Try.func31, Try.ntmps31
  go_wp2_with (first
    | (go_at_call 59; refine (zig_any a _ HA.out).mono ?_; rintro e w' ⟨rfl, rfl⟩)
    | (go_at_call 30; refine (uint_bad x (zig a) _ H.out).mono ?_; rintro e w1 ⟨rfl, hb⟩))
  go_end0
  exact ⟨rfl, hb⟩
theorem text_bad (x : Option Addr) (s : ByteArray) (w : World) (h : Bad w x) : Calls Try.prog 32 #[.pointer x, .string s] w (Quiet w (.tuple #[])) := by
  have H := Lib.hid h
  clear h
  go_enter Try.func32, Try.ntmps32
  go_wp2_with (go_at_call 49; refine (valid_bad x _ H.out).mono ?_; rintro e w' ⟨rfl, rfl⟩)
  go_end0
  exact ⟨rfl, Below.refl _ _⟩
theorem bool_bad (x : Option Addr) (w : World) (h : Bad w x) : Calls Try.prog 33 #[.pointer x, .bool true] w (Quiet w (.tuple #[])) := by
  have H := Lib.hid (uint_bad x 1 w h)
  clear h
  go_enter Try.func33, Try.ntmps33
  go_wp2_with (go_at_call 30; refine H.out.mono ?_; rintro e w1 ⟨rfl, hb⟩)
  go_end0
  exact ⟨rfl, hb⟩
theorem bytes_bad (x : Option Addr) (w : World) (h : Bad w x) : Calls Try.prog 20 #[.pointer x] w (Quiet w (.slice none 0 0)) := by
  have H := Lib.hid h
  clear h
  go_enter Try.func20, Try.ntmps20
  go_wp2_with (go_at_call 49; refine (valid_bad x _ H.out).mono ?_; rintro e w' ⟨rfl, rfl⟩)
  go_ret
  exact ⟨rfl, Below.refl _ _⟩
theorem len_bad (x : Option Addr) (w : World) (h : Bad w x) : Calls Try.prog 17 #[.pointer x] w (Quiet w (.int .i64 0)) := by
  have H := Lib.hid h
  clear h
  go_enter Try.func17, Try.ntmps17
  go_wp2_with (go_at_call 49; refine (valid_bad x _ H.out).mono ?_; rintro e w' ⟨rfl, rfl⟩)
  go_ret
  exact ⟨rfl, Below.refl _ _⟩
end Go.Proofs.Ytnkmiigcglddmaa.Wire
