/- Read; readers that are not valid; the examples of the chapter. -/
import Derived.Test.YtnkmiigcglddmaaW09
namespace Go.Proofs.Ytnkmiigcglddmaa.Wire
open Go.RowKit Go.ChangeShapes
set_option linter.unusedVariables false
set_option linter.unusedSimpArgs false

/-- What is new between two worlds. -/
def New (w w' : World) (k : Nat) : Prop := w.heap.size ≤ k ∧ k < w'.heap.size
def FreshRd (T : TypeId) (mk : Bool → Value → Array Value) (w : World) (l : List Nat) (e : Ending) (w' : World) : Prop :=
  ∃ p v, e = .returned (.pointer (some ⟨p, 0, none⟩)) ∧ RdAt T mk w' p (New w w') v (some l) ∧ Below w.heap.size w w'
theorem fresh_rd (T : TypeId) (mk : Bool → Value → Array Value) (w w1 : World) (v : Value) (l : List Nat) (ho : w1.ownsRow w.heap.size 5 1 v l.length (bv l)) (h8 : ∀ c ∈ l, c < 256) (hb : Below w.heap.size w w1) :
    RdAt T mk (w1.alloc (.cells (mk false v) T)) w1.heap.size (New w (w1.alloc (.cells (mk false v) T))) v (some l) := by
  have hbs := own_bs ho h8
  have ha : Below w1.heap.size w1 (w1.alloc (.cells (mk false v) T)) := (Below.refl _ _).alloc (Nat.le_refl _) _
  refine ⟨World.alloc_heap_new w1 _, ((hbs.kept (Same.of_below ha fun k hk => (own_lt ho k hk).2)).wide fun k hk => ?_), ⟨hb.size, by simp⟩, fun k hk => hk.2⟩
  have h1 := own_lt ho k hk
  exact ⟨⟨h1.1, by simp; omega⟩, by omega⟩
theorem read_any (F : Nat → Prop) (v : Value) (l : List Nat) (w : World) (hv : Bs w F v l) (hF : ∀ k, F k → k < w.heap.size) (hl : l.length ≤ 100000000) :
    Calls Try.prog 23 #[v] w (FreshRd TR mkP w l) := by
  have H := Lib.hid (clone_any F v l w hv hF hl)
  have h8 := Lib.hid hv.1
  obtain ⟨_, a, cap, rfl, _⟩ := hv
  go_enter Try.func23, Try.ntmps23
  go_wp2_with (go_at_call 22; refine H.out.mono ?_; rintro e w1 ⟨v1, rfl, ho, hb⟩; obtain ⟨a1, c1, rfl⟩ := own_form ho)
  go_ret
  exact ⟨_, _, rfl, fresh_rd TR mkP w w1 _ l ho h8.out hb, hb.alloc hb.size _⟩
theorem rread_any (F : Nat → Prop) (v : Value) (l : List Nat) (w : World) (hv : Bs w F v l) (hF : ∀ k, F k → k < w.heap.size) (hl : l.length ≤ 100000000) :
    Calls Try.prog 24 #[v] w (FreshRd TR' mkR w l) := by
  have h8 := Lib.hid hv.1
  have hb0 := hv.kept (Same.of_below ((Below.refl w.heap.size w).alloc (Nat.le_refl _) (.cells #[] 5)) hF)
  have HO := Lib.hid (World.ownsRow_made (e := 5) (size := 1) w #[] 0 (Nat.le_refl _) (Nat.zero_le _) rfl)
  have HB := Lib.hid hb0
  obtain ⟨_, a, cap, rfl, _⟩ := hv
  clear hb0
  go_enter Try.func24, Try.ntmps24
  go_wp2_with (at_builtin; refine wpList_append_b rfl _ _ rfl w.heap.size _ 0 [] rfl HO.out F a l.length cap l rfl HB.out (by omega) (by simp) ?_; intro v' w1 ho hg _; have hb : Below w.heap.size w w1 := ((Below.refl w.heap.size w).alloc (Nat.le_refl _) _).grown hg (by simp) ge_size; obtain ⟨a1, c1, rfl⟩ := own_form ho)
  go_ret
  rw [Nat.zero_add] at ho
  exact ⟨_, _, rfl, fresh_rd TR' mkR w w1 _ l (by simpa using ho) h8.out hb, hb.alloc hb.size _⟩

/-! Readers that are not valid. -/
theorem rvalid_bad (x : Option Addr) (w : World) (h : Bad w x) : Calls Try.prog 51 #[.pointer x] w fun e w' => e = .returned (.bool false) ∧ w = w' := by
  rcases h with rfl | ⟨p, rfl, hc⟩
  · exact rvalid_nil w
  · exact rvalid_any p false w hc
theorem rfail_bad (x : Option Addr) (w : World) (h : Bad w x) : Calls Try.prog 34 #[.pointer x] w fun e w' => e = .returned (.tuple #[]) ∧ w = w' := by
  have H := Lib.hid h
  clear h
  go_enter Try.func34, Try.ntmps34
  go_wp2_with (go_at_call 51; refine (rvalid_bad x _ H.out).mono ?_; rintro e w' ⟨rfl, rfl⟩)
  go_end0
  exact ⟨rfl, rfl⟩
theorem rleft_bad (x : Option Addr) (w : World) (h : Bad w x) : Calls Try.prog 25 #[.pointer x] w fun e w' => e = .returned (.int .i64 0) ∧ w = w' := by
  have H := Lib.hid h
  clear h
  go_enter Try.func25, Try.ntmps25
  go_wp2_with (go_at_call 51; refine (rvalid_bad x _ H.out).mono ?_; rintro e w' ⟨rfl, rfl⟩)
  go_ret
  exact ⟨rfl, rfl⟩
theorem rend_bad (x : Option Addr) (w : World) (h : Bad w x) : Calls Try.prog 27 #[.pointer x] w fun e w' => e = .returned (.int .i64 1) ∧ w = w' := by
  have H := Lib.hid h
  clear h
  go_enter Try.func27, Try.ntmps27
  go_wp2_with (go_at_call 51; refine (rvalid_bad x _ H.out).mono ?_; rintro e w' ⟨rfl, rfl⟩)
  go_ret
  exact ⟨rfl, rfl⟩
theorem take_u_bad (x : Option Addr) (f : Value) (w : World) (h : Bad w x) : Calls Try.prog 60 #[.pointer x, f] w fun e w' => e = .returned (.int .u64 0) ∧ w = w' := by
  have H := Lib.hid h
  clear h
  go_enter Try.func60, Try.ntmps60
  go_wp2_with (go_at_call 51; refine (rvalid_bad x _ H.out).mono ?_; rintro e w' ⟨rfl, rfl⟩)
  go_ret
  exact ⟨rfl, rfl⟩
theorem take_i_bad (x : Option Addr) (f : Value) (w : World) (h : Bad w x) : Calls Try.prog 62 #[.pointer x, f] w fun e w' => e = .returned (.int .i64 0) ∧ w = w' := by
  have H := Lib.hid h
  clear h
  go_enter Try.func62, Try.ntmps62
  go_wp2_with (go_at_call 51; refine (rvalid_bad x _ H.out).mono ?_; rintro e w' ⟨rfl, rfl⟩)
  go_ret
  exact ⟨rfl, rfl⟩
theorem take_t_bad (x : Option Addr) (f : Value) (w : World) (h : Bad w x) : Calls Try.prog 64 #[.pointer x, f] w fun e w' => e = .returned (.string ⟨#[]⟩) ∧ w = w' := by
  have H := Lib.hid h
  clear h
  go_enter Try.func64, Try.ntmps64
  go_wp2_with (go_at_call 51; refine (rvalid_bad x _ H.out).mono ?_; rintro e w' ⟨rfl, rfl⟩)
  go_ret
  exact ⟨rfl, rfl⟩
theorem take_b_bad (x : Option Addr) (f : Value) (w : World) (h : Bad w x) : Calls Try.prog 66 #[.pointer x, f] w fun e w' => e = .returned (.bool false) ∧ w = w' := by
  have H := Lib.hid h
  clear h
  go_enter Try.func66, Try.ntmps66
  go_wp2_with (go_at_call 51; refine (rvalid_bad x _ H.out).mono ?_; rintro e w' ⟨rfl, rfl⟩)
  go_ret
  exact ⟨rfl, rfl⟩
theorem ruint_bad (x : Option Addr) (w : World) (h : Bad w x) : Calls Try.prog 35 #[.pointer x] w fun e w' => e = .returned (.int .u64 0) ∧ w = w' := by
  have H := Lib.hid h
  clear h
  go_enter Try.func35, Try.ntmps35
  go_wp2_with (go_at_call 60; refine (take_u_bad x _ _ H.out).mono ?_; rintro e w' ⟨rfl, rfl⟩)
  go_ret
  exact ⟨rfl, rfl⟩
theorem rint_bad (x : Option Addr) (w : World) (h : Bad w x) : Calls Try.prog 36 #[.pointer x] w fun e w' => e = .returned (.int .i64 0) ∧ w = w' := by
  have H := Lib.hid h
  clear h
  go_enter Try.func36, Try.ntmps36
  go_wp2_with (go_at_call 62; refine (take_i_bad x _ _ H.out).mono ?_; rintro e w' ⟨rfl, rfl⟩)
  go_ret
  exact ⟨rfl, rfl⟩
theorem rtext_bad (x : Option Addr) (w : World) (h : Bad w x) : Calls Try.prog 37 #[.pointer x] w fun e w' => e = .returned (.string ⟨#[]⟩) ∧ w = w' := by
  have H := Lib.hid h
  clear h
  go_enter Try.func37, Try.ntmps37
  go_wp2_with (go_at_call 64; refine (take_t_bad x _ _ H.out).mono ?_; rintro e w' ⟨rfl, rfl⟩)
  go_ret
  exact ⟨rfl, rfl⟩
theorem rbool_bad (x : Option Addr) (w : World) (h : Bad w x) : Calls Try.prog 38 #[.pointer x] w fun e w' => e = .returned (.bool false) ∧ w = w' := by
  have H := Lib.hid h
  clear h
  go_enter Try.func38, Try.ntmps38
  go_wp2_with (go_at_call 66; refine (take_b_bad x _ _ H.out).mono ?_; rintro e w' ⟨rfl, rfl⟩)
  go_ret
  exact ⟨rfl, rfl⟩

/-! The examples. -/
theorem bs_new (w : World) (l : List Nat) (h8 : ∀ c ∈ l, c < 256) : Bs (w.alloc (.cells (bv l).toArray 5)) (New w (w.alloc (.cells (bv l).toArray 5))) (.slice (some ⟨w.heap.size, 0, none⟩) l.length l.length) l :=
  ⟨h8, _, _, rfl, Nat.le_refl _, fun _ => ⟨w.heap.size, 0, rfl, ⟨Nat.le_refl _, by simp⟩, fun i hi => by rw [Nat.zero_add]; exact blk_cell (World.alloc_heap_new w _) i _ (by simpa using bv_at l i hi)⟩⟩
def exL : List Nat := [172, 2, 127, 2, 97, 98, 1]
theorem ex_digs : (((([] : List Nat) ++ digs 300) ++ digs (zig (-64))) ++ (digs 2 ++ sb ⟨#[97, 98]⟩)) ++ digs (if true then 1 else 0) = exL := by
  have e1 : digs 300 = [172, 2] := by rw [digs_big (by omega), digs_small (by omega)]
  have e2 : zig (-64) = 127 := by decide
  rw [e2, e1, digs_small (show 127 < 128 by omega), digs_small (show 2 < 128 by omega), digs_small (show (if true then 1 else 0) < 128 by decide)]
  rfl
end Go.Proofs.Ytnkmiigcglddmaa.Wire
