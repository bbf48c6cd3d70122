/- A disk: its state as plain lists; its box and its rows in memory; valid, New, Safe, Len, Sync, Append. -/
import Derived.Test.YtojeccmnhgcmcaaDoorG20
import Derived.Test.YtojeccmnhgcmcaaDoorG27
import Derived.Deep.RegionHeld3
import Derived.Deep.QuietTactic
import Derived.StillTailTactics
namespace Go.Proofs.YtojeccmnhgcmcaaDoor.Dsk
open Go.RowKit Go.ChangeShapes _root_.Go.Proofs.YtojeccmnhgcmcaaDoor.Frame
open _root_.Go.Proofs.YtojeccmnhgcmcaaDoor.Crc (Hv more more_lt ret_u32)
set_option linter.unusedVariables false
set_option linter.unusedSimpArgs false
set_option maxRecDepth 100000

abbrev TD : TypeId := 44
abbrev TB : TypeId := 5

/-- A disk's state: the contents of its records, how many of them are safe, the snapshot, and whether there is one. -/
structure St where
  L : List (List Nat)
  k : Nat
  S : List Nat
  h : Bool
structure OkS (m : St) : Prop where
  byt : ∀ c ∈ m.L, Byt c
  short : ∀ c ∈ m.L, Short c
  le : tot m.L ≤ 16777216
  kl : m.k ≤ m.L.length
  sb : Byt m.S
  sl : m.S.length ≤ 65536
  no : m.h = false → m.S = []
def safe (m : St) : Nat := tot (m.L.take m.k)
theorem safe_le (m : St) : safe m ≤ tot m.L := tot_take_le m.L m.k
def newS : St := ⟨[], 0, [], false⟩
theorem ok_new : OkS newS := ⟨fun c hc => absurd hc List.not_mem_nil, fun c hc => absurd hc List.not_mem_nil, Nat.zero_le _, Nat.le_refl _, fun c hc => absurd hc List.not_mem_nil, Nat.zero_le _, fun _ => rfl⟩

/-- The disk at d in memory; its blocks are among F. -/
structure Dx (W : World) (d : Nat) (F : Nat → Prop) (m : St) : Prop where
  ok : OkS m
  ex : ∃ vw vs, Blk W d [vw, .int .i64 (safe m : Nat), vs, .bool m.h, .bool true] TD ∧ W.ownsRow 0 TB 1 vw (tot m.L) (bv (rcs m.L)) ∧ W.ownsRow 0 TB 1 vs m.S.length (bv m.S) ∧
    (∀ k, vw.ownBlock = some k → F k ∧ vs.ownBlock ≠ some k) ∧ (∀ k, vs.ownBlock = some k → F k)
  fd : F d
  lt : ∀ k, F k → k < W.heap.size
theorem Dx.kept {W W' : World} {d : Nat} {F : Nat → Prop} {m : St} (h : Dx W d F m) (hs : Same F W W') (hsz : W.heap.size ≤ W'.heap.size) : Dx W' d F m := by
  obtain ⟨vw, vs, h1, h2, h3, h4, h5⟩ := h.ex
  exact ⟨h.ok, ⟨vw, vs, (hs d h.fd).trans h1, rows_kept h2 fun k hk => hs k (h4 k hk).1, rows_kept h3 fun k hk => hs k (h5 k hk), h4, h5⟩, h.fd, fun k hk => Nat.lt_of_lt_of_le (h.lt k hk) hsz⟩
theorem Dx.later {W W' : World} {d : Nat} {F : Nat → Prop} {m : St} (h : Dx W d F m) (hb : Below W.heap.size W W') : Dx W' d F m := h.kept (Same.of_below hb h.lt) hb.size
theorem Dx.beside {W W' : World} {d : Nat} {F G : Nat → Prop} {m : St} (h : Dx W d F m) (hk : Keeps G W W') (hd : ∀ k, F k → ¬ G k) : Dx W' d F m := h.kept (Same.of_keeps hk h.lt hd) hk.size
theorem Dx.wide {W : World} {d : Nat} {F G : Nat → Prop} {m : St} (h : Dx W d F m) (hF : ∀ k, F k → G k) (hG : ∀ k, G k → k < W.heap.size) : Dx W d G m := by
  obtain ⟨vw, vs, h1, h2, h3, h4, h5⟩ := h.ex
  exact ⟨h.ok, ⟨vw, vs, h1, h2, h3, fun k hk => ⟨hF k (h4 k hk).1, (h4 k hk).2⟩, fun k hk => hF k (h5 k hk)⟩, hF d h.fd, hG⟩
/-- The box is none of the rows. -/
theorem box_ne {W : World} {d base n : Nat} {cs : List Value} {v : Value} {xs : List Value} (h : Blk W d cs TD) (hv : W.ownsRow base TB 1 v n xs) : v.ownBlock ≠ some d :=
  fun e => absurd (rows_type hv e h) (by decide)

/-! valid, New, Safe, Len. -/
def PD (d : Nat) : Value := .pointer (some ⟨d, 0, none⟩)
theorem valid_any {d : Nat} (W : World) (b : Bool) (c4 : W.cell? ⟨d, 4, none⟩ = some (.bool b)) :
    Calls Tryd.prog 39 #[.pointer (some ⟨d, 0, none⟩)] W fun e W' => e = .returned (.bool b) ∧ W = W' := by
  go_enter Tryd.func39, Tryd.ntmps39
  go_wp2
  go_ret
  exact ⟨rfl, rfl⟩
theorem valid_nil (W : World) :
    Calls Tryd.prog 39 #[.pointer none] W fun e W' => e = .returned (.bool false) ∧ W = W' := by
  go_enter Tryd.func39, Tryd.ntmps39
  go_wp2
  go_ret
  exact ⟨rfl, rfl⟩
theorem Dx.valid {W : World} {d : Nat} {F : Nat → Prop} {m : St} (h : Dx W d F m) :
    Calls Tryd.prog 39 #[.pointer (some ⟨d, 0, none⟩)] W fun e W' => e = .returned (.bool true) ∧ W = W' := by
  obtain ⟨vw, vs, h1, _⟩ := h.ex
  exact valid_any W true (h1.cell 4 _ rfl)
theorem new_any (W : World) :
    Calls Tryd.prog 13 #[] W fun e W' => ∃ d, e = .returned (.pointer (some ⟨d, 0, none⟩)) ∧ Dx W' d (From W.heap.size W') newS ∧ Below W.heap.size W W' := by
  have ho := Lib.hid ok_new
  go_enter Tryd.func13, Tryd.ntmps13
  go_wp2
  go_ret
  refine ⟨W.heap.size, rfl, ⟨ho.out, ⟨.slice none 0 0, .slice none 0 0, heap_alloc_new W _, ⟨rfl, .inl ⟨rfl, rfl⟩⟩, ⟨rfl, .inl ⟨rfl, rfl⟩⟩, fun k e => (by cases e), fun k e => (by cases e)⟩, ⟨Nat.le_refl _, by simp⟩, fun k hk => hk.2⟩, (Below.refl _ _).alloc (Nat.le_refl _) _⟩
theorem safe_any {W : World} {d : Nat} {F : Nat → Prop} {m : St} (h : Dx W d F m) :
    Calls Tryd.prog 29 #[.pointer (some ⟨d, 0, none⟩)] W fun e W' => e = .returned (.int .i64 (safe m : Nat)) ∧ W = W' := by
  have hV := Lib.hid h.valid
  obtain ⟨vw, vs, h1, _⟩ := h.ex
  have c1 := h1.cell 1 _ rfl
  clear h h1
  generalize safe m = s at *
  go_enter Tryd.func29, Tryd.ntmps29
  go_wp2_with (go_at_call 39; refine hV.out.mono ?_; rintro e w' ⟨rfl, rfl⟩)
  go_ret
  exact ⟨rfl, rfl⟩
theorem len_any {W : World} {d : Nat} {F : Nat → Prop} {m : St} (h : Dx W d F m) :
    Calls Tryd.prog 27 #[.pointer (some ⟨d, 0, none⟩)] W fun e W' => e = .returned (.int .i64 (tot m.L : Nat)) ∧ W = W' := by
  have hV := Lib.hid h.valid
  obtain ⟨vw, vs, h1, h2, _⟩ := h.ex
  obtain ⟨a, cap, rfl⟩ := rows_form h2
  have c1 := h1.cell 0 _ rfl
  clear h h1 h2
  generalize tot m.L = s at *
  go_enter Tryd.func27, Tryd.ntmps27
  go_wp2_with (go_at_call 39; refine hV.out.mono ?_; rintro e w' ⟨rfl, rfl⟩)
  go_ret
  exact ⟨rfl, rfl⟩

/-! Sync. -/
def synS (m : St) : St := { m with k := m.L.length }
theorem ok_syn {m : St} (h : OkS m) : OkS (synS m) := ⟨h.byt, h.short, h.le, Nat.le_refl _, h.sb, h.sl, h.no⟩
theorem safe_syn (m : St) : safe (synS m) = tot m.L := by show tot (m.L.take m.L.length) = _; rw [List.take_length]
/-- What a call leaves behind that changes the disk. -/
structure Did (W : World) (d : Nat) (F : Nat → Prop) (m' : St) (W' : World) : Prop where
  dx : Dx W' d (More F W W') m'
  kp : Keeps F W W'
theorem Did.none {W W' : World} {d : Nat} {F : Nat → Prop} {m : St} (h : Dx W d F m) (hb : Below W.heap.size W W') : Did W d F m W' :=
  ⟨(h.later hb).wide (fun k hk => .inl hk) fun k hk => by rcases hk with hk | hk; exact Nat.lt_of_lt_of_le (h.lt k hk) hb.size; exact hk.2, Keeps.of_below hb⟩
theorem sync_any {W : World} {d : Nat} {F : Nat → Prop} {m : St} (h : Dx W d F m) :
    Calls Tryd.prog 17 #[.pointer (some ⟨d, 0, none⟩)] W fun e W' => e = .returned (.tuple #[]) ∧ Did W d F (synS m) W' := by
  have hV := Lib.hid h.valid
  obtain ⟨vw, vs, h1, h2, h3, h4, h5⟩ := h.ex
  have hne := box_ne h1 h2
  have hne3 := box_ne h1 h3
  have hE : Hid (Did W d F (synS m) (W.setCell ⟨d, 1, none⟩ (.int .i64 (tot m.L : Nat)))) := Lib.hid (by
    have hk : Keeps F W (W.setCell ⟨d, 1, none⟩ (.int .i64 (tot m.L : Nat))) := (Keeps.refl F W).setCell (p := ⟨d, 1, none⟩) (.inl h.fd) _
    have hbk := fun k (hk : k ≠ d) => Below.heap_setCell W ⟨d, 1, none⟩ (.int .i64 (tot m.L : Nat)) k hk
    refine ⟨⟨ok_syn h.ok, ⟨vw, vs, ?_, rows_kept h2 fun k hk => hbk k fun e => hne (by rw [← e]; exact hk), rows_kept h3 fun k hk => hbk k fun e => hne3 (by rw [← e]; exact hk), fun k hk => ⟨.inl (h4 k hk).1, (h4 k hk).2⟩, fun k hk => .inl (h5 k hk)⟩, .inl h.fd, fun k hk => ?_⟩, hk⟩
    · rw [safe_syn]; exact h1.set 1 _
    · rcases hk with hk | hk
      · rw [World.setCell]; simpa using h.lt k hk
      · exact hk.2)
  obtain ⟨a, cap, rfl⟩ := rows_form h2
  have c0 := h1.cell 0 _ rfl
  have c1 := h1.cell 1 _ rfl
  have f1 := h1.free 1
  clear h h1 h2 h3 h4 h5 hne hne3
  generalize tot m.L = s at *
  generalize safe m = s0 at *
  go_enter Tryd.func17, Tryd.ntmps17
  go_wp2_with (go_at_call 39; refine hV.out.mono ?_; rintro e w' ⟨rfl, rfl⟩)
  go_end0
  exact ⟨rfl, hE.out⟩
end Go.Proofs.YtojeccmnhgcmcaaDoor.Dsk
