/- The texts of items: Item. -/
import Derived.Test.YtllhgjenkchniaaDoorI10
namespace Go.Proofs.YtllhgjenkchniaaDoor.Ident
open Go.RowKit Go.Lib
set_option linter.unusedVariables false
set_option linter.unusedSimpArgs false
set_option maxRecDepth 20000

def itS (x : It) : List UInt8 := if okIt x then itT x else []
/-- A box with an item, and what was there ahead of it. -/
structure Box6 (w : World) (x : It) (W : World) : Prop where
  blk : W.heap[w.heap.size]? = some (itB x)
  bel : Below w.heap.size w W
  hv : Hv W
theorem Box6.lt {w W : World} {x : It} (h : Box6 w x W) : w.heap.size < W.heap.size := (Array.getElem?_eq_some_iff.1 h.blk).1
theorem Box6.later {w W W' : World} {x : It} (h : Box6 w x W) (hb : Below W.heap.size W W') : Box6 w x W' := ⟨(hb.block _ h.lt).trans h.blk, h.bel.trans (hb.mono h.bel.size), h.hv.later hb⟩
theorem Box6.cells {w W : World} {x : It} (h : Box6 w x W) : W.cell? ⟨w.heap.size, 0, none⟩ = some (.int .i64 x.a) ∧ W.cell? ⟨w.heap.size, 1, none⟩ = some (.int .i64 x.b) ∧ W.cell? ⟨w.heap.size, 2, none⟩ = some (.int .i64 x.p) ∧ W.cell? ⟨w.heap.size, 3, none⟩ = some (.int .i64 x.m) ∧ W.cell? ⟨w.heap.size, 4, none⟩ = some (.bool x.i) ∧ W.cell? ⟨w.heap.size, 5, none⟩ = some (.int .i64 x.g) :=
  ⟨cell_of_row W _ 0 _ TI _ h.blk, cell_of_row W _ 1 _ TI _ h.blk, cell_of_row W _ 2 _ TI _ h.blk, cell_of_row W _ 3 _ TI _ h.blk, cell_of_row W _ 4 _ TI _ h.blk, cell_of_row W _ 5 _ TI _ h.blk⟩
theorem box6_new {w : World} (hH : Hv w) (x : It) : Box6 w x (w.alloc (.cells #[.int .i64 x.a, .int .i64 x.b, .int .i64 x.p, .int .i64 x.m, .bool x.i, .int .i64 x.g] TI)) :=
  ⟨heap_alloc_new _ _, (Below.refl _ _).alloc (Nat.le_refl _) _, hH.later ((Below.refl _ _).alloc (Nat.le_refl _) _)⟩
theorem item_bad (a b p m : Int) (i : Bool) (g : Int) (h : ¬ okIt ⟨a, b, p, m, i, g⟩) (w : World) :
    Calls Tryd.prog 20 #[.agg #[.int .i64 a, .int .i64 b, .int .i64 p, .int .i64 m, .bool i, .int .i64 g]] w fun e w' => e = .returned (.tuple #[.string (tx []), .int .i64 2]) ∧ Below w.heap.size w w' := by
  have hb : Below w.heap.size w (w.alloc (.cells #[.int .i64 a, .int .i64 b, .int .i64 p, .int .i64 m, .bool i, .int .i64 g] TI)) := (Below.refl _ _).alloc (Nat.le_refl _) _
  have hc := fun W => checkI_any a b p m i g W
  rw [show ckI ⟨a, b, p, m, i, g⟩ = 2 from if_neg h] at hc
  replace hc := Lib.hid hc
  go_enter Tryd.func20, Tryd.ntmps20
  go_wp2_with (go_at_call 24; refine (hc.out _).mono ?_; rintro e w' ⟨rfl, hb2⟩)
  go_ret2
  exact ⟨rfl, hb.trans (hb2.mono hb.size)⟩
theorem tx_cons (c : UInt8) (l : List UInt8) : ByteArray.mk #[c] ++ tx l = tx (c :: l) := tx_app [c] l
theorem item_eff (a b p g : Nat) (h : okIt ⟨a, b, p, 0, false, g⟩) (w : World) (hH : Hv w) :
    Calls Tryd.prog 20 #[.agg #[.int .i64 a, .int .i64 b, .int .i64 p, .int .i64 0, .bool false, .int .i64 g]] w fun e w' => e = .returned (.tuple #[.string (tx (itT ⟨a, b, p, 0, false, g⟩)), .int .i64 0]) ∧ Below w.heap.size w w' := by
  have hc := fun W => checkI_any a b p 0 false g W
  rw [show ckI ⟨a, b, p, 0, false, g⟩ = 0 from if_pos h] at hc
  replace hc := Lib.hid hc
  have ho : effOk a b p := by
    obtain ⟨_, _, h | h⟩ := h
    · exact h.2.2
    · have := h.1; simp only at this; omega
  have hg7 : (g : Int) ≤ 7 := h.2.1
  have X0 := Lib.hid (box6_new hH ⟨a, b, p, 0, false, g⟩)
  have hE := Lib.hid (fun W hW => effect_ok a b p ho W hW)
  have hI := Lib.hid (fun W hW => itoa_any g (by omega) W hW)
  have hT : tx (effT a b p) ++ (ByteArray.mk #[64] ++ tx (decDigits g)) = tx (itT ⟨a, b, p, 0, false, g⟩) := by
    rw [tx_cons, tx_app]
    unfold itT hdT
    simp
  have hlE : (tx (effT a b p)).size ≤ 20 := by
    obtain ⟨h1, h2, h3, h4, h5, h6⟩ := ho
    have l1 := dec_len_lt a (by omega)
    have l2 := dec_len_lt b (by omega)
    rw [tx_size]
    simp [effT]
    omega
  have hlG : (tx (decDigits g)).size ≤ 4 := by rw [tx_size]; exact dec_len_lt g (by omega)
  replace hT := Lib.hid hT
  generalize tx (effT a b p) = E at *
  generalize tx (decDigits g) = G at *
  have hz : (ByteArray.mk #[64]).size = 1 := rfl
  have m1 : ¬ 9223372036854775807 < 1 + G.size := by omega
  have m2 : ¬ 9223372036854775807 < E.size + (1 + G.size) := by omega
  clear h ho hg7 hlE hlG
  go_enter Tryd.func20, Tryd.ntmps20
  go_wp2_with fail
  refine (hc.out _).mono ?_
  rintro e w1 ⟨rfl, hb1⟩
  have X1 := Lib.hid (X0.out.later hb1)
  obtain ⟨x0, x1, x2, x3, x4, x5⟩ := X1.out.cells
  clear X0 hb1
  go_wp2_with fail
  refine (hI.out _ X1.out.hv).mono ?_
  rintro e w2 ⟨rfl, hb2⟩
  have X2 := Lib.hid (X1.out.later hb2)
  clear X1 hb2 x0 x1 x2 x3 x4 x5
  obtain ⟨x0, x1, x2, x3, x4, x5⟩ := X2.out.cells
  go_wp2_with fail
  refine (hE.out _ X2.out.hv).mono ?_
  rintro e w3 ⟨rfl, hb3⟩
  have X3 := Lib.hid (X2.out.later hb3)
  clear X2 hb3 x0 x1 x2 x3 x4 x5
  go_wp2
  go_ret2
  exact ⟨congrArg (fun s => Ending.returned (.tuple #[.string s, .int .i64 0])) hT.out, X3.out.bel⟩
theorem item_move (m : Nat) (i : Bool) (g : Nat) (h : okIt ⟨0, 0, 0, m, i, g⟩) (w : World) (hH : Hv w) :
    Calls Tryd.prog 20 #[.agg #[.int .i64 0, .int .i64 0, .int .i64 0, .int .i64 m, .bool i, .int .i64 g]] w fun e w' => e = .returned (.tuple #[.string (tx (itT ⟨0, 0, 0, m, i, g⟩)), .int .i64 0]) ∧ Below w.heap.size w w' := by
  have hc := fun W => checkI_any 0 0 0 m i g W
  rw [show ckI ⟨0, 0, 0, m, i, g⟩ = 0 from if_pos h] at hc
  replace hc := Lib.hid hc
  have hm : 1 ≤ m ∧ m ≤ 64 := by
    obtain ⟨_, _, h | h⟩ := h
    · have h0 : effOk 0 0 0 := h.2.2
      unfold effOk at h0
      omega
    · have h1 := h.1; have h2 := h.2.1; simp only at h1 h2; omega
  have hg7 : (g : Int) ≤ 7 := h.2.1
  have X0 := Lib.hid (box6_new hH ⟨0, 0, 0, m, i, g⟩)
  have hI := Lib.hid (fun W hW => itoa_any g (by omega) W hW)
  have hJ := Lib.hid (fun W hW => itoa_any m (by omega) W hW)
  have hT : ByteArray.mk #[109] ++ tx (decDigits m) ++ ByteArray.mk #[47] ++ tx (wayT i) ++ (ByteArray.mk #[64] ++ tx (decDigits g)) = tx (itT ⟨0, 0, 0, m, i, g⟩) := by
    rw [tx_cons, tx_cons, show ByteArray.mk #[47] = tx [47] from rfl, tx_app, tx_app, tx_app]
    unfold itT hdT
    rw [if_neg (by show ¬ (m : Int) = 0; omega)]
    simp [List.append_assoc]
  have hlG : (tx (decDigits g)).size ≤ 4 := by rw [tx_size]; exact dec_len_lt g (by omega)
  have hlM : (tx (decDigits m)).size ≤ 4 := by rw [tx_size]; exact dec_len_lt m (by omega)
  have hd : ((m : Int) == 0) = false := by simp; omega
  replace hT := Lib.hid hT
  generalize tx (decDigits g) = G at *
  generalize tx (decDigits m) = M at *
  have hz : (ByteArray.mk #[64]).size = 1 := rfl
  have hz1 : (ByteArray.mk #[109]).size = 1 := rfl
  have hz2 : (ByteArray.mk #[47]).size = 1 := rfl
  have hz3 : (ByteArray.mk #[105, 110]).size = 2 := rfl
  have hz4 : (ByteArray.mk #[111, 117, 116]).size = 3 := rfl
  have m1 : ¬ 9223372036854775807 < 1 + G.size := by omega
  have m2 : ¬ 9223372036854775807 < 1 + M.size := by omega
  have m3 : ¬ 9223372036854775807 < 1 + M.size + 1 := by omega
  have m4 : ¬ 9223372036854775807 < 1 + M.size + 1 + 2 := by omega
  have m5 : ¬ 9223372036854775807 < 1 + M.size + 1 + 3 := by omega
  have m6 : ¬ 9223372036854775807 < 1 + M.size + 1 + 2 + (1 + G.size) := by omega
  have m7 : ¬ 9223372036854775807 < 1 + M.size + 1 + 3 + (1 + G.size) := by omega
  clear h hm hg7 hlG hlM
  cases i
  all_goals
    go_enter Tryd.func20, Tryd.ntmps20
    go_wp2_with fail
    refine (hc.out _).mono ?_
    rintro e w1 ⟨rfl, hb1⟩
    have X1 := Lib.hid (X0.out.later hb1)
    obtain ⟨x0, x1, x2, x3, x4, x5⟩ := X1.out.cells
    clear X0 hb1
    go_wp2_with fail
    refine (hI.out _ X1.out.hv).mono ?_
    rintro e w2 ⟨rfl, hb2⟩
    have X2 := Lib.hid (X1.out.later hb2)
    clear X1 hb2 x0 x1 x2 x3 x4 x5
    obtain ⟨x0, x1, x2, x3, x4, x5⟩ := X2.out.cells
    go_wp2_with fail
    refine (hJ.out _ X2.out.hv).mono ?_
    rintro e w3 ⟨rfl, hb3⟩
    have X3 := Lib.hid (X2.out.later hb3)
    clear X2 hb3 x0 x1 x2 x3 x4 x5
    go_wp2
    go_ret2
    exact ⟨congrArg (fun s => Ending.returned (.tuple #[.string s, .int .i64 0])) hT.out, X3.out.bel⟩
theorem item_any (x : It) (w : World) (hH : Hv w) :
    Calls Tryd.prog 20 #[itV x] w fun e w' => e = .returned (.tuple #[.string (tx (itS x)), .int .i64 (ckI x)]) ∧ Below w.heap.size w w' := by
  obtain ⟨a, b, p, m, i, g⟩ := x
  by_cases h : okIt ⟨a, b, p, m, i, g⟩
  · rw [show itS ⟨a, b, p, m, i, g⟩ = itT ⟨a, b, p, m, i, g⟩ from if_pos h, show ckI ⟨a, b, p, m, i, g⟩ = 0 from if_pos h]
    have h' := h
    obtain ⟨g1, g7, ⟨hm, hi, ho⟩ | ⟨h1, h2, h3, h4, h5⟩⟩ := h'
    · simp only at g1 g7 hm hi ho
      subst hm hi
      obtain ⟨h1, h2, h3, h4, h5, h6⟩ := ho
      obtain ⟨x, rfl⟩ := Int.eq_ofNat_of_zero_le (show 0 ≤ a by omega)
      obtain ⟨y, rfl⟩ := Int.eq_ofNat_of_zero_le (show 0 ≤ b by omega)
      obtain ⟨z, rfl⟩ := Int.eq_ofNat_of_zero_le (show 0 ≤ p by omega)
      obtain ⟨u, rfl⟩ := Int.eq_ofNat_of_zero_le (show 0 ≤ g by omega)
      exact item_eff x y z u h w hH
    · simp only at g1 g7 h1 h2 h3 h4 h5
      subst h3 h4 h5
      obtain ⟨x, rfl⟩ := Int.eq_ofNat_of_zero_le (show 0 ≤ m by omega)
      obtain ⟨u, rfl⟩ := Int.eq_ofNat_of_zero_le (show 0 ≤ g by omega)
      exact item_move x i u h w hH
  · rw [show itS ⟨a, b, p, m, i, g⟩ = [] from if_neg h, show ckI ⟨a, b, p, m, i, g⟩ = 2 from if_neg h]
    exact item_bad a b p m i g h w
end Go.Proofs.YtllhgjenkchniaaDoor.Ident
