/- Copy. -/
import Derived.Test.YtffiooclkchoiaaP20
namespace Go.Proofs.Ytffiooclkchoiaa.Prp
open Go.RowKit Go.Lib
open Bal (TB bOk ckB ordV eqB eqB_t eqB_f eq_b alloc_b check_any order_any)
set_option linter.unusedVariables false
set_option linter.unusedSimpArgs false
set_option maxRecDepth 20000

theorem box_set1 (s : St) (vs : Nat → Value) (k : Nat) (h : k < 7) (v : Value) : (boxC s vs).setIfInBounds (4 + k * 3 + 1) v = boxC s (updV vs k v) := by
  match k, h with
  | 0, _ => simp [boxC, updV]
  | 1, _ => simp [boxC, updV]
  | 2, _ => simp [boxC, updV]
  | 3, _ => simp [boxC, updV]
  | 4, _ => simp [boxC, updV]
  | 5, _ => simp [boxC, updV]
  | 6, _ => simp [boxC, updV]
  | n + 7, h => omega
theorem size_tp : (Try.prog.info? TP).map (·.size) = some 25 := by kernel_rfl
/-- What Copy has behind k lists. -/
structure Cp (w : World) (c : Nat) (s : St) (vs vs' : Nat → Value) (k : Nat) (W : World) : Prop where
  box : W.heap[c]? = some (.cells (boxC s vs') TP (0, 0))
  new : ∀ i, i < k → OwE w.heap.size (s.P i).l (vs' i) W
  old : ∀ i, k ≤ i → vs' i = vs i
  bel : Below w.heap.size w W
  lo : w.heap.size ≤ c
theorem Cp.later {w W W' : World} {c : Nat} {s : St} {vs vs' : Nat → Value} {k : Nat} (h : Cp w c s vs vs' k W) (hb : Below W.heap.size W W') : Cp w c s vs vs' k W' :=
  ⟨(hb.block _ (Array.getElem?_eq_some_iff.1 h.box).1).trans h.box, fun i hi => rows_later (h.new i hi) hb, h.old, h.bel.trans (hb.mono h.bel.size), h.lo⟩
theorem Cp.put {w W : World} {c : Nat} {s : St} {vs vs' : Nat → Value} {k : Nat} (h : Cp w c s vs vs' k W) (hk : k < 7) {v : Value} (hO : OwE w.heap.size (s.P k).l v W) : Cp w c s vs (updV vs' k v) (k + 1) (W.setCell ⟨c, 4 + k * 3 + 1, none⟩ v) := by
  have hK : Keeps (fun j => j = c) W (W.setCell ⟨c, 4 + k * 3 + 1, none⟩ v) := (Keeps.refl (fun j => j = c) W).setCell (p := ⟨c, _, none⟩) (.inl rfl) _
  refine ⟨?_, fun i hi => ?_, fun i hi => ?_, h.bel.trans (hK.below h.bel.size fun j hj => by subst hj; exact h.lo), h.lo⟩
  · rw [← box_set1 s vs' k hk v]
    exact heap_setCell_same W c _ _ _ _ h.box
  · by_cases e : i = k
    · subst e
      simp only [updV, if_pos]
      exact rows_kept hO fun g hg => hK.block g (World.ownsRow.lt hO g hg).2 (fun e => row_te hO h.box (by rw [hg, e]))
    · simp only [updV, if_neg e]
      have hr := h.new i (by omega)
      exact rows_kept hr fun g hg => hK.block g (World.ownsRow.lt hr g hg).2 (fun e => row_te hr h.box (by rw [hg, e]))
  · simp only [updV]
    rw [if_neg (by omega)]
    exact h.old i (by omega)
theorem below_row {B g : Nat} {w0 w : World} (hb : Below B w0 w) (hBg : B ≤ g) (cs : Array Value) : Below B w0 (w.setRow g cs) :=
  hb.trans ⟨rfl, rfl, rfl, by simp, fun k hk => setRow_other w g k cs (by omega)⟩
theorem one_slice {v : Value} (h : ∃ a m c, v = .slice a m c) : v.oneCell' = true := by obtain ⟨a, m, c, rfl⟩ := h; rfl
theorem box_one (s : St) (vs : Nat → Value) (h : ∀ i, i < 7 → (vs i).oneCell' = true) : (boxC s vs).all (·.oneCell') = true := by
  have h0 := h 0 (by omega)
  have h1 := h 1 (by omega)
  have h2 := h 2 (by omega)
  have h3 := h 3 (by omega)
  have h4 := h 4 (by omega)
  have h5 := h 5 (by omega)
  have h6 := h 6 (by omega)
  have hi : ∀ n : Int, (Value.int .i64 n).oneCell' = true := fun _ => rfl
  have hb : ∀ n : Bool, (Value.bool n).oneCell' = true := fun _ => rfl
  simp [boxC, h0, h1, h2, h3, h4, h5, h6, hi, hb]
set_option maxRecDepth 100000 in
set_option maxHeartbeats 4000000 in
theorem copy_any {base : Nat} {w : World} {b : Nat} {vs : Nat → Value} {s : St} (x : Px base w b vs s) :
    Calls Try.prog 14 #[.pointer (some ⟨b, 0, none⟩)] w fun e w' => ∃ c vs', e = .returned (.pointer (some ⟨c, 0, none⟩)) ∧ Px w.heap.size w' c vs' s ∧ w.heap.size ≤ c ∧ Below w.heap.size w w' := by
  have hV := Lib.hid x.valid
  have hbx := Lib.hid x.box
  have hsz := size_tp
  have hone := box_one s vs (fun i hi => by obtain ⟨a, c, e⟩ := rows_form (x.lst i hi); exact one_slice ⟨a, _, c, e⟩)
  have hsz' : (Try.prog.info? TP).map (·.size) = some (boxC s vs).size := size_tp
  have hz := heap_alloc_new w (.cells #[.int .i64 0, .int .i64 0, .int .i64 0, .int .i64 0, .bool false, .slice none 0 0, .int .i64 0, .bool false, .slice none 0 0, .int .i64 0, .bool false, .slice none 0 0, .int .i64 0, .bool false, .slice none 0 0, .int .i64 0, .bool false, .slice none 0 0, .int .i64 0, .bool false, .slice none 0 0, .int .i64 0, .bool false, .slice none 0 0, .int .i64 0] TP)
  have hnew := setRow_heap (w.alloc (.cells #[.int .i64 0, .int .i64 0, .int .i64 0, .int .i64 0, .bool false, .slice none 0 0, .int .i64 0, .bool false, .slice none 0 0, .int .i64 0, .bool false, .slice none 0 0, .int .i64 0, .bool false, .slice none 0 0, .int .i64 0, .bool false, .slice none 0 0, .int .i64 0, .bool false, .slice none 0 0, .int .i64 0, .bool false, .slice none 0 0, .int .i64 0] TP)) w.heap.size _ (boxC s vs) TP (0, 0) hz
  have hb1 := below_row (alloc_b w (.cells #[.int .i64 0, .int .i64 0, .int .i64 0, .int .i64 0, .bool false, .slice none 0 0, .int .i64 0, .bool false, .slice none 0 0, .int .i64 0, .bool false, .slice none 0 0, .int .i64 0, .bool false, .slice none 0 0, .int .i64 0, .bool false, .slice none 0 0, .int .i64 0, .bool false, .slice none 0 0, .int .i64 0, .bool false, .slice none 0 0, .int .i64 0] TP)) (Nat.le_refl _) (boxC s vs)
  have hC0 := Lib.hid (show Cp w w.heap.size s vs vs 0 ((w.alloc (.cells #[.int .i64 0, .int .i64 0, .int .i64 0, .int .i64 0, .bool false, .slice none 0 0, .int .i64 0, .bool false, .slice none 0 0, .int .i64 0, .bool false, .slice none 0 0, .int .i64 0, .bool false, .slice none 0 0, .int .i64 0, .bool false, .slice none 0 0, .int .i64 0, .bool false, .slice none 0 0, .int .i64 0, .bool false, .slice none 0 0, .int .i64 0] TP)).setRow w.heap.size (boxC s vs)) from ⟨hnew, fun i hi => by omega, fun _ _ => rfl, hb1, Nat.le_refl _⟩)
  have hL := Lib.hid (fun (j : Nat) (v : Value) h => (x.later hb1).arr j v h)
  have hI : Hid (∀ k : Nat, k < 7 → ∃ p l c, ∀ W, (Instr.index TAr (.agg (arr s.P vs)) (.int .i64 (k : Nat))).run Try.prog W = .ok (.agg #[.bool (s.P k).a, .slice p l c, .int .i64 (s.P k).u]) W ∧ vs k = .slice p l c) := Lib.hid fun k h => by
    obtain ⟨p, c, e⟩ := rows_form (x.lst k h)
    exact ⟨p, _, c, fun W => ⟨by rw [← e]; exact index_any s.P vs k h W, e⟩⟩
  have hCl := Lib.hid (fun (k : Nat) (hk : k < 7) W (hb : Below w.heap.size w W) => clone_any (vs k) (s.P k).l W ((x.later hb).lst k hk).is (by
    cases ha : (s.P k).a with
    | false => rw [x.ok.off k ha]; exact Nat.zero_le _
    | true => have := okL_len (x.ok.on k ha).2.1 x.ok.hf.2; have := x.ok.hf.1; omega))
  have hok := Lib.hid x.ok
  have hA21 : (arr s.P vs).size = 21 := rfl
  replace hsz' := Lib.hid hsz'
  replace hone := Lib.hid hone
  replace hz := Lib.hid hz
  replace hA21 := Lib.hid hA21
  clear x hsz hnew hb1
  go_enter Try.func14, Try.ntmps14
  go_wp2_with (first
    | (go_at_call 33; refine hV.out.mono ?_; rintro e w' ⟨rfl, rfl⟩)
    | (refine wpList_load_row rfl TP _ rfl b rfl TP (boxC s vs) (0, 0) _ hbx.out Try.underlying55 rfl hsz'.out ?_)
    | (refine wpList_store_row rfl TP _ _ rfl w.heap.size (boxC s vs) rfl rfl TP _ hz.out hsz'.out rfl hone.out ?_)
    | (refine load_sub rfl _ rfl b 4 rfl (arr s.P vs) hA21.out hL.out ?_))
  generalize arr s.P vs = A at *
  generalize (w.alloc (.cells #[.int .i64 0, .int .i64 0, .int .i64 0, .int .i64 0, .bool false, .slice none 0 0, .int .i64 0, .bool false, .slice none 0 0, .int .i64 0, .bool false, .slice none 0 0, .int .i64 0, .bool false, .slice none 0 0, .int .i64 0, .bool false, .slice none 0 0, .int .i64 0, .bool false, .slice none 0 0, .int .i64 0, .bool false, .slice none 0 0, .int .i64 0] TP)).setRow w.heap.size (boxC s vs) = W1 at *
  obtain ⟨cb, hcb⟩ : ∃ cb, cb = w.heap.size := ⟨_, rfl⟩
  rw [← hcb] at hC0 ⊢
  replace hcb := Lib.hid hcb
  go_loopw [16] (fun i wr => ∃ (k : Nat) (vs' : Nat → Value), k ≤ 7 ∧ i = .int .i64 k ∧ Cp w cb s vs vs' k wr) (fun i _ => 7 - nOf i)
  case atStart => exact ⟨0, vs, by omega, rfl, hC0.out⟩
  case round =>
    obtain ⟨k, vs', hk, rfl, hC⟩ := hrel
    by_cases hlt : k < 7
    · obtain ⟨p, l, c, hIk⟩ := hI.out k hlt
      have hvk := (hIk w).2
      have hIk' := fun W => (hIk W).1
      have hC1 := hC.later (alloc_b wr (.cells #[.bool (s.P k).a, .slice p l c, .int .i64 (s.P k).u] TPm))
      have hCk := hCl.out k hlt _ hC1.bel
      rw [hvk] at hCk
      have i1 : decide ((k : Int) < 7) = true := by simp; omega
      have i2 : (k : Int) < 7 := by omega
      have i3 : (0 : Int) ≤ (k : Nat) := by omega
      have i4 : ¬ (k : Int) < 0 := by omega
      replace hC1 := Lib.hid hC1
      replace hCk := Lib.hid hCk
      have hP : Hid (∀ W v, Below (wr.alloc (.cells #[.bool (s.P k).a, .slice p l c, .int .i64 (s.P k).u] TPm)).heap.size (wr.alloc (.cells #[.bool (s.P k).a, .slice p l c, .int .i64 (s.P k).u] TPm)) W → OwE (wr.alloc (.cells #[.bool (s.P k).a, .slice p l c, .int .i64 (s.P k).u] TPm)).heap.size (s.P k).l v W →
          W.cell? ⟨cb, 4 + k * 3 + 1, none⟩ = some (vs' k) ∧ W.frozen? ⟨cb, 4 + k * 3 + 1, none⟩ = false ∧ Cp w cb s vs (updV vs' k v) (k + 1) (W.setCell ⟨cb, 4 + k * 3 + 1, none⟩ v)) := Lib.hid fun W v hb hO => by
        have h2 := hC1.out.later hb
        exact ⟨(cell_of_row W cb _ _ TP _ h2.box).trans (box_at s vs' k hlt).2.1, frozen_of_row W cb _ _ TP h2.box, h2.put hlt (rows_base hO hC1.out.bel.size)⟩
      generalize (s.P k).a = pa at *
      generalize (s.P k).u = pu at *
      clear hI hCl hC hIk hL
      go_wp2_with (go_at_call 34; refine hCk.out.mono ?_; rintro e w5 ⟨v5, rfl, hO5, hb5⟩; obtain ⟨y0, y1, y2⟩ := hP.out _ _ hb5 hO5; obtain ⟨a5, m5, c5, rfl, -⟩ := owe_form hO5; replace y2 := Lib.hid y2; clear hO5)
      go_roundw
      case rel => exact ⟨k + 1, _, by omega, by go_num, y2.out⟩
      case measure => simp [nOf]; omega
    · have hk7 : k = 7 := by omega
      subst hk7
      have i1 : decide (((7 : Nat) : Int) < 7) = false := by decide
      clear hI hCl hL
      replace hC := Lib.hid hC
      go_wp2
      go_ret
      exact ⟨cb, vs', rfl, ⟨hC.out.box, fun i hi => hC.out.new i hi, hok.out⟩, hC.out.lo, hC.out.bel⟩
end Go.Proofs.Ytffiooclkchoiaa.Prp
