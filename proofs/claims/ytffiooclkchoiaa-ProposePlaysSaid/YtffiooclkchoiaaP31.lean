/- The document's Copy. -/
import Derived.Test.YtffiooclkchoiaaP30
namespace Go.Proofs.Ytffiooclkchoiaa.Prp
open Go.RowKit Go.Lib
open Bal (TB bOk ckB ordV eqB eqB_t eqB_f eq_b alloc_b check_any order_any rcheck_any rorder_any)
set_option linter.unusedVariables false
set_option linter.unusedSimpArgs false
set_option maxRecDepth 100000

theorem size_trp : (Try.prog.info? TRP).map (·.size) = some 26 := by kernel_rfl
theorem rbox_one (s : St) (vs : Nat → Value) (h : ∀ i, i < 7 → (vs i).oneCell' = true) : (rboxC s vs).all (·.oneCell') = true := by
  have h0 := h 0 (by omega)
  have h1 := h 1 (by omega)
  have h2 := h 2 (by omega)
  have h3 := h 3 (by omega)
  have h4 := h 4 (by omega)
  have h5 := h 5 (by omega)
  have h6 := h 6 (by omega)
  have hi : ∀ n : Int, (Value.int .i64 n).oneCell' = true := fun _ => rfl
  have hb : ∀ n : Bool, (Value.bool n).oneCell' = true := fun _ => rfl
  simp [rboxC, h0, h1, h2, h3, h4, h5, h6, hi, hb]
theorem rbox_set1 (s : St) (vs : Nat → Value) (k : Nat) (h : k < 7) (v : Value) : (rboxC s vs).setIfInBounds (12 + k) v = rboxC s (updV vs k v) := by
  match k, h with
  | 0, _ => simp [rboxC, updV]
  | 1, _ => simp [rboxC, updV]
  | 2, _ => simp [rboxC, updV]
  | 3, _ => simp [rboxC, updV]
  | 4, _ => simp [rboxC, updV]
  | 5, _ => simp [rboxC, updV]
  | 6, _ => simp [rboxC, updV]
  | n + 7, h => omega
structure RCp (base : Nat) (w : World) (c : Nat) (s : St) (vs vs' : Nat → Value) (W : World) : Prop where
  box : W.heap[c]? = some (.cells (rboxC s vs') TRP (0, 0))
  lst : ∀ i, i < 7 → OwE base (s.P i).l (vs' i) W
  fr : ∀ i, i < 7 → vs' i = vs i ∨ ∀ g, (vs' i).ownBlock = some g → w.heap.size ≤ g
  bel : Below w.heap.size w W
  lo : w.heap.size ≤ c
section
variable {base : Nat} {w W W' : World} {c : Nat} {s : St} {vs vs' : Nat → Value}
theorem RCp.later (h : RCp base w c s vs vs' W) (hb : Below W.heap.size W W') : RCp base w c s vs vs' W' :=
  ⟨(hb.block _ (Array.getElem?_eq_some_iff.1 h.box).1).trans h.box, fun i hi => rows_later (h.lst i hi) hb, h.fr, h.bel.trans (hb.mono h.bel.size), h.lo⟩
theorem RCp.put (h : RCp base w c s vs vs' W) {k : Nat} (hk : k < 7) {v : Value} (hO : OwE base (s.P k).l v W) (hf : ∀ g, v.ownBlock = some g → w.heap.size ≤ g) : RCp base w c s vs (updV vs' k v) (W.setCell ⟨c, 12 + k, none⟩ v) := by
  have hK : Keeps (fun j => j = c) W (W.setCell ⟨c, 12 + k, none⟩ v) := (Keeps.refl (fun j => j = c) W).setCell (p := ⟨c, _, none⟩) (.inl rfl) _
  refine ⟨?_, fun i hi => ?_, fun i hi => ?_, h.bel.trans (hK.below h.bel.size fun j hj => by subst hj; exact h.lo), h.lo⟩
  · rw [← rbox_set1 s vs' k hk v]
    exact heap_setCell_same W c _ _ _ _ h.box
  · by_cases e : i = k
    · subst e
      simp only [updV, if_pos]
      exact rows_kept hO fun g hg => hK.block g (World.ownsRow.lt hO g hg).2 (fun e => rrow_te hO h.box (by rw [hg, e]))
    · simp only [updV, if_neg e]
      have hr := h.lst i hi
      exact rows_kept hr fun g hg => hK.block g (World.ownsRow.lt hr g hg).2 (fun e => rrow_te hr h.box (by rw [hg, e]))
  · by_cases e : i = k
    · subst e
      simp only [updV, if_pos]
      exact .inr hf
    · simp only [updV, if_neg e]
      exact h.fr i hi
end
theorem lst_len7 {s : St} (h : OkS s) (k : Nat) : (s.P k).l.length ≤ 4096 := by
  cases ha : (s.P k).a with
  | false => rw [h.off k ha]; exact Nat.zero_le _
  | true => have := okL_len (h.on k ha).2.1 h.hf.2; have := h.hf.1; omega
abbrev rzero : Array Value := #[.bool false, .int .i64 0, .int .i64 0, .int .i64 0, .int .i64 0, .bool false, .bool false, .bool false, .bool false, .bool false, .bool false, .bool false,
  .slice none 0 0, .slice none 0 0, .slice none 0 0, .slice none 0 0, .slice none 0 0, .slice none 0 0, .slice none 0 0, .int .i64 0, .int .i64 0, .int .i64 0, .int .i64 0, .int .i64 0, .int .i64 0, .int .i64 0]
set_option maxHeartbeats 4000000 in
theorem Rx.copy {base : Nat} {w : World} {b : Nat} {vs : Nat → Value} {s : St} (x : Rx base w b vs s) (hbase : base ≤ w.heap.size) :
    Calls Try.prog 15 #[.pointer (some ⟨b, 0, none⟩)] w fun e w' => ∃ c vs', e = .returned (.pointer (some ⟨c, 0, none⟩)) ∧ Rx base w' c vs' s ∧ w.heap.size ≤ c ∧ Below w.heap.size w w' ∧ ∀ i, i < 7 → vs' i = vs i ∨ ∀ g, (vs' i).ownBlock = some g → w.heap.size ≤ g := by
  have hV := Lib.hid x.valid
  have hbx := Lib.hid x.box
  have hsz := size_trp
  have hone := rbox_one s vs (fun i hi => by obtain ⟨a, c, e⟩ := rows_form (x.lst i hi); exact one_slice ⟨a, _, c, e⟩)
  have hsz' : (Try.prog.info? TRP).map (·.size) = some (rboxC s vs).size := size_trp
  have hz := heap_alloc_new w (.cells rzero TRP)
  have hnew := setRow_heap (w.alloc (.cells rzero TRP)) w.heap.size _ (rboxC s vs) TRP (0, 0) hz
  have hb1 := below_row (alloc_b w (.cells rzero TRP)) (Nat.le_refl _) (rboxC s vs)
  have hC0 := Lib.hid (show RCp base w w.heap.size s vs vs ((w.alloc (.cells rzero TRP)).setRow w.heap.size (rboxC s vs)) from ⟨hnew, fun i hi => rows_later (x.lst i hi) hb1, fun _ _ => .inl rfl, hb1, Nat.le_refl _⟩)
  obtain ⟨n, hn⟩ := Int.eq_ofNat_of_zero_le (show 0 ≤ s.n by have := x.ok.n1; omega)
  have h7 := x.ok.n7
  have hCl : Hid (∀ W, Below w.heap.size w W → W.cell? ⟨b, 1, none⟩ = some (.int .i64 (n : Nat))) := Lib.hid fun W hb => by rw [← hn]; exact (x.later hb).cells.2.1
  have hPl := Lib.hid (fun W (hb : Below w.heap.size w W) k (hk : k < 7) => show W.cell? ⟨b, 12 + k, none⟩ = some (vs k) ∧ OwE base (s.P k).l (vs k) W from ⟨((x.later hb).place k hk).2.1, (x.later hb).lst k hk⟩)
  have hln := Lib.hid (lst_len7 x.ok)
  have hok := Lib.hid x.ok
  rw [hn] at h7
  replace hsz' := Lib.hid hsz'
  replace hone := Lib.hid hone
  replace hz := Lib.hid hz
  clear x hsz hnew hb1 hn
  go_enter Try.func15, Try.ntmps15
  go_wp2_with (first
    | (go_at_call 35; refine hV.out.mono ?_; rintro e w' ⟨rfl, rfl⟩)
    | (refine wpList_load_row rfl TRP _ rfl b rfl TRP (rboxC s vs) (0, 0) _ hbx.out Try.underlying79 rfl hsz'.out ?_)
    | (refine wpList_store_row rfl TRP _ _ rfl w.heap.size (rboxC s vs) rfl rfl TRP _ hz.out hsz'.out rfl hone.out ?_))
  generalize (w.alloc (.cells rzero TRP)).setRow w.heap.size (rboxC s vs) = W0 at *
  obtain ⟨cb, hcb⟩ : ∃ cb, cb = w.heap.size := ⟨_, rfl⟩
  rw [← hcb] at hC0 ⊢
  replace hcb := Lib.hid hcb
  go_loopw [4] (fun i wr => ∃ (k : Nat) (vs' : Nat → Value), k ≤ n ∧ i = .int .i64 k ∧ RCp base w cb s vs vs' wr) (fun i _ => n - nOf i)
  case atStart => exact ⟨0, vs, by omega, rfl, hC0.out⟩
  case round =>
    clear hC0 hone hsz' hbx hz hV
    obtain ⟨k, vs', hk, rfl, hC⟩ := hrel
    have d1 := hCl.out wr hC.bel
    by_cases hlt : k < n
    · obtain ⟨p0, hOk⟩ := hPl.out wr hC.bel k (by omega)
      have i1 : decide ((k : Int) < (n : Int)) = true := by simp; omega
      have i2 : (k : Int) < 7 := by omega
      have i3 : (0 : Int) ≤ (k : Nat) := by omega
      have hl := hln.out k
      obtain ⟨p, cc, hvk⟩ := rows_form hOk
      rw [hvk] at p0
      have hab := alloc_b wr (.cells #[] TE)
      have p1 := (hab.cell (p := ⟨b, 12 + k, none⟩) (World.block_lt_of_cell? wr _ p0)).trans p0
      have hown : OwE wr.heap.size [] (.slice (some ⟨wr.heap.size, 0, none⟩) 0 0) (wr.alloc (.cells #[] TE)) := ⟨rfl, .inr ⟨wr.heap.size, 0, #[], rfl, Nat.le_refl _, heap_alloc_new _ _, Nat.le_refl _, by unfold maxLen; omega, rfl, rfl⟩⟩
      have hIs : IsE (wr.alloc (.cells #[] TE)) (.slice p (s.P k).l.length cc) (s.P k).l := by rw [← hvk]; exact (hOk.later hab).is
      have hput : Hid (∀ v W, OwE wr.heap.size (s.P k).l v W → (wr.alloc (.cells #[] TE)).grownBy W (some wr.heap.size) → W.cell? ⟨cb, 12 + k, none⟩ = some (vs' k) ∧ W.frozen? ⟨cb, 12 + k, none⟩ = false ∧ RCp base w cb s vs (updV vs' k v) (W.setCell ⟨cb, 12 + k, none⟩ v)) := Lib.hid fun v W hO hg => by
        have h2 := hC.later (own_below hown hg hab (Nat.le_refl _))
        exact ⟨(cell_of_row W cb _ _ TRP _ h2.box).trans (rbox_at s vs' k (by omega)).2.1, frozen_of_row W cb _ _ TRP h2.box, h2.put (by omega) (rows_base hO (Nat.le_trans hbase hC.bel.size)) fun g hg => Nat.le_trans hC.bel.size (World.ownsRow.lt hO g hg).1⟩
      replace hown := Lib.hid hown
      replace hIs := Lib.hid hIs
      have hsz1 := hab.size
      obtain ⟨ln, hlnn⟩ : ∃ ln, ln = (s.P k).l.length := ⟨_, rfl⟩
      rw [← hlnn] at p0 p1 hIs hl
      replace hlnn := Lib.hid hlnn
      have hv0 : ∃ a0 n0 c0, vs' k = .slice a0 n0 c0 := by obtain ⟨p, c, e⟩ := rows_form (hC.lst k (by omega)); exact ⟨p, _, c, e⟩
      clear hC hOk hvk hab hPl hCl
      as_aux_lemma =>
        go_wp2_with (at_builtin; refine wpList_append_l rfl _ _ rfl wr.heap.size _ _ [] (s.P k).l rfl rfl hown.out hIs.out (by decide) (by rw [← hlnn.out]; omega) hsz1 ?_; intro v6 w6 hO6 hg6 hv6; obtain ⟨y0, y1, y2⟩ := hput.out _ _ hO6 hg6; obtain ⟨a6, m6, c6, rfl, -⟩ := owe_form hO6; replace y2 := Lib.hid y2; replace hO6 := Lib.hid hO6; replace hg6 := Lib.hid hg6; clear hv6)
        go_roundw
        case rel => exact ⟨k + 1, _, by omega, by go_num, y2.out⟩
        case measure => simp [nOf]; omega
    · obtain rfl : k = n := by omega
      have i1 : decide ((k : Int) < (k : Int)) = false := by simp
      clear hCl hPl
      replace hC := Lib.hid hC
      go_wp2
      go_ret
      exact ⟨cb, vs', rfl, ⟨hC.out.box, hC.out.lst, hok.out⟩, by rw [hcb.out]; exact Nat.le_refl _, hC.out.bel, hC.out.fr⟩
end Go.Proofs.Ytffiooclkchoiaa.Prp
