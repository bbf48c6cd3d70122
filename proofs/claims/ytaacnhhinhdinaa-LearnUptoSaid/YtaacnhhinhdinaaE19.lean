/- What LearnUpto learns: plain facts; a block of truth values. -/
import Derived.Test.YtaacnhhinhdinaaE18
import Derived.Laws.MakeOwn
namespace Go.Proofs.Ytaacnhhinhdinaa.Lrn
open Go.RowKit Go.Maps Go.Lib
open Bal (TB bOk ckB ordV eqB eqB_t eqB_f eq_b alloc_b)
set_option linter.unusedVariables false
set_option linter.unusedSimpArgs false
set_option maxRecDepth 20000

def lt (k : Nat) : ByteArray := ⟨#[UInt8.ofNat (97 + k)]⟩
def ukn (k : Nat) : Kn := ⟨true, lt k, 0, 0, ⟨#[]⟩, 0⟩
def upM (b : Nat) (C : Nat → Bool) : List Et := ((List.range 40).filter fun k => decide (b ≤ k) && C k).map fun (k : Nat) => (⟨k, ukn k⟩ : Et)
def upS (b : Nat) (C : Nat → Bool) : St := ⟨3, b, upM b C⟩
def set1 (C : Nat → Bool) (k : Nat) : Nat → Bool := fun i => if i = k then true else C i
theorem mem_up {b : Nat} {C : Nat → Bool} {e : Et} : e ∈ upM b C ↔ ∃ k : Nat, k < 40 ∧ b ≤ k ∧ C k = true ∧ e = ⟨k, ukn k⟩ := by
  unfold upM
  rw [List.mem_map]
  constructor
  · rintro ⟨k, hk, rfl⟩
    obtain ⟨h1, h2⟩ := List.mem_filter.1 hk
    rw [Bool.and_eq_true] at h2
    exact ⟨k, List.mem_range.1 h1, of_decide_eq_true h2.1, h2.2, rfl⟩
  · rintro ⟨k, h1, h2, h3, rfl⟩
    exact ⟨k, List.mem_filter.2 ⟨List.mem_range.2 h1, by rw [decide_eq_true h2, h3]; rfl⟩, rfl⟩
theorem srt_up (b : Nat) (C : Nat → Bool) : Srt (upM b C) := by
  unfold upM
  refine List.pairwise_map.2 ((List.Pairwise.filter _ List.pairwise_lt_range).imp fun {x y} h => ?_)
  show (x : Int) < (y : Int)
  omega
theorem get_up (b : Nat) (C : Nat → Bool) (k : Nat) : getM (upM b C) k = if k < 40 ∧ b ≤ k ∧ C k = true then some ⟨k, ukn k⟩ else none := by
  split
  · rename_i h
    exact (get_iff (srt_up b C) _ _).2 ⟨mem_up.2 ⟨k, h.1, h.2.1, h.2.2, rfl⟩, rfl⟩
  · rename_i h
    rw [get_none]
    intro p hp he
    obtain ⟨j, h1, h2, h3, rfl⟩ := mem_up.1 hp
    have : j = k := by have : (j : Int) = (k : Int) := he; omega
    subst this
    exact h ⟨h1, h2, h3⟩
theorem at_up (b : Nat) (C : Nat → Bool) (k : Nat) : at' (upS b C) k = if k < 40 ∧ b ≤ k ∧ C k = true then ukn k else zK := by
  show gK (getM (upM b C) k) = _
  rw [get_up]
  split <;> rfl
theorem neg_up (b : Nat) (C : Nat → Bool) (k : Int) (h : k < 0) : getM (upM b C) k = none := by
  rw [get_none]
  intro p hp he
  obtain ⟨j, _, _, _, rfl⟩ := mem_up.1 hp
  have : (j : Int) = k := he
  omega
theorem lt_size (k : Nat) : (lt k).size ≤ 65536 := by show 1 ≤ 65536; decide
theorem up_late {b : Nat} {C : Nat → Bool} {k : Nat} (hk : k < 40) (h : k < b) : lrnE (upS b C) k (lt k) = 8 ∧ lrnS (upS b C) k (lt k) = upS b C := by
  have h1 : ckV (upS b C).b k (lt k) = 8 := by
    show ckV b k (lt k) = 8
    unfold ckV
    rw [if_pos (by omega), if_neg (by have := lt_size k; omega), if_pos (by omega)]
  have h2 : lrnE (upS b C) k (lt k) = 8 := by
    unfold lrnE
    rw [if_neg (by rw [h1]; decide), h1]
  exact ⟨h2, by unfold lrnS; rw [if_neg (by rw [h2]; decide)]⟩
theorem up_learn {b : Nat} {C : Nat → Bool} {k : Nat} (hk : k < 40) (h : ¬ k < b) : lrnE (upS b C) k (lt k) = 0 ∧ lrnS (upS b C) k (lt k) = upS b (set1 C k) := by
  have h1 : ckV (upS b C).b k (lt k) = 0 := by
    show ckV b k (lt k) = 0
    unfold ckV
    rw [if_pos (by omega), if_neg (by have := lt_size k; omega), if_neg (by omega)]
  have h3 : refV (at' (upS b C) k) (lt k) = false := by
    rw [at_up]
    split
    · unfold refV ukn
      simp only
      rw [eqT_t]
      rfl
    · rfl
  have h2 : lrnE (upS b C) k (lt k) = 0 := by
    unfold lrnE
    rw [if_pos h1, if_neg (by rw [h3]; decide)]
  refine ⟨h2, ?_⟩
  unfold lrnS
  rw [if_pos h2]
  show (⟨3, b, putM (upM b C) ⟨k, lrnK (at' (upS b C) k) (lt k)⟩⟩ : St) = ⟨3, b, upM b (set1 C k)⟩
  have e1 : lrnK (at' (upS b C) k) (lt k) = ukn k := by
    rw [at_up]
    split <;> rfl
  rw [e1]
  congr 1
  refine ext_M (srt_put (srt_up b C) _) (srt_up b _) fun j => ?_
  rw [get_put (srt_up b C)]
  by_cases hj : j < 0
  · rw [neg_up _ _ _ hj, neg_up _ _ _ hj, if_neg (by show ¬ j = (k : Int); omega)]
  · obtain ⟨i, rfl⟩ := Int.eq_ofNat_of_zero_le (show 0 ≤ j by omega)
    by_cases hik : i = k
    · subst hik
      rw [if_pos rfl, get_up, if_pos ⟨hk, by omega, if_pos rfl⟩]
    · rw [if_neg (by show ¬ (i : Int) = (k : Int); omega), get_up, get_up]
      have : set1 C k i = C i := if_neg hik
      rw [this]
theorem up_forget {b : Nat} {C : Nat → Bool} {u : Nat} (hu : u ≤ 4096) : forE u = 0 ∧ forS (upS b C) u = upS (max b u) C := by
  refine ⟨if_pos (by omega), ?_⟩
  unfold forS
  rw [if_pos (by omega)]
  show (⟨3, max (b : Int) (u : Int), frM (upM b C) u⟩ : St) = ⟨3, ((max b u : Nat) : Int), upM (max b u) C⟩
  have e1 : max (b : Int) (u : Int) = ((max b u : Nat) : Int) := by omega
  rw [e1]
  congr 1
  refine ext_M (srt_fr (srt_up b C) _) (srt_up _ C) fun j => ?_
  rw [get_fr (srt_up b C)]
  by_cases hj : j < 0
  · rw [neg_up _ _ _ hj, neg_up _ _ _ hj]
    split <;> rfl
  · obtain ⟨i, rfl⟩ := Int.eq_ofNat_of_zero_le (show 0 ≤ j by omega)
    rw [get_up, get_up]
    by_cases hiu : u ≤ i
    · rw [if_pos (by omega)]
      by_cases h : i < 40 ∧ b ≤ i ∧ C i = true
      · rw [if_pos h, if_pos ⟨h.1, by omega, h.2.2⟩]
      · rw [if_neg h, if_neg (fun h2 => h ⟨h2.1, by omega, h2.2.2⟩)]
    · rw [if_neg (by omega), if_neg (fun h2 => hiu (by omega))]
theorem up_t {b : Nat} {C : Nat → Bool} {k : Nat} (hb : b ≤ k) (hk : k < 40) (hC : C k = true) : upTo (upM b C) (k : Int) (4096 - (k : Int)).toNat = upTo (upM b C) ((k + 1 : Nat) : Int) (4096 - ((k + 1 : Nat) : Int)).toNat := by
  rw [show (4096 - (k : Int)).toNat = (4096 - ((k + 1 : Nat) : Int)).toNat + 1 by omega]
  have := upTo_chosen (upM b C) (k : Int) (4096 - ((k + 1 : Nat) : Int)).toNat (by rw [get_up, if_pos ⟨hk, hb, hC⟩]; rfl)
  exact this
theorem up_f {b : Nat} {C : Nat → Bool} {k : Nat} (hC : C k = false) (j : Nat) : upTo (upM b C) (k : Int) j = k := by
  refine upTo_open _ _ _ ?_
  rw [get_up, if_neg (by rw [hC]; simp)]
theorem up_v (b : Nat) (C : Nat → Bool) : uptoV (upS b C) = upTo (upM b C) (b : Int) (4096 - (b : Int)).toNat := rfl
theorem up_new : upS 0 (fun _ => false) = newS 3 := by
  show (⟨3, 0, upM 0 fun _ => false⟩ : St) = ⟨3, 0, []⟩
  congr 1

/-! A block of truth values. -/
abbrev TBo : TypeId := 4
def bls (C : Nat → Bool) : List Value := (List.range 100).map fun i => Value.bool (C i)
def BlC (w : World) (g : Nat) (C : Nat → Bool) : Prop := w.heap[g]? = some (.cells (bls C).toArray TBo (0, 0))
theorem BlC.cell {w : World} {g : Nat} {C : Nat → Bool} (h : BlC w g C) {i : Nat} (hi : i < 100) : w.cell? ⟨g, i, none⟩ = some (.bool (C i)) := by
  have h' : w.heap[g]? = some (.cells (bls C).toArray TBo (0, 0)) := h
  simp [World.cell?, h', bls, List.getElem?_map, List.getElem?_range hi]
theorem BlC.frozen {w : World} {g : Nat} {C : Nat → Bool} (h : BlC w g C) (i : Nat) : w.frozen? ⟨g, i, none⟩ = false := frozen_of_row w g i _ TBo h
theorem BlC.lt {w : World} {g : Nat} {C : Nat → Bool} (h : BlC w g C) : g < w.heap.size := (Array.getElem?_eq_some_iff.1 h).1
theorem BlC.set {w : World} {g : Nat} {C : Nat → Bool} (h : BlC w g C) {k : Nat} (hk : k < 100) : BlC (w.setCell ⟨g, k, none⟩ (.bool true)) g (set1 C k) := by
  have h1 := Go.heap_setCell_same w g k _ TBo (.bool true) h
  have e : (bls C).toArray.setIfInBounds k (Value.bool true) = (bls (set1 C k)).toArray := by
    rw [List.setIfInBounds_toArray]
    congr 1
    refine List.ext_getElem? fun i => ?_
    unfold bls
    rw [List.getElem?_set, List.getElem?_map, List.getElem?_map]
    by_cases hik : k = i
    · subst hik
      rw [if_pos rfl, List.getElem?_range hk]
      simp [hk, set1]
    · rw [if_neg hik]
      by_cases hi : i < 100
      · rw [List.getElem?_range hi]
        simp [set1, Ne.symm hik]
      · rw [List.getElem?_eq_none (by simpa using hi)]
        rfl
  rw [e] at h1
  exact h1
theorem info_bo : (Try.prog.info? TBo).map (fun i => (i.zero, i.size, i.bytes)) = some (some (.bool false), 1, 1) := by kernel_rfl
theorem made_bls : (madeCells (Value.bool false).cells (100 * 1)).toList = bls (fun _ => false) := by
  unfold madeCells bls
  rw [Array.toList_map, Array.toList_range]
  rfl
theorem made_blc {w W : World} (h : W.ownsRow w.heap.size TBo 1 (.slice (some ⟨w.heap.size, 0, none⟩) 100 100) 100 (madeCells (Value.bool false).cells (100 * 1)).toList) : BlC W w.heap.size (fun _ => false) := by
  rcases h.2 with ⟨h0, _⟩ | ⟨g, cap, cur, hv, _, hg, _, _, hs, hx⟩
  · cases h0
  · injection hv with h1 h2 h3
    injection h1 with h1
    injection h1 with h1
    subst h1 h3
    rw [made_bls] at hx
    have e : cur.toList = bls (fun _ => false) := by
      rw [← hx, List.take_of_length_le (by rw [Array.length_toList]; omega)]
    have e2 : cur = (bls fun _ => false).toArray := by rw [← e]
    rw [e2] at hg
    exact hg
theorem WAt.blc {w W W' : World} {sb mb g : Nat} {s : St} {C : Nat → Bool} (h : WAt w sb mb s W) (hk : Keeps (KL sb mb) W W') (hg : BlC W g C) : BlC W' g C :=
  (hk.block g hg.lt (h.ax.apart hg (by decide))).trans hg
theorem BlC.later {W W' : World} {g : Nat} {C : Nat → Bool} (h : BlC W g C) (hb : Below W.heap.size W W') : BlC W' g C := (hb.block g h.lt).trans h
theorem WAt.put {w W : World} {sb mb g k : Nat} {s : St} {C : Nat → Bool} (h : WAt w sb mb s W) (hg : BlC W g C) (hwg : w.heap.size ≤ g) (v : Value) : WAt w sb mb s (W.setCell ⟨g, k, none⟩ v) := by
  have hk : Keeps (fun i => i = g) W (W.setCell ⟨g, k, none⟩ v) := (Keeps.refl (fun i => i = g) W).setCell (p := ⟨g, k, none⟩) (.inl rfl) v
  have ha := h.ax.apart hg (by decide)
  exact ⟨h.ax.kept hk (fun e => ha (.inl e.symm)) (fun e => ha (.inr e.symm)), h.bel.setCell hwg v, h.hs, h.hm⟩
end Go.Proofs.Ytaacnhhinhdinaa.Lrn
