/- Join of any contents, Make. -/
import Derived.Test.YtojeccmnhgcmcaaDoorG07
namespace Go.Proofs.YtojeccmnhgcmcaaDoor.Frame
open Go.RowKit Go.ChangeShapes
open Crc (Hv more more_lt ret_u32)
set_option linter.unusedVariables false
set_option linter.unusedSimpArgs false

instance (c : List Nat) : Decidable (Short c) := inferInstanceAs (Decidable (c.length ≤ 65536))
def joinE (L : List (List Nat)) : Nat := if 10000 < L.length then 12 else if ∀ c ∈ L, Short c then 0 else 11
def joinL (L : List (List Nat)) : List Nat := if joinE L = 0 then rcs L else []
theorem joinE_ok {L : List (List Nat)} (h : L.length ≤ 10000) (hs : ∀ c ∈ L, Short c) : joinE L = 0 := by unfold joinE; rw [if_neg (by omega), if_pos hs]
theorem joinL_ok {L : List (List Nat)} (h : L.length ≤ 10000) (hs : ∀ c ∈ L, Short c) : joinL L = rcs L := by unfold joinL; rw [joinE_ok h hs, if_pos rfl]
theorem join_any (F : Nat → Prop) (v : Value) (L : List (List Nat)) (w : World) (hv : Bss w F v L) (hF : ∀ k, F k → k < w.heap.size) (hH : Hv w) (hL2 : L.length ≤ 9223372036854775807) :
    Calls Tryd.prog 55 #[v] w (JoinR w w.heap.size (joinL L) (joinE L : Nat)) := by
  by_cases h1 : 10000 < L.length
  · have e : joinE L = 12 := by unfold joinE; rw [if_pos h1]
    have e2 : joinL L = [] := by unfold joinL; rw [e, if_neg (by omega)]
    rw [e, e2]
    exact join_many F v L w hv h1 hL2
  · by_cases h2 : ∀ c ∈ L, Short c
    · rw [joinE_ok (by omega) h2, joinL_ok (by omega) h2]
      exact join_ok F v L w hv hF hH (by omega) h2
    · have e : joinE L = 11 := by unfold joinE; rw [if_neg h1, if_neg h2]
      have e2 : joinL L = [] := by unfold joinL; rw [e, if_neg (by omega)]
      rw [e, e2]
      exact join_long F v L w hv (by omega) h2

def makeE (c : List Nat) : Nat := if 65536 < c.length then 11 else 0
def makeL (c : List Nat) : List Nat := if 65536 < c.length then [] else rc c
theorem joinE_one (c : List Nat) : joinE [c] = makeE c := by
  unfold joinE makeE
  rw [if_neg (by simp)]
  by_cases h : 65536 < c.length
  · rw [if_pos h, if_neg]
    intro hs
    have := hs c (List.mem_cons_self ..)
    unfold Short at this
    omega
  · rw [if_neg h, if_pos]
    intro d hd
    rw [List.mem_singleton] at hd
    subst hd
    exact Nat.le_of_not_lt h
theorem joinL_one (c : List Nat) : joinL [c] = makeL c := by
  unfold joinL
  rw [joinE_one]
  unfold makeE makeL
  by_cases h : 65536 < c.length
  · rw [if_pos h, if_pos h, if_neg (by omega)]
  · rw [if_neg h, if_neg h, if_pos rfl]
    show rc c ++ [] = rc c
    rw [List.append_nil]
theorem make_any (F : Nat → Prop) (v : Value) (c : List Nat) (w : World) (hv : Bs w F v c) (hF : ∀ k, F k → k < w.heap.size) (hH : Hv w) :
    Calls Tryd.prog 48 #[v] w (JoinR w w.heap.size (makeL c) (makeE c : Nat)) := by
  have hb0 : ∀ o, Below w.heap.size w (w.alloc o) := fun o => (Below.refl _ _).alloc (Nat.le_refl _) _
  have hv0 := hv
  obtain ⟨h8, a, cap, rfl, _, _⟩ := hv0
  have hss : ∀ T, Bss (w.alloc (.cells #[.slice a c.length cap] T)) (fun k => F k ∨ k = w.heap.size) (.slice (some ⟨w.heap.size, 0, none⟩) 1 1) [c] := fun T =>
    ⟨_, 1, rfl, Nat.le_refl _, fun _ => ⟨w.heap.size, 0, rfl, .inr rfl, fun i hi => by
      have hi : i = 0 := by simpa using hi
      subst hi
      exact ⟨_, cell_of_row _ _ _ #[.slice a c.length cap] T (0, 0) (heap_alloc_new w _), (hv.kept (Same.of_below (hb0 _) hF)).wide fun k hk => .inl hk⟩⟩⟩
  have hJ := fun T => join_any _ _ [c] _ (hss T) (fun k hk => by rcases hk with hk | hk <;> simp <;> first | (have := hF k hk; omega) | omega) (hv_later hH (hb0 _)) (by simp)
  rw [joinE_one, joinL_one] at hJ
  unfold JoinR at hJ ⊢
  generalize makeL c = R at *
  generalize makeE c = E at *
  have HJ := Lib.hid hJ
  clear hJ
  go_enter Tryd.func48, Tryd.ntmps48
  go_wp2_with fail
  refine (HJ.out _).mono ?_
  rintro e w1 ⟨u, rfl, hm, hb1⟩
  have hm2 := hm.wide (base' := w.heap.size) (by simp)
  obtain ⟨a2, cap2, rfl⟩ := hm2.form
  have hm2 := Lib.hid hm2
  go_wp2
  go_ret2
  exact ⟨_, rfl, hm2.out, (hb0 _).trans (hb1.mono (by simp))⟩
end Go.Proofs.YtojeccmnhgcmcaaDoor.Frame
