/- Cover. -/
import Derived.Test.YtocencmdfppkaaaR13
import Derived.Laws.EntriesVeiled
namespace Go.Proofs.Ytocencmdfppkaaa.Rng
open Go.RowKit Go.Lib
set_option linter.unusedVariables false
set_option linter.unusedSimpArgs false
set_option maxRecDepth 20000

def CoverIs (L : List Rg) (z : Bool) (c : Int) : Prop :=
  (64 < L.length ∧ z = false ∧ c = 12) ∨ (L.length ≤ 64 ∧ L.all okR = false ∧ z = false ∧ c = 2) ∨
  (L.length ≤ 64 ∧ L.all okR = true ∧ c = 0 ∧ ∃ M, Sorts L M ∧ z = (decide (0 < L.length) && followF [] M))
def GivesCover (L : List Rg) (w : World) (e : Ending) (w' : World) : Prop := ∃ z c, e = .returned (.tuple #[.bool z, .int .i64 c]) ∧ CoverIs L z c ∧ Below w.heap.size w w'
abbrev fnE (n : Nat) : Value := .func (.func 53) #[] #[.pointer (some ⟨n, 0, none⟩)]
theorem three_boxes (w : World) (v : Value) :
    (((w.alloc (.cells #[.int .i64 (-1)] 3)).alloc (.cells #[fnE w.heap.size] 53)).alloc (.cells #[v] 36)).cell? ⟨w.heap.size, 0, none⟩ = some (.int .i64 (-1)) ∧
    (((w.alloc (.cells #[.int .i64 (-1)] 3)).alloc (.cells #[fnE w.heap.size] 53)).alloc (.cells #[v] 36)).cell? ⟨w.heap.size + 1, 0, none⟩ = some (fnE w.heap.size) ∧
    (((w.alloc (.cells #[.int .i64 (-1)] 3)).alloc (.cells #[fnE w.heap.size] 53)).alloc (.cells #[v] 36)).cell? ⟨w.heap.size + 1 + 1, 0, none⟩ = some v := by
  have h1 := heap_alloc_new w (.cells #[.int .i64 (-1)] 3)
  have h2 := heap_alloc_new (w.alloc (.cells #[.int .i64 (-1)] 3)) (.cells #[fnE w.heap.size] 53)
  have h3 := heap_alloc_new ((w.alloc (.cells #[.int .i64 (-1)] 3)).alloc (.cells #[fnE w.heap.size] 53)) (.cells #[v] 36)
  rw [World.size_alloc] at h2
  rw [World.size_alloc, World.size_alloc] at h3
  refine ⟨cell_of_row _ _ 0 #[.int .i64 (-1)] 3 (0, 0) ?_, cell_of_row _ _ 0 #[fnE w.heap.size] 53 (0, 0) ?_, cell_of_row _ _ 0 #[v] 36 (0, 0) h3⟩
  · rw [heap_alloc_old _ _ (by simp; omega), heap_alloc_old _ _ (by simp)]; exact h1
  · rw [heap_alloc_old _ _ (by simp)]; exact h2
set_option maxHeartbeats 1000000 in
theorem cover_any (v : Value) (L : List Rg) (w : World) (hv : Rs w v L) (hlen : L.length ≤ 1000) (hvb : ∀ k, v.ownBlock = some k → k < w.heap.size) :
    Calls Try.prog 30 #[v] w (GivesCover L w) := by
  have hA := Lib.hid (all_any v L w hv hlen)
  have hv' := hv
  obtain ⟨a, cap, rfl, hc⟩ := hv'
  clear hc
  by_cases h64 : 64 < L.length
  · have b1 : decide (64 < (L.length : Int)) = true := by simp; omega
    have b1' : decide (64 < L.length) = true := by simp; omega
    have hC : CoverIs L false 12 := .inl ⟨h64, rfl, rfl⟩
    replace hC := Lib.hid hC
    replace h64 := Lib.hid h64
    generalize L.length = n at *
    go_enter Try.func30, Try.ntmps30
    go_wp2
    go_ret2
    exact ⟨_, _, rfl, hC.out, Below.refl _ _⟩
  · have b1 : decide (64 < (L.length : Int)) = false := by simp; omega
    have b1' : decide (64 < L.length) = false := by simp; omega
    cases ho : L.all okR with
    | false =>
      have hC : CoverIs L false 2 := .inr (.inl ⟨by omega, ho, rfl, rfl⟩)
      replace hC := Lib.hid hC
      have hA := Lib.hid (show Calls Try.prog 38 #[.slice a L.length cap] w fun e w' => e = .returned (.int .i64 2) ∧ Below w.heap.size w w' by
        have := hA.out
        unfold okL at this
        rw [ho] at this
        exact this)
      clear hv hvb ho
      replace h64 := Lib.hid h64
      generalize L.length = n at *
      go_enter Try.func30, Try.ntmps30
      go_wp2_with (go_at_call 38; refine hA.out.mono ?_; rintro e w1 ⟨rfl, hb1⟩)
      go_ret2
      exact ⟨_, _, rfl, hC.out, hb1⟩
    | true =>
      have hA := Lib.hid (show Calls Try.prog 38 #[.slice a L.length cap] w fun e w' => e = .returned (.int .i64 0) ∧ Below w.heap.size w w' by
        have := hA.out
        unfold okL at this
        rw [ho] at this
        exact this)
      have hF : ∀ (W1 W4 : World) (u : Value) (M : List Rg), Rs W4 u M → M.length ≤ 1000 → Calls Try.prog 46 #[u] W4 fun e w' => e = .returned (.bool (followF [] M)) ∧ Below W4.heap.size W4 w' := fun _ W4 u M h hl => follow_any u M W4 h hl
      have hS : ∀ (w1 : World), Below w.heap.size w w1 → Calls Try.prog 43 #[.func (.func 59) #[] #[.pointer (some ⟨w1.heap.size + 1 + 1, 0, none⟩)], .func (.func 45) #[] #[.pointer (some ⟨w1.heap.size + 1, 0, none⟩)]]
          (((w1.alloc (.cells #[.int .i64 (-1)] 3)).alloc (.cells #[fnE w1.heap.size] 53)).alloc (.cells #[.slice a L.length cap] 36)) (fun e w' => ∃ u M, e = .returned u ∧ Sorts L M ∧ M.length = L.length ∧ Rs w' u M ∧ Below w.heap.size w w') := by
        intro w1 hb1
        obtain ⟨k0, k1, k2⟩ := three_boxes w1 (.slice a L.length cap)
        have hbl : Below w.heap.size w (((w1.alloc (.cells #[.int .i64 (-1)] 3)).alloc (.cells #[fnE w1.heap.size] 53)).alloc (.cells #[.slice a L.length cap] 36)) :=
          ((hb1.alloc hb1.size _).alloc (by have := hb1.size; simp; omega) _).alloc (by have := hb1.size; simp; omega) _
        refine (sortedFunc_any (.slice a L.length cap) L _ (hv.later hbl) hlen (w1.heap.size + 1 + 1) ?_ k2 ⟨w1.heap.size + 1, 0, none⟩ ⟨w1.heap.size, 0, none⟩ k1 k0).mono ?_
        · rintro k (hk | rfl)
          · have := hvb k hk
            have := hbl.size
            omega
          · simp
        · rintro e w' ⟨u, M, rfl, hM, hR, hb⟩
          exact ⟨u, M, rfl, hM, hM.1.length_eq, hR, hbl.trans (hb.mono hbl.size)⟩
      have hC : ∀ M, Sorts L M → CoverIs L (decide (0 < L.length) && followF [] M) 0 := fun M hM => .inr (.inr ⟨by omega, ho, rfl, M, hM, rfl⟩)
      replace hC := Lib.hid hC
      replace hS := Lib.hid hS
      replace hF := Lib.hid hF
      clear hv hvb ho
      replace h64 := Lib.hid h64
      by_cases h0 : 0 < L.length
      · have d1 : decide (0 < (L.length : Int)) = true := by simp; omega
        have d1' : decide (0 < L.length) = true := by simp; omega
        rw [d1'] at hC
        replace h0 := Lib.hid h0
        replace hlen := Lib.hid hlen
        generalize L.length = n at *
        go_enter Try.func30, Try.ntmps30
        go_wp2_with (first
          | (go_at_call 38; refine hA.out.mono ?_; rintro e w1 ⟨rfl, hb1⟩)
          | (go_at_call 37; refine (ends_any _ _).mono ?_; rintro e w' ⟨rfl, rfl⟩)
          | (go_at_call 44; refine (values_any _ _ _ _).mono ?_; rintro e w' ⟨rfl, rfl⟩)
          | (go_at_call 43; refine (hS.out _ hb1).mono ?_; rintro e w2 ⟨u, M, rfl, hM, hml, hR, hb2⟩; obtain ⟨ua, ucap, hu, _⟩ := id hR; rw [hml] at hu; subst hu; replace hml := Lib.hid hml)
          | (go_at_call 46; refine (hF.out w _ _ M hR (Nat.le_trans (Nat.le_of_eq hml.out) hlen.out)).mono ?_; rintro e w3 ⟨rfl, hb3⟩))
        go_ret2
        exact ⟨_, _, rfl, by have := hC.out M hM; rwa [Bool.true_and] at this, hb2.trans (hb3.mono hb2.size)⟩
      · have d1 : decide (0 < (L.length : Int)) = false := decide_eq_false (by omega)
        have d1' : decide (0 < L.length) = false := decide_eq_false (by omega)
        rw [d1'] at hC
        replace h0 := Lib.hid h0
        replace hlen := Lib.hid hlen
        generalize L.length = n at *
        go_enter Try.func30, Try.ntmps30
        go_wp2_with (first
          | (go_at_call 38; refine hA.out.mono ?_; rintro e w1 ⟨rfl, hb1⟩)
          | (go_at_call 37; refine (ends_any _ _).mono ?_; rintro e w' ⟨rfl, rfl⟩)
          | (go_at_call 44; refine (values_any _ _ _ _).mono ?_; rintro e w' ⟨rfl, rfl⟩)
          | (go_at_call 43; refine (hS.out _ hb1).mono ?_; rintro e w2 ⟨u, M, rfl, hM, hml, hR, hb2⟩; obtain ⟨ua, ucap, hu, _⟩ := id hR; rw [hml] at hu; subst hu; replace hml := Lib.hid hml))
        go_ret2
        exact ⟨_, _, rfl, hC.out M hM, hb2⟩
end Go.Proofs.Ytocencmdfppkaaa.Rng
