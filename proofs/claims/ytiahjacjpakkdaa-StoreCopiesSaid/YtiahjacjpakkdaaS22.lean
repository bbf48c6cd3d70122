/- Ranges that are not valid; all keys; the sum. -/
import Derived.Test.YtiahjacjpakkdaaS21
import Derived.Test.YtiahjacjpakkdaaS04
namespace Go.Proofs.Ytiahjacjpakkdaa.Sto
open Go.RowKit Go.Maps Go.Lib Go.Shelf
open Cnt (Ct cA OkC)
open Rng (tx nameOk bl bl_eq bl_irrefl bl_trans)
set_option linter.unusedVariables false
set_option linter.unusedSimpArgs false
set_option maxRecDepth 20000
attribute [local go_sem] Oper.semAt_some

theorem in_bad {sb b : Nat} {M : List En} (r : Rng.Rg) (w : World) (x : Sx w sb b M) (hr : Rng.okR r = false) :
    Calls Try.prog 14 #[.pointer (some ⟨sb, 0, none⟩), .agg #[.string (tx r.f), .string (tx r.t)]] w fun e w' => e = .returned (.tuple #[.slice none 0 0, .int .i64 2]) ∧ Below w.heap.size w w' := by
  have hC := Lib.hid (fun W => Rng.check_any r W)
  have he : Rng.okE r = 2 := by unfold Rng.okE; rw [hr]; rfl
  rw [he] at hC
  obtain ⟨f, t⟩ := r
  obtain ⟨s1, hs1⟩ : ∃ s1, tx f = s1 := ⟨_, rfl⟩
  obtain ⟨s2, hs2⟩ : ∃ s2, tx t = s2 := ⟨_, rfl⟩
  simp only [hs1, hs2] at hC ⊢
  have hx1 := x.alloc (.cells #[.string s1, .string s2] 25)
  have hV := Lib.hid (valid_any _ hx1)
  have hr1 := Rng.bx_new w s1 s2
  obtain ⟨r0, r1⟩ := hr1.cells
  clear he hr
  go_enter Try.func14, Try.ntmps14
  go_wp2_with (first
    | (go_at_call 31; refine hV.out.mono ?_; rintro e w' ⟨rfl, rfl⟩)
    | (go_at_call 27; refine (hC.out _).mono ?_; rintro e w2 ⟨rfl, hb2⟩; have hr2 := hr1.later hb2))
  go_ret2
  exact ⟨rfl, hr2.bel⟩
theorem in_nv (p : Value) (s1 s2 : ByteArray) (w : World) (x : Nv p w) :
    Calls Try.prog 14 #[p, .agg #[.string s1, .string s2]] w fun e w' => e = .returned (.tuple #[.slice none 0 0, .int .i64 1]) ∧ Below w.heap.size w w' := by
  have hV := Lib.hid ((x.alloc (.cells #[.string s1, .string s2] 25)).valid)
  have hr1 := Rng.bx_new w s1 s2
  clear x
  go_enter Try.func14, Try.ntmps14
  go_wp2_with (go_at_call 31; refine hV.out.mono ?_; rintro e w' ⟨rfl, rfl⟩)
  go_ret2
  exact ⟨rfl, hr1.bel⟩
theorem in_all {M : List En} (h : ∀ p ∈ M, nameOk p.1 = true ∧ OkC p.2) : inM M ⟨[], []⟩ = keysM M := by
  unfold inM
  rw [List.filter_eq_self]
  intro k hk
  unfold keysM at hk
  obtain ⟨p, hp, rfl⟩ := List.mem_map.1 hk
  have hok : Rng.okR ⟨[], []⟩ = true := by decide
  rw [Rng.hasR_iff hok]
  exact ⟨(h p hp).1, Nat.zero_le _, Rng.lo_top _⟩
theorem keys_any {sb b : Nat} {M : List En} (w : World) (x : Sx w sb b M) :
    Calls Try.prog 18 #[.pointer (some ⟨sb, 0, none⟩)] w fun e w' => ∃ v, e = .returned v ∧ w'.ownsRow w.heap.size TS 1 v M.length (strs (keysM M)) ∧ Below w.heap.size w w' := by
  have hI := fun W (h : Sx W sb b M) => in_go ⟨[], []⟩ W h (by decide)
  rw [in_all x.ok] at hI
  have e1 : (keysM M).length = M.length := by simp [keysM]
  rw [e1] at hI
  have hx1 := x.alloc (.cells #[.string ⟨#[]⟩, .string ⟨#[]⟩] 25)
  have hI2 := Lib.hid (show Calls Try.prog 14 #[.pointer (some ⟨sb, 0, none⟩), .agg #[.string ⟨#[]⟩, .string ⟨#[]⟩]] _ _ from hI _ hx1)
  clear hI x
  go_enter Try.func18, Try.ntmps18
  go_wp2_with (go_at_call 14; refine hI2.out.mono ?_; rintro e w2 ⟨v, rfl, hrow, hb⟩)
  go_ret
  exact ⟨v, rfl, rows_base hrow (by simp), ((Below.refl _ w).alloc (Nat.le_refl _) _).trans (hb.mono (by simp))⟩
theorem keys_nv (p : Value) (w : World) (x : Nv p w) :
    Calls Try.prog 18 #[p] w fun e w' => e = .returned (.slice none 0 0) ∧ Below w.heap.size w w' := by
  have hI2 := Lib.hid (in_nv p ⟨#[]⟩ ⟨#[]⟩ _ (x.alloc (.cells #[.string ⟨#[]⟩, .string ⟨#[]⟩] 25)))
  clear x
  go_enter Try.func18, Try.ntmps18
  go_wp2_with (go_at_call 14; refine hI2.out.mono ?_; rintro e w2 ⟨rfl, hb⟩)
  go_ret
  exact ⟨rfl, ((Below.refl _ w).alloc (Nat.le_refl _) _).trans (hb.mono (by simp))⟩
theorem sum_nv (p : Value) (w : World) (x : Nv p w) :
    Calls Try.prog 15 #[p] w fun e w' => e = .returned (.tuple #[.int .i64 0, .int .i64 1]) ∧ Below w.heap.size w w' := by
  have hV := Lib.hid x.valid
  clear x
  go_enter Try.func15, Try.ntmps15
  go_wp2_with (go_at_call 31; refine hV.out.mono ?_; rintro e w' ⟨rfl, rfl⟩)
  go_ret2
  exact ⟨rfl, Below.refl _ _⟩
theorem quiet_nv (p : Value) (w : World) (x : Nv p w) :
    Calls Try.prog 20 #[p] w fun e w' => e = .returned (.bool false) ∧ Below w.heap.size w w' := by
  have hV := Lib.hid x.valid
  clear x
  go_enter Try.func20, Try.ntmps20
  go_wp2_with (go_at_call 31; refine hV.out.mono ?_; rintro e w' ⟨rfl, rfl⟩)
  go_ret
  exact ⟨rfl, Below.refl _ _⟩
end Go.Proofs.Ytiahjacjpakkdaa.Sto
