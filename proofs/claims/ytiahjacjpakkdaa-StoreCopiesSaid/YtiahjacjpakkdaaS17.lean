/- What Put refuses; Put as a whole. -/
import Derived.Test.YtiahjacjpakkdaaS16
namespace Go.Proofs.Ytiahjacjpakkdaa.Sto
open Go.RowKit Go.Maps Go.Lib Go.Shelf
open Cnt (Ct cA OkC chC appC okC ckE)
open Rng (tx nameOk bl bl_eq bl_irrefl bl_trans)
set_option linter.unusedVariables false
set_option linter.unusedSimpArgs false
set_option maxRecDepth 20000

theorem put_nv (p : Value) (s : ByteArray) (v u d l g : Int) (w : World) (x : Nv p w) :
    Calls Try.prog 16 #[p, .string s, cA v u d l g] w fun e w' => e = .returned (.int .i64 1) ∧ Below w.heap.size w w' := by
  have hV := Lib.hid ((x.alloc (Cnt.cRow v u d l g)).valid)
  have hy1 := Cnt.cx_new w v u d l g
  clear x
  go_enter Try.func16, Try.ntmps16
  go_wp2_with (go_at_call 31; refine hV.out.mono ?_; rintro e w' ⟨rfl, rfl⟩)
  go_ret
  exact ⟨rfl, hy1.bel⟩
theorem put_14 {sb b : Nat} {M : List En} (k : List UInt8) (v u d l g : Int) (w : World) (x : Sx w sb b M) (hk : nameOk k = false) :
    Calls Try.prog 16 #[.pointer (some ⟨sb, 0, none⟩), .string (tx k), cA v u d l g] w fun e w' => e = .returned (.int .i64 14) ∧ Below w.heap.size w w' := by
  have hx1 := x.alloc (Cnt.cRow v u d l g)
  have hy1 := Cnt.cx_new w v u d l g
  have hV := Lib.hid (valid_any _ hx1)
  have hN := Lib.hid (fun W => Rng.name_any k W)
  rw [hk] at hN
  generalize tx k = s at *
  clear x hk
  go_enter Try.func16, Try.ntmps16
  go_wp2_with (first
    | (go_at_call 31; refine hV.out.mono ?_; rintro e w' ⟨rfl, rfl⟩)
    | (go_at_call 25; refine (hN.out _).mono ?_; rintro e w2 ⟨rfl, hb2⟩; have hy2 := hy1.later hb2))
  go_ret
  exact ⟨rfl, hy2.bel⟩
theorem put_2 {sb b : Nat} {M : List En} (k : List UInt8) (v u d l g : Int) (w : World) (x : Sx w sb b M) (hk : nameOk k = true) (hc : ¬ OkC ⟨v, u, d, l, g⟩) :
    Calls Try.prog 16 #[.pointer (some ⟨sb, 0, none⟩), .string (tx k), cA v u d l g] w fun e w' => e = .returned (.int .i64 2) ∧ Below w.heap.size w w' := by
  have hx1 := x.alloc (Cnt.cRow v u d l g)
  have hy1 := Cnt.cx_new w v u d l g
  have hV := Lib.hid (valid_any _ hx1)
  have hN := Lib.hid (fun W => Rng.name_any k W)
  rw [hk] at hN
  have hC := Lib.hid (fun W => Cnt.chk_no hc W)
  generalize tx k = s at *
  clear x hk hc
  go_enter Try.func16, Try.ntmps16
  go_wp2_with (first
    | (go_at_call 31; refine hV.out.mono ?_; rintro e w' ⟨rfl, rfl⟩)
    | (go_at_call 25; refine (hN.out _).mono ?_; rintro e w2 ⟨rfl, hb2⟩; have hy2 := hy1.later hb2; obtain ⟨d0, d1, d2, d3, d4⟩ := hy2.cells)
    | (go_at_call 26; refine (hC.out _).mono ?_; rintro e w3 ⟨rfl, hb3⟩; have hy3 := hy2.later hb3))
  go_ret
  exact ⟨rfl, hy3.bel⟩
theorem put_6 {sb b : Nat} {M : List En} (k : List UInt8) (v u d l g : Int) (c : Ct) (w : World) (x : Sx w sb b M) (hk : nameOk k = true) (hc : OkC ⟨v, u, d, l, g⟩) (hr : getM M k = some c) :
    Calls Try.prog 16 #[.pointer (some ⟨sb, 0, none⟩), .string (tx k), cA v u d l g] w fun e w' => e = .returned (.int .i64 6) ∧ Below w.heap.size w w' := by
  obtain ⟨cv, cu, cd, cl, ch⟩ := c
  have hx1 := x.alloc (Cnt.cRow v u d l g)
  have hy1 := Cnt.cx_new w v u d l g
  have c0 := hx1.cell
  have hV := Lib.hid (valid_any _ hx1)
  have hN := Lib.hid (fun W => Rng.name_any k W)
  rw [hk] at hN
  have hC := Lib.hid (fun W => Cnt.chk_ok hc W)
  have hkl := name_len hk
  obtain ⟨s, hs⟩ : ∃ s, s = tx k := ⟨_, rfl⟩
  rw [← hs] at hN ⊢
  replace hs := Lib.hid hs
  replace hr := Lib.hid hr
  clear x hk hc
  go_enter Try.func16, Try.ntmps16
  go_wp2_with (first
    | (go_at_call 31; refine hV.out.mono ?_; rintro e w' ⟨rfl, rfl⟩)
    | (go_at_call 25; refine (hN.out _).mono ?_; rintro e w2 ⟨rfl, hb2⟩; have hx2 := hx1.later hb2; have hy2 := hy1.later hb2; obtain ⟨d0, d1, d2, d3, d4⟩ := hy2.cells)
    | (go_at_call 26; refine (hC.out _).mono ?_; rintro e w3 ⟨rfl, hb3⟩; have hx3 := hx2.later hb3; have hy3 := hy2.later hb3; have c3 := hx3.cell; have hy4 := hy3.alloc (Cnt.cRow cv cu cd cl ch))
    | (refine wpList_get rfl _ _ rfl hx3 rfl hkl rfl hs.out hr.out ?_))
  go_ret
  exact ⟨rfl, hy4.bel⟩
theorem put_4 {sb b : Nat} {M : List En} (k : List UInt8) (v u d l g : Int) (w : World) (x : Sx w sb b M) (hk : nameOk k = true) (hc : OkC ⟨v, u, d, l, g⟩) (hr : getM M k = none) (hl : 64 ≤ M.length) :
    Calls Try.prog 16 #[.pointer (some ⟨sb, 0, none⟩), .string (tx k), cA v u d l g] w fun e w' => e = .returned (.int .i64 4) ∧ Below w.heap.size w w' := by
  have hx1 := x.alloc (Cnt.cRow v u d l g)
  have hy1 := Cnt.cx_new w v u d l g
  have c0 := hx1.cell
  have hV := Lib.hid (valid_any _ hx1)
  have hN := Lib.hid (fun W => Rng.name_any k W)
  rw [hk] at hN
  have hC := Lib.hid (fun W => Cnt.chk_ok hc W)
  have hkl := name_len hk
  obtain ⟨s, hs⟩ : ∃ s, s = tx k := ⟨_, rfl⟩
  rw [← hs] at hN ⊢
  replace hs := Lib.hid hs
  replace hr := Lib.hid hr
  have hlb : decide (64 ≤ ((M.length : Nat) : Int)) = true := by simp; omega
  have hL := Lib.hid (fun W (h : Sx W sb b M) => by have := h.own.len Try.underlying32 3; rw [size_DM] at this; exact this)
  clear x hk hc hl
  go_enter Try.func16, Try.ntmps16
  go_wp2_with (first
    | (go_at_call 31; refine hV.out.mono ?_; rintro e w' ⟨rfl, rfl⟩)
    | (go_at_call 25; refine (hN.out _).mono ?_; rintro e w2 ⟨rfl, hb2⟩; have hx2 := hx1.later hb2; have hy2 := hy1.later hb2; obtain ⟨d0, d1, d2, d3, d4⟩ := hy2.cells)
    | (go_at_call 26; refine (hC.out _).mono ?_; rintro e w3 ⟨rfl, hb3⟩; have hx3 := hx2.later hb3; have hy3 := hy2.later hb3; have c3 := hx3.cell; have hx4 := hx3.alloc (Cnt.cRow 0 0 0 0 0); have hy4 := hy3.alloc (Cnt.cRow 0 0 0 0 0); have c4 := hx4.cell; have l4 := hL.out _ hx4)
    | (refine wpList_get rfl _ _ rfl hx3 rfl hkl rfl hs.out hr.out ?_))
  go_ret
  exact ⟨rfl, hy4.bel⟩
def putS (M : List En) (k : List UInt8) (c : Ct) : List En := if putE M k c = 0 then putM M k c else M
theorem put_any {sb b : Nat} {M : List En} (k : List UInt8) (v u d l g : Int) (w : World) (x : Sx w sb b M) :
    Calls Try.prog 16 #[.pointer (some ⟨sb, 0, none⟩), .string (tx k), cA v u d l g] w fun e w' => e = .returned (.int .i64 (putE M k ⟨v, u, d, l, g⟩)) ∧ Sx w' sb b (putS M k ⟨v, u, d, l, g⟩) ∧ w.grownBy w' (some b) := by
  have fin : ∀ n : Int, n ≠ 0 → putE M k ⟨v, u, d, l, g⟩ = n → Calls Try.prog 16 #[.pointer (some ⟨sb, 0, none⟩), .string (tx k), cA v u d l g] w (fun e w' => e = .returned (.int .i64 n) ∧ Below w.heap.size w w') →
      Calls Try.prog 16 #[.pointer (some ⟨sb, 0, none⟩), .string (tx k), cA v u d l g] w fun e w' => e = .returned (.int .i64 (putE M k ⟨v, u, d, l, g⟩)) ∧ Sx w' sb b (putS M k ⟨v, u, d, l, g⟩) ∧ w.grownBy w' (some b) := fun n hn he h => by
    refine h.mono ?_
    rintro e w' ⟨rfl, hb⟩
    refine ⟨by rw [he], ?_, (grown_b hb).but _⟩
    unfold putS
    rw [he, if_neg hn]
    exact x.later hb
  by_cases hk : nameOk k = true
  · by_cases hc : OkC ⟨v, u, d, l, g⟩
    · cases hr : getM M k with
      | some c => exact fin 6 (by decide) (by unfold putE; rw [if_pos hk, if_pos (Cnt.okC_t hc), hr]; rfl) (put_6 k v u d l g c w x hk hc hr)
      | none =>
        by_cases hl : 64 ≤ M.length
        · exact fin 4 (by decide) (by unfold putE; rw [if_pos hk, if_pos (Cnt.okC_t hc), hr, if_neg (by simp), if_pos hl]) (put_4 k v u d l g w x hk hc hr hl)
        · have he : putE M k ⟨v, u, d, l, g⟩ = 0 := by unfold putE; rw [if_pos hk, if_pos (Cnt.okC_t hc), hr, if_neg (by simp), if_neg hl]
          unfold putS
          rw [he, if_pos rfl]
          exact put_yes k v u d l g w x hk hc hr (by omega)
    · exact fin 2 (by decide) (by unfold putE; rw [if_pos hk, if_neg (by rw [Cnt.okC_f hc]; simp)]) (put_2 k v u d l g w x hk hc)
  · have hk' : nameOk k = false := by simpa using hk
    exact fin 14 (by decide) (by unfold putE; rw [if_neg hk]) (put_14 k v u d l g w x hk')
end Go.Proofs.Ytiahjacjpakkdaa.Sto
