/- Nodes, Upto, Ready, Ballot, New. -/
import Derived.Test.YtffiooclkchoiaaP04
namespace Go.Proofs.Ytffiooclkchoiaa.Prp
open Go.RowKit Go.Lib
open Bal (TB bOk ckB ordV eqB eqB_t eqB_f eq_b alloc_b check_any order_any)
set_option linter.unusedVariables false
set_option linter.unusedSimpArgs false
set_option maxRecDepth 20000

def nOf : Value → Nat
  | .int _ k => k.toNat
  | _ => 0
theorem or_all {n x k : Nat} (h7 : n ≤ 7) (hx : x ≤ Quo.all1 n) (hk : k < n) : x ||| 2 ^ k ≤ Quo.all1 n := by
  have e : Quo.all1 n = 2 ^ n - 1 := rfl
  have h : 0 < 2 ^ n := Nat.two_pow_pos n
  have := Nat.or_lt_two_pow (x := x) (y := 2 ^ k) (n := n) (by omega) (Nat.pow_lt_pow_right (by omega) hk)
  omega
theorem nodes_in {s : St} (h : OkS s) : ∀ k, nodesK s.P k ≤ Quo.all1 s.n.toNat
  | 0 => Nat.zero_le _
  | k + 1 => by
    have ih := nodes_in h k
    have h7 := h.n7
    have h1 := h.n1
    unfold nodesK
    split
    · rename_i ha
      have := (h.on k ha).1
      exact or_all (by omega) ih (by omega)
    · exact ih
theorem ck_set {n x : Nat} (h1 : 1 ≤ n) (h7 : n ≤ 7) (h : x ≤ Quo.all1 n) : Quo.ckI n [x] = 0 := by rw [Quo.ckI_in h1 h7]; exact Quo.ckL1_t h
theorem wi_or {n : Int} {x k : Nat} (h1 : 1 ≤ n) (h7 : n ≤ 7) (h : x ≤ Quo.all1 n.toNat) (hk : (k : Int) < n) : Quo.wiV x k n = x ||| 2 ^ k := by
  obtain ⟨m, rfl⟩ := Int.eq_ofNat_of_zero_le (show 0 ≤ n by omega)
  rw [Int.toNat_natCast] at h
  have ho : Quo.wiO x k m := ⟨ck_set (by omega) (by omega) h, by omega, hk⟩
  unfold Quo.wiV
  rw [if_pos ho, Int.toNat_natCast]
theorem all_lt {n : Int} {x : Nat} (h7 : n ≤ 7) (h : x ≤ Quo.all1 n.toNat) : x < 18446744073709551616 := by
  have := Quo.all1_7 (n := n.toNat) (by omega)
  omega
set_option maxHeartbeats 1000000 in
theorem nodes_any {base : Nat} {w : World} {b : Nat} {vs : Nat → Value} {s : St} (x : Px base w b vs s) :
    Calls Try.prog 25 #[.pointer (some ⟨b, 0, none⟩)] w fun e w' => e = .returned (.int .u64 (nodesK s.P 7 : Nat)) ∧ Below w.heap.size w w' := by
  have hV := Lib.hid x.valid
  have hL := Lib.hid (fun (j : Nat) (v : Value) h => x.arr j v h)
  have hc := Lib.hid x.cells.1
  have hb := x.lt
  have hI : Hid (∀ k : Nat, k < 7 → ∃ p l c, ∀ W, (Instr.index TAr (.agg (arr s.P vs)) (.int .i64 (k : Nat))).run Try.prog W = .ok (.agg #[.bool (s.P k).a, .slice p l c, .int .i64 (s.P k).u]) W) := Lib.hid fun k h => by
    obtain ⟨p, c, e⟩ := rows_form (x.lst k h)
    exact ⟨p, _, c, fun W => by rw [← e]; exact index_any s.P vs k h W⟩
  have hN := Lib.hid (nodes_in x.ok)
  have hon := Lib.hid (fun i h => (x.ok.on i h).1)
  have h1 := x.ok.n1
  have h7 := x.ok.n7
  clear x
  generalize s.P = P at *
  generalize s.n = n at *
  generalize hA : arr P vs = A at *
  have hsz : A.size = 21 := by rw [← hA]; rfl
  clear hA
  replace hsz := Lib.hid hsz
  replace h1 := Lib.hid h1
  replace h7 := Lib.hid h7
  go_enter Try.func25, Try.ntmps25
  go_wp2_with (first
    | (go_at_call 33; refine hV.out.mono ?_; rintro e w' ⟨rfl, rfl⟩)
    | (refine load_sub rfl _ rfl b 4 rfl A hsz.out hL.out ?_))
  go_loopw [3, 13] (fun a i wr => ∃ k : Nat, k ≤ 7 ∧ a = .int .u64 (nodesK P k : Nat) ∧ i = .int .i64 k ∧ Below w.heap.size w wr) (fun _ i _ => 7 - nOf i)
  case atStart => exact ⟨0, by omega, rfl, rfl, Below.refl _ _⟩
  case round =>
    obtain ⟨k, hk, rfl, rfl, hB⟩ := hrel
    by_cases hlt : k < 7
    · obtain ⟨p, l, c, hIk⟩ := hI.out k hlt
      have hcr := (hB.cell (p := ⟨b, 0, none⟩) hb).trans hc.out
      have hB1 := Lib.hid (hB.alloc hB.size (.cells #[.bool (P k).a, .slice p l c, .int .i64 (P k).u] TPm))
      have hc1 := ((alloc_b wr (.cells #[.bool (P k).a, .slice p l c, .int .i64 (P k).u] TPm)).cell (p := ⟨b, 0, none⟩) (by have := hB.size; show b < _; omega)).trans hcr
      have hx := Lib.hid (hN.out k)
      have hW : Hid (∀ W, (P k).a = true → Calls Try.prog 40 #[.int .u64 (nodesK P k : Nat), .int .i64 (k : Nat), .int .i64 n] W fun e w' => (∃ y, e = .returned (.tuple #[.int .u64 (nodesK P (k + 1) : Nat), y])) ∧ Below W.heap.size W w') := Lib.hid fun W ha => by
        refine (Quo.with_any _ (all_lt h7.out hx.out) k n W).mono ?_
        rintro e w' ⟨rfl, hb⟩
        refine ⟨⟨.int .i64 (Quo.wiE (nodesK P k) k n), ?_⟩, hb⟩
        have e2 : nodesK P (k + 1) = nodesK P k ||| 2 ^ k := if_pos ha
        rw [wi_or h1.out h7.out hx.out (hon.out k ha), e2]
      have hF : (P k).a = false → nodesK P (k + 1) = nodesK P k := fun ha => by
        show (if (P k).a then _ else _) = _
        rw [ha]; rfl
      replace hF := Lib.hid hF
      generalize nodesK P k = N at *
      obtain ⟨N', hN'⟩ : ∃ N', N' = nodesK P (k + 1) := ⟨_, rfl⟩
      rw [← hN'] at hF hW
      replace hN' := Lib.hid hN'
      have i1 : decide ((k : Int) < 7) = true := by simp; omega
      have i2 : (k : Int) < 7 := by omega
      clear hL hI hN hon hc hcr
      cases ha : (P k).a with
      | false =>
        rw [ha] at hIk
        have e := hF.out ha
        subst e
        clear hW hc1 hF
        rw [ha] at hB1
        clear ha
        go_wp2
        go_roundw
        case rel => exact ⟨k + 1, by omega, by rw [← hN'.out], by go_num, hB1.out⟩
        case measure => simp [nOf]; omega
      | true =>
        have hW2 := Lib.hid (fun W => hW.out W ha)
        rw [ha] at hIk hB1 hc1
        clear ha hF hW
        go_wp2_with (go_at_call 40; refine (hW2.out _).mono ?_; rintro e w' ⟨⟨y, rfl⟩, hb2⟩)
        go_roundw
        case rel => exact ⟨k + 1, by omega, by rw [← hN'.out], by go_num, hB1.out.trans (hb2.mono hB1.out.size)⟩
        case measure => simp [nOf]; omega
    · have hk7 : k = 7 := by omega
      subst hk7
      have i1 : decide (((7 : Nat) : Int) < 7) = false := by decide
      obtain ⟨N, hN7⟩ : ∃ N, N = nodesK P 7 := ⟨_, rfl⟩
      rw [← hN7]
      replace hN7 := Lib.hid hN7
      clear hL hI hN hon
      go_wp2
      go_ret
      exact ⟨by rw [← hN7.out]; rfl, hB⟩
set_option maxHeartbeats 1000000 in
theorem upto_any {base : Nat} {w : World} {b : Nat} {vs : Nat → Value} {s : St} (x : Px base w b vs s) :
    Calls Try.prog 21 #[.pointer (some ⟨b, 0, none⟩)] w fun e w' => e = .returned (.int .i64 (upK s.P 7)) ∧ Below w.heap.size w w' := by
  have hV := Lib.hid x.valid
  have hL := Lib.hid (fun (j : Nat) (v : Value) h => x.arr j v h)
  have hI : Hid (∀ k : Nat, k < 7 → ∃ p l c, ∀ W, (Instr.index TAr (.agg (arr s.P vs)) (.int .i64 (k : Nat))).run Try.prog W = .ok (.agg #[.bool (s.P k).a, .slice p l c, .int .i64 (s.P k).u]) W) := Lib.hid fun k h => by
    obtain ⟨p, c, e⟩ := rows_form (x.lst k h)
    exact ⟨p, _, c, fun W => by rw [← e]; exact index_any s.P vs k h W⟩
  clear x
  generalize s.P = P at *
  generalize hA : arr P vs = A at *
  have hsz : A.size = 21 := by rw [← hA]; rfl
  clear hA
  replace hsz := Lib.hid hsz
  go_enter Try.func21, Try.ntmps21
  go_wp2_with (first
    | (go_at_call 33; refine hV.out.mono ?_; rintro e w' ⟨rfl, rfl⟩)
    | (refine load_sub rfl _ rfl b 4 rfl A hsz.out hL.out ?_))
  go_loopw [3, 13] (fun a i wr => ∃ k : Nat, k ≤ 7 ∧ a = .int .i64 (upK P k) ∧ i = .int .i64 k ∧ Below w.heap.size w wr) (fun _ i _ => 7 - nOf i)
  case atStart => exact ⟨0, by omega, rfl, rfl, Below.refl _ _⟩
  case round =>
    obtain ⟨k, hk, rfl, rfl, hB⟩ := hrel
    by_cases hlt : k < 7
    · obtain ⟨p, l, c, hIk⟩ := hI.out k hlt
      have hB1 := Lib.hid (hB.alloc hB.size (.cells #[.bool (P k).a, .slice p l c, .int .i64 (P k).u] TPm))
      have hF : Hid (max (upK P k) (P k).u = upK P (k + 1)) := Lib.hid rfl
      generalize upK P k = N at *
      obtain ⟨N', hN'⟩ : ∃ N', N' = upK P (k + 1) := ⟨_, rfl⟩
      rw [← hN'] at hF
      replace hN' := Lib.hid hN'
      generalize (P k).u = u at *
      have i1 : decide ((k : Int) < 7) = true := by simp; omega
      have i2 : (k : Int) < 7 := by omega
      clear hL hI
      go_wp2
      go_roundw
      case rel => exact ⟨k + 1, by omega, by rw [← hN'.out, ← hF.out], by go_num, hB1.out⟩
      case measure => simp [nOf]; omega
    · have hk7 : k = 7 := by omega
      subst hk7
      have i1 : decide (((7 : Nat) : Int) < 7) = false := by decide
      obtain ⟨N, hN7⟩ : ∃ N, N = upK P 7 := ⟨_, rfl⟩
      rw [← hN7]
      replace hN7 := Lib.hid hN7
      clear hL hI
      go_wp2
      go_ret
      exact ⟨by rw [← hN7.out]; rfl, hB⟩
def rdy (s : St) : Bool := Quo.isV s.n (nodesK s.P 7)
theorem ready_any {base : Nat} {w : World} {b : Nat} {vs : Nat → Value} {s : St} (x : Px base w b vs s) :
    Calls Try.prog 19 #[.pointer (some ⟨b, 0, none⟩)] w fun e w' => e = .returned (.bool (rdy s)) ∧ Below w.heap.size w w' := by
  have hV := Lib.hid x.valid
  have X0 := Lib.hid x
  have hK := Lib.hid (fun (W : World) (h : Px base W b vs s ∧ Below w.heap.size w W) => (show W.cell? ⟨b, 0, none⟩ = some (.int .i64 s.n) ∧ (Px base W b vs s ∧ Below w.heap.size w W) from ⟨h.1.cells.1, h⟩))
  have hNd := Lib.hid (fun (W : World) (h : Px base W b vs s ∧ Below w.heap.size w W) => nodes_any h.1)
  have hIs := Lib.hid (fun W => Quo.is_any (nodesK s.P 7) (all_lt x.ok.n7 (nodes_in x.ok 7)) s.n W)
  unfold rdy
  clear x
  generalize nodesK s.P 7 = N at *
  go_enter Try.func19, Try.ntmps19
  go_wp2_with (go_at_call 33; refine hV.out.mono ?_; rintro e w' ⟨rfl, rfl⟩)
  go_region_held3 (fun W => W.cell? ⟨b, 0, none⟩ = some (.int .i64 s.n) ∧ (Px base W b vs s ∧ Below w.heap.size w W))
    (first | exact hK.out _ ⟨X0.out.drew, (Below.refl _ _).drew⟩ | exact hK.out _ (by assumption) | assumption)
    (first
      | (go_at_call 25; refine (hNd.out _ (by assumption : _ ∧ (Px base _ b vs s ∧ Below w.heap.size w _)).2).mono ?_; rintro e w2 ⟨rfl, hb2⟩; have hx2 : Px base w2 b vs s ∧ Below w.heap.size w w2 := ⟨((by assumption : _ ∧ (Px base _ b vs s ∧ Below w.heap.size w _)).2.1).later hb2, ((by assumption : _ ∧ (Px base _ b vs s ∧ Below w.heap.size w _)).2.2).trans (hb2.mono ((by assumption : _ ∧ (Px base _ b vs s ∧ Below w.heap.size w _)).2.2).size)⟩)
      | (go_at_call 38; refine (hIs.out _).mono ?_; rintro e w3 ⟨rfl, hb3⟩; have hx3 : Px base w3 b vs s ∧ Below w.heap.size w w3 := ⟨hx2.1.later hb3, hx2.2.trans (hb3.mono hx2.2.size)⟩))
  go_wp2
  go_ret
  exact ⟨rfl, hx3.2⟩
theorem ballot_any {base : Nat} {w : World} {b : Nat} {vs : Nat → Value} {s : St} (x : Px base w b vs s) :
    Calls Try.prog 23 #[.pointer (some ⟨b, 0, none⟩)] w fun e w' => e = .returned (.agg #[.int .i64 s.r, .int .i64 s.m]) ∧ Below w.heap.size w w' := by
  have x1 := x.alloc (.cells #[.int .i64 0, .int .i64 0] TB)
  obtain ⟨_, c1, c2, _⟩ := x1.cells
  have hV := Lib.hid x1.valid
  have hlt := x.lt
  clear x x1
  generalize s.r = r at *
  generalize s.m = m at *
  have hB := Lib.hid (Bal.bx_new w r m)
  go_enter Try.func23, Try.ntmps23
  go_wp2_with (go_at_call 33; refine hV.out.mono ?_; rintro e w' ⟨rfl, rfl⟩)
  obtain ⟨d0, d1, _⟩ := hB.out.cells
  refine bodyPost_ret (v := .agg #[.int .i64 r, .int .i64 m]) ?_ rfl ⟨rfl, hB.out.bel⟩
  simp [results, Try.results23, go_sem, d0, d1]

/-! New. -/
def newS (n r m f : Int) : St := ⟨n, r, m, f, fun _ => zP⟩
def newOk (n r m f : Int) : Prop := (1 ≤ n ∧ n ≤ 7) ∧ Gd n r m ∧ 0 ≤ f ∧ f ≤ 4096
instance (n r m f : Int) : Decidable (newOk n r m f) := by unfold newOk; exact inferInstance
theorem ok_new {n r m f : Int} (h : newOk n r m f) : OkS (newS n r m f) := ⟨h.1.1, h.1.2, h.2.1, h.2.2, fun _ _ => rfl, fun _ h => by cases h⟩
abbrev nilS : Value := .slice none 0 0
theorem new_any (n r m f : Int) (h : newOk n r m f) (w : World) :
    Calls Try.prog 12 #[.int .i64 n, .agg #[.int .i64 r, .int .i64 m], .int .i64 f] w fun e w' => ∃ b, e = .returned (.tuple #[.pointer (some ⟨b, 0, none⟩), .int .i64 0]) ∧ Px w.heap.size w' b (fun _ => nilS) (newS n r m f) ∧ w.heap.size ≤ b ∧ Below w.heap.size w w' := by
  have hb := alloc_b w (.cells #[.int .i64 r, .int .i64 m] TB)
  have hc := heap_alloc_new w (.cells #[.int .i64 r, .int .i64 m] TB)
  have hG := Lib.hid (fun W => good_any r m n W)
  have e1 : gdB n r m = true := decide_eq_true ⟨h.1, h.2.1⟩
  rw [e1] at hG
  have hS := Lib.hid (fun W => start_any f W)
  have e2 : decide (0 ≤ f ∧ f ≤ 4096) = true := decide_eq_true h.2.2
  rw [e2] at hS
  have hO := Lib.hid (ok_new h)
  clear h e1 e2
  have key : Hid (∀ W, Below (w.alloc (.cells #[.int .i64 r, .int .i64 m] TB)).heap.size (w.alloc (.cells #[.int .i64 r, .int .i64 m] TB)) W → W.cell? ⟨w.heap.size, 0, none⟩ = some (.int .i64 r) ∧ W.cell? ⟨w.heap.size, 1, none⟩ = some (.int .i64 m) ∧ Below w.heap.size w W) := Lib.hid fun W hW => by
    have hd := (hW.block _ (Array.getElem?_eq_some_iff.1 hc).1).trans hc
    exact ⟨cell_of_row W _ 0 _ TB _ hd, cell_of_row W _ 1 _ TB _ hd, below2 hb hW⟩
  clear hc hb
  obtain ⟨k0, k1, _⟩ := key.out _ (Below.refl _ _)
  go_enter Try.func12, Try.ntmps12
  go_wp2_with (first
    | (go_at_call 30; refine (hG.out _).mono ?_; rintro e w2 ⟨rfl, hb2⟩; obtain ⟨d0, d1, hB2⟩ := key.out _ hb2)
    | (go_at_call 31; refine (hS.out _).mono ?_; rintro e w' ⟨rfl, rfl⟩))
  go_ret2
  refine ⟨w2.heap.size, rfl, ⟨heap_alloc_new _ _, fun i _ => OwE.nil _ _, hO.out⟩, hB2.size, hB2.alloc hB2.size _⟩
theorem new_bad (n r m f : Int) (h : ¬ newOk n r m f) (w : World) :
    Calls Try.prog 12 #[.int .i64 n, .agg #[.int .i64 r, .int .i64 m], .int .i64 f] w fun e w' => e = .returned (.tuple #[.pointer none, .int .i64 2]) ∧ Below w.heap.size w w' := by
  have hb := alloc_b w (.cells #[.int .i64 r, .int .i64 m] TB)
  have hG := Lib.hid (fun W => good_any r m n W)
  have hc := heap_alloc_new w (.cells #[.int .i64 r, .int .i64 m] TB)
  have d0 := cell_of_row _ _ 0 _ TB _ hc
  have d1 := cell_of_row _ _ 1 _ TB _ hc
  cases e1 : gdB n r m with
  | false =>
    rw [e1] at hG
    replace hb := Lib.hid hb
    clear h e1 hc
    go_enter Try.func12, Try.ntmps12
    go_wp2_with (go_at_call 30; refine (hG.out _).mono ?_; rintro e w2 ⟨rfl, hb2⟩)
    go_ret2
    exact ⟨rfl, below2 hb.out hb2⟩
  | true =>
    rw [e1] at hG
    have hS := Lib.hid (fun W => start_any f W)
    have e2 : decide (0 ≤ f ∧ f ≤ 4096) = false := decide_eq_false fun h2 => h ⟨(of_decide_eq_true e1).1, (of_decide_eq_true e1).2, h2⟩
    rw [e2] at hS
    replace hb := Lib.hid hb
    clear h e1 e2 hc
    go_enter Try.func12, Try.ntmps12
    go_wp2_with (first
      | (go_at_call 30; refine (hG.out _).mono ?_; rintro e w2 ⟨rfl, hb2⟩)
      | (go_at_call 31; refine (hS.out _).mono ?_; rintro e w' ⟨rfl, rfl⟩))
    go_ret2
    exact ⟨rfl, below2 hb.out hb2⟩
end Go.Proofs.Ytffiooclkchoiaa.Prp
