/- The sorted list is the one that is known; the examples (works). -/
import Derived.Test.YtocencmdfppkaaaR16
import Derived.Outline
namespace Go.Proofs.Ytocencmdfppkaaa.Rng
open Go.RowKit Go.Lib
set_option linter.unusedVariables false
set_option linter.unusedSimpArgs false
set_option maxRecDepth 20000

theorem sorts_unique {L L0 M : List Rg} (h : Sorts L M) (hp : L.Perm L0) (h0 : L0.Pairwise fun a b => bl a.f b.f = true) : M = L0 := by
  have hM : M.Pairwise fun a b => bl b.f a.f = false := by
    rw [List.pairwise_iff_getElem]
    exact fun i j hi hj hij => h.2 i j hi hj hij
  have h1 : L0.Pairwise fun a b => bl b.f a.f = false := h0.imp fun {a b} hab => by
    cases hb : bl b.f a.f with
    | false => rfl
    | true => have := bl_trans _ _ _ hab hb; rw [bl_irrefl] at this; cases this
  have hperm : M.Perm L0 := h.1.trans hp
  refine List.Perm.eq_of_pairwise (le := fun a b => bl b.f a.f = false) ?_ hM h1 hperm
  intro a b ha hb hab hba
  have ha0 := hperm.subset ha
  obtain ⟨i, hi, rfl⟩ := List.mem_iff_getElem.1 ha0
  obtain ⟨j, hj, rfl⟩ := List.mem_iff_getElem.1 hb
  have hpw := List.pairwise_iff_getElem.1 h0
  rcases Nat.lt_trichotomy i j with h | h | h
  · have := hpw i j hi hj h; rw [this] at hba; cases hba
  · subst h; rfl
  · have := hpw j i hj hi h; rw [this] at hab; cases hab
theorem coverIs_ok {L L0 : List Rg} {z : Bool} {c : Int} (h : CoverIs L z c) (hl : L.length ≤ 64) (ho : L.all okR = true) (hp : L.Perm L0) (h0 : L0.Pairwise fun a b => bl a.f b.f = true) : c = 0 ∧ z = (decide (0 < L.length) && followF [] L0) := by
  rcases h with ⟨h1, _⟩ | ⟨_, h1, _⟩ | ⟨_, _, rfl, M, hM, rfl⟩
  · omega
  · rw [ho] at h1; cases h1
  · rw [sorts_unique hM hp h0]; exact ⟨rfl, rfl⟩

def w1 : Rg := ⟨[97], [109]⟩
def w2 : Rg := ⟨[107], []⟩
def w3 : Rg := ⟨[], []⟩
def w4 : Rg := ⟨[99], [102]⟩
def wl : List Rg := [⟨[109], []⟩, ⟨[], [99]⟩, ⟨[99], [109]⟩]
theorem ex_meet : meetR w1 w2 = (⟨[107], [109]⟩, true, 0) := by decide +kernel
theorem ex_with : withR w3 w4 = ([⟨[], [99]⟩, ⟨[102], []⟩], 0) := by decide +kernel
theorem ex_parse : parseR [91, 98, 44, 97, 41] = (⟨[], []⟩, 10) := by decide +kernel
theorem ex_has : hasR w1 [108, 122, 122] = true := by decide +kernel
theorem ex_cover {z : Bool} {c : Int} (h : CoverIs wl z c) : z = true ∧ c = 0 := by
  obtain ⟨rfl, rfl⟩ := coverIs_ok (L0 := [⟨[], [99]⟩, ⟨[99], [109]⟩, ⟨[109], []⟩]) h (by decide) (by decide +kernel) (by decide +kernel) (by
    simp only [List.pairwise_cons, List.mem_cons, List.not_mem_nil, or_false, forall_eq_or_imp, forall_eq, false_implies, implies_true, and_true, List.Pairwise.nil]
    decide +kernel)
  exact ⟨by decide +kernel, rfl⟩
theorem three_rs (w : World) (q : Nat) (a b c : Rg) (h : w.heap[q]? = some (.cells #[.string (tx a.f), .string (tx a.t), .string (tx b.f), .string (tx b.t), .string (tx c.f), .string (tx c.t)] TR (0, 0))) :
    Rs w (.slice (some ⟨q, 0, none⟩) 3 3) [a, b, c] := by
  refine ⟨_, 3, rfl, fun _ => ⟨q, 0, rfl, fun i r hr => ?_⟩⟩
  match i, hr with
  | 0, hr => cases hr; exact ⟨cell_of_row w q 0 _ TR _ h, cell_of_row w q 1 _ TR _ h⟩
  | 1, hr => cases hr; exact ⟨cell_of_row w q 2 _ TR _ h, cell_of_row w q 3 _ TR _ h⟩
  | 2, hr => cases hr; exact ⟨cell_of_row w q 4 _ TR _ h, cell_of_row w q 5 _ TR _ h⟩
  | n + 3, hr => simp at hr
theorem rs_new3 (w : World) (a b c : Rg) : Rs (w.alloc (.cells #[.string (tx a.f), .string (tx a.t), .string (tx b.f), .string (tx b.t), .string (tx c.f), .string (tx c.t)] TR)) (.slice (some ⟨w.heap.size, 0, none⟩) 3 3) [a, b, c] := three_rs _ _ _ _ _ (heap_alloc_new w _)
theorem rs_new2 (w : World) (a b : Rg) : Rs (w.alloc (.cells #[.string (tx a.f), .string (tx a.t), .string (tx b.f), .string (tx b.t)] TR)) (.slice (some ⟨w.heap.size, 0, none⟩) 2 2) [a, b] := two_rs _ _ _ _ (heap_alloc_new w _)
set_option maxHeartbeats 2000000 in
theorem works_any (w : World) : Calls Try.prog 12 #[] w fun e w' => e = .returned (.bool true) ∧ Below w.heap.size w w' := by
  have hM : ∀ W, Calls Try.prog 21 #[.agg #[.string ⟨#[97]⟩, .string ⟨#[109]⟩], .agg #[.string ⟨#[107]⟩, .string ⟨#[]⟩]] W fun e w' => e = .returned (.tuple #[.agg #[.string ⟨#[107]⟩, .string ⟨#[109]⟩], .bool true, .int .i64 0]) ∧ Below W.heap.size W w' := fun W => by
    have := meet_any w1 w2 W
    rw [ex_meet] at this
    exact this
  have hW : ∀ W, Calls Try.prog 23 #[.agg #[.string ⟨#[]⟩, .string ⟨#[]⟩], .agg #[.string ⟨#[99]⟩, .string ⟨#[102]⟩]] W (Gives W [⟨[], [99]⟩, ⟨[102], []⟩] 0) := fun W => by
    have := without_any w3 w4 W
    rw [ex_with] at this
    exact this
  have hC : ∀ v W, Rs W v wl → (∀ k, v.ownBlock = some k → k < W.heap.size) → Calls Try.prog 30 #[v] W fun e w' => e = .returned (.tuple #[.bool true, .int .i64 0]) ∧ Below W.heap.size W w' := fun v W h hb =>
    (cover_any v wl W h (by decide) hb).mono fun e w' ⟨z, c, he, hc, hbb⟩ => by
      obtain ⟨rfl, rfl⟩ := ex_cover hc
      exact ⟨he, hbb⟩
  have hP : ∀ W, Calls Try.prog 15 #[.string ⟨#[91, 98, 44, 97, 41]⟩] W fun e w' => e = .returned (.tuple #[.agg #[.string ⟨#[]⟩, .string ⟨#[]⟩], .int .i64 10]) ∧ Below W.heap.size W w' := fun W => by
    have := parse_any [91, 98, 44, 97, 41] (by decide) W
    rw [ex_parse] at this
    exact this
  have hH : ∀ W, Calls Try.prog 19 #[.agg #[.string ⟨#[97]⟩, .string ⟨#[109]⟩], .string ⟨#[108, 122, 122]⟩] W fun e w' => e = .returned (.bool true) ∧ Below W.heap.size W w' := fun W => by
    have := has_rng w1 [108, 122, 122] W
    rw [ex_has] at this
    exact this
  have hS : ∀ v u W, Rs W v [⟨[], [99]⟩, ⟨[102], []⟩] → Rs W u [⟨[], [99]⟩, ⟨[102], []⟩] → Calls Try.prog 25 #[v, u] W fun e w' => e = .returned (.bool true) ∧ Below W.heap.size W w' := fun v u W h1 h2 => by
    have := same_any v u _ _ W h1 h2 (by decide) (by decide)
    rwa [decide_eq_true rfl] at this
  have hR3 : ∀ W : World, Rs (W.alloc (.cells #[.string ⟨#[109]⟩, .string ⟨#[]⟩, .string ⟨#[]⟩, .string ⟨#[99]⟩, .string ⟨#[99]⟩, .string ⟨#[109]⟩] TR)) (.slice (some ⟨W.heap.size, 0, none⟩) 3 3) wl := fun W => rs_new3 W _ _ _
  have hR2 : ∀ W : World, Rs (W.alloc (.cells #[.string ⟨#[]⟩, .string ⟨#[99]⟩, .string ⟨#[102]⟩, .string ⟨#[]⟩] TR)) (.slice (some ⟨W.heap.size, 0, none⟩) 2 2) [⟨[], [99]⟩, ⟨[102], []⟩] := fun W => rs_new2 W ⟨[], [99]⟩ ⟨[102], []⟩
  replace hM := Lib.hid hM
  replace hW := Lib.hid hW
  replace hC := Lib.hid hC
  replace hP := Lib.hid hP
  replace hH := Lib.hid hH
  replace hS := Lib.hid hS
  replace hR3 := Lib.hid hR3
  replace hR2 := Lib.hid hR2
  go_enter Try.func12, Try.ntmps12
  go_wp2_with fail
  refine (hM.out _).mono ?_
  rintro e v1 ⟨rfl, hb1⟩
  have B1 := hb1.trans ((alloc_b v1 (.cells #[.string ⟨#[107]⟩, .string ⟨#[109]⟩] TR)).mono hb1.size)
  have X1 := bx_new v1 ⟨#[107]⟩ ⟨#[109]⟩
  go_wp2_with fail
  refine (hW.out _).mono ?_
  rintro e v2 ⟨u2, rfl, ho2, hb2⟩
  obtain ⟨a2, cap2, rfl⟩ := ho2.form
  have B2' := B1.trans (hb2.mono B1.size)
  have X2 := X1.later hb2
  have R2 := ho2.rs
  clear B1 X1 hb2 ho2
  go_wp2_with fail
  have hA3 := alloc_b v2 (.cells #[.string ⟨#[109]⟩, .string ⟨#[]⟩, .string ⟨#[]⟩, .string ⟨#[99]⟩, .string ⟨#[99]⟩, .string ⟨#[109]⟩] TR)
  refine (hC.out _ _ (hR3.out v2) (fun k hk => by cases hk; simp)).mono ?_
  rintro e v3 ⟨rfl, hb3⟩
  have B3 := B2'.trans ((hA3.trans (hb3.mono hA3.size)).mono B2'.size)
  have X3 := (X2.later hA3).later hb3
  have R3 := (R2.later hA3).later hb3
  clear B2' X2 hb3 hA3 R2
  go_wp2_with fail
  refine (hP.out _).mono ?_
  rintro e v4 ⟨rfl, hb4⟩
  have hA4 := alloc_b v4 (.cells #[.string ⟨#[]⟩, .string ⟨#[]⟩] TR)
  have B4 := B3.trans ((hb4.trans (hA4.mono hb4.size)).mono B3.size)
  have X4 := (X3.later hb4).later hA4
  have R4 := (R3.later hb4).later hA4
  clear B3 X3 hb4 R3
  obtain ⟨x0, x1⟩ := X4.cells
  go_wp2_with fail
  have R5 := hR2.out (v4.alloc (.cells #[.string ⟨#[]⟩, .string ⟨#[]⟩] TR))
  rw [World.size_alloc] at R5
  have hA5 := alloc_b (v4.alloc (.cells #[.string ⟨#[]⟩, .string ⟨#[]⟩] TR)) (.cells #[.string ⟨#[]⟩, .string ⟨#[99]⟩, .string ⟨#[102]⟩, .string ⟨#[]⟩] TR)
  have R6 := R4.later hA5
  have B5 := B4.trans (hA5.mono B4.size)
  clear B4 X4 R4 hA5 x0 x1
  refine (hS.out _ _ _ R6 R5).mono ?_
  rintro e v6 ⟨rfl, hb6⟩
  have B6 := B5.trans (hb6.mono B5.size)
  clear R5 R6 B5 hb6
  go_wp2_with fail
  refine (hH.out _).mono ?_
  rintro e v7 ⟨rfl, hb7⟩
  go_wp2_with fail
  go_ret
  exact ⟨rfl, B6.trans (hb7.mono B6.size)⟩
end Go.Proofs.Ytocencmdfppkaaa.Rng
