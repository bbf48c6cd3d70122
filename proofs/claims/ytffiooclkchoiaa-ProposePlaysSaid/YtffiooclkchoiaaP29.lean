/- The document's list and Add. -/
import Derived.Test.YtffiooclkchoiaaP28
namespace Go.Proofs.Ytffiooclkchoiaa.Prp
open Go.RowKit Go.Lib
open Bal (TB bOk ckB ordV eqB eqB_t eqB_f eq_b alloc_b check_any order_any rcheck_any rorder_any)
set_option linter.unusedVariables false
set_option linter.unusedSimpArgs false
set_option maxRecDepth 100000

section
variable {base : Nat} {w w' : World} {b : Nat} {vs : Nat → Value} {s : St}
set_option maxHeartbeats 4000000 in
theorem Rx.list (x : Rx base w b vs s) (v : Value) (L : List Et) (hl : IsE w v L) (hlen : L.length ≤ 100000) :
    Calls Try.prog 44 #[.pointer (some ⟨b, 0, none⟩), v] w fun e w' => e = .returned (.bool (okL s.n s.f L)) ∧ Below w.heap.size w w' := by
  obtain ⟨_, c1, _, _, c4⟩ := x.cells
  have hf0 := x.ok.hf.1
  have hn17 : 1 ≤ s.n ∧ s.n ≤ 7 := ⟨x.ok.n1, x.ok.n7⟩
  have hblt := x.lt
  clear x
  generalize s.n = n at *
  generalize s.f = f at *
  obtain ⟨a, cap, rfl, _⟩ := id hl
  have hA := Lib.hid (fun W (hB : Below w.heap.size w W) (k : Nat) (e : Et) (he : L[k]? = some e) => (hl.later hB).at' he)
  have hG := Lib.hid (fun x y W => rcheck_any x y n W)
  have hS := Lib.hid (fun (k : Nat) (e : Et) (f : Int) (he : L[k]? = some e) => okL_step (n := n) (f := f) he)
  have hlt0 : Hid (∀ k : Nat, k < L.length → ∃ e, L[k]? = some e) := Lib.hid (fun k h => ⟨_, List.getElem?_eq_getElem h⟩)
  have hend := Lib.hid (show L.drop L.length = [] from List.drop_length)
  clear hl
  obtain ⟨len, hle⟩ : ∃ len, len = L.length := ⟨_, rfl⟩
  rw [← hle] at hend hlt0 hlen ⊢
  clear hle
  go_enter Try.func44, Try.ntmps44
  go_wp2
  go_loopw [5, 6] (fun a i wr => ∃ (k : Nat) (g : Int), k ≤ len ∧ a = .int .i64 g ∧ 0 ≤ g ∧ i = .int .i64 k ∧ okL n f L = okL n g (L.drop k) ∧ Below w.heap.size w wr) (fun _ i _ => len - nOf i)
  case atStart => exact ⟨0, f, by omega, rfl, hf0, rfl, rfl, Below.refl _ _⟩
  case round =>
    obtain ⟨k, g, hk, rfl, hg0, rfl, hEq, hB⟩ := hrel
    by_cases hlt : k < len
    · obtain ⟨e, he⟩ := hlt0.out k hlt
      obtain ⟨lb, off, rfl, hlb, e0, e1, e2, _⟩ := hA.out wr hB k e he
      have hstep := hS.out k e g he
      rw [← hEq] at hstep
      have d1 := (hB.cell (p := ⟨b, 1, none⟩) hblt).trans c1
      have hblt2 := Nat.lt_of_lt_of_le hblt hB.size
      obtain ⟨es, er, em, ev⟩ := e
      simp only at e0 e1 e2 hstep
      have z1 : (0 : Int) ≤ (k : Nat) := by omega
      have z2 : (k : Int) < (len : Nat) := by omega
      have z3 : decide ((k : Int) < (len : Int)) = true := by simpa using z2
      have hCk : Hid (∀ W, Below wr.drew.heap.size wr.drew W → (W.cell? ⟨lb, off + k * 4, none⟩ = some (.int .i64 es) ∧ W.cell? ⟨lb, off + k * 4 + 1, none⟩ = some (.int .i64 er) ∧ W.cell? ⟨lb, off + k * 4 + 2, none⟩ = some (.int .i64 em) ∧ W.cell? ⟨b, 1, none⟩ = some (.int .i64 n)) ∧ Below w.heap.size w W) := Lib.hid fun W h2 =>
        ⟨⟨(h2.cell (p := ⟨lb, off + k * 4, none⟩) hlb).trans e0, (h2.cell (p := ⟨lb, off + k * 4 + 1, none⟩) hlb).trans e1, (h2.cell (p := ⟨lb, off + k * 4 + 2, none⟩) hlb).trans e2, (h2.cell (p := ⟨b, 1, none⟩) hblt2).trans d1⟩, hB.trans (below2 (Below.refl wr.heap.size wr).drew h2 |>.mono hB.size)⟩
      clear hA hS hEq he c1 c4
      have hbd : ¬ okE n g ⟨es, er, em, ev⟩ → okL n f L = false := fun h => by rw [hstep, decide_eq_false h, Bool.false_and]
      by_cases h1 : es < g
      · have hr := Lib.hid (hbd fun h => by have := h.1; simp only at this; omega)
        have g1 : decide (es < g) = true := decide_eq_true h1
        clear hbd hstep h1 hCk
        as_aux_lemma =>
          go_wp2
          go_quiet (fail)
          go_wp2
          go_ret
          exact ⟨by rw [hr.out]; rfl, below_drewN hB _⟩
      · have g1 : decide (es < g) = false := decide_eq_false h1
        by_cases h2 : 4096 ≤ es
        · have hr := Lib.hid (hbd fun h => by have := h.2.1; simp only at this; omega)
          have g2 : decide (4096 ≤ es) = true := decide_eq_true h2
          clear hbd hstep h1 h2 hCk
          as_aux_lemma =>
            go_wp2
            go_quiet (fail)
            go_wp2
            go_ret
            exact ⟨by rw [hr.out]; rfl, below_drewN hB _⟩
        · have g2 : decide (4096 ≤ es) = false := decide_eq_false h2
          have hG2 := Lib.hid (hG.out er em)
          have hq0 := fun W => eq_b er em 0 0 W
          have hcl : ckB er em n = 0 ∨ ckB er em n = 2 := by unfold ckB; split <;> simp
          clear e0 e1 e2 d1
          replace hB := Lib.hid hB
          rcases hcl with hc | hc
          · rw [hc] at hG2
            by_cases hz : er = 0 ∧ em = 0
            · have hr := Lib.hid (hbd fun h => by have := h.2.2.1; simp only at this; omega)
              have hq : ∀ W, (Op.equalIn 10000 TB (.agg #[.int .i64 er, .int .i64 em]) (.agg #[.int .i64 0, .int .i64 0])).run Try.prog W = .ok true W := fun W => (hq0 W).trans (by rw [eqB_t hz])
              clear hbd hstep h1 h2 hz hc hq0 hG
              as_aux_lemma =>
                go_wp2
                go_region_held3 (fun W => (W.cell? ⟨lb, off + k * 4, none⟩ = some (.int .i64 es) ∧ W.cell? ⟨lb, off + k * 4 + 1, none⟩ = some (.int .i64 er) ∧ W.cell? ⟨lb, off + k * 4 + 2, none⟩ = some (.int .i64 em) ∧ W.cell? ⟨b, 1, none⟩ = some (.int .i64 n)))
                  (first | exact (hCk.out _ (Below.refl _ _)).1 | exact (hCk.out _ (by assumption)).1 | assumption)
                  ((go_at_call 32; refine (hG2.out _).mono ?_; rintro e w5 ⟨rfl, hb5⟩))
                go_wp2
                go_ret
                exact ⟨by rw [hr.out]; rfl, (hCk.out _ hb5).2⟩
            · have hok : okE n g ⟨es, er, em, ev⟩ := by
                refine ⟨by simp only; omega, by simp only; omega, ?_⟩
                unfold ckB at hc
                split at hc
                · rename_i hk2
                  rcases hk2.2 with h0 | h0
                  · exact absurd h0 hz
                  · exact ⟨h0.1, h0.2.1, h0.2.2.1, h0.2.2.2⟩
                · cases hc
              rw [decide_eq_true hok, Bool.true_and] at hstep
              have hq : ∀ W, (Op.equalIn 10000 TB (.agg #[.int .i64 er, .int .i64 em]) (.agg #[.int .i64 0, .int .i64 0])).run Try.prog W = .ok false W := fun W => (hq0 W).trans (by rw [eqB_f hz])
              have hwr : IntKind.i64.wrap (es + 1) = es + 1 := by rw [IntKind.wrap_i64]; omega
              have h0 : 0 ≤ es + 1 := by omega
              replace hstep := Lib.hid hstep
              clear hbd h1 h2 hz hc hq0 hok hG
              as_aux_lemma =>
                go_wp2
                go_region_held3 (fun W => (W.cell? ⟨lb, off + k * 4, none⟩ = some (.int .i64 es) ∧ W.cell? ⟨lb, off + k * 4 + 1, none⟩ = some (.int .i64 er) ∧ W.cell? ⟨lb, off + k * 4 + 2, none⟩ = some (.int .i64 em) ∧ W.cell? ⟨b, 1, none⟩ = some (.int .i64 n)))
                  (first | exact (hCk.out _ (Below.refl _ _)).1 | exact (hCk.out _ (by assumption)).1 | assumption)
                  ((go_at_call 32; refine (hG2.out _).mono ?_; rintro e w5 ⟨rfl, hb5⟩))
                obtain ⟨⟨d0, _, _, _⟩, hB5⟩ := hCk.out _ hb5
                replace hB5 := Lib.hid hB5
                go_wp2
                go_roundw
                case rel => exact ⟨k + 1, es + 1, by omega, by first | rfl | go_num, h0, by go_num, hstep.out, hB5.out⟩
                case measure => simp [nOf]; omega
          · rw [hc] at hG2
            have hr := Lib.hid (hbd fun h => by
              have h3 := h.2.2
              have : ckB er em n = 0 := if_pos ⟨hn17, .inr ⟨h3.1, h3.2.1, h3.2.2.1, h3.2.2.2⟩⟩
              omega)
            obtain ⟨E, hE⟩ : ∃ E : Int, E = 2 := ⟨_, rfl⟩
            rw [← hE] at hG2
            have y1 : (E == 0) = false := by rw [hE]; rfl
            have y2 : (E != 0) = true := by rw [hE]; rfl
            have y3 : decide (E = 0) = false := by rw [hE]; rfl
            clear hbd hstep h1 h2 hc hq0 hG hE
            as_aux_lemma =>
              go_wp2
              refine wp_region_held_drew (S := (fun W => (W.cell? ⟨lb, off + k * 4, none⟩ = some (.int .i64 es) ∧ W.cell? ⟨lb, off + k * 4 + 1, none⟩ = some (.int .i64 er) ∧ W.cell? ⟨lb, off + k * 4 + 2, none⟩ = some (.int .i64 em) ∧ W.cell? ⟨b, 1, none⟩ = some (.int .i64 n)) ∧ Below w.heap.size w W)) (by kernel_rfl) (hCk.out _ (Below.refl _ _)) (fun hS => ?_)
              try simp only [List.getElem_toArray, List.getElem_cons_succ, List.getElem_cons_zero, Act.put, List.setIfInBounds_toArray, List.set_cons_zero, List.set_cons_succ]
              refine wpAnyH_take (i := 0) (v := (.slice (some ⟨lb, off, none⟩) len cap)) rfl (by kernel_rfl) (by kernel_rfl) (by kernel_rfl) (fun _ _ _ h => h) (Or.inl ⟨by kernel_rfl, by intro w' hSw; obtain ⟨⟨d0, d1, d2, d3⟩, _⟩ := hSw; go_simp⟩) hS ?_
              try simp only [List.getElem_toArray, List.getElem_cons_succ, List.getElem_cons_zero, Act.put, List.setIfInBounds_toArray, List.set_cons_zero, List.set_cons_succ]
              refine wpAnyH_take (i := 1) (v := (.int .i64 (k : Nat))) rfl (by kernel_rfl) (by kernel_rfl) (by kernel_rfl) (fun _ _ _ h => h) (Or.inl ⟨by kernel_rfl, by intro w' hSw; obtain ⟨⟨d0, d1, d2, d3⟩, _⟩ := hSw; go_simp⟩) hS ?_
              try simp only [List.getElem_toArray, List.getElem_cons_succ, List.getElem_cons_zero, Act.put, List.setIfInBounds_toArray, List.set_cons_zero, List.set_cons_succ]
              refine wpAnyH_take (i := 2) (v := (.pointer (some ⟨lb, off + k * 4, none⟩))) rfl (by kernel_rfl) (by kernel_rfl) (by kernel_rfl) (fun _ _ _ h => h) (Or.inl ⟨by kernel_rfl, by intro w' hSw; obtain ⟨⟨d0, d1, d2, d3⟩, _⟩ := hSw; go_simp⟩) hS ?_
              try simp only [List.getElem_toArray, List.getElem_cons_succ, List.getElem_cons_zero, Act.put, List.setIfInBounds_toArray, List.set_cons_zero, List.set_cons_succ]
              refine wpAnyH_take (i := 3) (v := (.pointer (some ⟨lb, off + k * 4, none⟩))) rfl (by kernel_rfl) (by kernel_rfl) (by kernel_rfl) (fun _ _ _ h => h) (Or.inl ⟨by kernel_rfl, by intro w' hSw; obtain ⟨⟨d0, d1, d2, d3⟩, _⟩ := hSw; go_simp⟩) hS ?_
              try simp only [List.getElem_toArray, List.getElem_cons_succ, List.getElem_cons_zero, Act.put, List.setIfInBounds_toArray, List.set_cons_zero, List.set_cons_succ]
              refine wpAnyH_take (i := 4) (v := (.int .i64 es)) rfl (by kernel_rfl) (by kernel_rfl) (by kernel_rfl) (fun _ _ _ h => h) (Or.inl ⟨by kernel_rfl, by intro w' hSw; obtain ⟨⟨d0, d1, d2, d3⟩, _⟩ := hSw; go_simp⟩) hS ?_
              try simp only [List.getElem_toArray, List.getElem_cons_succ, List.getElem_cons_zero, Act.put, List.setIfInBounds_toArray, List.set_cons_zero, List.set_cons_succ]
              refine wpAnyH_take (i := 5) (v := (.int .i64 g)) rfl (by kernel_rfl) (by kernel_rfl) (by kernel_rfl) (fun _ _ _ h => h) (Or.inl ⟨by kernel_rfl, by intro w' hSw; obtain ⟨⟨d0, d1, d2, d3⟩, _⟩ := hSw; go_simp⟩) hS ?_
              try simp only [List.getElem_toArray, List.getElem_cons_succ, List.getElem_cons_zero, Act.put, List.setIfInBounds_toArray, List.set_cons_zero, List.set_cons_succ]
              refine wpAnyH_take (i := 6) (v := (.bool false)) rfl (by kernel_rfl) (by kernel_rfl) (by kernel_rfl) (fun _ _ _ h => h) (Or.inl ⟨by kernel_rfl, by intro w' hSw; obtain ⟨⟨d0, d1, d2, d3⟩, _⟩ := hSw; go_simp⟩) hS ?_
              try simp only [List.getElem_toArray, List.getElem_cons_succ, List.getElem_cons_zero, Act.put, List.setIfInBounds_toArray, List.set_cons_zero, List.set_cons_succ]
              refine wpAnyH_take (i := 7) (v := (.bool false)) rfl (by kernel_rfl) (by kernel_rfl) (by kernel_rfl) (fun _ _ _ h => h) (Or.inl ⟨by kernel_rfl, by intro w' hSw; obtain ⟨⟨d0, d1, d2, d3⟩, _⟩ := hSw; go_simp⟩) hS ?_
              try simp only [List.getElem_toArray, List.getElem_cons_succ, List.getElem_cons_zero, Act.put, List.setIfInBounds_toArray, List.set_cons_zero, List.set_cons_succ]
              refine wpAnyH_take (i := 8) (v := (.slice (some ⟨lb, off, none⟩) len cap)) rfl (by kernel_rfl) (by kernel_rfl) (by kernel_rfl) (fun _ _ _ h => h) (Or.inl ⟨by kernel_rfl, by intro w' hSw; obtain ⟨⟨d0, d1, d2, d3⟩, _⟩ := hSw; go_simp⟩) hS ?_
              try simp only [List.getElem_toArray, List.getElem_cons_succ, List.getElem_cons_zero, Act.put, List.setIfInBounds_toArray, List.set_cons_zero, List.set_cons_succ]
              refine wpAnyH_take (i := 9) (v := (.int .i64 (k : Nat))) rfl (by kernel_rfl) (by kernel_rfl) (by kernel_rfl) (fun _ _ _ h => h) (Or.inl ⟨by kernel_rfl, by intro w' hSw; obtain ⟨⟨d0, d1, d2, d3⟩, _⟩ := hSw; go_simp⟩) hS ?_
              try simp only [List.getElem_toArray, List.getElem_cons_succ, List.getElem_cons_zero, Act.put, List.setIfInBounds_toArray, List.set_cons_zero, List.set_cons_succ]
              refine wpAnyH_take (i := 10) (v := (.pointer (some ⟨lb, off + k * 4, none⟩))) rfl (by kernel_rfl) (by kernel_rfl) (by kernel_rfl) (fun _ _ _ h => h) (Or.inl ⟨by kernel_rfl, by intro w' hSw; obtain ⟨⟨d0, d1, d2, d3⟩, _⟩ := hSw; go_simp⟩) hS ?_
              try simp only [List.getElem_toArray, List.getElem_cons_succ, List.getElem_cons_zero, Act.put, List.setIfInBounds_toArray, List.set_cons_zero, List.set_cons_succ]
              refine wpAnyH_take (i := 11) (v := (.pointer (some ⟨lb, off + k * 4, none⟩))) rfl (by kernel_rfl) (by kernel_rfl) (by kernel_rfl) (fun _ _ _ h => h) (Or.inl ⟨by kernel_rfl, by intro w' hSw; obtain ⟨⟨d0, d1, d2, d3⟩, _⟩ := hSw; go_simp⟩) hS ?_
              try simp only [List.getElem_toArray, List.getElem_cons_succ, List.getElem_cons_zero, Act.put, List.setIfInBounds_toArray, List.set_cons_zero, List.set_cons_succ]
              refine wpAnyH_take (i := 12) (v := (.int .i64 es)) rfl (by kernel_rfl) (by kernel_rfl) (by kernel_rfl) (fun _ _ _ h => h) (Or.inl ⟨by kernel_rfl, by intro w' hSw; obtain ⟨⟨d0, d1, d2, d3⟩, _⟩ := hSw; go_simp⟩) hS ?_
              try simp only [List.getElem_toArray, List.getElem_cons_succ, List.getElem_cons_zero, Act.put, List.setIfInBounds_toArray, List.set_cons_zero, List.set_cons_succ]
              refine wpAnyH_take (i := 13) (v := (.bool false)) rfl (by kernel_rfl) (by kernel_rfl) (by kernel_rfl) (fun _ _ _ h => h) (Or.inl ⟨by kernel_rfl, by intro w' hSw; obtain ⟨⟨d0, d1, d2, d3⟩, _⟩ := hSw; go_simp⟩) hS ?_
              try simp only [List.getElem_toArray, List.getElem_cons_succ, List.getElem_cons_zero, Act.put, List.setIfInBounds_toArray, List.set_cons_zero, List.set_cons_succ]
              refine wpAnyH_take (i := 14) (v := (.bool false)) rfl (by kernel_rfl) (by kernel_rfl) (by kernel_rfl) (fun _ _ _ h => h) (Or.inl ⟨by kernel_rfl, by intro w' hSw; obtain ⟨⟨d0, d1, d2, d3⟩, _⟩ := hSw; go_simp⟩) hS ?_
              try simp only [List.getElem_toArray, List.getElem_cons_succ, List.getElem_cons_zero, Act.put, List.setIfInBounds_toArray, List.set_cons_zero, List.set_cons_succ]
              refine wpAnyH_take (i := 15) (v := (.bool false)) rfl (by kernel_rfl) (by kernel_rfl) (by kernel_rfl) (fun _ _ _ h => h) (Or.inl ⟨by kernel_rfl, by intro w' hSw; obtain ⟨⟨d0, d1, d2, d3⟩, _⟩ := hSw; go_simp⟩) hS ?_
              try simp only [List.getElem_toArray, List.getElem_cons_succ, List.getElem_cons_zero, Act.put, List.setIfInBounds_toArray, List.set_cons_zero, List.set_cons_succ]
              refine wpAnyH_take (i := 16) (v := (.slice (some ⟨lb, off, none⟩) len cap)) rfl (by kernel_rfl) (by kernel_rfl) (by kernel_rfl) (fun _ _ _ h => h) (Or.inl ⟨by kernel_rfl, by intro w' hSw; obtain ⟨⟨d0, d1, d2, d3⟩, _⟩ := hSw; go_simp⟩) hS ?_
              try simp only [List.getElem_toArray, List.getElem_cons_succ, List.getElem_cons_zero, Act.put, List.setIfInBounds_toArray, List.set_cons_zero, List.set_cons_succ]
              refine wpAnyH_take (i := 17) (v := (.int .i64 (k : Nat))) rfl (by kernel_rfl) (by kernel_rfl) (by kernel_rfl) (fun _ _ _ h => h) (Or.inl ⟨by kernel_rfl, by intro w' hSw; obtain ⟨⟨d0, d1, d2, d3⟩, _⟩ := hSw; go_simp⟩) hS ?_
              try simp only [List.getElem_toArray, List.getElem_cons_succ, List.getElem_cons_zero, Act.put, List.setIfInBounds_toArray, List.set_cons_zero, List.set_cons_succ]
              refine wpAnyH_take (i := 18) (v := (.pointer (some ⟨lb, off + k * 4, none⟩))) rfl (by kernel_rfl) (by kernel_rfl) (by kernel_rfl) (fun _ _ _ h => h) (Or.inl ⟨by kernel_rfl, by intro w' hSw; obtain ⟨⟨d0, d1, d2, d3⟩, _⟩ := hSw; go_simp⟩) hS ?_
              try simp only [List.getElem_toArray, List.getElem_cons_succ, List.getElem_cons_zero, Act.put, List.setIfInBounds_toArray, List.set_cons_zero, List.set_cons_succ]
              refine wpAnyH_take (i := 19) (v := (.pointer (some ⟨lb, off + k * 4 + 1, none⟩))) rfl (by kernel_rfl) (by kernel_rfl) (by kernel_rfl) (fun _ _ _ h => h) (Or.inl ⟨by kernel_rfl, by intro w' hSw; obtain ⟨⟨d0, d1, d2, d3⟩, _⟩ := hSw; go_simp⟩) hS ?_
              try simp only [List.getElem_toArray, List.getElem_cons_succ, List.getElem_cons_zero, Act.put, List.setIfInBounds_toArray, List.set_cons_zero, List.set_cons_succ]
              refine wpAnyH_take (i := 20) (v := (.agg #[.int .i64 er, .int .i64 em])) rfl (by kernel_rfl) (by kernel_rfl) (by kernel_rfl) (fun _ _ _ h => h) (Or.inl ⟨by kernel_rfl, by intro w' hSw; obtain ⟨⟨d0, d1, d2, d3⟩, _⟩ := hSw; go_simp⟩) hS ?_
              try simp only [List.getElem_toArray, List.getElem_cons_succ, List.getElem_cons_zero, Act.put, List.setIfInBounds_toArray, List.set_cons_zero, List.set_cons_succ]
              refine wpAnyH_take (i := 21) (v := (.pointer (some ⟨b, 0, none⟩))) rfl (by kernel_rfl) (by kernel_rfl) (by kernel_rfl) (fun _ _ _ h => h) (Or.inl ⟨by kernel_rfl, by intro w' hSw; obtain ⟨⟨d0, d1, d2, d3⟩, _⟩ := hSw; go_simp⟩) hS ?_
              try simp only [List.getElem_toArray, List.getElem_cons_succ, List.getElem_cons_zero, Act.put, List.setIfInBounds_toArray, List.set_cons_zero, List.set_cons_succ]
              refine wpAnyH_take (i := 22) (v := (.pointer (some ⟨b, 0, none⟩))) rfl (by kernel_rfl) (by kernel_rfl) (by kernel_rfl) (fun _ _ _ h => h) (Or.inl ⟨by kernel_rfl, by intro w' hSw; obtain ⟨⟨d0, d1, d2, d3⟩, _⟩ := hSw; go_simp⟩) hS ?_
              try simp only [List.getElem_toArray, List.getElem_cons_succ, List.getElem_cons_zero, Act.put, List.setIfInBounds_toArray, List.set_cons_zero, List.set_cons_succ]
              refine wpAnyH_take (i := 23) (v := (.pointer (some ⟨b, 1, none⟩))) rfl (by kernel_rfl) (by kernel_rfl) (by kernel_rfl) (fun _ _ _ h => h) (Or.inl ⟨by kernel_rfl, by intro w' hSw; obtain ⟨⟨d0, d1, d2, d3⟩, _⟩ := hSw; go_simp⟩) hS ?_
              try simp only [List.getElem_toArray, List.getElem_cons_succ, List.getElem_cons_zero, Act.put, List.setIfInBounds_toArray, List.set_cons_zero, List.set_cons_succ]
              refine wpAnyH_take (i := 24) (v := (.int .i64 n)) rfl (by kernel_rfl) (by kernel_rfl) (by kernel_rfl) (fun _ _ _ h => h) (Or.inl ⟨by kernel_rfl, by intro w' hSw; obtain ⟨⟨d0, d1, d2, d3⟩, _⟩ := hSw; go_simp⟩) hS ?_
              try simp only [List.getElem_toArray, List.getElem_cons_succ, List.getElem_cons_zero, Act.put, List.setIfInBounds_toArray, List.set_cons_zero, List.set_cons_succ]
              refine wpAnyH_ready (rs := [25]) (by kernel_rfl) (by simp) ?_
              refine AllReadyH.cons rfl (fun K hK => ?_) AllReadyH.nil
              go_simp
              go_at_call 32
              refine (hG2.out _).mono ?_
              rintro e w5 ⟨rfl, hb5⟩
              refine hK.out _ _ (hCk.out _ hb5) (fun hS => ?_)
              clear hK K
              try simp only [List.getElem_toArray, List.getElem_cons_succ, List.getElem_cons_zero, Act.put, List.setIfInBounds_toArray, List.set_cons_zero, List.set_cons_succ]
              refine wpAnyH_take (i := 26) (v := (.bool true)) rfl (by kernel_rfl) (by kernel_rfl) (by kernel_rfl) (fun _ _ _ h => h) (Or.inl ⟨by kernel_rfl, by intro w' hSw; obtain ⟨⟨d0, d1, d2, d3⟩, _⟩ := hSw; go_simp⟩) hS ?_
              try simp only [List.getElem_toArray, List.getElem_cons_succ, List.getElem_cons_zero, Act.put, List.setIfInBounds_toArray, List.set_cons_zero, List.set_cons_succ]
              refine wpAnyH_take (i := 27) (v := (.bool true)) rfl (by kernel_rfl) (by kernel_rfl) (by kernel_rfl) (fun _ _ _ h => h) (Or.inl ⟨by kernel_rfl, by intro w' hSw; obtain ⟨⟨d0, d1, d2, d3⟩, _⟩ := hSw; go_simp⟩) hS ?_
              try simp only [List.getElem_toArray, List.getElem_cons_succ, List.getElem_cons_zero, Act.put, List.setIfInBounds_toArray, List.set_cons_zero, List.set_cons_succ]
              refine wpAnyH_take (i := 28) (v := (.bool true)) rfl (by kernel_rfl) (by kernel_rfl) (by kernel_rfl) (fun _ _ _ h => h) (Or.inl ⟨by kernel_rfl, by intro w' hSw; obtain ⟨⟨d0, d1, d2, d3⟩, _⟩ := hSw; go_simp⟩) hS ?_
              try simp only [List.getElem_toArray, List.getElem_cons_succ, List.getElem_cons_zero, Act.put, List.setIfInBounds_toArray, List.set_cons_zero, List.set_cons_succ]
              refine wpAnyH_take (i := 29) (v := undef) rfl (by kernel_rfl) (by kernel_rfl) (by kernel_rfl) (fun _ _ _ h => h) (Or.inr ⟨by kernel_rfl, rfl⟩) hS ?_
              try simp only [List.getElem_toArray, List.getElem_cons_succ, List.getElem_cons_zero, Act.put, List.setIfInBounds_toArray, List.set_cons_zero, List.set_cons_succ]
              refine wpAnyH_take (i := 30) (v := undef) rfl (by kernel_rfl) (by kernel_rfl) (by kernel_rfl) (fun _ _ _ h => h) (Or.inr ⟨by kernel_rfl, rfl⟩) hS ?_
              try simp only [List.getElem_toArray, List.getElem_cons_succ, List.getElem_cons_zero, Act.put, List.setIfInBounds_toArray, List.set_cons_zero, List.set_cons_succ]
              refine wpAnyH_take (i := 31) (v := undef) rfl (by kernel_rfl) (by kernel_rfl) (by kernel_rfl) (fun _ _ _ h => h) (Or.inr ⟨by kernel_rfl, rfl⟩) hS ?_
              try simp only [List.getElem_toArray, List.getElem_cons_succ, List.getElem_cons_zero, Act.put, List.setIfInBounds_toArray, List.set_cons_zero, List.set_cons_succ]
              refine wpAnyH_take (i := 32) (v := undef) rfl (by kernel_rfl) (by kernel_rfl) (by kernel_rfl) (fun _ _ _ h => h) (Or.inr ⟨by kernel_rfl, rfl⟩) hS ?_
              try simp only [List.getElem_toArray, List.getElem_cons_succ, List.getElem_cons_zero, Act.put, List.setIfInBounds_toArray, List.set_cons_zero, List.set_cons_succ]
              refine wpAnyH_take (i := 33) (v := undef) rfl (by kernel_rfl) (by kernel_rfl) (by kernel_rfl) (fun _ _ _ h => h) (Or.inr ⟨by kernel_rfl, rfl⟩) hS ?_
              try simp only [List.getElem_toArray, List.getElem_cons_succ, List.getElem_cons_zero, Act.put, List.setIfInBounds_toArray, List.set_cons_zero, List.set_cons_succ]
              refine wpAnyH_take (i := 34) (v := undef) rfl (by kernel_rfl) (by kernel_rfl) (by kernel_rfl) (fun _ _ _ h => h) (Or.inr ⟨by kernel_rfl, rfl⟩) hS ?_
              try simp only [List.getElem_toArray, List.getElem_cons_succ, List.getElem_cons_zero, Act.put, List.setIfInBounds_toArray, List.set_cons_zero, List.set_cons_succ]
              refine wpAnyH_take (i := 35) (v := undef) rfl (by kernel_rfl) (by kernel_rfl) (by kernel_rfl) (fun _ _ _ h => h) (Or.inr ⟨by kernel_rfl, rfl⟩) hS ?_
              try simp only [List.getElem_toArray, List.getElem_cons_succ, List.getElem_cons_zero, Act.put, List.setIfInBounds_toArray, List.set_cons_zero, List.set_cons_succ]
              refine wpAnyH_take (i := 36) (v := (.bool true)) rfl (by kernel_rfl) (by kernel_rfl) (by kernel_rfl) (fun _ _ _ h => h) (Or.inl ⟨by kernel_rfl, by intro w' hSw; obtain ⟨⟨d0, d1, d2, d3⟩, _⟩ := hSw; go_simp⟩) hS ?_
              try simp only [List.getElem_toArray, List.getElem_cons_succ, List.getElem_cons_zero, Act.put, List.setIfInBounds_toArray, List.set_cons_zero, List.set_cons_succ]
              refine wpAnyH_done (by kernel_rfl) ?_ _
              clear hS
              go_wp2
              go_ret
              exact ⟨by rw [hr.out]; rfl, (hCk.out _ hb5).2⟩
    · obtain rfl : k = len := by omega
      have z3 : decide ((k : Int) < (k : Int)) = false := by simp
      have hr : Hid (okL n f L = true) := Lib.hid (by rw [hEq, hend.out]; rfl)
      clear hA hS hEq hend
      go_wp2
      go_ret
      exact ⟨by rw [hr.out]; rfl, hB⟩
end
theorem step_append_l {ops : Array Oper} {o : Oper} {a : Act} {w : World} {K : Act → World → Prop} {Q : Exit → Act → World → Prop} {E : Prop} (hgd : o.guard = none) (s x : Operand)
    (ho : o.op = .call { callee := .builtin .append, args := #[s, x], argTypes := #[TEs, TEs] })
    (base : Nat) (v u : Value) (T L : List Et) (hs : a.eval s = v) (hx : a.eval x = u) (hown : OwE base T v w) (hl : IsE w u L) (hT : T.length ≤ 10000) (hL : L.length ≤ 10000) (hbase : base ≤ w.heap.size)
    (h : ∀ v' w', OwE base (T ++ L) v' w' → w.grownBy w' v.ownBlock → (v'.ownBlock = v.ownBlock ∨ v'.ownBlock = some w.heap.size) → K (a.put o.dst v') w') :
    if Region.wanted o (yielded ops a.tmps) = true then Oper.wp Try.prog o a w K Q else E := by
  have hw : Region.wanted o (yielded ops a.tmps) = true := by simp [Region.wanted, hgd]
  rw [if_pos hw]
  obtain ⟨v', w', hrun, h1, h2, h3⟩ := run_append_l base w o.type v u T L hown hl hT hL hbase
  unfold Oper.wp execOp
  simp only [ho, resolve, invoke, builtin, Sem.run_bind, Sem.run_pure, Result.andThen_ok, List.map_toArray, List.map_cons, List.map_nil, hs, hx, hrun]
  exact h v' w' h1 h2 h3
theorem rbox_set (s : St) (vs : Nat → Value) (k : Nat) (h : k < 7) (v : Value) (L : List Et) (u : Int) :
    (((rboxC s vs).setIfInBounds (5 + k) (.bool true)).setIfInBounds (12 + k) v).setIfInBounds (19 + k) (.int .i64 u) = rboxC ⟨s.n, s.r, s.m, s.f, updP s.P k ⟨true, L, u⟩⟩ (updV vs k v) := by
  match k, h with
  | 0, _ => simp [rboxC, updP, updV]
  | 1, _ => simp [rboxC, updP, updV]
  | 2, _ => simp [rboxC, updP, updV]
  | 3, _ => simp [rboxC, updP, updV]
  | 4, _ => simp [rboxC, updP, updV]
  | 5, _ => simp [rboxC, updP, updV]
  | 6, _ => simp [rboxC, updP, updV]
  | n + 7, h => omega
theorem rrow_te {W : World} {base : Nat} {L : List Et} {v : Value} {b : Nat} {cs : Array Value} (h : OwE base L v W) (x : W.heap[b]? = some (.cells cs TRP (0, 0))) : v.ownBlock ≠ some b := by
  intro e
  rcases h.2 with ⟨rfl, _⟩ | ⟨g, cap, cur, rfl, _, hg, _⟩
  · cases e
  · injection e with e
    subst e
    rw [x] at hg
    injection hg with hg
    injection hg with _ hg
    exact absurd hg (by decide)
end Go.Proofs.Ytffiooclkchoiaa.Prp
