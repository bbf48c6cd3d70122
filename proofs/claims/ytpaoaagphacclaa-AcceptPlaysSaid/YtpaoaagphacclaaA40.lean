/- The document's acceptor: what Accept needs: a put as two parts, a row behind a row. -/
import Derived.Test.YtpaoaagphacclaaA39
namespace Go.Proofs.Ytpaoaagphacclaa.Acc
open Go.RowKit Go.Maps Go.Lib
open Bal (TB bOk ckB ordV eqB eqB_t eqB_f eq_b alloc_b)
set_option linter.unusedVariables false
set_option linter.unusedSimpArgs false
set_option maxRecDepth 20000

def ltM (M : List Et) (k : Int) : List Et := M.filter (fun p => decide (p.s < k))
theorem high (e : Et) (r : List Et) (h : ∀ p ∈ r, e.s < p.s) : putM r e = e :: r ∧ ltM r e.s = [] ∧ frM r (e.s + 1) = r := by
  have hd : delM r e.s = r := by
    unfold delM
    rw [List.filter_eq_self]
    intro p hp
    have := h p hp
    simp
    omega
  refine ⟨?_, ?_, ?_⟩
  · unfold putM
    rw [hd]
    cases r with
    | nil => rfl
    | cons y r => exact if_pos (decide_eq_true (h y (List.mem_cons_self ..)))
  · unfold ltM
    rw [List.filter_eq_nil_iff]
    intro p hp
    have := h p hp
    simp
    omega
  · unfold frM
    rw [List.filter_eq_self]
    intro p hp
    have := h p hp
    exact decide_eq_true (by omega)
theorem put_split (e : Et) : ∀ M : List Et, Srt M → putM M e = ltM M e.s ++ e :: frM M (e.s + 1)
  | [], _ => rfl
  | y :: r, h => by
    have h1 : ∀ p ∈ r, y.s < p.s := (List.pairwise_cons.1 h).1
    have h2 : Srt r := (List.pairwise_cons.1 h).2
    by_cases g1 : y.s < e.s
    · have ih := put_split e r h2
      have d : delM (y :: r) e.s = y :: delM r e.s := by
        unfold delM
        rw [List.filter_cons, if_pos (by simp; omega)]
      have a : putM (y :: r) e = y :: putM r e := by
        unfold putM
        rw [d]
        exact if_neg (by simp; omega)
      have b : ltM (y :: r) e.s = y :: ltM r e.s := by unfold ltM; rw [List.filter_cons, if_pos (decide_eq_true g1)]
      have c : frM (y :: r) (e.s + 1) = frM r (e.s + 1) := by unfold frM; rw [List.filter_cons, if_neg (by simp; omega)]
      rw [a, b, c, ih]
      rfl
    · by_cases g2 : y.s = e.s
      · obtain ⟨p1, p2, p3⟩ := high e r fun p hp => by have := h1 p hp; omega
        have a : putM (y :: r) e = putM r e := by
          unfold putM delM
          rw [List.filter_cons, if_neg (by simp; exact g2)]
        have b : ltM (y :: r) e.s = ltM r e.s := by unfold ltM; rw [List.filter_cons, if_neg (by simp; omega)]
        have c : frM (y :: r) (e.s + 1) = frM r (e.s + 1) := by unfold frM; rw [List.filter_cons, if_neg (by simp; omega)]
        rw [a, b, c, p1, p2, p3]
        rfl
      · obtain ⟨p1, p2, p3⟩ := high e (y :: r) fun p hp => by
          rcases List.mem_cons.1 hp with rfl | hp
          · omega
          · have := h1 p hp; omega
        rw [p1, p2, p3]
        rfl
theorem flat_one' (L : List Et) : ∀ u ∈ flat L, u.oneCell' = true := by
  intro u hu
  obtain ⟨e, _, he⟩ := List.mem_flatMap.1 hu
  simp [ec] at he
  rcases he with rfl | rfl | rfl | rfl <;> rfl
theorem run_append_es (base : Nat) (w : World) (ty : TypeId) (v : Value) (L : List Et) (hown : OwE base L v w) (a : Addr) (c : Nat) (N : List Et) (hx : ∀ j u, (flat N)[j]? = some u → w.cell? (a.add j) = some u) (hn : L.length + N.length ≤ 100000) (hbase : base ≤ w.heap.size) :
    ∃ v' w', (Builtin.append_ #[TEs, TEs] ty #[v, .slice (some a) N.length c]).run Try.prog w = .ok v' w' ∧ OwE base (L ++ N) v' w' ∧ w.grownBy w' v.ownBlock := by
  obtain ⟨i0, hi, hz0, hz1, hz2⟩ := info_p info_e
  obtain ⟨v', w', h1, h2, h3, _, h5⟩ := run_append_own_at (P := Try.prog) w base TEs ty TE i0 _ 4 40 Try.underlying36 hi hz0 hz1 hz2 rfl (by decide) v L.length (flat L) hown a N.length c (flat N) (flat_len N)
    hx (flat_one' N) (by unfold maxLen; omega) (by omega) hbase
  refine ⟨v', w', h1, ?_, h3⟩
  show w'.ownsRow base TE 4 v' (L ++ N).length (flat (L ++ N))
  rw [flat_app, List.length_append]
  exact h2
end Go.Proofs.Ytpaoaagphacclaa.Acc
