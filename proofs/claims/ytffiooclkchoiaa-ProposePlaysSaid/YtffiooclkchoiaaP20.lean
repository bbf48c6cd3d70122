/- short; Copy. -/
import Derived.Test.YtffiooclkchoiaaP19
namespace Go.Proofs.Ytffiooclkchoiaa.Prp
open Go.RowKit Go.Lib
open Bal (TB bOk ckB ordV eqB eqB_t eqB_f eq_b alloc_b check_any order_any)
set_option linter.unusedVariables false
set_option linter.unusedSimpArgs false
set_option maxRecDepth 20000

theorem IsTd.at {w W : World} {a : Option Addr} {len cap : Nat} {S : Nat → Td} (h : IsTd w a len cap S) (hb : Below w.heap.size w W) {i : Nat} (hi : i < len) : ∃ b off, a = some ⟨b, off, Option.none⟩ ∧ b < w.heap.size ∧ W.cell? ⟨b, off + i * 3, Option.none⟩ = some (.int .i64 (S i).k) ∧ W.cell? ⟨b, off + i * 3 + 1, Option.none⟩ = some (.int .i64 (S i).u) ∧ W.cell? ⟨b, off + i * 3 + 2, Option.none⟩ = some (S i).v := by
  obtain ⟨b, off, rfl, hlt, hc⟩ := (h.later hb).cell (by omega)
  obtain ⟨b', off', e, hlt', _⟩ := h.cell (by omega)
  injection e with e
  injection e with e1 e2
  subst e1 e2
  exact ⟨b, off, rfl, hlt', hc i hi⟩
def shTo (len : Nat) (S : Nat → Td) : Prop := len ≤ 20 ∧ ∀ i, i < len → (S i).L.length ≤ 40
def ShP (len : Nat) (S : Nat → Td) (w : World) (e : Ending) (w' : World) : Prop := ∃ B, e = .returned (.bool B) ∧ (B = true → shTo len S) ∧ Below w.heap.size w w'
set_option maxRecDepth 100000 in
set_option maxHeartbeats 8000000 in
theorem short_any (f : Int) (a1 : Option Addr) (len1 cap1 : Nat) (S : Nat → Td) (w : World) (h1 : IsTd w a1 len1 cap1 S) :
    Calls Try.prog 10 #[.int .i64 f, .slice a1 len1 cap1] w (ShP len1 S w) := by
  have hNo : Hid (∀ W, Below w.heap.size w W → ShP len1 S w (.returned (.bool false)) W) := Lib.hid fun W hb => ⟨false, rfl, fun h => (by cases h), hb⟩
  by_cases hl : len1 ≤ 20
  · have b1 : decide (20 < (len1 : Int)) = false := by simp; omega
    have b2 : ¬ (20 : Int) < (len1 : Int) := by omega
    go_enter Try.func10, Try.ntmps10
    go_wp2
    go_loopw [5] (fun i wr => ∃ j : Nat, j ≤ len1 ∧ i = .int .i64 j ∧ (∀ i, i < j → (S i).L.length ≤ 40) ∧ Below w.heap.size w wr) (fun i _ => len1 - nOf i)
    case atStart => exact ⟨0, by omega, rfl, fun i hi => by omega, Below.refl _ _⟩
    case round =>
      obtain ⟨j, hj, rfl, hall, hB⟩ := hrel
      replace hall := Lib.hid hall
      by_cases hlt : j < len1
      · obtain ⟨b, off, rfl, hb, c0, c1, c2⟩ := h1.at hB hlt
        have hat := Lib.hid (fun W (hb' : Below w.heap.size w W) => (h1.at hb' hlt))
        have hwf := h1.wf j
        generalize hSj : S j = t at *
        replace hSj := Lib.hid hSj
        obtain ⟨tk, tu, L, v⟩ := t
        obtain ⟨_, _, hI, hE, pa, pc, hpv, hpc⟩ := hwf
        simp only at hI hE hpv c0 c1 c2
        subst hpv
        have i2 : (j : Int) < (len1 : Nat) := by omega
        have i3 : decide ((j : Int) < (len1 : Int)) = true := by simpa using i2
        have i4 : (0 : Int) ≤ (j : Nat) := by omega
        have hA := Lib.hid (fun (k : Nat) (e : Et) (he : L[k]? = some e) => hI.at' he)
        have hlt0 : Hid (∀ k : Nat, k < L.length → ∃ e, L[k]? = some e) := Lib.hid (fun k h => ⟨_, List.getElem?_eq_getElem h⟩)
        obtain ⟨ln, hln⟩ : ∃ ln, ln = L.length := ⟨_, rfl⟩
        rw [← hln] at c2 hlt0
        have hcell : Hid (∀ W, Below w.heap.size w W → W.cell? ⟨b, off + j * 3 + 2, none⟩ = some (.slice pa ln pc)) := Lib.hid fun W hb' => by
          obtain ⟨b', off', e1, _, _, _, e3⟩ := hat.out W hb'
          injection e1 with e1
          injection e1 with e1 e2
          subst e1 e2
          rw [e3]
          show some (Value.slice pa L.length pc) = _
          rw [← hln]
        replace hln := Lib.hid hln
        replace hB := Lib.hid hB
        clear hat hI hE
        by_cases h40 : ln ≤ 40
        · have d1 : decide (40 < (ln : Int)) = false := by simp; omega
          have d2 : ¬ (40 : Int) < (ln : Int) := by omega
          as_aux_lemma =>
            go_wp2
            clear c2
            go_loopw [6] (fun i wr => ∃ k : Nat, k ≤ ln ∧ i = .int .i64 k ∧ Below w.heap.size w wr) (fun i _ => ln - nOf i)
            case atStart => exact ⟨0, by omega, rfl, hB.out⟩
            case round =>
              clear hB
              obtain ⟨k, hk, rfl, hB⟩ := hrel
              have c2 := hcell.out _ hB
              by_cases hkl : k < ln
              · obtain ⟨e, he⟩ := hlt0.out k hkl
                obtain ⟨p, po, rfl, hp, e0, e1, e2, e3⟩ := hA.out k e he
                replace e0 := (hB.cell (p := ⟨p, po + k * 4, none⟩) hp).trans e0
                replace e1 := (hB.cell (p := ⟨p, po + k * 4 + 1, none⟩) hp).trans e1
                replace e2 := (hB.cell (p := ⟨p, po + k * 4 + 2, none⟩) hp).trans e2
                replace e3 := (hB.cell (p := ⟨p, po + k * 4 + 3, none⟩) hp).trans e3
                have k1 : (k : Int) < (ln : Nat) := by omega
                have k2 : decide ((k : Int) < (ln : Int)) = true := by simpa using k1
                have k3 : (0 : Int) ≤ (k : Nat) := by omega
                obtain ⟨es, er, em, ev⟩ := e
                simp only at e0 e1 e2 e3
                have hB2 := Lib.hid (hB.alloc hB.size (.cells #[.int .i64 es, .int .i64 er, .int .i64 em, .string ev] TE))
                have hn2 := hNo.out _ hB2.out
                replace hn2 := Lib.hid hn2
                replace hB := Lib.hid hB
                clear he
                obtain ⟨g, hg⟩ : ∃ g, g = IntKind.i64.wrap (f + 60) := ⟨_, rfl⟩
                have hw := hg.symm
                clear hg
                obtain ⟨s, hs⟩ : ∃ s, s = ev.size := ⟨_, rfl⟩
                have hs' := hs.symm
                clear hs
                have x1 : (decide (g < es) = true ∧ g < es) ∨ (decide (g < es) = false ∧ ¬ g < es) := by by_cases h : g < es <;> simp [h]
                have x2 : (decide (es < 4000) = true ∧ es < 4000) ∨ (decide (es < 4000) = false ∧ ¬ es < 4000) := by by_cases h : es < 4000 <;> simp [h]
                have x3 : (decide (300 < (s : Int)) = true ∧ 300 < (s : Int)) ∨ (decide (300 < (s : Int)) = false ∧ ¬ 300 < (s : Int)) := by by_cases h : 300 < (s : Int) <;> simp [h]
                have x4 : (decide ((s : Int) ≤ 65536) = true ∧ (s : Int) ≤ 65536) ∨ (decide ((s : Int) ≤ 65536) = false ∧ ¬ (s : Int) ≤ 65536) := by by_cases h : (s : Int) ≤ 65536 <;> simp [h]
                have x5 : (decide (65541 < (s : Int)) = true ∧ 65541 < (s : Int)) ∨ (decide (65541 < (s : Int)) = false ∧ ¬ 65541 < (s : Int)) := by by_cases h : 65541 < (s : Int) <;> simp [h]
                rcases x1 with ⟨x1, y1⟩ | ⟨x1, y1⟩ <;> rcases x2 with ⟨x2, y2⟩ | ⟨x2, y2⟩ <;> rcases x3 with ⟨x3, y3⟩ | ⟨x3, y3⟩ <;> rcases x4 with ⟨x4, y4⟩ | ⟨x4, y4⟩ <;> rcases x5 with ⟨x5, y5⟩ | ⟨x5, y5⟩ <;> (try (exfalso; omega)) <;> as_aux_lemma => (go_wp2; first | (go_ret; exact hn2.out) | (go_roundw; (case rel => exact ⟨k + 1, by omega, by go_num, hB2.out⟩); (case measure => simp [nOf]; omega)))
              · have hkl2 : k = ln := by omega
                subst hkl2
                have k2 : decide ((k : Int) < (k : Int)) = false := by simp
                have hnx : Hid (∀ i, i < j + 1 → (S i).L.length ≤ 40) := Lib.hid fun i hi => by
                  by_cases e : i = j
                  · subst e; rw [hSj.out]; show L.length ≤ 40; rw [← hln.out]; exact h40
                  · exact hall.out i (by omega)
                replace hB := Lib.hid hB
                go_wp2
                go_roundw
                case rel => exact ⟨j + 1, by omega, by go_num, hnx.out, hB.out⟩
                case measure => simp [nOf]; omega
        · have d1 : decide (40 < (ln : Int)) = true := by simp; omega
          have d2 : (40 : Int) < (ln : Int) := by omega
          as_aux_lemma =>
            go_wp2
            go_ret
            exact hNo.out _ hB.out
      · have hje : j = len1 := by omega
        subst hje
        have i3 : decide ((j : Int) < (j : Int)) = false := by simp
        go_wp2
        go_ret
        exact ⟨true, rfl, fun _ => ⟨hl, hall.out⟩, hB⟩
  · have b1 : decide (20 < (len1 : Int)) = true := by simp; omega
    have b2 : (20 : Int) < (len1 : Int) := by omega
    go_enter Try.func10, Try.ntmps10
    go_wp2
    go_ret
    exact hNo.out _ (Below.refl _ _)
end Go.Proofs.Ytffiooclkchoiaa.Prp
