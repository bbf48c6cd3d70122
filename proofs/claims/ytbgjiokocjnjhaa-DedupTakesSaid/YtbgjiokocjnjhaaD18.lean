/- A map from effects to memos. -/
import Derived.Test.YtbgjiokocjnjhaaD17
import Derived.DeepKeys4
import Derived.Maps.OwnSet
import Derived.Maps.OwnOps
namespace Go.Proofs.Ytbgjiokocjnjhaa.Ded
open Go.RowKit Go.Lib Go.WideMaps
open Rng (tx tx_of)
open Eff (TE)
set_option linter.unusedVariables false
set_option linter.unusedSimpArgs false
set_option maxRecDepth 100000

abbrev TMp : TypeId := 51
theorem tmp_map : Try.prog.underlying TMp = some (.map TE TMm) := Try.underlying51
theorem laidE : laidOutB Try.prog = true := by kernel_rfl
theorem rowE : (TE : Nat) < Try.prog.types.size := of_decide_eq_true (by kernel_rfl)
theorem wideE : (match Try.prog.underlying TE with | some (.array _ _) | some (.struct _) => true | _ => false) = true := by kernel_rfl
theorem lawE : KeyLaw Try.prog TE := deep_law_laid laidE (m := 2) (by omega) rowE (by kernel_rfl) wideE
/-- An effect of numbers of 64 bits. -/
def WfE (e : Ef) : Prop := (Lit.int .i64 e.s).wf = true ∧ (Lit.int .i64 e.t).wf = true ∧ (Lit.int .i64 e.p).wf = true
theorem key_ok (e : Ef) (h : WfE e) : ∃ l, keyOf Try.prog TE (efA e) = some l := by
  obtain ⟨h1, h2, h3⟩ := h
  obtain ⟨f0, f1, f2, hu, t0, t1, t2, o0, o1, o2⟩ := te_struct
  have hk : Try.prog.keyType TE = true := by kernel_rfl
  have hf : (efA e).formed Try.prog TE = true := by simp [Value.formed, hu, te_cells]
  have hn : (#[f0, f1, f2] : Array Field).all (·.name != "_") = true := by
    have h0 : (match Try.prog.underlying TE with | some (.struct fs) => fs.all (·.name != "_") | _ => false) = true := by kernel_rfl
    rw [hu] at h0
    exact h0
  have k0 : Try.prog.cellsOf 3 = 1 := by kernel_rfl
  obtain ⟨d, hd⟩ : ∃ d, Try.prog.types.size + 1 = d + 2 := ⟨Try.prog.types.size - 1, by have h0 : 0 < Try.prog.types.size := Nat.lt_of_le_of_lt (Nat.zero_le _) rowE; omega⟩
  have hl : ∀ n, (Lit.int .i64 n).wf = true → Try.prog.keyLits (d + 1) 3 [.int .i64 n] = some [.int .i64 n] := fun n hn => by
    simp [Program.keyLits, Try.underlying3, hn]
  refine ⟨.string (keyBytes [.int .i64 e.s, .int .i64 e.t, .int .i64 e.p]), ?_⟩
  unfold keyOf
  rw [hu]
  simp only [hk, hf, Bool.and_self, if_true, hd]
  have hll : Try.prog.keyLits (d + 2) TE (efA e).cells.toList = some [.int .i64 e.s, .int .i64 e.t, .int .i64 e.p] := by
    unfold Program.keyLits
    rw [hu]
    have hc : (efA e).cells.toList = [.int .i64 e.s, .int .i64 e.t, .int .i64 e.p] := rfl
    rw [hc]
    simp only [te_cells, hn, List.length_cons, List.length_nil, Nat.zero_add, and_self, if_true, List.mapM_cons, List.mapM_nil, t0, t1, t2, o0, o1, o2, k0, List.drop_zero, List.drop_succ_cons, List.take_succ_cons, List.take_zero, hl _ h1, hl _ h2, hl _ h3]
    rfl
  rw [hll]
  rfl
abbrev mmA (m : Mm) : Value := .agg #[.int .u8 m.s, .int .u8 m.p, .int .u8 m.k, .int .i32 m.n, .int .u8 m.e]
def getP (M : List (Ef × Mm)) (e : Ef) : Option Mm := (M.find? (fun p => decide (p.1 = e))).map (·.2)
/-- The map in block mb: its entries as they were put. -/
structure MpIs (w : World) (mb : Nat) (M : List (Ef × Mm)) : Prop where
  ex : ∃ es clock, w.heap[mb]? = some (.map es clock) ∧ es.toList.map (fun x => (x.key, x.val)) = M.map (fun p => (efA p.1, mmA p.2))
  wf : ∀ p ∈ M, WfE p.1
  nd : (M.map (·.1)).Nodup
theorem efA_inj {a b : Ef} (h : efA a = efA b) : a = b := by
  obtain ⟨a1, a2, a3⟩ := a
  obtain ⟨b1, b2, b3⟩ := b
  simp only [Value.agg.injEq, Array.mk.injEq, List.cons.injEq, Value.int.injEq, true_and, and_true] at h
  obtain ⟨rfl, rfl, rfl⟩ := h
  rfl
theorem getP_none {M : List (Ef × Mm)} {e : Ef} (h : ∀ p ∈ M, p.1 ≠ e) : getP M e = none := by
  unfold getP
  rw [Option.map_eq_none_iff, List.find?_eq_none]
  intro p hp
  simpa using h p hp
theorem getP_some {M : List (Ef × Mm)} {e : Ef} {m : Mm} (hn : (M.map (·.1)).Nodup) (h : (e, m) ∈ M) : getP M e = some m := by
  induction M with
  | nil => cases h
  | cons q r ih =>
    rw [List.map_cons, List.nodup_cons] at hn
    unfold getP
    rw [List.find?_cons]
    rcases List.mem_cons.1 h with rfl | h
    · simp
    · have hne : q.1 ≠ e := fun c => hn.1 (List.mem_map.2 ⟨_, h, c.symm⟩)
      simp only [hne, decide_false]
      exact ih hn.2 h
theorem find_mp {w : World} {mb : Nat} {M : List (Ef × Mm)} {es : Array MapEntry} (hes : es.toList.map (fun x => (x.key, x.val)) = M.map (fun p => (efA p.1, mmA p.2))) (hwf : ∀ p ∈ M, WfE p.1) (hn : (M.map (·.1)).Nodup) (e : Ef) (he : WfE e) :
    (getP M e = none ∧ (Instr.findKey TE (efA e) es.toList).run Try.prog w = .ok none w) ∨ ∃ m j, getP M e = some m ∧ (Instr.findKey TE (efA e) es.toList).run Try.prog w = .ok (some (j, mmA m)) w := by
  obtain ⟨l, hl⟩ := key_ok e he
  have hmem : ∀ x ∈ es.toList, ∃ p ∈ M, x.key = efA p.1 ∧ x.val = mmA p.2 := fun x hx => by
    have h1 : (x.key, x.val) ∈ M.map (fun p => (efA p.1, mmA p.2)) := by rw [← hes]; exact List.mem_map.2 ⟨x, hx, rfl⟩
    obtain ⟨p, hp, e1⟩ := List.mem_map.1 h1
    injection e1 with e1 e2
    exact ⟨p, hp, e1.symm, e2.symm⟩
  rcases lawE.find w hl es.toList (fun x hx => by
    obtain ⟨p, hp, e1, _⟩ := hmem x hx
    rw [e1]
    exact key_ok p.1 (hwf p hp)) with ⟨h1, h2⟩ | ⟨j, x, h1, h2, h3⟩
  · left
    refine ⟨getP_none fun p hp c => ?_, h1⟩
    have h4 : (efA p.1, mmA p.2) ∈ es.toList.map (fun x => (x.key, x.val)) := by rw [hes]; exact List.mem_map.2 ⟨p, hp, rfl⟩
    obtain ⟨x, hx, e1⟩ := List.mem_map.1 h4
    injection e1 with e1 e2
    exact h2 x hx (by rw [e1, c])
  · right
    have hx : x ∈ es.toList := List.mem_of_getElem? h2
    obtain ⟨p, hp, e1, e2⟩ := hmem x hx
    have hpe : p.1 = e := efA_inj (e1.symm.trans h3)
    refine ⟨p.2, j, getP_some hn ?_, by rw [h1, e2]⟩
    rw [← hpe]
    exact hp
theorem zero_mm (w : World) : (zeroValue TMm).run Try.prog w = .ok (mmA ⟨0, 0, 0, 0, 0⟩) w := by kernel_rfl
theorem mp_look {w : World} {mb : Nat} {M : List (Ef × Mm)} (h : MpIs w mb M) (e : Ef) (he : WfE e) :
    (Instr.lookup TMp (.map (some mb)) (efA e) true).run Try.prog w = .ok (.tuple #[mmA ((getP M e).getD ⟨0, 0, 0, 0, 0⟩), .bool (getP M e).isSome]) w := by
  obtain ⟨⟨es, clock, hb, hes⟩, hwf, hn⟩ := h
  obtain ⟨l, hl⟩ := key_ok e he
  rcases find_mp (w := w) (mb := mb) hes hwf hn e he with ⟨h1, h2⟩ | ⟨m, j, h1, h2⟩
  · simp [Instr.lookup, run_underlying tmp_map, MapKept.run_getObj_map hb, lawE.check w _ hl, h2, h1, zero_mm, Result.andThen]
  · simp [Instr.lookup, run_underlying tmp_map, MapKept.run_getObj_map hb, lawE.check w _ hl, h2, h1, Result.andThen]
theorem mp_len {w : World} {mb : Nat} {M : List (Ef × Mm)} (h : MpIs w mb M) (ty : TypeId) : (Builtin.len_ #[TMp] ty #[.map (some mb)]).run Try.prog w = .ok (.int .i64 M.length) w := by
  obtain ⟨⟨es, clock, hb, hes⟩, hwf, hn⟩ := h
  have hl : es.size = M.length := by have := congrArg List.length hes; simpa using this
  simp [Builtin.len_, run_underlying tmp_map, MapKept.run_getObj_map hb, goInt, Result.andThen, hl]
theorem MpIs.kept {w w' : World} {mb : Nat} {M : List (Ef × Mm)} (h : MpIs w mb M) (hk : w'.heap[mb]? = w.heap[mb]?) : MpIs w' mb M := by
  obtain ⟨⟨es, clock, hb, hes⟩, hwf, hn⟩ := h
  exact ⟨⟨es, clock, hk.trans hb, hes⟩, hwf, hn⟩
theorem MpIs.lt {w : World} {mb : Nat} {M : List (Ef × Mm)} (h : MpIs w mb M) : mb < w.heap.size := by
  obtain ⟨⟨es, clock, hb, hes⟩, hwf, hn⟩ := h
  exact (Array.getElem?_eq_some_iff.1 hb).1
theorem MpIs.later {w w' : World} {mb : Nat} {M : List (Ef × Mm)} (h : MpIs w mb M) (hb : Below w.heap.size w w') : MpIs w' mb M := h.kept (hb.block _ h.lt)
theorem mp_put {w : World} {mb : Nat} {M : List (Ef × Mm)} (h : MpIs w mb M) (e : Ef) (m : Mm) (he : WfE e) (hg : getP M e = none) :
    ∃ w', (Instr.mapUpdate TMp (.map (some mb)) (efA e) (mmA m)).run Try.prog w = .ok () w' ∧ MpIs w' mb (M ++ [(e, m)]) ∧ w.grownBy w' (some mb) ∧ w'.heap.size = w.heap.size := by
  obtain ⟨⟨es, clock, hb, hes⟩, hwf, hn⟩ := h
  obtain ⟨l, hl⟩ := key_ok e he
  have hlt : mb < w.heap.size := (Array.getElem?_eq_some_iff.1 hb).1
  rcases find_mp (w := w) (mb := mb) hes hwf hn e he with ⟨h1, h2⟩ | ⟨m', j, h1, h2⟩
  · refine ⟨Go.ChangeMaps.setBlock w mb (.map (es.push ⟨efA e, mmA m, clock⟩) (clock + 1)), ?_, ⟨⟨_, _, Go.ChangeMaps.heap_setBlock_same hb _, ?_⟩, ?_, ?_⟩, ?_, ?_⟩
    · simp [Instr.mapUpdate, run_underlying tmp_map, MapKept.run_getObj_map hb, lawE.check w _ hl, h2, Result.andThen, MapKept.run_setObj_map _ hb, Go.ChangeMaps.setBlock]
    · simp [hes]
    · intro p hp
      rcases List.mem_append.1 hp with hp | hp
      · exact hwf p hp
      · simp only [List.mem_singleton] at hp
        subst hp
        exact he
    · rw [List.map_append, List.nodup_append]
      refine ⟨hn, by simp, ?_⟩
      intro a ha b hb2
      simp only [List.map_cons, List.map_nil, List.mem_singleton] at hb2
      subst hb2
      rintro rfl
      obtain ⟨p, hp, e1⟩ := List.mem_map.1 ha
      have := getP_some hn (show (p.1, p.2) ∈ M from hp)
      rw [e1, hg] at this
      cases this
    · refine ⟨rfl, rfl, rfl, by simp [Go.ChangeMaps.setBlock], fun k hk hne => Go.ChangeMaps.heap_setBlock_other hb _ (fun e => hne (by rw [e]))⟩
    · simp [Go.ChangeMaps.setBlock]
  · rw [hg] at h1
    cases h1
end Go.Proofs.Ytbgjiokocjnjhaa.Ded
