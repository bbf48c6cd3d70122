/- Counts of votes in a map; rows of votes and of ballots. -/
import Derived.Test.YtffiooclkchoiaaP15
import Derived.DeepKeys4
import Derived.WideKeyEntry
import Derived.Maps.OwnOps
import Derived.Laws.OwnMore
namespace Go.Proofs.Ytffiooclkchoiaa.Prp
open Go.RowKit Go.Lib Go.WideMaps
open Bal (TB bOk ckB ordV eqB eqB_t eqB_f eq_b alloc_b check_any order_any)
set_option linter.unusedVariables false
set_option linter.unusedSimpArgs false
set_option maxRecDepth 100000

structure Vt where
  r : Int
  m : Int
  v : ByteArray
abbrev zV : Vt := ⟨0, 0, ⟨#[]⟩⟩
abbrev vtA (x : Vt) : Value := .agg #[.int .i64 x.r, .int .i64 x.m, .string x.v]
abbrev TV : TypeId := 64
abbrev TVs : TypeId := 59
abbrev TBs : TypeId := 60
abbrev TMp : TypeId := 61
theorem tmp_map : Try.prog.underlying TMp = some (.map TV TI) := Try.underlying61
theorem laidE : laidOutB Try.prog = true := by kernel_rfl
theorem rowE : (TV : Nat) < Try.prog.types.size := of_decide_eq_true (by kernel_rfl)
theorem wideE : (match Try.prog.underlying TV with | some (.array _ _) | some (.struct _) => true | _ => false) = true := by kernel_rfl
theorem lawE : KeyLaw Try.prog TV := deep_law_laid laidE (m := 3) (by omega) rowE (by kernel_rfl) wideE
def WfV (x : Vt) : Prop := (Lit.int .i64 x.r).wf = true ∧ (Lit.int .i64 x.m).wf = true ∧ x.v.size ≤ maxLen
theorem tv_struct : ∃ f0 f1 : Field, Try.prog.underlying TV = some (.struct #[f0, f1]) ∧ f0.type = TB ∧ f1.type = 9 ∧ f0.offset = 0 ∧ f1.offset = 2 := ⟨_, _, Try.underlying64, rfl, rfl, rfl, rfl⟩
theorem tv_cells : Try.prog.cellsOf TV = 3 := by kernel_rfl
theorem key_ok (x : Vt) (h : WfV x) : ∃ l, keyOf Try.prog TV (vtA x) = some l := by
  obtain ⟨h1, h2, h3⟩ := h
  obtain ⟨f0, f1, hu, t0, t1, o0, o1⟩ := tv_struct
  obtain ⟨g0, g1, gu, s0, s1, p0, p1⟩ := tb_struct
  have hk : Try.prog.keyType TV = true := by kernel_rfl
  have hf : (vtA x).formed Try.prog TV = true := by simp [Value.formed, hu, tv_cells]
  have hn : (#[f0, f1] : Array Field).all (·.name != "_") = true := by
    have h0 : (match Try.prog.underlying TV with | some (.struct fs) => fs.all (·.name != "_") | _ => false) = true := by kernel_rfl
    rw [hu] at h0
    exact h0
  have hn2 : (#[g0, g1] : Array Field).all (·.name != "_") = true := by
    have h0 : (match Try.prog.underlying TB with | some (.struct fs) => fs.all (·.name != "_") | _ => false) = true := by kernel_rfl
    rw [gu] at h0
    exact h0
  have k0 : Try.prog.cellsOf 3 = 1 := by kernel_rfl
  have k1 : Try.prog.cellsOf 9 = 1 := by kernel_rfl
  obtain ⟨d, hd⟩ : ∃ d, Try.prog.types.size + 1 = d + 3 := ⟨Try.prog.types.size - 2, by have h0 : 2 ≤ Try.prog.types.size := of_decide_eq_true (by kernel_rfl); omega⟩
  have hl : ∀ e n, (Lit.int .i64 n).wf = true → Try.prog.keyLits (e + 1) 3 [.int .i64 n] = some [.int .i64 n] := fun e n hn => by
    simp [Program.keyLits, Try.underlying3, hn]
  have hs : Try.prog.keyLits (d + 2) 9 [.string x.v] = some [.string x.v.data.toList] := by
    simp [Program.keyLits, Try.underlying9, h3]
  have hb : Try.prog.keyLits (d + 2) TB [.int .i64 x.r, .int .i64 x.m] = some [.int .i64 x.r, .int .i64 x.m] := by
    unfold Program.keyLits
    rw [gu]
    simp only [tb_cells, hn2, List.length_cons, List.length_nil, Nat.zero_add, and_self, if_true, List.mapM_cons, List.mapM_nil, s0, s1, p0, p1, k0, List.drop_zero, List.drop_succ_cons, List.take_succ_cons, List.take_zero, hl _ _ h1, hl _ _ h2]
    rfl
  refine ⟨.string (keyBytes [.int .i64 x.r, .int .i64 x.m, .string x.v.data.toList]), ?_⟩
  unfold keyOf
  rw [hu]
  simp only [hk, hf, Bool.and_self, if_true, hd]
  have hll : Try.prog.keyLits (d + 3) TV (vtA x).cells.toList = some [.int .i64 x.r, .int .i64 x.m, .string x.v.data.toList] := by
    unfold Program.keyLits
    rw [hu]
    have hc : (vtA x).cells.toList = [.int .i64 x.r, .int .i64 x.m, .string x.v] := rfl
    rw [hc]
    simp only [tv_cells, hn, List.length_cons, List.length_nil, Nat.zero_add, and_self, if_true, List.mapM_cons, List.mapM_nil, t0, t1, o0, o1, tb_cells, k1, List.drop_zero, List.drop_succ_cons, List.take_succ_cons, List.take_zero, hb, hs]
    rfl
  rw [hll]
  rfl
theorem vtA_inj {a b : Vt} (h : vtA a = vtA b) : a = b := by
  obtain ⟨a1, a2, a3⟩ := a
  obtain ⟨b1, b2, b3⟩ := b
  simp only [Value.agg.injEq, Array.mk.injEq, List.cons.injEq, Value.int.injEq, Value.string.injEq, true_and, and_true] at h
  obtain ⟨rfl, rfl, rfl⟩ := h
  rfl
/-- The map in block mb counts as C says; nothing stands for 0. -/
structure MpC (w : World) (mb : Nat) (C : Vt → Int) : Prop where
  ex : ∃ es clock, w.heap[mb]? = some (.map es clock) ∧ ((es.toList.map (·.born)).Nodup ∧ (es.toList.map (·.key)).Nodup) ∧ (∀ x ∈ es.toList, x.born < clock) ∧ (∀ x ∈ es.toList, ∃ v, WfV v ∧ x.key = vtA v ∧ x.val = .int .i64 (C v)) ∧ ∀ v, C v ≠ 0 → ∃ x ∈ es.toList, x.key = vtA v
theorem MpC.kept {w w' : World} {mb : Nat} {C : Vt → Int} (h : MpC w mb C) (hk : w'.heap[mb]? = w.heap[mb]?) : MpC w' mb C := by
  obtain ⟨es, clock, hb, rest⟩ := h.ex
  exact ⟨es, clock, hk.trans hb, rest⟩
theorem MpC.lt {w : World} {mb : Nat} {C : Vt → Int} (h : MpC w mb C) : mb < w.heap.size := by
  obtain ⟨es, clock, hb, _⟩ := h.ex
  exact (Array.getElem?_eq_some_iff.1 hb).1
theorem MpC.later {w w' : World} {mb : Nat} {C : Vt → Int} (h : MpC w mb C) (hb : Below w.heap.size w w') : MpC w' mb C := h.kept (hb.block _ h.lt)
theorem MpC.made (w : World) : MpC (w.alloc (.map #[] 0)) w.heap.size (fun _ => 0) := ⟨#[], 0, heap_alloc_new _ _, ⟨by simp, by simp⟩, by simp, by simp, fun v h => absurd rfl h⟩
theorem zero_i (u : World) : (zeroValue TI).run Try.prog u = .ok (.int .i64 0) u := by kernel_rfl
theorem MpC.look {w : World} {mb : Nat} {C : Vt → Int} (h : MpC w mb C) (x : Vt) (hx : WfV x) : (Instr.lookup TMp (.map (some mb)) (vtA x) false).run Try.prog w = .ok (.int .i64 (C x)) w := by
  obtain ⟨es, clock, hb, _, _, h3, h4⟩ := h.ex
  obtain ⟨l, hl⟩ := key_ok x hx
  rcases lawE.find w hl es.toList (fun e he => by
    obtain ⟨v, hv, e1, _⟩ := h3 e he
    rw [e1]
    exact key_ok v hv) with ⟨g1, g2⟩ | ⟨j, e, g1, g2, g3⟩
  · have h0 : C x = 0 := by
      by_cases h0 : C x = 0
      · exact h0
      · obtain ⟨e, he, e1⟩ := h4 x h0
        exact absurd e1 (g2 e he)
    simp [Instr.lookup, run_underlying tmp_map, MapKept.run_getObj_map hb, lawE.check w _ hl, g1, zero_i, Result.andThen, h0]
  · obtain ⟨v, _, e1, e2⟩ := h3 e (List.mem_of_getElem? g2)
    have : v = x := vtA_inj (e1.symm.trans g3)
    subst this
    simp [Instr.lookup, run_underlying tmp_map, MapKept.run_getObj_map hb, lawE.check w _ hl, g1, e2, Result.andThen]
instance : DecidableEq Vt := fun a b => by
  obtain ⟨a1, a2, a3⟩ := a
  obtain ⟨b1, b2, b3⟩ := b
  exact decidable_of_iff (a1 = b1 ∧ a2 = b2 ∧ a3 = b3) (by simp)
def updC (C : Vt → Int) (x : Vt) (c : Int) : Vt → Int := fun v => if v = x then c else C v
theorem find_born : ∀ (l : List MapEntry) (j : Nat) (e : MapEntry), (l.map (·.born)).Nodup → l[j]? = some e → l.findIdx? (fun x => ((x.born : Nat) : Int) == ((e.born : Nat) : Int)) = some j
  | [], j, e, _, h => by simp at h
  | y :: l, 0, e, _, h => by
    simp only [List.getElem?_cons_zero, Option.some.injEq] at h
    subst h
    simp [List.findIdx?_cons]
  | y :: l, j + 1, e, hn, h => by
    rw [List.map_cons, List.nodup_cons] at hn
    rw [List.getElem?_cons_succ] at h
    have hne : y.born ≠ e.born := fun c => hn.1 (List.mem_map.2 ⟨e, List.mem_of_getElem? h, c.symm⟩)
    have hb : (((y.born : Nat) : Int) == ((e.born : Nat) : Int)) = false := by simp; omega
    rw [List.findIdx?_cons, hb, find_born l j e hn.2 h]
    rfl
theorem set_list {es : Array MapEntry} {j : Nat} {e : MapEntry} (h : es.toList[j]? = some e) (f : MapEntry → MapEntry) : (es.modify j f).toList = es.toList.set j (f e) := by
  rw [Array.toList_modify]
  generalize es.toList = l at *
  induction l generalizing j with
  | nil => simp at h
  | cons y l ih =>
    cases j with
    | zero =>
      simp only [List.getElem?_cons_zero, Option.some.injEq] at h
      subst h
      rfl
    | succ j =>
      rw [List.getElem?_cons_succ] at h
      have := ih h
      simp only [List.modify_succ_cons, List.set_cons_succ]
      rw [this]
/-- m[k]++ in its parts: the entry is found or made, its place is told; then it is written. -/
theorem MpC.entry {w : World} {mb : Nat} {C : Vt → Int} (h : MpC w mb C) (x : Vt) (hx : WfV x) :
    ∃ (st : Int) (w1 : World), (Instr.mapEntry TMp (.map (some mb)) (vtA x)).run Try.prog w = .ok (.tuple #[.int .i64 (C x), .int .i64 st]) w1 ∧ MpC w1 mb C ∧ w.grownBy w1 (some mb) ∧
      ∀ c : Int, ∃ w2, (Instr.entryStore TMp (.map (some mb)) (.int .i64 st) (.int .i64 c)).run Try.prog w1 = .ok () w2 ∧ MpC w2 mb (updC C x c) ∧ w1.grownBy w2 (some mb) := by
  obtain ⟨es, clock, hb, ⟨h1, h1k⟩, h2, h3, h4⟩ := h.ex
  obtain ⟨l, hl⟩ := key_ok x hx
  have hst : ∀ (W : World) (es0 : Array MapEntry) (c0 i : Nat) (b : Nat) (c : Int), W.heap[mb]? = some (.map es0 c0) → es0.findIdx? (fun y => ((y.born : Nat) : Int) == ((b : Nat) : Int)) = some i →
      (Instr.entryStore TMp (.map (some mb)) (.int .i64 (b : Nat)) (.int .i64 c)).run Try.prog W = .ok () (Go.ChangeMaps.setBlock W mb (.map (es0.modify i fun e => { e with val := .int .i64 c }) c0)) := fun W es0 c0 i b c hW hi => by
    simp [Instr.entryStore, MapKept.run_getObj_map hW, asInt, asIntOf, hi, MapKept.run_setObj_map _ hW, Result.andThen, Go.ChangeMaps.setBlock]
  have hgr : ∀ (W : World) (es0 : Array MapEntry) (c0 : Nat) (o : Obj), W.heap[mb]? = some (.map es0 c0) → W.grownBy (Go.ChangeMaps.setBlock W mb o) (some mb) := fun W es0 c0 o hW =>
    ⟨rfl, rfl, rfl, by simp [Go.ChangeMaps.setBlock], fun k hk hne => Go.ChangeMaps.heap_setBlock_other hW _ (fun e => hne (by rw [e]))⟩
  rcases lawE.find w hl es.toList (fun e he => by
    obtain ⟨v, hv, e1, _⟩ := h3 e he
    rw [e1]
    exact key_ok v hv) with ⟨g1, g2⟩ | ⟨j, e, g1, g2, g3⟩
  · have h0 : C x = 0 := by
      by_cases h0 : C x = 0
      · exact h0
      · obtain ⟨e, he, e1⟩ := h4 x h0
        exact absurd e1 (g2 e he)
    have hnd : ((es.push ⟨vtA x, .int .i64 0, clock⟩).toList.map (·.born)).Nodup := by
      rw [Array.toList_push, List.map_append, List.nodup_append]
      refine ⟨h1, by simp, fun a ha c hc e1 => ?_⟩
      simp only [List.map_cons, List.map_nil, List.mem_singleton] at hc
      obtain ⟨y, hy, rfl⟩ := List.mem_map.1 ha
      have := h2 y hy
      omega
    have hkd : ((es.push ⟨vtA x, .int .i64 0, clock⟩).toList.map (·.key)).Nodup := by
      rw [Array.toList_push, List.map_append, List.nodup_append]
      refine ⟨h1k, by simp, fun a ha c hc e1 => ?_⟩
      simp only [List.map_cons, List.map_nil, List.mem_singleton] at hc
      obtain ⟨y, hy, rfl⟩ := List.mem_map.1 ha
      exact g2 y hy (e1.trans hc)
    have hidx : (es.push ⟨vtA x, .int .i64 0, clock⟩).findIdx? (fun y => ((y.born : Nat) : Int) == ((clock : Nat) : Int)) = some es.size := by
      have := find_born (es.push ⟨vtA x, .int .i64 0, clock⟩).toList es.size ⟨vtA x, .int .i64 0, clock⟩ hnd (by simp)
      rw [Go.WideElems.findIdx_arr]
      exact this
    have hlast : (es.push ⟨vtA x, .int .i64 0, clock⟩).toList[es.size]? = some ⟨vtA x, .int .i64 0, clock⟩ := by simp
    refine ⟨clock, Go.ChangeMaps.setBlock w mb (.map (es.push ⟨vtA x, .int .i64 0, clock⟩) (clock + 1)), ?_, ⟨_, _, Go.ChangeMaps.heap_setBlock_same hb _, ⟨hnd, hkd⟩, ?_, ?_, ?_⟩, hgr w _ _ _ hb, fun c => ⟨Go.ChangeMaps.setBlock (Go.ChangeMaps.setBlock w mb (.map (es.push ⟨vtA x, .int .i64 0, clock⟩) (clock + 1))) mb (.map ((es.push ⟨vtA x, .int .i64 0, clock⟩).modify es.size fun e => { e with val := .int .i64 c }) (clock + 1)), ?_, ⟨_, _, Go.ChangeMaps.heap_setBlock_same (Go.ChangeMaps.heap_setBlock_same hb _) _, ?_, ?_, ?_, ?_⟩, hgr _ _ _ _ (Go.ChangeMaps.heap_setBlock_same hb _)⟩⟩
    · simp [Instr.mapEntry, run_underlying tmp_map, MapKept.run_getObj_map hb, lawE.check w false hl, g1, zero_i, MapKept.run_setObj_map _ hb, Result.andThen, Go.ChangeMaps.setBlock, goInt, h0]
    · intro y hy
      rw [Array.toList_push] at hy
      rcases List.mem_append.1 hy with hy | hy
      · have := h2 y hy; omega
      · rw [List.mem_singleton] at hy; subst hy; exact Nat.lt_succ_self _
    · intro y hy
      rw [Array.toList_push] at hy
      rcases List.mem_append.1 hy with hy | hy
      · exact h3 y hy
      · rw [List.mem_singleton] at hy; subst hy; exact ⟨x, hx, rfl, by rw [h0]⟩
    · intro v hv
      obtain ⟨y, hy, e1⟩ := h4 v hv
      exact ⟨y, by rw [Array.toList_push]; exact List.mem_append_left _ hy, e1⟩
    · exact hst _ _ _ _ _ c (Go.ChangeMaps.heap_setBlock_same hb _) hidx
    · rw [set_list hlast, List.map_set]
      have e1 : (⟨vtA x, .int .i64 c, clock⟩ : MapEntry).born = clock := rfl
      have hself : ((es.push ⟨vtA x, .int .i64 0, clock⟩).toList.map (·.born)).set es.size clock = (es.push ⟨vtA x, .int .i64 0, clock⟩).toList.map (·.born) := by
        refine List.ext_getElem? fun i => ?_
        rw [List.getElem?_set]
        by_cases e : es.size = i
        · subst e
          rw [if_pos rfl]
          simp
        · rw [if_neg e]
      have hself2 : ((es.push ⟨vtA x, .int .i64 0, clock⟩).toList.map (·.key)).set es.size (vtA x) = (es.push ⟨vtA x, .int .i64 0, clock⟩).toList.map (·.key) := by
        refine List.ext_getElem? fun i => ?_
        rw [List.getElem?_set]
        by_cases e : es.size = i
        · subst e
          rw [if_pos rfl]
          simp
        · rw [if_neg e]
      rw [List.map_set]
      rw [hself, hself2]
      exact ⟨hnd, hkd⟩
    · intro y hy
      rw [set_list hlast] at hy
      rcases List.mem_or_eq_of_mem_set hy with hy | rfl
      · rw [Array.toList_push] at hy
        rcases List.mem_append.1 hy with hy | hy
        · have := h2 y hy; omega
        · rw [List.mem_singleton] at hy; subst hy; exact Nat.lt_succ_self _
      · exact Nat.lt_succ_self _
    · intro y hy
      rw [set_list hlast, Array.toList_push, List.set_append_right _ _ (by simp)] at hy
      rcases List.mem_append.1 hy with hy | hy
      · obtain ⟨v, hv, e1, e2⟩ := h3 y hy
        refine ⟨v, hv, e1, ?_⟩
        unfold updC
        rw [if_neg (fun c => g2 y hy (by rw [e1, c])), e2]
      · simp at hy
        subst hy
        exact ⟨x, hx, rfl, by unfold updC; rw [if_pos rfl]⟩
    · intro v hv
      rw [set_list hlast, Array.toList_push, List.set_append_right _ _ (by simp)]
      by_cases e : v = x
      · subst e
        exact ⟨_, List.mem_append_right _ (by simp; rfl), rfl⟩
      · unfold updC at hv
        rw [if_neg e] at hv
        obtain ⟨y, hy, e1⟩ := h4 v hv
        exact ⟨y, List.mem_append_left _ hy, e1⟩
  · have hj : es[j]? = some e := by simpa using g2
    obtain ⟨v, hv, e1, e2⟩ := h3 e (List.mem_of_getElem? g2)
    have hvx : v = x := vtA_inj (e1.symm.trans g3)
    subst hvx
    have hsame : es.modify j (fun e => { e with key := vtA v }) = es := by
      apply Array.ext'
      rw [set_list g2]
      have e4 : ({ e with key := vtA v } : MapEntry) = e := by rw [← g3]
      rw [e4]
      refine List.ext_getElem? fun i => ?_
      rw [List.getElem?_set]
      by_cases e5 : j = i
      · subst e5; rw [if_pos rfl, g2]; simp; exact (List.getElem?_eq_some_iff.1 g2).1
      · rw [if_neg e5]
    have hidx : es.findIdx? (fun y => ((y.born : Nat) : Int) == ((e.born : Nat) : Int)) = some j := by
      rw [Go.WideElems.findIdx_arr]
      exact find_born es.toList j e h1 g2
    have hbs : Go.ChangeMaps.setBlock w mb (.map es clock) = Go.ChangeMaps.setBlock w mb (.map es clock) := rfl
    refine ⟨e.born, Go.ChangeMaps.setBlock w mb (.map es clock), ?_, ⟨_, _, Go.ChangeMaps.heap_setBlock_same hb _, ⟨h1, h1k⟩, h2, h3, h4⟩, hgr w _ _ _ hb, fun c => ⟨Go.ChangeMaps.setBlock (Go.ChangeMaps.setBlock w mb (.map es clock)) mb (.map (es.modify j fun e => { e with val := .int .i64 c }) clock), ?_, ⟨_, _, Go.ChangeMaps.heap_setBlock_same (Go.ChangeMaps.heap_setBlock_same hb _) _, ?_, ?_, ?_, ?_⟩, hgr _ _ _ _ (Go.ChangeMaps.heap_setBlock_same hb _)⟩⟩
    · simp [Instr.mapEntry, run_underlying tmp_map, MapKept.run_getObj_map hb, lawE.check w false hl, g1, hj, g3, lawE.stays w hl, hsame, MapKept.run_setObj_map _ hb, Result.andThen, Go.ChangeMaps.setBlock, goInt, e2]
    · exact hst _ _ _ _ _ c (Go.ChangeMaps.heap_setBlock_same hb _) hidx
    · rw [set_list g2, List.map_set]
      have hself : (es.toList.map (·.born)).set j e.born = es.toList.map (·.born) := by
        refine List.ext_getElem? fun i => ?_
        rw [List.getElem?_set]
        by_cases e5 : j = i
        · subst e5; rw [if_pos rfl, List.getElem?_map, g2]; simp; exact (List.getElem?_eq_some_iff.1 g2).1
        · rw [if_neg e5]
      have hself2 : (es.toList.map (·.key)).set j e.key = es.toList.map (·.key) := by
        refine List.ext_getElem? fun i => ?_
        rw [List.getElem?_set]
        by_cases e5 : j = i
        · subst e5; rw [if_pos rfl, List.getElem?_map, g2]; simp; exact (List.getElem?_eq_some_iff.1 g2).1
        · rw [if_neg e5]
      rw [List.map_set]
      rw [hself, hself2]
      exact ⟨h1, h1k⟩
    · intro y hy
      rw [set_list g2] at hy
      rcases List.mem_or_eq_of_mem_set hy with hy | rfl
      · exact h2 y hy
      · exact h2 e (List.mem_of_getElem? g2)
    · intro y hy
      rw [set_list g2] at hy
      obtain ⟨i, hi⟩ := List.getElem?_of_mem hy
      rw [List.getElem?_set] at hi
      by_cases e5 : j = i
      · subst e5
        rw [if_pos rfl, if_pos (List.getElem?_eq_some_iff.1 g2).1] at hi
        injection hi with hi
        subst hi
        exact ⟨v, hv, g3, by unfold updC; rw [if_pos rfl]⟩
      · rw [if_neg e5] at hi
        obtain ⟨u, hu, k1, k2⟩ := h3 y (List.mem_of_getElem? hi)
        refine ⟨u, hu, k1, ?_⟩
        unfold updC
        by_cases e7 : u = v
        · exfalso
          subst e7
          have q1 : (es.toList.map (·.key))[i]? = some (vtA u) := by rw [List.getElem?_map, hi]; exact congrArg some k1
          have q2 : (es.toList.map (·.key))[j]? = some (vtA u) := by rw [List.getElem?_map, g2]; exact congrArg some g3
          have hil := (List.getElem?_eq_some_iff.1 q1).1
          exact e5 (((List.getElem?_inj hil h1k).1 (q1.trans q2.symm)).symm)
        · rw [if_neg e7]; exact k2
    · intro u hu
      rw [set_list g2]
      have hjl := (List.getElem?_eq_some_iff.1 g2).1
      by_cases e7 : u = v
      · subst e7
        exact ⟨({ e with val := .int .i64 c } : MapEntry), List.mem_of_getElem? (i := j) (by rw [List.getElem?_set, if_pos rfl, if_pos hjl]), g3⟩
      · unfold updC at hu
        rw [if_neg e7] at hu
        obtain ⟨y, hy, k1⟩ := h4 u hu
        obtain ⟨i, hi⟩ := List.getElem?_of_mem hy
        have hij : j ≠ i := by
          rintro rfl
          rw [g2] at hi
          injection hi with hi
          subst hi
          exact e7 (vtA_inj (k1.symm.trans g3))
        exact ⟨y, List.mem_of_getElem? (i := i) (by rw [List.getElem?_set, if_neg hij]; exact hi), k1⟩
/-! Rows of votes and of ballots. -/
def vc (x : Vt) : List Value := [.int .i64 x.r, .int .i64 x.m, .string x.v]
def vflat (n : Nat) (H : Nat → Vt) : List Value := (List.range n).flatMap fun k => vc (H k)
theorem vflat_succ (n : Nat) (H : Nat → Vt) : vflat (n + 1) H = vflat n H ++ vc (H n) := by simp [vflat, List.range_succ]
theorem vflat_len (n : Nat) (H : Nat → Vt) : (vflat n H).length = n * 3 := by
  induction n with
  | zero => rfl
  | succ n ih => rw [vflat_succ, List.length_append, ih]; show _ + 3 = _; omega
theorem vflat_at {n : Nat} (H : Nat → Vt) {k : Nat} (hk : k < n) : (vflat n H)[k * 3]? = some (.int .i64 (H k).r) ∧ (vflat n H)[k * 3 + 1]? = some (.int .i64 (H k).m) ∧ (vflat n H)[k * 3 + 2]? = some (.string (H k).v) := by
  induction n with
  | zero => omega
  | succ n ih =>
    rw [vflat_succ]
    have hl := vflat_len n H
    by_cases e : k = n
    · subst e
      refine ⟨?_, ?_, ?_⟩ <;> rw [List.getElem?_append_right (by omega), hl] <;> simp [vc, Nat.add_sub_cancel_left]
    · obtain ⟨h0, h1, h2⟩ := ih (by omega)
      exact ⟨by rw [List.getElem?_append_left (by omega)]; exact h0, by rw [List.getElem?_append_left (by omega)]; exact h1, by rw [List.getElem?_append_left (by omega)]; exact h2⟩
def updH {α : Type} (H : Nat → α) (k : Nat) (x : α) : Nat → α := fun j => if j = k then x else H j
theorem vflat_congr {n : Nat} {H G : Nat → Vt} (h : ∀ k, k < n → H k = G k) : vflat n H = vflat n G := by
  induction n with
  | zero => rfl
  | succ n ih => rw [vflat_succ, vflat_succ, ih (fun k hk => h k (by omega)), h n (by omega)]
theorem vflat_set {n : Nat} (H : Nat → Vt) {k : Nat} (hk : k < n) (x : Vt) : (((vflat n H).set (k * 3) (.int .i64 x.r)).set (k * 3 + 1) (.int .i64 x.m)).set (k * 3 + 2) (.string x.v) = vflat n (updH H k x) := by
  induction n with
  | zero => omega
  | succ n ih =>
    rw [vflat_succ, vflat_succ]
    have hl := vflat_len n H
    by_cases e : k = n
    · subst e
      have e1 : vflat k (updH H k x) = vflat k H := vflat_congr fun j hj => if_neg (by omega)
      have e2 : updH H k x k = x := if_pos rfl
      rw [e1, e2, List.set_append_right _ _ (by omega), List.set_append_right _ _ (by omega), List.set_append_right _ _ (by omega), hl]
      simp [vc, Nat.add_sub_cancel_left]
    · have e2 : updH H k x n = H n := if_neg (fun h => e h.symm)
      rw [← ih (by omega), e2, List.set_append_left _ _ (by omega), List.set_append_left _ _ (by rw [List.length_set]; omega), List.set_append_left _ _ (by rw [List.length_set, List.length_set]; omega)]
def bc (x : Int × Int) : List Value := [.int .i64 x.1, .int .i64 x.2]
def bflat (n : Nat) (H : Nat → Int × Int) : List Value := (List.range n).flatMap fun k => bc (H k)
theorem bflat_succ (n : Nat) (H : Nat → Int × Int) : bflat (n + 1) H = bflat n H ++ bc (H n) := by simp [bflat, List.range_succ]
theorem bflat_len (n : Nat) (H : Nat → Int × Int) : (bflat n H).length = n * 2 := by
  induction n with
  | zero => rfl
  | succ n ih => rw [bflat_succ, List.length_append, ih]; show _ + 2 = _; omega
theorem bflat_at {n : Nat} (H : Nat → Int × Int) {k : Nat} (hk : k < n) : (bflat n H)[k * 2]? = some (.int .i64 (H k).1) ∧ (bflat n H)[k * 2 + 1]? = some (.int .i64 (H k).2) := by
  induction n with
  | zero => omega
  | succ n ih =>
    rw [bflat_succ]
    have hl := bflat_len n H
    by_cases e : k = n
    · subst e
      refine ⟨?_, ?_⟩ <;> rw [List.getElem?_append_right (by omega), hl] <;> simp [bc, Nat.add_sub_cancel_left]
    · obtain ⟨h0, h1⟩ := ih (by omega)
      exact ⟨by rw [List.getElem?_append_left (by omega)]; exact h0, by rw [List.getElem?_append_left (by omega)]; exact h1⟩
theorem bflat_congr {n : Nat} {H G : Nat → Int × Int} (h : ∀ k, k < n → H k = G k) : bflat n H = bflat n G := by
  induction n with
  | zero => rfl
  | succ n ih => rw [bflat_succ, bflat_succ, ih (fun k hk => h k (by omega)), h n (by omega)]
theorem bflat_set {n : Nat} (H : Nat → Int × Int) {k : Nat} (hk : k < n) (x : Int × Int) : ((bflat n H).set (k * 2) (.int .i64 x.1)).set (k * 2 + 1) (.int .i64 x.2) = bflat n (updH H k x) := by
  induction n with
  | zero => omega
  | succ n ih =>
    rw [bflat_succ, bflat_succ]
    have hl := bflat_len n H
    by_cases e : k = n
    · subst e
      have e1 : bflat k (updH H k x) = bflat k H := bflat_congr fun j hj => if_neg (by omega)
      have e2 : updH H k x k = x := if_pos rfl
      rw [e1, e2, List.set_append_right _ _ (by omega), List.set_append_right _ _ (by omega), hl]
      simp [bc, Nat.add_sub_cancel_left]
    · have e2 : updH H k x n = H n := if_neg (fun h => e h.symm)
      rw [← ih (by omega), e2, List.set_append_left _ _ (by omega), List.set_append_left _ _ (by rw [List.length_set]; omega)]
theorem info_v : (Try.prog.info? TV).map (fun i => (i.zero, i.size, i.bytes)) = some (some (vtA zV), 3, 32) := by kernel_rfl
theorem info_b : (Try.prog.info? TB).map (fun i => (i.zero, i.size, i.bytes)) = some (some (.agg #[.int .i64 0, .int .i64 0]), 2, 16) := by kernel_rfl
theorem made_v (n : Nat) (h : n ≤ 7) : (madeCells (vtA zV).cells (n * 3)).toList = vflat n (fun _ => zV) := by
  rcases (show n = 0 ∨ n = 1 ∨ n = 2 ∨ n = 3 ∨ n = 4 ∨ n = 5 ∨ n = 6 ∨ n = 7 by omega) with rfl | rfl | rfl | rfl | rfl | rfl | rfl | rfl <;> kernel_rfl
theorem made_b (n : Nat) (h : n ≤ 7) : (madeCells (Value.agg #[.int .i64 0, .int .i64 0]).cells (n * 2)).toList = bflat n (fun _ => (0, 0)) := by
  rcases (show n = 0 ∨ n = 1 ∨ n = 2 ∨ n = 3 ∨ n = 4 ∨ n = 5 ∨ n = 6 ∨ n = 7 by omega) with rfl | rfl | rfl | rfl | rfl | rfl | rfl | rfl <;> kernel_rfl
end Go.Proofs.Ytffiooclkchoiaa.Prp
