/- Rows of entries in memory: cells that are set, copies, and slices.Insert. -/
import Derived.Test.YtbgjiokocjnjhaaD02
import Derived.Laws.IdiomCopy
import Derived.Laws.OwnMore
import Derived.Laws.NewBlocks
import Derived.Laws.Externs
import Derived.Lib.Overlaps
import Derived.Lib.AppendZerosOnto
import Derived.Maps.AppendAt
import Derived.Lib.SliceRun
import Derived.Lib.JoinLaws
import Derived.Shelf.RegionOpenPlain
namespace Go.Proofs.Ytbgjiokocjnjhaa.Ded
open Go.RowKit Go.Lib
open Rng (tx nameOk)
set_option linter.unusedVariables false
set_option linter.unusedSimpArgs false
set_option maxRecDepth 20000

abbrev TN : TypeId := 94
abbrev TNs : TypeId := 81
abbrev TD : TypeId := 83
theorem addr_add (b off n : Nat) : (⟨b, off, Option.none⟩ : Addr).add n = ⟨b, off + n, Option.none⟩ := by unfold Addr.add; split <;> simp_all
theorem alloc_b (w : World) (o : Obj) : Below w.heap.size w (w.alloc o) := (Below.refl _ _).alloc (Nat.le_refl _) _
/-- A list with a part of it written over. -/
def ovr (l : List Value) (o : Nat) (vs : List Value) : List Value := l.take o ++ vs ++ l.drop (o + vs.length)
theorem ovr_len {l : List Value} {o : Nat} {vs : List Value} (h : o + vs.length ≤ l.length) : (ovr l o vs).length = l.length := by
  unfold ovr
  simp
  omega
theorem ovr_cons {l : List Value} {o : Nat} {v : Value} {r : List Value} (h : o + (r.length + 1) ≤ l.length) : ovr (l.set o v) (o + 1) r = ovr l o (v :: r) := by
  unfold ovr
  have h1 : (l.set o v).take (o + 1) = l.take o ++ [v] := by
    have hlt : (l.take o).length = o := by rw [List.length_take]; omega
    rw [List.take_set, List.take_succ_eq_append_getElem (by omega : o < l.length), List.set_append, if_neg (by omega), hlt, Nat.sub_self]
    rfl
  have h2 : (l.set o v).drop (o + 1 + r.length) = l.drop (o + (v :: r).length) := by
    rw [List.drop_set_of_lt (by omega)]
    congr 1
    simp
    omega
  rw [h1, h2]
  simp
theorem heap_setCells (b : Nat) (T : TypeId) : ∀ (vs : List Value) (o : Nat) (w : World) (cur : Array Value), w.heap[b]? = some (.cells cur T (0, 0)) → o + vs.length ≤ cur.size →
    (w.setCells b o vs).heap[b]? = some (.cells (ovr cur.toList o vs).toArray T (0, 0))
  | [], o, w, cur, h, hl => by
    rw [World.setCells, h]
    unfold ovr
    simp
  | v :: r, o, w, cur, h, hl => by
    have h1 := heap_setCell_same w b o cur T v h
    rw [World.setCells, heap_setCells b T r (o + 1) _ _ h1 (by simp at hl ⊢; omega)]
    rw [Array.toList_setIfInBounds, ovr_cons (by simpa using hl)]
theorem setCells_grown (b : Nat) : ∀ (vs : List Value) (o : Nat) (w : World), w.grownBy (w.setCells b o vs) (some b)
  | [], o, w => World.grownBy.refl w _
  | v :: r, o, w => by
    rw [World.setCells]
    refine World.grownBy.trans (b := w.setCell ⟨b, o, none⟩ v) ⟨rfl, rfl, rfl, by simp, fun k _ hk => heap_setCell_other w ⟨b, o, none⟩ k v (fun e => hk (by simp [e]))⟩ (setCells_grown b r (o + 1) _)
/-- copy, at elements of seven cells. -/
theorem run_copy7 (w : World) (ty : TypeId) (b o dLen dCap : Nat) (a : Addr) (sLen sCap m : Nat) (cs : List Value)
    (hm : Nat.min sLen dLen = m) (hn : cs.length = m * 7) (h0 : 0 < m)
    (hsrc : ∀ j v, cs[j]? = some v → w.cell? (a.add j) = some v) (hc : ∀ j, j < cs.length → (w.cell? ⟨b, o + j, none⟩).isSome = true) (hf : ∀ j, j < cs.length → w.frozen? ⟨b, o + j, none⟩ = false) (h1 : ∀ v ∈ cs, v.oneCell' = true) :
    (Builtin.copy_ #[TNs, TNs] ty #[.slice (some ⟨b, o, none⟩) dLen dCap, .slice (some a) sLen sCap]).run Try.prog w = .ok (goInt m) (w.setCells b o cs) := by
  have hl := run_loadCells_list (P := Try.prog) w a cs hsrc
  have hst := run_storeCells_cells (P := Try.prog) b o cs 0 w (by simpa using hc) (by simpa using hf) h1
  have hz := Try.sizeOf94
  rw [hn] at hl
  simp [Builtin.copy_, run_underlying Try.underlying81, Builtin.lenOf, Builtin.firstCells, hz, hm, hl, hst]
/-- A row of entries of the table's own. -/
def Ow (base : Nat) (L : List En) (v : Value) (w : World) : Prop := w.ownsRow base TN 7 v L.length (flat L)
theorem Ow.nil (base : Nat) (w : World) : Ow base [] (.slice none 0 0) w := World.ownsRow_nil w base TN 7
theorem Ow.later {base : Nat} {L : List En} {v : Value} {w w' : World} (h : Ow base L v w) (hb : Below w.heap.size w w') : Ow base L v w' :=
  World.ownsRow.kept (row := none) h ⟨hb.os, hb.tape, hb.output, hb.size, fun k hk _ => hb.block k hk⟩ (by cases v.ownBlock <;> simp)
theorem Ow.kept {base : Nat} {L : List En} {v : Value} {w w' : World} (h : Ow base L v w) (hs : ∀ k, v.ownBlock = some k → w'.heap[k]? = w.heap[k]?) : Ow base L v w' := by
  refine ⟨h.1, ?_⟩
  rcases h.2 with hn | ⟨g, cap, cur, rfl, hbg, hg, rest⟩
  · exact .inl hn
  · exact .inr ⟨g, cap, cur, rfl, hbg, (hs g rfl).trans hg, rest⟩
theorem Ow.lt {base : Nat} {L : List En} {v : Value} {w : World} (h : Ow base L v w) : ∀ k, v.ownBlock = some k → base ≤ k ∧ k < w.heap.size := World.ownsRow.lt h
theorem Ow.cells {base : Nat} {L : List En} {v : Value} {w : World} (h : Ow base L v w) : ∀ k o, v.ownBlock = some k → w.heap[k]? = some o → ∃ cur, o = .cells cur TN (0, 0) := by
  intro k o hk ho
  rcases h.2 with ⟨rfl, _⟩ | ⟨g, cap, cur, rfl, _, hg, _⟩
  · cases hk
  · have : g = k := by simpa [Value.ownBlock] using hk
    subst this
    rw [hg] at ho
    cases ho
    exact ⟨cur, rfl⟩
theorem Ow.form {base : Nat} {L : List En} {v : Value} {w : World} (h : Ow base L v w) : ∃ a c, v = .slice a L.length c := by
  rcases h.2 with ⟨rfl, h0⟩ | ⟨g, cap, cur, rfl, _⟩
  · exact ⟨none, 0, by rw [h0]⟩
  · exact ⟨_, _, rfl⟩
theorem info_en : (Try.prog.info? TN).map (fun i => (i.zero, i.size, i.bytes)) = some (some (.agg #[.int .i64 0, .int .i64 0, .string ⟨#[]⟩, .int .i64 0, .int .i64 0, .int .i64 0, .string ⟨#[]⟩]), 7, 72) := by kernel_rfl
theorem info_p {i : Option TypeInfo} {z : Option Value} {s b : Nat} (h : i.map (fun i => (i.zero, i.size, i.bytes)) = some (z, s, b)) : ∃ i0, i = some i0 ∧ i0.zero = z ∧ i0.size = s ∧ i0.bytes = b := by
  cases i with
  | none => cases h
  | some i0 =>
    simp only [Option.map_some, Option.some.injEq, Prod.mk.injEq] at h
    exact ⟨i0, rfl, h.1, h.2.1, h.2.2⟩
theorem ec_one (x : En) : ∀ u ∈ ec x, u.oneCell' = true := by
  have := flat_one' [x]
  rwa [flat_one] at this
theorem run_append_en (base : Nat) (w : World) (ty : TypeId) (v : Value) (L : List En) (hown : Ow base L v w) (b c : Nat) (x : En) (hx : w.heap[b]? = some (.cells (ec x).toArray TN (0, 0))) (hn : L.length ≤ 100000000) (hbase : base ≤ w.heap.size) :
    ∃ v' w', (Builtin.append_ #[TNs, TNs] ty #[v, .slice (some ⟨b, 0, none⟩) 1 c]).run Try.prog w = .ok v' w' ∧ Ow base (L ++ [x]) v' w' ∧ w.grownBy w' v.ownBlock ∧ (v'.ownBlock = v.ownBlock ∨ v'.ownBlock = some w.heap.size) := by
  obtain ⟨i0, hi, hz0, hz1, hz2⟩ := info_p info_en
  obtain ⟨v', w', h1, h2, h3, _, h5⟩ := run_append_own_at (P := Try.prog) w base TNs ty TN i0 _ 7 72 Try.underlying81 hi hz0 hz1 hz2 rfl (by decide) v L.length (flat L) hown ⟨b, 0, none⟩ 1 c (ec x) rfl
    (fun j u hu => by rw [addr_add, Nat.zero_add, cell_of_row w b j _ TN _ hx]; simpa using hu) (ec_one x) (by unfold maxLen; omega) (by omega) hbase
  refine ⟨v', w', h1, ?_, h3, h5⟩
  unfold Ow
  rw [flat_app, flat_one, List.length_append]
  exact h2
theorem take_pre {l a b : List Value} {n : Nat} (h : l = a ++ b) (hn : a.length = n) : l.take n = a := by rw [h, ← hn, List.take_left]
theorem drop_pre {l a b : List Value} {n : Nat} (h : l = a ++ b) (hn : a.length = n) : l.drop n = b := by rw [h, ← hn, List.drop_left]
/-- What is in the row when it was shifted in place. -/
theorem shift_row (L : List En) (x : En) (i : Nat) (hi : i ≤ L.length) (cur : List Value) (hc : cur.take (L.length * 7) = flat L) (hl : (L.length + 1) * 7 ≤ cur.length) :
    (ovr (ovr cur ((i + 1) * 7) ((flat L).drop (i * 7))) (i * 7) (ec x)).take ((L.length + 1) * 7) = flat (L.take i ++ x :: L.drop i) := by
  have hfl := flat_len L
  have hdl : ((flat L).drop (i * 7)).length = (L.length - i) * 7 := by rw [List.length_drop, hfl, Nat.sub_mul]
  have h1 : ovr cur ((i + 1) * 7) ((flat L).drop (i * 7)) = cur.take ((i + 1) * 7) ++ ((flat L).drop (i * 7) ++ cur.drop ((L.length + 1) * 7)) := by
    unfold ovr
    rw [List.append_assoc, hdl]
    congr 3
    omega
  have h2 : (cur.take ((i + 1) * 7)).length = i * 7 + 7 := by rw [List.length_take]; omega
  have h3 : (ovr cur ((i + 1) * 7) ((flat L).drop (i * 7))).take (i * 7) = (flat L).take (i * 7) := by
    rw [h1, List.take_append_of_le_length (by omega), List.take_take, ← hc, List.take_take]
    congr 1
    omega
  have h4 : (ovr cur ((i + 1) * 7) ((flat L).drop (i * 7))).drop (i * 7 + 7) = (flat L).drop (i * 7) ++ cur.drop ((L.length + 1) * 7) := drop_pre h1 h2
  have h5 : ovr (ovr cur ((i + 1) * 7) ((flat L).drop (i * 7))) (i * 7) (ec x) = ((flat L).take (i * 7) ++ ec x ++ (flat L).drop (i * 7)) ++ cur.drop ((L.length + 1) * 7) := by
    generalize ovr cur ((i + 1) * 7) ((flat L).drop (i * 7)) = z at *
    unfold ovr
    rw [h3, show i * 7 + (ec x).length = i * 7 + 7 from rfl, h4, ← List.append_assoc]
  rw [take_pre h5 (by simp [hfl]; omega), flat_app, flat_cons, flat_take, flat_drop, List.append_assoc]
theorem grow_row (L : List En) (x : En) (i : Nat) (hi : i ≤ L.length) (cur : List Value) (hc : cur.take (i * 7) = (flat L).take (i * 7)) (hl : (L.length + 1) * 7 ≤ cur.length) :
    (ovr (ovr cur (i * 7) (ec x)) ((i + 1) * 7) ((flat L).drop (i * 7))).take ((L.length + 1) * 7) = flat (L.take i ++ x :: L.drop i) := by
  have hfl := flat_len L
  have hdl : ((flat L).drop (i * 7)).length = (L.length - i) * 7 := by rw [List.length_drop, hfl, Nat.sub_mul]
  have h1 : ovr cur (i * 7) (ec x) = ((flat L).take (i * 7) ++ ec x) ++ cur.drop (i * 7 + 7) := by
    unfold ovr
    rw [hc]
    rfl
  have h2 : ((flat L).take (i * 7) ++ ec x).length = (i + 1) * 7 := by simp [hfl]; omega
  have h3 := take_pre h1 h2
  generalize ovr cur (i * 7) (ec x) = z at *
  have h5 : ovr z ((i + 1) * 7) ((flat L).drop (i * 7)) = ((flat L).take (i * 7) ++ ec x ++ (flat L).drop (i * 7)) ++ z.drop ((i + 1) * 7 + ((flat L).drop (i * 7)).length) := by
    unfold ovr
    rw [h3]
  rw [take_pre h5 (by simp [hfl]; omega), flat_app, flat_cons, flat_take, flat_drop, List.append_assoc]
end Go.Proofs.Ytbgjiokocjnjhaa.Ded
