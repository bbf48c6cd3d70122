/- The document's log: lists in any order; its memory; rows of its own; New, valid, check, Base. -/
import Derived.Test.YtgeejkedljhcoaaT14
namespace Go.Proofs.Ytgeejkedljhcoaa.Slt
open Go.RowKit Go.Maps Go.Lib
set_option linter.unusedVariables false
set_option linter.unusedSimpArgs false
set_option maxRecDepth 20000

/-! Lists in any order. -/
def NdS (L : List Et) : Prop := (L.map (·.s)).Nodup
theorem getN_iff {L : List Et} (h : NdS L) (k : Int) (e : Et) : getM L k = some e ↔ e ∈ L ∧ e.s = k := by
  unfold getM
  induction L with
  | nil => simp
  | cons y r ih =>
    have h1 : y.s ∉ r.map (·.s) := (List.nodup_cons.1 h).1
    have h2 : NdS r := (List.nodup_cons.1 h).2
    rw [List.find?_cons]
    by_cases e0 : y.s = k
    · have : (y.s == k) = true := by simp [e0]
      simp only [this, Option.some.injEq, List.mem_cons]
      constructor
      · rintro rfl; exact ⟨.inl rfl, e0⟩
      · rintro ⟨rfl | e2, e3⟩
        · rfl
        · exact absurd (List.mem_map.2 ⟨e, e2, e3.trans e0.symm⟩) h1
    · have : (y.s == k) = false := by simp [e0]
      simp only [this, List.mem_cons]
      rw [ih h2]
      constructor
      · rintro ⟨a, b⟩; exact ⟨.inr a, b⟩
      · rintro ⟨rfl | e2, e3⟩
        · exact absurd e3 e0
        · exact ⟨e2, e3⟩
theorem get_filter (L : List Et) (p : Et → Bool) (k : Int) (hp : ∀ e ∈ L, e.s = k → p e = true) : getM (L.filter p) k = getM L k := by
  unfold getM
  induction L with
  | nil => rfl
  | cons y r ih =>
    have ih := ih (fun e he => hp e (List.mem_cons_of_mem _ he))
    rw [List.filter_cons]
    by_cases hk : y.s = k
    · rw [if_pos (hp y (List.mem_cons_self ..) hk), List.find?_cons, List.find?_cons]
      have : (y.s == k) = true := by simp [hk]
      rw [this]
    · have hb : (y.s == k) = false := by simp [hk]
      rw [List.find?_cons (a := y), hb]
      split
      · rw [List.find?_cons, hb]; exact ih
      · exact ih
theorem get_del (L : List Et) (k j : Int) : getM (delM L k) j = if j = k then none else getM L j := by
  by_cases h : j = k
  · rw [if_pos h, get_none]
    intro p hp
    have := (mem_del.1 hp).2
    omega
  · rw [if_neg h]
    exact get_filter L _ j fun e _ he => by simp; omega
theorem get_snoc (L : List Et) (e : Et) (j : Int) (hn : getM L e.s = none) : getM (L ++ [e]) j = if j = e.s then some e else getM L j := by
  unfold getM at *
  rw [List.find?_append]
  by_cases hj : j = e.s
  · rw [if_pos hj, hj, hn]
    simp
  · rw [if_neg hj]
    have : (e.s == j) = false := by simp; omega
    simp [this]
theorem nd_snoc {L : List Et} (h : NdS L) (e : Et) (hn : getM L e.s = none) : NdS (L ++ [e]) := by
  unfold NdS
  rw [List.map_append, List.nodup_append]
  refine ⟨h, by simp, ?_⟩
  intro a ha b hb
  obtain ⟨x, hx, rfl⟩ := List.mem_map.1 ha
  have := get_none.1 hn x hx
  simp only [List.map_cons, List.map_nil, List.mem_singleton] at hb
  omega
structure RelL (s : St) (L : List Et) : Prop where
  nd : NdS L
  eq : ∀ k, getM L k = getM s.M k
theorem RelL.mem {s : St} {L : List Et} (h : RelL s L) (hs : OkS s) {e : Et} : e ∈ L ↔ e ∈ s.M := by
  have h1 := getN_iff h.nd e.s e
  have h2 := get_iff hs.srt e.s e
  rw [h.eq] at h1
  constructor
  · intro hm; exact (h2.1 (h1.2 ⟨hm, rfl⟩)).1
  · intro hm; exact (h1.1 (h2.2 ⟨hm, rfl⟩)).1
theorem RelL.len {s : St} {L : List Et} (h : RelL s L) (hs : OkS s) : L.length ≤ 4096 := by
  have hp : L.Perm s.M := (List.perm_ext_iff_of_nodup ((List.pairwise_map.1 h.nd).imp fun {a b} hab => fun e => hab (by rw [e])) (hs.srt.imp fun {a b} hab => fun e => by rw [e] at hab; omega)).2 fun e => h.mem hs
  rw [hp.length_eq]
  exact hs.len
theorem RelL.new : RelL newS [] := ⟨List.nodup_nil, fun k => rfl⟩
theorem RelL.put {s : St} {L : List Et} (h : RelL s L) (hs : OkS s) (e : Et) (hn : getM s.M e.s = none) : RelL ⟨s.b, putM s.M e⟩ (L ++ [e]) :=
  ⟨nd_snoc h.nd e (by rw [h.eq]; exact hn), fun k => by rw [get_snoc _ _ _ (by rw [h.eq]; exact hn), h.eq]; exact (get_put hs.srt e k).symm⟩
theorem RelL.rs {s : St} {L : List Et} (h : RelL s L) (hs : OkS s) (u : Int) (hu : s.b ≤ u) : RelL (rsS s u) (frM L u) :=
  ⟨List.Nodup.sublist (List.Sublist.map _ List.filter_sublist) h.nd, fun k => by
    rw [rs_get hs]
    by_cases hk : u ≤ k
    · rw [if_pos hk, ← h.eq]
      exact get_filter L _ k fun e _ he => decide_eq_true (by omega)
    · rw [if_neg hk, get_none]
      intro p hp
      have := (mem_fr.1 hp).2
      omega⟩

/-! Rows of one's own. -/
abbrev TRK : TypeId := 69
abbrev TRKs : TypeId := 65
abbrev TRL : TypeId := 67
abbrev eA (e : Et) : Array Value := #[.int .i64 e.s, .string e.k]
abbrev vEt (e : Et) : Value := .agg (eA e)
def ek (e : Et) : List Value := [.int .i64 e.s, .string e.k]
def flatK (L : List Et) : List Value := L.flatMap ek
theorem flatK_app (a b : List Et) : flatK (a ++ b) = flatK a ++ flatK b := by simp [flatK]
theorem flatK_one (e : Et) : flatK [e] = ek e := by simp [flatK]
theorem flatK_cons (e : Et) (L : List Et) : flatK (e :: L) = ek e ++ flatK L := rfl
theorem flatK_len : ∀ L : List Et, (flatK L).length = L.length * 2
  | [] => rfl
  | e :: L => by rw [flatK_cons, List.length_append, flatK_len L, List.length_cons]; show 2 + _ = _; omega
theorem flatK_at : ∀ (L : List Et) (i j : Nat) (e : Et), L[i]? = some e → j < 2 → (flatK L)[i * 2 + j]? = (ek e)[j]?
  | [], i, j, e, h, _ => by simp at h
  | x :: L, 0, j, e, h, hj => by
    simp only [List.getElem?_cons_zero, Option.some.injEq] at h
    subst h
    rw [flatK_cons, Nat.zero_mul, Nat.zero_add, List.getElem?_append_left (by show j < 2; omega)]
  | x :: L, i + 1, j, e, h, hj => by
    rw [List.getElem?_cons_succ] at h
    rw [flatK_cons, List.getElem?_append_right (by show 2 ≤ _; omega), ← flatK_at L i j e h hj]
    congr 1
    show (i + 1) * 2 + j - 2 = _
    omega
theorem flatK_one' (L : List Et) : ∀ u ∈ flatK L, u.oneCell' = true := by
  intro u hu
  obtain ⟨e, _, he⟩ := List.mem_flatMap.1 hu
  simp [ek] at he
  rcases he with rfl | rfl <;> rfl
def OwK (base : Nat) (L : List Et) (v : Value) (w : World) : Prop := w.ownsRow base TRK 2 v L.length (flatK L)
theorem OwK.nil (base : Nat) (w : World) : OwK base [] (.slice none 0 0) w := World.ownsRow_nil w base TRK 2
theorem OwK.later {base : Nat} {L : List Et} {v : Value} {w w' : World} (h : OwK base L v w) (hb : Below w.heap.size w w') : OwK base L v w' := rows_later h hb
theorem OwK.cells {base : Nat} {L : List Et} {v : Value} {w : World} (h : OwK base L v w) (hp : 0 < L.length) : ∃ g cap, v = .slice (some ⟨g, 0, none⟩) L.length cap ∧ base ≤ g ∧ g < w.heap.size ∧
    (∀ j u, (flatK L)[j]? = some u → w.cell? ⟨g, j, none⟩ = some u) ∧ ∃ cur, w.heap[g]? = some (.cells cur TRK (0, 0)) := by
  rcases h.2 with ⟨_, h0⟩ | ⟨g, cap, cur, rfl, hbg, hg, h1, h2, h3, h4⟩
  · omega
  · refine ⟨g, cap, rfl, hbg, (Array.getElem?_eq_some_iff.1 hg).1, fun j u hu => ?_, cur, hg⟩
    rw [← h4] at hu
    have hj := (List.getElem?_eq_some_iff.1 hu).1
    rw [List.length_take] at hj
    rw [List.getElem?_take_of_lt (by omega)] at hu
    rw [← hu]
    simp [World.cell?, hg]
/-- The entries' cells, wherever the row is known. -/
theorem OwK.at {base : Nat} {L : List Et} {v : Value} {w : World} (h : OwK base L v w) {i : Nat} {e : Et} (he : L[i]? = some e) : ∃ g cap, v = .slice (some ⟨g, 0, none⟩) L.length cap ∧ g < w.heap.size ∧
    w.cell? ⟨g, i * 2, none⟩ = some (.int .i64 e.s) ∧ w.cell? ⟨g, i * 2 + 1, none⟩ = some (.string e.k) := by
  obtain ⟨g, cap, hv, _, hg, hc, _⟩ := h.cells (by have := (List.getElem?_eq_some_iff.1 he).1; omega)
  have key : ∀ j u, j < 2 → (ek e)[j]? = some u → w.cell? ⟨g, i * 2 + j, none⟩ = some u := fun j u hj hu => hc _ u (by rw [flatK_at L i j e he hj]; exact hu)
  exact ⟨g, cap, hv, hg, key 0 _ (by omega) rfl, key 1 _ (by omega) rfl⟩
theorem info_k : (Try.prog.info? TRK).map (fun i => (i.zero, i.size, i.bytes)) = some (some (.agg #[.int .i64 0, .string ⟨#[]⟩]), 2, 24) := by kernel_rfl
theorem run_append_k (base : Nat) (w : World) (ty : TypeId) (v : Value) (L : List Et) (hown : OwK base L v w) (a : Addr) (c : Nat) (N : List Et) (hx : ∀ j u, (flatK N)[j]? = some u → w.cell? (a.add j) = some u) (hn : L.length + N.length ≤ 100000) (hbase : base ≤ w.heap.size) :
    ∃ v' w', (Builtin.append_ #[TRKs, TRKs] ty #[v, .slice (some a) N.length c]).run Try.prog w = .ok v' w' ∧ OwK base (L ++ N) v' w' ∧ w.grownBy w' v.ownBlock := by
  obtain ⟨i0, hi, hz0, hz1, hz2⟩ := info_p info_k
  obtain ⟨v', w', h1, h2, h3, _, h5⟩ := run_append_own_at (P := Try.prog) w base TRKs ty TRK i0 _ 2 24 Try.underlying65 hi hz0 hz1 hz2 rfl (by decide) v L.length (flatK L) hown a N.length c (flatK N) (flatK_len N)
    hx (flatK_one' N) (by unfold maxLen; omega) (by omega) hbase
  refine ⟨v', w', h1, ?_, h3⟩
  show w'.ownsRow base TRK 2 v' (L ++ N).length (flatK (L ++ N))
  rw [flatK_app, List.length_append]
  exact h2
theorem wpList_append_k {ops : Array Oper} {rest : List Oper} {o : Oper} {a : Act} {w : World} {Q : Exit → Act → World → Prop} (hgd : o.guard = none) (s x : Operand)
    (ho : o.op = .call { callee := .builtin .append, args := #[s, x], argTypes := #[TRKs, TRKs] })
    (base : Nat) (v : Value) (L : List Et) (hs : a.eval s = v) (hown : OwK base L v w) (g c : Nat) (y : Et) (hx : a.eval x = .slice (some ⟨g, 0, none⟩) 1 c) (hc : w.heap[g]? = some (.cells (eA y) TRK (0, 0)))
    (hn : L.length ≤ 10000) (hbase : base ≤ w.heap.size)
    (h : ∀ v' w', OwK base (L ++ [y]) v' w' → w.grownBy w' v.ownBlock → wpList Try.prog ops Q rest (a.put o.dst v') w') :
    wpList Try.prog ops Q (o :: rest) a w := by
  refine wpList_plain hgd fun K hK => ?_
  obtain ⟨v', w', hrun, h1, h2⟩ := run_append_k base w o.type v L hown ⟨g, 0, none⟩ c [y] (fun j u hu => by rw [addr_add, Nat.zero_add, cell_of_row w g j _ TRK _ hc]; rw [flatK_one] at hu; simpa [ek] using hu) (by simp; omega) hbase
  rw [List.length_singleton] at hrun
  unfold Oper.wp execOp
  simp only [ho, resolve, invoke, builtin, Sem.run_bind, Sem.run_pure, Result.andThen_ok, List.map_toArray, List.map_cons, List.map_nil, hs, hx, hrun]
  exact hK _ _ (h v' w' h1 h2)

/-! The document's log's box. -/
structure Rx (w : World) (rb : Nat) (s : St) (L : List Et) (v : Value) : Prop where
  box : w.heap[rb]? = some (.cells #[.bool true, .int .i64 s.b, v] TRL (0, 0))
  row : OwK 0 L v w
  rel : RelL s L
  ok : OkS s
section
variable {w w' : World} {rb : Nat} {s : St} {L : List Et} {v : Value}
theorem Rx.lt (h : Rx w rb s L v) : rb < w.heap.size := (Array.getElem?_eq_some_iff.1 h.box).1
theorem Rx.len (h : Rx w rb s L v) : L.length ≤ 4096 := h.rel.len h.ok
theorem Rx.form (h : Rx w rb s L v) : ∃ a cap, v = .slice a L.length cap := rows_form h.row
theorem Rx.apart (h : Rx w rb s L v) : ∀ k, v.ownBlock = some k → k ≠ rb := by
  rintro k hk rfl
  rcases h.row.2 with ⟨rfl, _⟩ | ⟨g, cap, cur, rfl, _, hg, _⟩
  · cases hk
  · injection hk with hk
    subst hk
    rw [h.box] at hg
    injection hg with hg
    injection hg with _ hg
    exact absurd hg (by decide)
theorem Rx.kept {F : Nat → Prop} (h : Rx w rb s L v) (k : Keeps F w w') (h1 : ¬ F rb) (h2 : ∀ i, v.ownBlock = some i → ¬ F i) : Rx w' rb s L v :=
  ⟨(k.block rb h.lt h1).trans h.box, rows_kept h.row fun i hi => k.block i (World.ownsRow.lt h.row i hi).2 (h2 i hi), h.rel, h.ok⟩
theorem Rx.later (h : Rx w rb s L v) (hb : Below w.heap.size w w') : Rx w' rb s L v := h.kept (F := fun _ => False) (Keeps.of_below hb) id fun _ _ => id
theorem Rx.alloc (h : Rx w rb s L v) (o : Obj) : Rx (w.alloc o) rb s L v := h.later (alloc_b w o)
theorem Rx.drew (h : Rx w rb s L v) : Rx w.drew rb s L v := h.later (Below.refl _ _).drew
theorem Rx.cells (h : Rx w rb s L v) : w.cell? ⟨rb, 0, none⟩ = some (.bool true) ∧ w.cell? ⟨rb, 1, none⟩ = some (.int .i64 s.b) ∧ w.cell? ⟨rb, 2, none⟩ = some v :=
  ⟨cell_of_row w rb 0 _ TRL _ h.box, cell_of_row w rb 1 _ TRL _ h.box, cell_of_row w rb 2 _ TRL _ h.box⟩
theorem Rx.frozen (h : Rx w rb s L v) (i : Nat) : w.frozen? ⟨rb, i, none⟩ = false := frozen_of_row w rb i _ TRL h.box
end

/-! New, valid, check, Base. -/
theorem rnew_any (w : World) :
    Calls Try.prog 14 #[] w fun e w' => ∃ rb, e = .returned (.pointer (some ⟨rb, 0, none⟩)) ∧ Rx w' rb newS [] (.slice none 0 0) ∧ w.heap.size ≤ rb ∧ Below w.heap.size w w' := by
  have HO := Lib.hid ok_new
  go_enter Try.func14, Try.ntmps14
  go_wp2
  go_ret
  exact ⟨w.heap.size, rfl, ⟨heap_alloc_new _ _, OwK.nil _ _, RelL.new, HO.out⟩, Nat.le_refl _, alloc_b _ _⟩
theorem Rx.valid {rb : Nat} {s : St} {L : List Et} {vl : Value} {w : World} (x : Rx w rb s L vl) :
    Calls Try.prog 42 #[.pointer (some ⟨rb, 0, none⟩)] w fun e w' => e = .returned (.bool true) ∧ w = w' := by
  obtain ⟨c0, _⟩ := x.cells
  go_enter Try.func42, Try.ntmps42
  go_wp2
  go_ret
  exact ⟨rfl, rfl⟩
theorem rbase_any {rb : Nat} {s : St} {L : List Et} {vl : Value} (w : World) (x : Rx w rb s L vl) :
    Calls Try.prog 38 #[.pointer (some ⟨rb, 0, none⟩)] w fun e w' => e = .returned (.int .i64 s.b) ∧ w = w' := by
  have hV := Lib.hid x.valid
  obtain ⟨_, c1, _⟩ := x.cells
  clear x
  generalize s.b = b at *
  go_enter Try.func38, Try.ntmps38
  go_wp2_with (go_at_call 42; refine hV.out.mono ?_; rintro e w' ⟨rfl, rfl⟩)
  go_ret
  exact ⟨rfl, rfl⟩
theorem rcheck_any {rb : Nat} {s : St} {L : List Et} {vl : Value} (u : Int) (w : World) (x : Rx w rb s L vl) :
    Calls Try.prog 45 #[.pointer (some ⟨rb, 0, none⟩), .int .i64 u] w fun e w' => e = .returned (.int .i64 (if 0 ≤ u ∧ u ≤ 4096 then 0 else 2)) ∧ w = w' := by
  have hV := Lib.hid x.valid
  clear x
  by_cases h0 : u < 0
  · have b0 : decide (u < 0) = true := decide_eq_true h0
    rw [if_neg (by omega)]
    clear h0
    go_enter Try.func45, Try.ntmps45
    go_wp2_with (go_at_call 42; refine hV.out.mono ?_; rintro e w' ⟨rfl, rfl⟩)
    go_ret
    exact ⟨rfl, rfl⟩
  · have b0 : decide (u < 0) = false := decide_eq_false h0
    by_cases h1 : 4096 < u
    · have b1 : decide (4096 < u) = true := decide_eq_true h1
      rw [if_neg (by omega)]
      clear h0 h1
      go_enter Try.func45, Try.ntmps45
      go_wp2_with (go_at_call 42; refine hV.out.mono ?_; rintro e w' ⟨rfl, rfl⟩)
      go_ret
      exact ⟨rfl, rfl⟩
    · have b1 : decide (4096 < u) = false := decide_eq_false h1
      rw [if_pos (by omega)]
      clear h0 h1
      go_enter Try.func45, Try.ntmps45
      go_wp2_with (go_at_call 42; refine hV.out.mono ?_; rintro e w' ⟨rfl, rfl⟩)
      go_ret
      exact ⟨rfl, rfl⟩
end Go.Proofs.Ytgeejkedljhcoaa.Slt
