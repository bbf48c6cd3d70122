/- The document's learner: lists of what is known in any order; its memory; rows of its own; get, New, check, Valid, Below, size. -/
import Derived.Test.YtaacnhhinhdinaaE13
namespace Go.Proofs.Ytaacnhhinhdinaa.Lrn
open Go.RowKit Go.Maps Go.Lib
open Bal (TB bOk ckB ordV eqB eqB_t eqB_f eq_b alloc_b)
set_option linter.unusedVariables false
set_option linter.unusedSimpArgs false
set_option maxRecDepth 20000

/-! Lists in any order. -/
def NdS (L : List Et) : Prop := (L.map (·.s)).Nodup
theorem getN_iff {L : List Et} (h : NdS L) (k : Int) (e : Et) : getM L k = some e ↔ e ∈ L ∧ e.s = k := by
  unfold getM
  induction L with
  | nil => simp
  | cons y r ih =>
    have h1 : y.s ∉ r.map (·.s) := (List.nodup_cons.1 h).1
    have h2 : NdS r := (List.nodup_cons.1 h).2
    rw [List.find?_cons]
    by_cases e0 : y.s = k
    · have : (y.s == k) = true := by simp [e0]
      simp only [this, Option.some.injEq, List.mem_cons]
      constructor
      · rintro rfl; exact ⟨.inl rfl, e0⟩
      · rintro ⟨rfl | e2, e3⟩
        · rfl
        · exact absurd (List.mem_map.2 ⟨e, e2, e3.trans e0.symm⟩) h1
    · have : (y.s == k) = false := by simp [e0]
      simp only [this, List.mem_cons]
      rw [ih h2]
      constructor
      · rintro ⟨a, b⟩; exact ⟨.inr a, b⟩
      · rintro ⟨rfl | e2, e3⟩
        · exact absurd e3 e0
        · exact ⟨e2, e3⟩
def setL (L : List Et) (e : Et) : List Et := delM L e.s ++ [e]
theorem get_filter (L : List Et) (p : Et → Bool) (k : Int) (hp : ∀ e ∈ L, e.s = k → p e = true) : getM (L.filter p) k = getM L k := by
  unfold getM
  induction L with
  | nil => rfl
  | cons y r ih =>
    have ih := ih (fun e he => hp e (List.mem_cons_of_mem _ he))
    rw [List.filter_cons]
    by_cases hk : y.s = k
    · rw [if_pos (hp y (List.mem_cons_self ..) hk), List.find?_cons, List.find?_cons]
      have : (y.s == k) = true := by simp [hk]
      rw [this]
    · have hb : (y.s == k) = false := by simp [hk]
      rw [List.find?_cons (a := y), hb]
      split
      · rw [List.find?_cons, hb]; exact ih
      · exact ih
theorem get_del (L : List Et) (k j : Int) : getM (delM L k) j = if j = k then none else getM L j := by
  by_cases h : j = k
  · rw [if_pos h, get_none]
    intro p hp
    have := (mem_del.1 hp).2
    omega
  · rw [if_neg h]
    exact get_filter L _ j fun e _ he => by simp; omega
theorem get_set (L : List Et) (e : Et) (j : Int) : getM (setL L e) j = if j = e.s then some e else getM L j := by
  have h := get_del L e.s j
  unfold setL getM at *
  rw [List.find?_append, h]
  by_cases hj : j = e.s
  · rw [if_pos hj, if_pos hj]
    simp [hj]
  · rw [if_neg hj, if_neg hj]
    have : (e.s == j) = false := by simp; omega
    simp [this]
theorem nd_del {L : List Et} (h : NdS L) (k : Int) : NdS (delM L k) := List.Nodup.sublist (List.Sublist.map _ List.filter_sublist) h
theorem nd_set {L : List Et} (h : NdS L) (e : Et) : NdS (setL L e) := by
  unfold NdS setL
  rw [List.map_append, List.nodup_append]
  refine ⟨nd_del h _, by simp, ?_⟩
  intro a ha b hb
  obtain ⟨x, hx, rfl⟩ := List.mem_map.1 ha
  have := (mem_del.1 hx).2
  simp only [List.map_cons, List.map_nil, List.mem_singleton] at hb
  omega
structure RelL (s : St) (L : List Et) : Prop where
  nd : NdS L
  eq : ∀ k, getM L k = getM s.M k
theorem RelL.mem {s : St} {L : List Et} (h : RelL s L) (hs : OkS s) {e : Et} : e ∈ L ↔ e ∈ s.M := by
  have h1 := getN_iff h.nd e.s e
  have h2 := get_iff hs.srt e.s e
  rw [h.eq] at h1
  constructor
  · intro hm; exact (h2.1 (h1.2 ⟨hm, rfl⟩)).1
  · intro hm; exact (h1.1 (h2.2 ⟨hm, rfl⟩)).1
theorem RelL.len {s : St} {L : List Et} (h : RelL s L) (hs : OkS s) : L.length ≤ 4096 := by
  have hp : L.Perm s.M := (List.perm_ext_iff_of_nodup ((List.pairwise_map.1 h.nd).imp fun {a b} hab => fun e => hab (by rw [e])) (hs.srt.imp fun {a b} hab => fun e => by rw [e] at hab; omega)).2 fun e => h.mem hs
  rw [hp.length_eq]
  exact hs.len
theorem RelL.new (n : Int) : RelL (newS n) [] := ⟨List.nodup_nil, fun k => rfl⟩
theorem RelL.put {s : St} {L : List Et} (h : RelL s L) (hs : OkS s) (e : Et) : RelL ⟨s.n, s.b, putM s.M e⟩ (setL L e) :=
  ⟨nd_set h.nd e, fun k => by rw [get_set, h.eq]; exact (get_put hs.srt e k).symm⟩
theorem RelL.for {s : St} {L : List Et} (h : RelL s L) (hs : OkS s) (u : Int) : RelL ⟨s.n, max s.b u, frM s.M u⟩ (frM L (max s.b u)) :=
  ⟨List.Nodup.sublist (List.Sublist.map _ List.filter_sublist) h.nd, fun k => by
    show _ = getM (frM s.M u) k
    rw [get_fr hs.srt]
    by_cases hk : max s.b u ≤ k
    · rw [if_pos (by omega), ← h.eq]
      exact get_filter L _ k fun e _ he => decide_eq_true (by omega)
    · have : getM (frM L (max s.b u)) k = none := by
        rw [get_none]
        intro p hp
        have := (mem_fr.1 hp).2
        omega
      rw [this]
      split
      · symm
        rw [get_none]
        intro p hp
        have := (hs.ent p hp).1
        omega
      · rfl⟩

/-! Rows of one's own. -/
abbrev TRK : TypeId := 85
abbrev TRKs : TypeId := 72
abbrev TRL : TypeId := 74
abbrev eA (e : Et) : Array Value := #[.int .i64 e.s, .bool e.k.c, .string e.k.v, .int .i64 e.k.r, .int .i64 e.k.m, .string e.k.t, .int .u64 e.k.x]
abbrev vEt (e : Et) : Value := .agg (eA e)
def ek (e : Et) : List Value := [.int .i64 e.s, .bool e.k.c, .string e.k.v, .int .i64 e.k.r, .int .i64 e.k.m, .string e.k.t, .int .u64 e.k.x]
def flatK (L : List Et) : List Value := L.flatMap ek
theorem flatK_app (a b : List Et) : flatK (a ++ b) = flatK a ++ flatK b := by simp [flatK]
theorem flatK_one (e : Et) : flatK [e] = ek e := by simp [flatK]
theorem flatK_cons (e : Et) (L : List Et) : flatK (e :: L) = ek e ++ flatK L := rfl
theorem flatK_len : ∀ L : List Et, (flatK L).length = L.length * 7
  | [] => rfl
  | e :: L => by rw [flatK_cons, List.length_append, flatK_len L, List.length_cons]; show 7 + _ = _; omega
theorem flatK_at : ∀ (L : List Et) (i j : Nat) (e : Et), L[i]? = some e → j < 7 → (flatK L)[i * 7 + j]? = (ek e)[j]?
  | [], i, j, e, h, _ => by simp at h
  | x :: L, 0, j, e, h, hj => by
    simp only [List.getElem?_cons_zero, Option.some.injEq] at h
    subst h
    rw [flatK_cons, Nat.zero_mul, Nat.zero_add, List.getElem?_append_left (by show j < 7; omega)]
  | x :: L, i + 1, j, e, h, hj => by
    rw [List.getElem?_cons_succ] at h
    rw [flatK_cons, List.getElem?_append_right (by show 7 ≤ _; omega), ← flatK_at L i j e h hj]
    congr 1
    show (i + 1) * 7 + j - 7 = _
    omega
theorem flatK_one' (L : List Et) : ∀ u ∈ flatK L, u.oneCell' = true := by
  intro u hu
  obtain ⟨e, _, he⟩ := List.mem_flatMap.1 hu
  simp [ek] at he
  rcases he with rfl | rfl | rfl | rfl | rfl | rfl | rfl <;> rfl
def OwK (base : Nat) (L : List Et) (v : Value) (w : World) : Prop := w.ownsRow base TRK 7 v L.length (flatK L)
theorem OwK.nil (base : Nat) (w : World) : OwK base [] (.slice none 0 0) w := World.ownsRow_nil w base TRK 7
theorem OwK.later {base : Nat} {L : List Et} {v : Value} {w w' : World} (h : OwK base L v w) (hb : Below w.heap.size w w') : OwK base L v w' := rows_later h hb
theorem OwK.cells {base : Nat} {L : List Et} {v : Value} {w : World} (h : OwK base L v w) (hp : 0 < L.length) : ∃ g cap, v = .slice (some ⟨g, 0, none⟩) L.length cap ∧ base ≤ g ∧ g < w.heap.size ∧
    (∀ j u, (flatK L)[j]? = some u → w.cell? ⟨g, j, none⟩ = some u) ∧ ∃ cur, w.heap[g]? = some (.cells cur TRK (0, 0)) := by
  rcases h.2 with ⟨_, h0⟩ | ⟨g, cap, cur, rfl, hbg, hg, h1, h2, h3, h4⟩
  · omega
  · refine ⟨g, cap, rfl, hbg, (Array.getElem?_eq_some_iff.1 hg).1, fun j u hu => ?_, cur, hg⟩
    rw [← h4] at hu
    have hj := (List.getElem?_eq_some_iff.1 hu).1
    rw [List.length_take] at hj
    rw [List.getElem?_take_of_lt (by omega)] at hu
    rw [← hu]
    simp [World.cell?, hg]
/-- The entries' cells, wherever the row is known. -/
theorem OwK.at {base : Nat} {L : List Et} {v : Value} {w : World} (h : OwK base L v w) {i : Nat} {e : Et} (he : L[i]? = some e) : ∃ g cap, v = .slice (some ⟨g, 0, none⟩) L.length cap ∧ g < w.heap.size ∧
    w.cell? ⟨g, i * 7, none⟩ = some (.int .i64 e.s) ∧ w.cell? ⟨g, i * 7 + 1, none⟩ = some (.bool e.k.c) ∧ w.cell? ⟨g, i * 7 + 2, none⟩ = some (.string e.k.v) ∧ w.cell? ⟨g, i * 7 + 3, none⟩ = some (.int .i64 e.k.r) ∧
    w.cell? ⟨g, i * 7 + 4, none⟩ = some (.int .i64 e.k.m) ∧ w.cell? ⟨g, i * 7 + 5, none⟩ = some (.string e.k.t) ∧ w.cell? ⟨g, i * 7 + 6, none⟩ = some (.int .u64 e.k.x) := by
  obtain ⟨g, cap, hv, _, hg, hc, _⟩ := h.cells (by have := (List.getElem?_eq_some_iff.1 he).1; omega)
  have key : ∀ j u, j < 7 → (ek e)[j]? = some u → w.cell? ⟨g, i * 7 + j, none⟩ = some u := fun j u hj hu => hc _ u (by rw [flatK_at L i j e he hj]; exact hu)
  exact ⟨g, cap, hv, hg, key 0 _ (by omega) rfl, key 1 _ (by omega) rfl, key 2 _ (by omega) rfl, key 3 _ (by omega) rfl, key 4 _ (by omega) rfl, key 5 _ (by omega) rfl, key 6 _ (by omega) rfl⟩
theorem info_k : (Try.prog.info? TRK).map (fun i => (i.zero, i.size, i.bytes)) = some (some (.agg #[.int .i64 0, .bool false, .string ⟨#[]⟩, .int .i64 0, .int .i64 0, .string ⟨#[]⟩, .int .u64 0]), 7, 72) := by kernel_rfl
theorem run_append_k (base : Nat) (w : World) (ty : TypeId) (v : Value) (L : List Et) (hown : OwK base L v w) (a : Addr) (c : Nat) (N : List Et) (hx : ∀ j u, (flatK N)[j]? = some u → w.cell? (a.add j) = some u) (hn : L.length + N.length ≤ 100000) (hbase : base ≤ w.heap.size) :
    ∃ v' w', (Builtin.append_ #[TRKs, TRKs] ty #[v, .slice (some a) N.length c]).run Try.prog w = .ok v' w' ∧ OwK base (L ++ N) v' w' ∧ w.grownBy w' v.ownBlock := by
  obtain ⟨i0, hi, hz0, hz1, hz2⟩ := info_p info_k
  obtain ⟨v', w', h1, h2, h3, _, h5⟩ := run_append_own_at (P := Try.prog) w base TRKs ty TRK i0 _ 7 72 Try.underlying72 hi hz0 hz1 hz2 rfl (by decide) v L.length (flatK L) hown a N.length c (flatK N) (flatK_len N)
    hx (flatK_one' N) (by unfold maxLen; omega) (by omega) hbase
  refine ⟨v', w', h1, ?_, h3⟩
  show w'.ownsRow base TRK 7 v' (L ++ N).length (flatK (L ++ N))
  rw [flatK_app, List.length_append]
  exact h2
theorem wpList_append_k {ops : Array Oper} {rest : List Oper} {o : Oper} {a : Act} {w : World} {Q : Exit → Act → World → Prop} (hgd : o.guard = none) (s x : Operand)
    (ho : o.op = .call { callee := .builtin .append, args := #[s, x], argTypes := #[TRKs, TRKs] })
    (base : Nat) (v : Value) (L : List Et) (hs : a.eval s = v) (hown : OwK base L v w) (g c : Nat) (y : Et) (hx : a.eval x = .slice (some ⟨g, 0, none⟩) 1 c) (hc : w.heap[g]? = some (.cells (eA y) TRK (0, 0)))
    (hn : L.length ≤ 10000) (hbase : base ≤ w.heap.size)
    (h : ∀ v' w', OwK base (L ++ [y]) v' w' → w.grownBy w' v.ownBlock → wpList Try.prog ops Q rest (a.put o.dst v') w') :
    wpList Try.prog ops Q (o :: rest) a w := by
  refine wpList_plain hgd fun K hK => ?_
  obtain ⟨v', w', hrun, h1, h2⟩ := run_append_k base w o.type v L hown ⟨g, 0, none⟩ c [y] (fun j u hu => by rw [addr_add, Nat.zero_add, cell_of_row w g j _ TRK _ hc]; rw [flatK_one] at hu; simpa [ek] using hu) (by simp; omega) hbase
  rw [List.length_singleton] at hrun
  unfold Oper.wp execOp
  simp only [ho, resolve, invoke, builtin, Sem.run_bind, Sem.run_pure, Result.andThen_ok, List.map_toArray, List.map_cons, List.map_nil, hs, hx, hrun]
  exact hK _ _ (h v' w' h1 h2)

/-! The learner's box. -/
structure Rx (w : World) (rb : Nat) (s : St) (L : List Et) (v : Value) : Prop where
  box : w.heap[rb]? = some (.cells #[.int .i64 s.n, .int .i64 s.b, v] TRL (0, 0))
  row : OwK 0 L v w
  rel : RelL s L
  ok : OkS s
section
variable {w w' : World} {rb : Nat} {s : St} {L : List Et} {v : Value}
theorem Rx.lt (h : Rx w rb s L v) : rb < w.heap.size := (Array.getElem?_eq_some_iff.1 h.box).1
theorem Rx.len (h : Rx w rb s L v) : L.length ≤ 4096 := h.rel.len h.ok
theorem Rx.form (h : Rx w rb s L v) : ∃ a cap, v = .slice a L.length cap := rows_form h.row
theorem Rx.apart (h : Rx w rb s L v) : ∀ k, v.ownBlock = some k → k ≠ rb := by
  rintro k hk rfl
  rcases h.row.2 with ⟨rfl, _⟩ | ⟨g, cap, cur, rfl, _, hg, _⟩
  · cases hk
  · injection hk with hk
    subst hk
    rw [h.box] at hg
    injection hg with hg
    injection hg with _ hg
    exact absurd hg (by decide)
theorem Rx.kept {F : Nat → Prop} (h : Rx w rb s L v) (k : Keeps F w w') (h1 : ¬ F rb) (h2 : ∀ i, v.ownBlock = some i → ¬ F i) : Rx w' rb s L v :=
  ⟨(k.block rb h.lt h1).trans h.box, rows_kept h.row fun i hi => k.block i (World.ownsRow.lt h.row i hi).2 (h2 i hi), h.rel, h.ok⟩
theorem Rx.later (h : Rx w rb s L v) (hb : Below w.heap.size w w') : Rx w' rb s L v := h.kept (F := fun _ => False) (Keeps.of_below hb) id fun _ _ => id
theorem Rx.alloc (h : Rx w rb s L v) (o : Obj) : Rx (w.alloc o) rb s L v := h.later (alloc_b w o)
theorem Rx.drew (h : Rx w rb s L v) : Rx w.drew rb s L v := h.later (Below.refl _ _).drew
theorem Rx.cells (h : Rx w rb s L v) : w.cell? ⟨rb, 0, none⟩ = some (.int .i64 s.n) ∧ w.cell? ⟨rb, 1, none⟩ = some (.int .i64 s.b) ∧ w.cell? ⟨rb, 2, none⟩ = some v :=
  ⟨cell_of_row w rb 0 _ TRL _ h.box, cell_of_row w rb 1 _ TRL _ h.box, cell_of_row w rb 2 _ TRL _ h.box⟩
theorem Rx.frozen (h : Rx w rb s L v) (i : Nat) : w.frozen? ⟨rb, i, none⟩ = false := frozen_of_row w rb i _ TRL h.box
end

/-! New, check, Valid, Below. -/
theorem rnew_any (n : Int) (h : 1 ≤ n ∧ n ≤ 7) (w : World) :
    Calls Try.prog 13 #[.int .i64 n] w fun e w' => ∃ rb, e = .returned (.tuple #[.pointer (some ⟨rb, 0, none⟩), .int .i64 0]) ∧ Rx w' rb (newS n) [] (.slice none 0 0) ∧ w.heap.size ≤ rb ∧ Below w.heap.size w w' := by
  have b1 : decide (n < 1) = false := by simp; omega
  have b2 : decide (7 < n) = false := by simp; omega
  have HO := Lib.hid (ok_new h)
  clear h
  go_enter Try.func13, Try.ntmps13
  go_wp2
  go_ret2
  exact ⟨w.heap.size, rfl, ⟨heap_alloc_new _ _, OwK.nil _ _, RelL.new n, HO.out⟩, Nat.le_refl _, alloc_b _ _⟩
theorem rnew_bad (n : Int) (h : n < 1 ∨ 7 < n) (w : World) :
    Calls Try.prog 13 #[.int .i64 n] w fun e w' => e = .returned (.tuple #[.pointer none, .int .i64 2]) ∧ w = w' := by
  rcases h with h | h
  · have b1 : decide (n < 1) = true := by simpa using h
    go_enter Try.func13, Try.ntmps13
    go_wp2
    go_ret2
    exact ⟨rfl, rfl⟩
  · have b1 : decide (n < 1) = false := by simp; omega
    have b2 : decide (7 < n) = true := by simpa using h
    clear h
    go_enter Try.func13, Try.ntmps13
    go_wp2
    go_ret2
    exact ⟨rfl, rfl⟩
theorem rchk_any {rb : Nat} {s : St} {L : List Et} {vl : Value} (k : Int) (v : ByteArray) (w : World) (x : Rx w rb s L vl) :
    Calls Try.prog 38 #[.pointer (some ⟨rb, 0, none⟩), .int .i64 k, .string v] w fun e w' => e = .returned (.int .i64 (ckV s.b k v)) ∧ w = w' := by
  obtain ⟨_, c1, _⟩ := x.cells
  clear x
  generalize s.b = b at *
  by_cases h0 : k < 0
  · have b0 : decide (k < 0) = true := decide_eq_true h0
    have e := Lib.hid (show ckV b k v = 2 from if_neg (by omega))
    clear h0
    go_enter Try.func38, Try.ntmps38
    go_wp2
    go_ret
    exact ⟨by rw [e.out]; rfl, rfl⟩
  · have b0 : decide (k < 0) = false := decide_eq_false h0
    by_cases h1 : 4096 ≤ k
    · have b1 : decide (4096 ≤ k) = true := decide_eq_true h1
      have e := Lib.hid (show ckV b k v = 2 from if_neg (by omega))
      clear h0 h1
      go_enter Try.func38, Try.ntmps38
      go_wp2
      go_ret
      exact ⟨by rw [e.out]; rfl, rfl⟩
    · have b1 : decide (4096 ≤ k) = false := decide_eq_false h1
      by_cases hv : 65536 < v.size
      · have b2 : decide (65536 < v.size) = true := decide_eq_true hv
        have b3 : decide ((65536 : Int) < (v.size : Int)) = true := decide_eq_true (by omega)
        have e := Lib.hid (show ckV b k v = 11 by unfold ckV; rw [if_pos (by omega), if_pos hv])
        clear h0 h1 hv
        go_enter Try.func38, Try.ntmps38
        go_wp2
        go_ret
        exact ⟨by rw [e.out]; rfl, rfl⟩
      · have b2 : decide (65536 < v.size) = false := decide_eq_false hv
        have b3 : decide ((65536 : Int) < (v.size : Int)) = false := decide_eq_false (by omega)
        by_cases hk : k < b
        · have b4 : decide (k < b) = true := decide_eq_true hk
          have e := Lib.hid (show ckV b k v = 8 by unfold ckV; rw [if_pos (by omega), if_neg hv, if_pos hk])
          clear h0 h1 hv hk
          go_enter Try.func38, Try.ntmps38
          go_wp2
          go_ret
          exact ⟨by rw [e.out]; rfl, rfl⟩
        · have b4 : decide (k < b) = false := decide_eq_false hk
          have e := Lib.hid (show ckV b k v = 0 by unfold ckV; rw [if_pos (by omega), if_neg hv, if_neg hk])
          clear h0 h1 hv hk
          go_enter Try.func38, Try.ntmps38
          go_wp2
          go_ret
          exact ⟨by rw [e.out]; rfl, rfl⟩
theorem rvalid_any (r m n : Int) (w : World) :
    Calls Try.prog 37 #[.agg #[.int .i64 r, .int .i64 m], .int .i64 n] w fun e w' => e = .returned (.bool (decide (Gd n r m))) ∧ Below w.heap.size w w' := by
  have hb := Lib.hid (alloc_b w (.cells #[.int .i64 r, .int .i64 m] TB))
  have hx := Bal.bx_new w r m
  obtain ⟨c0, c1, _, _⟩ := hx.cells
  clear hx
  by_cases h1 : 1 ≤ r
  · have b1 : decide (1 ≤ r) = true := decide_eq_true h1
    by_cases h2 : r ≤ 1073741824
    · have b2 : decide (r ≤ 1073741824) = true := decide_eq_true h2
      by_cases h3 : 0 ≤ m
      · have b3 : decide (0 ≤ m) = true := decide_eq_true h3
        have e := Lib.hid (show decide (Gd n r m) = decide (m < n) by unfold Gd; simp [h1, h2, h3])
        clear h1 h2 h3
        go_enter Try.func37, Try.ntmps37
        go_wp2
        go_ret
        exact ⟨by rw [e.out]; rfl, hb.out⟩
      · have b3 : decide (0 ≤ m) = false := decide_eq_false h3
        have e := Lib.hid (show decide (Gd n r m) = false from decide_eq_false (fun h => h3 h.2.2.1))
        clear h1 h2 h3
        go_enter Try.func37, Try.ntmps37
        go_wp2
        go_ret
        exact ⟨by rw [e.out]; rfl, hb.out⟩
    · have b2 : decide (r ≤ 1073741824) = false := decide_eq_false h2
      have e := Lib.hid (show decide (Gd n r m) = false from decide_eq_false (fun h => h2 h.2.1))
      clear h1 h2
      go_enter Try.func37, Try.ntmps37
      go_wp2
      go_ret
      exact ⟨by rw [e.out]; rfl, hb.out⟩
  · have b1 : decide (1 ≤ r) = false := decide_eq_false h1
    have e := Lib.hid (show decide (Gd n r m) = false from decide_eq_false (fun h => h1 h.1))
    clear h1
    go_enter Try.func37, Try.ntmps37
    go_wp2
    go_ret
    exact ⟨by rw [e.out]; rfl, hb.out⟩
theorem ord_below (a b x y : Int) : decide (ordV a b x y < 0) = (decide (a < x) || (a == x && decide (b < y))) := by
  unfold ordV Bal.fdV compareInt
  by_cases h1 : a < x
  · simp [h1]
  · by_cases h2 : a = x
    · subst h2
      by_cases h3 : b < y
      · simp [h3]
      · by_cases h4 : b = y
        · subst h4; simp
        · have : y < b := by omega
          simp [h3, this, h4]
    · have : x < a := by omega
      simp [h1, this, h2]
theorem rbelow_any (a b x y : Int) (w : World) :
    Calls Try.prog 40 #[.agg #[.int .i64 a, .int .i64 b], .agg #[.int .i64 x, .int .i64 y]] w fun e w' => e = .returned (.bool (decide (ordV a b x y < 0))) ∧ Below w.heap.size w w' := by
  have b1 := alloc_b w (.cells #[.int .i64 a, .int .i64 b] TB)
  have hb := Lib.hid (b1.alloc b1.size (.cells #[.int .i64 x, .int .i64 y] TB))
  have h2 := heap_alloc_new (w.alloc (.cells #[.int .i64 a, .int .i64 b] TB)) (.cells #[.int .i64 x, .int .i64 y] TB)
  rw [World.size_alloc] at h2
  have h1 := (Below.heap_alloc (w.alloc (.cells #[.int .i64 a, .int .i64 b] TB)) (.cells #[.int .i64 x, .int .i64 y] TB) w.heap.size (by rw [World.size_alloc]; omega)).trans (heap_alloc_new w (.cells #[.int .i64 a, .int .i64 b] TB))
  have c0 := cell_of_row _ _ 0 _ TB _ h1
  have c1 := cell_of_row _ _ 1 _ TB _ h1
  have c2 := cell_of_row _ _ 0 _ TB _ h2
  have c3 := cell_of_row _ _ 1 _ TB _ h2
  have e := Lib.hid (ord_below a b x y)
  clear b1 h1 h2
  by_cases g1 : a < x
  · have d1 : decide (a < x) = true := decide_eq_true g1
    rw [d1] at e
    clear g1
    go_enter Try.func40, Try.ntmps40
    go_wp2
    go_ret
    exact ⟨by rw [e.out]; rfl, hb.out⟩
  · have d1 : decide (a < x) = false := decide_eq_false g1
    rw [d1] at e
    by_cases g2 : a = x
    · subst g2
      have d2 : (a == a) = true := by simp
      rw [d2] at e
      clear g1
      go_enter Try.func40, Try.ntmps40
      go_wp2
      go_ret
      exact ⟨by rw [e.out]; simp, hb.out⟩
    · have d2 : (a == x) = false := by simpa using g2
      have d3 : (a = x) = False := by simpa using g2
      rw [d2] at e
      clear g1 g2
      go_enter Try.func40, Try.ntmps40
      go_wp2
      go_ret
      exact ⟨by rw [e.out]; rfl, hb.out⟩
end Go.Proofs.Ytaacnhhinhdinaa.Lrn
