/- The function that yields the values of a log in order. -/
import Derived.Test.YtgeejkedljhcoaaT04
import Derived.RangeFuncNested
import Derived.RangeFuncBox
import Derived.RangeFuncCalls
import Derived.RangeFuncLeaves
import Derived.OwnWalkIn
import Derived.TacticsInMore
import Derived.LoopNIn
import Derived.LoopIn
namespace Go.Proofs.Ytgeejkedljhcoaa.Slt
open Go.RowKit Go.Maps Go.Lib
set_option linter.unusedVariables false
set_option linter.unusedSimpArgs false
set_option maxRecDepth 20000
attribute [local go_sem] Oper.semAt_some

/-- What a round may write, of what was there before n0: the blocks of F. -/
def Kq (F : Nat → Prop) (n0 : Nat) (A B : World) : Prop := A.heap.size ≤ B.heap.size ∧ ∀ k, k < n0 → ¬ F k → B.heap[k]? = A.heap[k]?
theorem Kq.trans {F : Nat → Prop} {n0 : Nat} {A B C : World} (h : Kq F n0 A B) (g : Kq F n0 B C) : Kq F n0 A C := ⟨Nat.le_trans h.1 g.1, fun k hk hq => (g.2 k hk hq).trans (h.2 k hk hq)⟩
theorem Kq.refl (F : Nat → Prop) (n0 : Nat) (A : World) : Kq F n0 A A := ⟨Nat.le_refl _, fun _ _ _ => rfl⟩
theorem Kq.of_below {F : Nat → Prop} {n0 : Nat} {A B : World} (h : Below A.heap.size A B) (hn : n0 ≤ A.heap.size) : Kq F n0 A B := ⟨h.size, fun k hk _ => h.block k (by omega)⟩
theorem Kq.cell {F : Nat → Prop} {n0 : Nat} {A B : World} (h : Kq F n0 A B) {p : Addr} (hp : p.block < n0) (hq : ¬ F p.block) : B.cell? p = A.cell? p := by
  unfold World.cell?
  rw [h.2 p.block hp hq]
theorem Kq.drew {F : Nat → Prop} {n0 : Nat} {A B : World} (h : Kq F n0 A B) : Kq F n0 A B.drew := h
/-- A value at a slot that there is. -/
abbrev Em : Type := { e : Et // 0 ≤ e.s ∧ e.s < 4096 }
def vals (ys : List Em) : List Et := ys.map Subtype.val
theorem vals_snoc (ys : List Em) (x : Em) : vals (ys ++ [x]) = vals ys ++ [x.val] := List.map_append
theorem vals_len (ys : List Em) : (vals ys).length = ys.length := List.length_map _
abbrev encE (x : Et) : Array Value := #[.int .i64 x.s, .string x.k]
/-- The values below a slot. -/
def toM (M : List Et) (k : Int) : List Et := M.filter fun e => decide (e.s < k)
theorem to_len (M : List Et) (k : Int) : (toM M k).length ≤ M.length := List.length_filter_le _ _
theorem to_all {M : List Et} {k : Int} (h : ∀ e ∈ M, e.s < k) : toM M k = M := by
  unfold toM
  rw [List.filter_eq_self]
  intro p hp
  exact decide_eq_true (h p hp)
theorem to_none {M : List Et} {k : Int} (h : ∀ e ∈ M, k ≤ e.s) : toM M k = [] := by
  unfold toM
  rw [List.filter_eq_nil_iff]
  intro p hp
  have := h p hp
  simp; omega
theorem to_step : ∀ {M : List Et} (_ : Srt M) (k : Int), toM M (k + 1) = toM M k ++ (match getM M k with | some e => [e] | none => [])
  | [], _, k => rfl
  | y :: r, h, k => by
    obtain ⟨h1, h2⟩ := List.pairwise_cons.1 h
    have ih := to_step h2 k
    unfold toM at ih ⊢
    unfold getM at ih ⊢
    rw [List.filter_cons, List.filter_cons, List.find?_cons]
    by_cases a : y.s < k
    · rw [if_pos (decide_eq_true (by omega)), if_pos (decide_eq_true a), show (y.s == k) = false by simp; omega, ih]
      rfl
    · by_cases b : y.s = k
      · have e1 : (y.s == k) = true := by simp [b]
        rw [e1, if_pos (decide_eq_true (by omega)), if_neg (by simp; omega)]
        have n1 : (r.filter fun e => decide (e.s < k + 1)) = [] := by
          rw [List.filter_eq_nil_iff]; intro p hp; have := h1 p hp; simp; omega
        have n2 : (r.filter fun e => decide (e.s < k)) = [] := by
          rw [List.filter_eq_nil_iff]; intro p hp; have := h1 p hp; simp; omega
        rw [n1, n2]; rfl
      · rw [if_neg (by simp; omega), if_neg (by simp; omega), show (y.s == k) = false by simp; omega, ih]
theorem to_full {M : List Et} {k : Int} (h : (toM M k).length = M.length) : toM M k = M := by
  unfold toM at *
  exact List.filter_eq_self.2 (List.length_filter_eq_length_iff.1 h)
theorem own_block {w w' : World} {mb n : Nat} {M : List Et} (h : w.ownsMap Try.prog TI rdK mb n (DM M)) (e : w'.heap[mb]? = w.heap[mb]?) : w'.ownsMap Try.prog TI rdK mb n (DM M) := by
  obtain ⟨es, clock, hb, F', hs, hD⟩ := h
  exact ⟨es, clock, e.trans hb, F', hs, hD⟩
set_option maxRecDepth 100000 in
set_option maxHeartbeats 2000000 in
theorem from_in {sb mb : Nat} {s : St} (F : Nat → Prop) (w : World) (x : Ax w sb mb s) (Bp Bb : Nat) (hBp : w.cell? ⟨Bp, 0, none⟩ = some (.pointer (some ⟨sb, 0, none⟩))) (hBb : w.cell? ⟨Bb, 0, none⟩ = some (.int .i64 s.b))
    (f1 : ¬ F sb) (f2 : ¬ F mb) (f3 : ¬ F Bp)
    (l : Nat) (J Jx : List Em → World → Prop) (W : World) (hW : Below w.heap.size w W) (hJa : AbidesFrom W.heap.size J) (hJx : AbidesFrom W.heap.size Jx)
    (hY : ∀ pre y W1, J pre W1 → pre.length < s.M.length + 1 → YieldAt Fence.wide 2 Try.prog l (encE (y : Em).val) W1 fun e W' =>
      (e = .returned (.bool true) ∧ J (pre ++ [y]) W' ∧ Kq F w.heap.size W1 W') ∨ (e = .returned (.bool false) ∧ Jx (pre ++ [y]) W'))
    (h0 : J [] W) :
    CallsIn Fence.wide 3 Try.prog 59 #[.func (.yield l) #[] #[], .pointer (some ⟨Bp, 0, none⟩), .pointer (some ⟨Bb, 0, none⟩)] W fun e W' => (∃ v, e = .returned v) ∧
      ((∃ ys : List Em, vals ys = s.M ∧ J ys W') ∨ (∃ pre : List Em, (∃ rest, vals pre ++ rest = s.M) ∧ Jx pre W')) := by
  have hbp0 := World.block_lt_of_cell? w _ hBp
  have hbb0 := World.block_lt_of_cell? w _ hBb
  have xW := x.later hW
  have c0 : W.cell? ⟨Bp, 0, none⟩ = some (.pointer (some ⟨sb, 0, none⟩)) := (hW.cell (p := ⟨Bp, 0, none⟩) hbp0).trans hBp
  have c1 : W.cell? ⟨Bb, 0, none⟩ = some (.int .i64 s.b) := (hW.cell (p := ⟨Bb, 0, none⟩) hbb0).trans hBb
  have c2 := xW.cells.2
  have hsz := x.lt
  have hBe : Hid (∀ V, Kq F w.heap.size W V → V.cell? ⟨Bp, 0, none⟩ = some (.pointer (some ⟨sb, 0, none⟩)) ∧ V.cell? ⟨sb, 1, none⟩ = some (.map (some mb)) ∧ V.ownsMap Try.prog TI rdK mb s.M.length (DM s.M)) := Lib.hid fun V hV =>
    ⟨(hV.cell (p := ⟨Bp, 0, none⟩) hbp0 f3).trans c0, (hV.cell (p := ⟨sb, 1, none⟩) hsz.1 f1).trans c2, own_block xW.own (hV.2 mb hsz.2 f2)⟩
  have hlen : ∀ (ty : TypeId), (Builtin.len_ #[TM] ty #[.map (some mb)]).run Try.prog W = .ok (.int .i64 s.M.length) W := fun ty => by
    have := xW.own.len Try.underlying36 ty
    rwa [size_DM] at this
  have hlk : Hid (∀ V, Kq F w.heap.size W V → ∀ k : Int, (Lit.int .i64 k).wf = true → (Instr.lookup TM (.map (some mb)) (.int .i64 k) true).run Try.prog V = .ok (.tuple #[vK (gK (getM s.M k)), .bool (getM s.M k).isSome]) V) := Lib.hid fun V hV k hk => look_at (hBe.out V hV).2.2 hk rfl
  have hend : Hid (∀ e ∈ s.M, s.b ≤ e.s ∧ e.s < 4096) := Lib.hid fun e he => ⟨(x.ok.ent e he).1, (x.ok.ent e he).2.1⟩
  have hsrt := Lib.hid x.ok.srt
  have hb4 := x.ok.hb
  have hml := x.ok.len
  have hle := to_len s.M
  have hst := Lib.hid (fun k => to_step hsrt.out k)
  have hget := Lib.hid (fun k e (h : getM s.M k = some e) => get_key h)
  have h00 := Lib.hid (to_none (fun e he => (hend.out e he).1))
  have hall := Lib.hid (to_all (M := s.M) (k := 4096) (fun e he => (hend.out e he).2))
  have hfl := Lib.hid (fun k (h : (toM s.M k).length = s.M.length) => to_full h)
  have hpre : Hid (∀ ys : List Em, ∀ k (y : Em), vals ys = toM s.M k → getM s.M k = some y.val → ∃ rest, vals (ys ++ [y]) ++ rest = s.M) := Lib.hid fun ys k y h1 h2 => by
    have h3 := hst.out k
    rw [h2] at h3
    rw [vals_snoc, h1, ← h3]
    have : ∀ {M : List Et} (_ : Srt M) (k : Int), ∃ rest, toM M k ++ rest = M := by
      intro M hM k
      refine ⟨frM M k, ?_⟩
      induction M with
      | nil => rfl
      | cons a r ih =>
        obtain ⟨q1, q2⟩ := List.pairwise_cons.1 hM
        unfold toM frM at ih ⊢
        rw [List.filter_cons, List.filter_cons]
        by_cases g : a.s < k
        · rw [if_pos (decide_eq_true g), if_neg (by simp; omega), List.cons_append, ih q2]
        · rw [if_neg (by simp; omega), if_pos (decide_eq_true (by omega))]
          have e1 : (r.filter fun e => decide (e.s < k)) = [] := by
            rw [List.filter_eq_nil_iff]; intro p hp; have := q1 p hp; simp; omega
          rw [e1, List.nil_append]
          congr 1
          rw [List.filter_eq_self]
          intro p hp; have := q1 p hp; simp; omega
    exact this hsrt.out _
  clear xW hBp hBb x
  replace hY := Lib.hid hY
  generalize s.M = M at *
  generalize s.b = b at *
  generalize hN : M.length = N at *
  replace hN := Lib.hid hN
  replace hle := Lib.hid hle
  refine callsIn_of_wp Try.func59 rfl trivial ?_ rfl
  simp only [Try.ntmps59, List.size_toArray, List.length_cons, List.length_nil, Nat.reduceAdd, Nat.reduceSub, Array.replicate_succ, Array.replicate_zero, List.push_toArray, List.append_toArray, List.nil_append, List.cons_append]
  gi_wp2
  gi_loopw [4, 5] (fun lf i wr => ∃ (k : Int) (ys : List Em), b ≤ k ∧ k ≤ 4096 ∧ ys.length ≤ N ∧ lf = .int .i64 ((N - ys.length : Nat) : Int) ∧ i = .int .i64 k ∧ vals ys = toM M k ∧ J ys wr ∧ Kq F w.heap.size W wr) (fun _ i _ => 4096 - nOf i)
  case atStart => exact ⟨b, [], Int.le_refl _, hb4.2, Nat.zero_le _, rfl, rfl, h00.out.symm, h0, Kq.refl _ _ _⟩
  case round =>
    clear c0 c1 c2 hlen
    obtain ⟨k, ys, hk0, hk1, hyn, rfl, rfl, hys, hJ, hK⟩ := hrel
    obtain ⟨c0, c2, _⟩ := hBe.out _ hK
    by_cases hlt : k < 4096
    · have b1 : decide (k < 4096) = true := decide_eq_true hlt
      have hwf : (Lit.int .i64 k).wf = true := wf64 (by omega) (by omega)
      have hl := hlk.out _ hK k hwf
      have hw1 : IntKind.i64.wrap (k + 1) = k + 1 := by rw [IntKind.wrap_i64]; omega
      by_cases hlf : ys.length < N
      · obtain ⟨lf, hlf2⟩ : ∃ lf, N - ys.length = lf := ⟨_, rfl⟩
        have b2 : decide (0 < (lf : Int)) = true := decide_eq_true (by omega)
        have b3 : decide (0 < lf) = true := decide_eq_true (by omega)
        have hw2 : IntKind.i64.wrap ((lf : Int) - 1) = ((lf - 1 : Nat) : Int) := by rw [IntKind.wrap_i64]; omega
        have hw3 : lf - 1 = N - (ys.length + 1) := by omega
        rw [hlf2]
        replace hlf2 := Lib.hid hlf2
        replace hw3 := Lib.hid hw3
        have hsk := hst.out k
        have hgk := hget.out k
        have hprk := hpre.out ys k
        cases hg : getM M k with
        | none =>
          rw [hg] at hl hsk
          have hnew := Lib.hid (show vals ys = toM M (k + 1) by rw [hsk, List.append_nil]; exact hys)
          have hlf3 := Lib.hid (show (lf : Int) = ((N - ys.length : Nat) : Int) by rw [hlf2.out])
          simp only [Option.isSome_none, gK] at hl
          clear hg hgk hsk hys hst hget hpre hprk hlk hBe hY h00 hall hfl hlf
          replace hJ := Lib.hid hJ
          gi_wp2
          go_roundw
          case rel => exact ⟨k + 1, ys, by omega, by omega, by omega, by rw [hlf3.out], rfl, hnew.out, hJ.out, hK⟩
          case measure => simp [nOf]; omega
        | some e =>
          rw [hg] at hl hsk
          have hes := hgk e hg
          simp only [Option.isSome_some, gK] at hl
          obtain ⟨z, hz⟩ : ∃ z : Em, z.val = e := ⟨⟨e, by omega, by omega⟩, rfl⟩
          obtain ⟨fn, tmps, assign, body, hy, hR⟩ := hY.out ys z _ hJ (by omega)
          have hnew := Lib.hid (show vals (ys ++ [z]) = toM M (k + 1) by rw [hsk, vals_snoc, hys, hz])
          have hpr := Lib.hid (hprk z hys (by rw [hz]; exact hg))
          have hlf3 := Lib.hid (show ((lf - 1 : Nat) : Int) = ((N - (ys ++ [z]).length : Nat) : Int) by rw [hw3.out, List.length_append]; rfl)
          have hyl := Lib.hid (show (ys ++ [z]).length ≤ N by rw [List.length_append]; show ys.length + 1 ≤ N; omega)
          obtain ⟨es, ev⟩ := e
          simp only [encE, hz] at hy hR
          simp only at hes
          subst hes
          replace hy := Lib.hid (show (Instr.yield l #[.int .i64 es, .string ev]).run Try.prog _ = _ from hy)
          clear hz hg hgk hsk hys hst hget hpre hprk hlk hBe hY h00 hall hfl hlf hJ
          gi_wp2
          rw [hy.out]
          gi_wp2
          refine hR.mono ?_
          rintro e W3 (⟨rfl, hJ3, hK3⟩ | ⟨rfl, hJx3⟩)
          · replace hJ3 := Lib.hid hJ3
            gi_wp2
            go_roundw
            case rel => exact ⟨es + 1, ys ++ [z], by omega, by omega, hyl.out, by rw [hlf3.out], rfl, hnew.out, hJ3.out, hK.trans hK3⟩
            case measure => simp [nOf]; omega
          · gi_wp2
            refine bodyPost_ret (results_none rfl _ _ _) rfl ?_
            exact ⟨⟨_, rfl⟩, .inr ⟨ys ++ [z], hpr.out, hJx3⟩⟩
      · have hN0 : N - ys.length = 0 := by omega
        rw [hN0]
        have hM : vals ys = M := by
          rw [hys]
          refine hfl.out k ?_
          have := congrArg List.length hys
          rw [vals_len] at this
          omega
        replace hM := Lib.hid hM
        clear hys hst hget hpre hlk hBe hY h00 hall hfl hlf
        replace hJ := Lib.hid hJ
        gi_wp2
        go_end0
        exact ⟨⟨_, rfl⟩, .inl ⟨ys, hM.out, hJ.out⟩⟩
    · have b1 : decide (k < 4096) = false := decide_eq_false hlt
      have hk4 : k = 4096 := by omega
      have hM := Lib.hid (show vals ys = M by rw [hys, hk4]; exact hall.out)
      clear hys hst hget hpre hlk hBe hY h00 hall hfl
      replace hJ := Lib.hid hJ
      gi_wp2
      go_end0
      exact ⟨⟨_, rfl⟩, .inl ⟨ys, hM.out, hJ.out⟩⟩
theorem from_any (p : Option Addr) (bb : Int) (w : World) : Calls Try.prog 49 #[.pointer p, .int .i64 bb] w fun e w' => e = .returned (.func (.func 59) #[] #[.pointer (some ⟨w.heap.size, 0, none⟩), .pointer (some ⟨w.heap.size + 1, 0, none⟩)]) ∧ w' = (w.alloc (.cells #[.pointer p] 25)).alloc (.cells #[.int .i64 bb] TI) := by
  go_enter Try.func49, Try.ntmps49
  go_wp2
  go_ret
  exact ⟨rfl, rfl⟩
theorem from_stops {sb mb : Nat} {s : St} (F : Nat → Prop) (w : World) (x : Ax w sb mb s) (Bp Bb : Nat) (hBp : w.cell? ⟨Bp, 0, none⟩ = some (.pointer (some ⟨sb, 0, none⟩))) (hBb : w.cell? ⟨Bb, 0, none⟩ = some (.int .i64 s.b))
    (f1 : ¬ F sb) (f2 : ¬ F mb) (f3 : ¬ F Bp) :
    SeqStopsK Fence.wide 3 Try.prog 59 #[.pointer (some ⟨Bp, 0, none⟩), .pointer (some ⟨Bb, 0, none⟩)] (fun y : Em => encE y.val) (Kq F w.heap.size) (fun ys => vals ys = s.M) (fun pre => ∃ rest, vals pre ++ rest = s.M) (s.M.length + 1) w :=
  fun l J Jx W hW hJ hJx hY h0 => from_in F w x Bp Bb hBp hBb f1 f2 f3 l J Jx W hW hJ hJx hY h0
end Go.Proofs.Ytgeejkedljhcoaa.Slt
