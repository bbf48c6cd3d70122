/- The function that yields the entries of all promises. -/
import Derived.Test.YtffiooclkchoiaaP07
import Derived.RangeFuncNested
import Derived.RangeFuncBox
import Derived.RangeFuncCalls
import Derived.RangeFuncLeaves
import Derived.OwnWalkIn
import Derived.TacticsInMore
import Derived.LoopNIn
import Derived.LoopIn
namespace Go.Proofs.Ytffiooclkchoiaa.Prp
open Go.RowKit Go.Lib
open Bal (TB bOk ckB ordV eqB eqB_t eqB_f eq_b alloc_b check_any order_any)
set_option linter.unusedVariables false
set_option linter.unusedSimpArgs false
set_option maxRecDepth 20000
attribute [local go_sem] Oper.semAt_some

/-- What a round may write, of what was there before n0: the box q0 alone. -/
def Kq (q0 n0 : Nat) (A B : World) : Prop := A.heap.size ≤ B.heap.size ∧ ∀ k, k < n0 → k ≠ q0 → B.heap[k]? = A.heap[k]?
theorem Kq.trans {q0 n0 : Nat} {A B C : World} (h : Kq q0 n0 A B) (g : Kq q0 n0 B C) : Kq q0 n0 A C := ⟨Nat.le_trans h.1 g.1, fun k hk hq => (g.2 k hk hq).trans (h.2 k hk hq)⟩
theorem Kq.refl (q0 n0 : Nat) (A : World) : Kq q0 n0 A A := ⟨Nat.le_refl _, fun _ _ _ => rfl⟩
theorem Kq.of_below {q0 n0 : Nat} {A B : World} (h : Below A.heap.size A B) (hn : n0 ≤ A.heap.size) : Kq q0 n0 A B := ⟨h.size, fun k hk _ => h.block k (by omega)⟩
theorem Kq.cell {q0 n0 : Nat} {A B : World} (h : Kq q0 n0 A B) {p : Addr} (hp : p.block < n0) (hq : p.block ≠ q0) : B.cell? p = A.cell? p := by
  unfold World.cell?
  rw [h.2 p.block hp hq]
theorem loadIn_sub {F : Fence} {n : Nat} {ops : Array Oper} {rest : List Oper} {o : Oper} {a : Act} {w : World} {Q : Exit → Act → World → Prop} (hgd : o.guard = none) (x : Operand) (ho : o.op = .load TAr x)
    (g off : Nat) (hx : a.eval x = .pointer (some ⟨g, off, none⟩)) (xs : Array Value) (hsz : xs.size = 21) (hc : ∀ (j : Nat) (v : Value), xs[j]? = some v → w.cell? ⟨g, off + j, none⟩ = some v)
    (h : wpListIn F n Try.prog ops Q rest (a.put o.dst (.agg xs)) w) : wpListIn F n Try.prog ops Q (o :: rest) a w := by
  refine wpListIn_plain hgd fun K hK => ?_
  have hl : (loadCells ⟨g, off, none⟩ xs.toList.length).run Try.prog w = .ok xs.toList.toArray w :=
    run_loadCells_list (P := Try.prog) w ⟨g, off, none⟩ xs.toList (fun j v hv => by
      rw [addr_add]
      exact hc j v (by simpa using hv))
  have hi : (Try.prog.info? TAr).map (·.size) = some 21 := by kernel_rfl
  have hr : (loadVar TAr ⟨g, off, none⟩).run Try.prog w = .ok (.agg xs) w := by
    cases hq : Try.prog.info? TAr with
    | none => simp [hq] at hi
    | some i =>
      have hs : i.size = 21 := by simpa [hq] using hi
      have hagg : (isAgg TAr).run Try.prog w = .ok true w := by
        unfold isAgg
        rw [Sem.run_bind, run_underlying Try.underlying53 w]
        rfl
      simp only [Array.length_toList, Array.toArray_toList] at hl
      rw [hsz] at hl
      simp [loadVar, Sem.run_bind, hagg, sizeOf, typeInfo, hq, hs, hl]
  unfold Oper.wpIn
  refine ⟨?_, ?_⟩
  · simp [Oper.about, ho]
  · rw [Oper.semAt_plain F _ _ (by rw [ho]; intro c hc'; cases hc')]
    simp [execOp, ho, hx, Instr.loadAt, Instr.sureAddr, hr, Result.andThen]
    exact hK _ _ h
/-- An entry at a slot from bb on. -/
abbrev Em (bb : Int) : Type := { e : Et // bb ≤ e.s ∧ e.s < 4096 }
def fromB (bb : Int) (L : List Et) : List Et := L.filter fun e => decide (bb ≤ e.s)
theorem fromB_app (bb : Int) (L M : List Et) : fromB bb (L ++ M) = fromB bb L ++ fromB bb M := by simp [fromB]
theorem fromB_take {bb : Int} {L : List Et} {k : Nat} {e : Et} (h : L[k]? = some e) : fromB bb (L.take (k + 1)) = fromB bb (L.take k) ++ (if bb ≤ e.s then [e] else []) := by
  rw [List.take_add_one, h]
  unfold fromB
  rw [List.filter_append]
  congr 1
  by_cases hb : bb ≤ e.s
  · simp [hb]
  · simp [hb]
abbrev encE (x : Et) : Array Value := #[.agg #[.int .i64 x.s, .int .i64 x.r, .int .i64 x.m, .string x.v]]
theorem all_len {s : St} (h : OkS s) : ∀ k, (allK s.P k).length ≤ k * 4096
  | 0 => Nat.le_refl 0
  | k + 1 => by
    have ih := all_len h k
    have h2 : (s.P k).l.length ≤ 4096 := by
      cases ha : (s.P k).a with
      | false => rw [h.off k ha]; exact Nat.zero_le _
      | true =>
        have := okL_len (h.on k ha).2.1 h.hf.2
        have := h.hf.1
        omega
    show (allK s.P k ++ (s.P k).l).length ≤ _
    rw [List.length_append]
    omega
theorem all_split {s : St} {k : Nat} (hk : k < 7) : ∃ M, allK s.P 7 = allK s.P (k + 1) ++ M := by
  have key : ∀ j, k + 1 ≤ j → ∃ M, allK s.P j = allK s.P (k + 1) ++ M := by
    intro j
    induction j with
    | zero => intro h; omega
    | succ j ih =>
      intro h
      by_cases e : k + 1 = j + 1
      · rw [e]; exact ⟨[], (List.append_nil _).symm⟩
      · obtain ⟨M, hM⟩ := ih (by omega)
        exact ⟨M ++ (s.P j).l, by show allK s.P j ++ _ = _; rw [hM, List.append_assoc]⟩
  exact key 7 (by omega)
set_option maxRecDepth 100000 in
set_option maxHeartbeats 2000000 in
theorem entries_in {base : Nat} {b : Nat} {vs : Nat → Value} {s : St} (q0 : Nat) (bb : Int) (w : World) (x : Px base w b vs s) (Bp Bb : Nat) (hBp : w.cell? ⟨Bp, 0, none⟩ = some (.pointer (some ⟨b, 0, none⟩))) (hBb : w.cell? ⟨Bb, 0, none⟩ = some (.int .i64 bb))
    (hq : q0 ≠ Bb) (hqv : ∀ i, i < 7 → (vs i).ownBlock ≠ some q0)
    (l : Nat) (J Jx : List (Em bb) → World → Prop) (W : World) (hW : Below w.heap.size w W) (hJa : AbidesFrom W.heap.size J) (hJx : AbidesFrom W.heap.size Jx)
    (hY : ∀ pre y W1, J pre W1 → pre.length < (allK s.P 7).length + 1 → YieldAt Fence.wide 2 Try.prog l (encE (y : Em bb).val) W1 fun e W' =>
      (e = .returned (.bool true) ∧ J (pre ++ [y]) W' ∧ Kq q0 w.heap.size W1 W') ∨ (e = .returned (.bool false) ∧ Jx (pre ++ [y]) W'))
    (h0 : J [] W) :
    CallsIn Fence.wide 3 Try.prog 59 #[.func (.yield l) #[] #[], .pointer (some ⟨Bp, 0, none⟩), .pointer (some ⟨Bb, 0, none⟩)] W fun e W' => (∃ v, e = .returned v) ∧
      ((∃ ys : List (Em bb), ys.map Subtype.val = fromB bb (allK s.P 7) ∧ J ys W') ∨ (∃ pre : List (Em bb), True ∧ Jx pre W')) := by
  have hbp0 := World.block_lt_of_cell? w _ hBp
  have hbb0 := World.block_lt_of_cell? w _ hBb
  have xW := x.later hW
  have c0 : W.cell? ⟨Bp, 0, none⟩ = some (.pointer (some ⟨b, 0, none⟩)) := (hW.cell (p := ⟨Bp, 0, none⟩) hbp0).trans hBp
  have c1 : W.cell? ⟨Bb, 0, none⟩ = some (.int .i64 bb) := (hW.cell (p := ⟨Bb, 0, none⟩) hbb0).trans hBb
  have hL := Lib.hid (fun (j : Nat) (v : Value) h => xW.arr j v h)
  have hAg : ∀ (B : World), J [] B → True := fun _ _ => trivial
  have hI : Hid (∀ k : Nat, k < 7 → ∃ p c, vs k = .slice p (s.P k).l.length c ∧ ∀ W, (Instr.index TAr (.agg (arr s.P vs)) (.int .i64 (k : Nat))).run Try.prog W = .ok (.agg #[.bool (s.P k).a, .slice p (s.P k).l.length c, .int .i64 (s.P k).u]) W) := Lib.hid fun k h => by
    obtain ⟨p, c, e⟩ := rows_form (x.lst k h)
    exact ⟨p, c, e, fun W => by rw [← e]; exact index_any s.P vs k h W⟩
  have hE : Hid (∀ (k i : Nat) (e : Et) (p : Option Addr) (c : Nat), k < 7 → vs k = .slice p (s.P k).l.length c → (s.P k).l[i]? = some e → ∃ g off, p = some ⟨g, off, none⟩ ∧ ∀ V, Kq q0 w.heap.size W V → V.cell? ⟨g, off + i * 4, none⟩ = some (.int .i64 e.s) ∧ V.cell? ⟨g, off + i * 4 + 1, none⟩ = some (.int .i64 e.r) ∧ V.cell? ⟨g, off + i * 4 + 2, none⟩ = some (.int .i64 e.m) ∧ V.cell? ⟨g, off + i * 4 + 3, none⟩ = some (.string e.v)) := Lib.hid fun k i e p c hk hv he => by
    have hO := x.lst k hk
    have hOW := xW.lst k hk
    have hq' := hqv k hk
    rw [hv] at hO hOW hq'
    obtain ⟨g, off, rfl, hg, d0, d1, d2, d3⟩ := hOW.is.at' he
    have hgw : g < w.heap.size := (World.ownsRow.lt hO g rfl).2
    have hgq : g ≠ q0 := fun e => hq' (by rw [← e]; rfl)
    exact ⟨g, off, rfl, fun V hV => ⟨(hV.cell (p := ⟨g, _, none⟩) hgw hgq).trans d0, (hV.cell (p := ⟨g, _, none⟩) hgw hgq).trans d1, (hV.cell (p := ⟨g, _, none⟩) hgw hgq).trans d2, (hV.cell (p := ⟨g, _, none⟩) hgw hgq).trans d3⟩⟩
  have hBe : Hid (∀ V, Kq q0 w.heap.size W V → V.cell? ⟨Bb, 0, none⟩ = some (.int .i64 bb)) := Lib.hid fun V hV => (hV.cell (p := ⟨Bb, 0, none⟩) hbb0 (Ne.symm hq)).trans c1
  have hOk : Hid (∀ (k i : Nat) (e : Et), k < 7 → (s.P k).l[i]? = some e → e.s < 4096) := Lib.hid fun k i e hk he => by
    have hm := all_mem x.ok (k + 1) e (by show e ∈ allK s.P k ++ _; exact List.mem_append_right _ (List.mem_of_getElem? he))
    exact hm.1.2.1
  have hlen : Hid (∀ (k i : Nat) (ys : List (Em bb)), k < 7 → ys.map Subtype.val = fromB bb (allK s.P k ++ (s.P k).l.take i) → ys.length < (allK s.P 7).length + 1) := Lib.hid fun k i ys hk hys => by
    have h1 := congrArg List.length hys
    rw [List.length_map] at h1
    have h2 : (fromB bb (allK s.P k ++ (s.P k).l.take i)).length ≤ (allK s.P k ++ (s.P k).l.take i).length := List.length_filter_le _ _
    obtain ⟨M, hM⟩ := all_split (s := s) hk
    have h3 := congrArg List.length hM
    have h4 : allK s.P (k + 1) = allK s.P k ++ (s.P k).l := rfl
    rw [List.length_append, h4, List.length_append] at h3
    rw [List.length_append, List.length_take] at h2
    omega
  have hsm : Hid (∀ k, k < 7 → (s.P k).l.length ≤ 4096) := Lib.hid fun k _ => by
    cases ha : (s.P k).a with
    | false => rw [x.ok.off k ha]; exact Nat.zero_le _
    | true => have := okL_len (x.ok.on k ha).2.1 x.ok.hf.2; have := x.ok.hf.1; omega
  have hJ' : Hid (∀ (pre : List (Em bb)) (V : World) (o : Obj), J pre V → J pre (V.alloc o)) := Lib.hid fun pre V o hj => hJa _ _ _ none hj ⟨rfl, rfl, rfl, by simp, fun k hk _ => Below.heap_alloc _ _ k hk⟩ (fun r e => by cases e)
  have hwW := hW.size
  generalize hA : arr s.P vs = A at *
  have hsz : A.size = 21 := by rw [← hA]; rfl
  clear hA hAg xW hBp hBb hqv x
  replace hsz := Lib.hid hsz
  replace hY := Lib.hid hY
  generalize s.P = P at *
  refine callsIn_of_wp Try.func59 rfl trivial ?_ rfl
  simp only [Try.ntmps59, List.size_toArray, List.length_cons, List.length_nil, Nat.reduceAdd, Nat.reduceSub, Array.replicate_succ, Array.replicate_zero, List.push_toArray, List.append_toArray, List.nil_append, List.cons_append]
  gi_wp2_with (refine loadIn_sub rfl _ rfl b 4 rfl A hsz.out hL.out ?_)
  gi_loopw [12] (fun i wr => ∃ (k : Nat) (ys : List (Em bb)), k ≤ 7 ∧ i = .int .i64 k ∧ ys.map Subtype.val = fromB bb (allK P k) ∧ J ys wr ∧ Kq q0 w.heap.size W wr) (fun i _ => 7 - nOf i)
  case atStart => exact ⟨0, [], by omega, rfl, rfl, h0, Kq.refl _ _ _⟩
  case round =>
    obtain ⟨k, ys, hk, rfl, hys, hJ, hK⟩ := hrel
    by_cases hlt : k < 7
    · obtain ⟨p, c, hv, hIk⟩ := hI.out k hlt
      have hE2 := Lib.hid (fun i e h => hE.out k i e p c hlt hv h)
      have hOk2 := Lib.hid (fun i e h => hOk.out k i e hlt h)
      have hlen2 := Lib.hid (fun i ys h => hlen.out k i ys hlt h)
      have hsm2 := hsm.out k hlt
      have i1 : decide ((k : Int) < 7) = true := by simp; omega
      have i2 : (k : Int) < 7 := by omega
      have hend := Lib.hid (show allK P k ++ (P k).l = allK P (k + 1) from rfl)
      have hy0 := Lib.hid (show ys.map Subtype.val = fromB bb (allK P k ++ (P k).l.take 0) by rw [List.take_zero, List.append_nil]; exact hys)
      have hst := Lib.hid (fun (i : Nat) (e : Et) (h : (P k).l[i]? = some e) => show fromB bb (allK P k ++ (P k).l.take (i + 1)) = fromB bb (allK P k ++ (P k).l.take i) ++ (if bb ≤ e.s then [e] else []) by rw [fromB_app, fromB_take h, fromB_app, List.append_assoc])
      have hat : Hid (∀ i, i < (P k).l.length → ∃ e, (P k).l[i]? = some e) := Lib.hid fun i h => ⟨_, List.getElem?_eq_getElem h⟩
      have htk := Lib.hid (show (P k).l.take (P k).l.length = (P k).l from List.take_length)
      have hJ1 := Lib.hid (hJ'.out _ _ (.cells #[.bool (P k).a, .slice p (P k).l.length c, .int .i64 (P k).u] TPm) hJ)
      have hK1 := Lib.hid (hK.trans (Kq.of_below (alloc_b wr (.cells #[.bool (P k).a, .slice p (P k).l.length c, .int .i64 (P k).u] TPm)) (Nat.le_trans hwW hK.1)))
      generalize (P k).a = pa at *
      generalize (P k).u = pu at *
      generalize hG : (P k).l = L at *
      obtain ⟨len, hle⟩ : ∃ len, len = L.length := ⟨_, rfl⟩
      rw [← hle] at hIk hat htk hJ1 hK1 hsm2
      replace hle := Lib.hid hle
      clear hI hE hOk hlen hsm hv hL hys hJ hG
      gi_wp2
      gi_loopw [18] (fun i wr => ∃ (m : Nat) (ys : List (Em bb)), m ≤ len ∧ i = .int .i64 m ∧ ys.map Subtype.val = fromB bb (allK P k ++ L.take m) ∧ J ys wr ∧ Kq q0 w.heap.size W wr) (fun i _ => len - nOf i)
      case atStart => exact ⟨0, ys, by omega, rfl, hy0.out, hJ1.out, hK1.out⟩
      case round =>
        clear hK1 hJ1 hy0 hK
        obtain ⟨m, ys, hm, rfl, hys, hJ, hK⟩ := hrel
        by_cases hml : m < len
        · obtain ⟨e, he⟩ := hat.out m hml
          obtain ⟨g, off, rfl, hc⟩ := hE2.out m e he
          obtain ⟨d0, d1, d2, d3⟩ := hc _ hK
          have d4 := hBe.out _ hK
          have he4 := hOk2.out m e he
          have hs := hst.out m e he
          have hyl := hlen2.out m ys hys
          have hK2 := hK.trans (Kq.of_below (alloc_b wr (.cells #[.int .i64 e.s, .int .i64 e.r, .int .i64 e.m, .string e.v] TE)) (Nat.le_trans hwW hK.1))
          have d5 := hBe.out _ hK2
          have hJ2 := hJ'.out _ _ (.cells #[.int .i64 e.s, .int .i64 e.r, .int .i64 e.m, .string e.v] TE) hJ
          have z1 : (0 : Int) ≤ (m : Nat) := by omega
          have z2 : (m : Int) < (len : Nat) := by omega
          have z3 : decide ((m : Int) < (len : Int)) = true := by simpa using z2
          by_cases hb : bb ≤ e.s
          · obtain ⟨fn, tmps, assign, body, hy, hR⟩ := hY.out ys ⟨e, hb, he4⟩ _ hJ2 hyl
            rw [if_pos hb] at hs
            have hnew : Hid ((ys ++ [(⟨e, hb, he4⟩ : Em bb)]).map Subtype.val = fromB bb (allK P k ++ L.take (m + 1))) := Lib.hid (by rw [hs, List.map_append, hys]; rfl)
            have b1 : decide (bb ≤ e.s) = true := by simpa using hb
            generalize hz : (⟨e, hb, he4⟩ : Em bb) = z at *
            simp only [encE] at hy hR
            have hez : z.val = e := by rw [← hz]
            obtain ⟨es, er, em, ev⟩ := e
            simp only [hez] at d0 d1 d2 d3 b1 hy hR hK2 hb
            replace hK2 := Lib.hid hK2
            replace hy := Lib.hid (show (Instr.yield l #[.agg #[.int .i64 es, .int .i64 er, .int .i64 em, .string ev]]).run Try.prog _ = _ from hy)
            clear hs hz hez he he4 hb hc hJ hJ2 hyl hys hK hE2 hOk2 hlen2 hst hat htk hend hY
            gi_wp2
            rw [hy.out]
            gi_wp2
            refine hR.mono ?_
            rintro e W3 (⟨rfl, hJ3, hK3⟩ | ⟨rfl, hJx3⟩)
            · gi_wp2
              go_roundw
              case rel => exact ⟨m + 1, ys ++ [z], by omega, by go_num, hnew.out, hJ3, hK2.out.trans hK3⟩
              case measure => simp [nOf]; omega
            · gi_wp2
              refine bodyPost_ret (results_none rfl _ _ _) rfl ?_
              exact ⟨⟨_, rfl⟩, .inr ⟨ys ++ [z], trivial, hJx3⟩⟩
          · rw [if_neg hb, List.append_nil] at hs
            have hnew : Hid (ys.map Subtype.val = fromB bb (allK P k ++ L.take (m + 1))) := Lib.hid (by rw [hs, hys])
            have b1 : decide (bb ≤ e.s) = false := by simpa using hb
            obtain ⟨es, er, em, ev⟩ := e
            simp only at d0 d1 d2 d3 b1 hb
            replace hK2 := Lib.hid hK2
            replace hJ2 := Lib.hid hJ2
            clear hs he he4 hb hc hJ hyl hys hK hE2 hOk2 hlen2 hst hat htk hend hY
            gi_wp2
            refine ⟨fun f h => by (cases h), ?_⟩
            gi_wp2
            go_roundw
            case rel => exact ⟨m + 1, ys, by omega, by go_num, hnew.out, hJ2.out, hK2.out⟩
            case measure => simp [nOf]; omega
        · have hml2 : m = len := by omega
          subst hml2
          rw [htk.out, hend.out] at hys
          replace hys := Lib.hid hys
          have z3 : decide ((m : Int) < (m : Int)) = false := by simp
          clear hE2 hOk2 hlen2 hst hat htk hend hY
          gi_wp2
          go_roundw
          case rel => exact ⟨k + 1, ys, by omega, by go_num, hys.out, hJ, hK⟩
          case measure => simp [nOf]; omega
    · have hk7 : k = 7 := by omega
      subst hk7
      have i1 : decide (((7 : Nat) : Int) < 7) = false := by decide
      clear hI hE hOk hlen hsm hL hY
      gi_wp2
      go_end0
      exact ⟨⟨_, rfl⟩, .inl ⟨ys, hys, hJ⟩⟩
theorem entries_any (p : Option Addr) (bb : Int) (w : World) : Calls Try.prog 48 #[.pointer p, .int .i64 bb] w fun e w' => e = .returned (.func (.func 59) #[] #[.pointer (some ⟨w.heap.size, 0, none⟩), .pointer (some ⟨w.heap.size + 1, 0, none⟩)]) ∧ w' = (w.alloc (.cells #[.pointer p] 27)).alloc (.cells #[.int .i64 bb] TI) := by
  go_enter Try.func48, Try.ntmps48
  go_wp2
  go_ret
  exact ⟨rfl, rfl⟩
theorem entries_stops {base : Nat} {b : Nat} {vs : Nat → Value} {s : St} (q0 : Nat) (bb : Int) (w : World) (x : Px base w b vs s) (Bp Bb : Nat) (hBp : w.cell? ⟨Bp, 0, none⟩ = some (.pointer (some ⟨b, 0, none⟩))) (hBb : w.cell? ⟨Bb, 0, none⟩ = some (.int .i64 bb))
    (hq : q0 ≠ Bb) (hqv : ∀ i, i < 7 → (vs i).ownBlock ≠ some q0) :
    SeqStopsK Fence.wide 3 Try.prog 59 #[.pointer (some ⟨Bp, 0, none⟩), .pointer (some ⟨Bb, 0, none⟩)] (fun y : Em bb => encE y.val) (Kq q0 w.heap.size) (fun ys => ys.map Subtype.val = fromB bb (allK s.P 7)) (fun _ => True) ((allK s.P 7).length + 1) w :=
  fun l J Jx W hW hJ hJx hY h0 => entries_in q0 bb w x Bp Bb hBp hBb hq hqv l J Jx W hW hJ hJx hY h0
end Go.Proofs.Ytffiooclkchoiaa.Prp
