/- Lists of ballots in slices; a slice of ballots as it comes in; the walk of BallotLists. -/
import Derived.Test.YtabfpdlnljkgpaaDoorB18
import Derived.Test.YtabfpdlnljkgpaaDoorB11
import Derived.Maps.AppendAt
import Derived.Deep.RegionLaw
import Derived.Deep.Slices
import Derived.Deep.Fields
import Derived.ChangeArms
import Derived.ChangeSame
import Derived.Lib.SmallJoins
import Derived.Outline
namespace Go.Proofs.YtabfpdlnljkgpaaDoor.Bal
open Go.RowKit Go.Lib Go.ChangeShapes Go.WideShapes
set_option linter.unusedVariables false
set_option linter.unusedSimpArgs false
set_option maxRecDepth 100000

/-- The cells of a list of ranges. -/
def flat (l : List (Int × Int)) : List Value := l.flatMap fun r => [.int .i64 r.1, .int .i64 r.2]
theorem flat_app (a b : List (Int × Int)) : flat (a ++ b) = flat a ++ flat b := by unfold flat; rw [List.flatMap_append]
theorem flat_len (l : List (Int × Int)) : (flat l).length = l.length * 2 := by
  induction l with
  | nil => rfl
  | cons z zs ih => show (flat zs).length + 1 + 1 = (zs.length + 1) * 2; omega
theorem flat_get (l : List (Int × Int)) : ∀ (i : Nat) (r : Int × Int), l[i]? = some r → (flat l)[i * 2]? = some (.int .i64 r.1) ∧ (flat l)[i * 2 + 1]? = some (.int .i64 r.2) := by
  induction l with
  | nil => intro i r h; simp at h
  | cons z zs ih =>
    intro i r h
    have e : flat (z :: zs) = .int .i64 z.1 :: .int .i64 z.2 :: flat zs := rfl
    cases i with
    | zero => cases h; exact ⟨rfl, rfl⟩
    | succ i =>
      obtain ⟨h1, h2⟩ := ih i r (by simpa using h)
      rw [e, show (i + 1) * 2 = i * 2 + 1 + 1 by omega]
      exact ⟨by simpa using h1, by simpa using h2⟩
theorem flat_one (l : List (Int × Int)) : ∀ u ∈ flat l, u.oneCell' = true := by
  intro u hu
  unfold flat at hu
  rw [List.mem_flatMap] at hu
  obtain ⟨r, _, hr⟩ := hu
  simp only [List.mem_cons, List.not_mem_nil, or_false] at hr
  rcases hr with rfl | rfl <;> rfl
/-- A slice of the call's own that holds a list of ranges. -/
def Ow (base : Nat) (l : List (Int × Int)) (v : Value) (w : World) : Prop := w.ownsRow base TB 2 v l.length (flat l)
theorem Ow.rs {base : Nat} {l : List (Int × Int)} {v : Value} {w : World} (h : Ow base l v w) : Bs w v l := by
  obtain ⟨_, ⟨rfl, h0⟩ | ⟨g, cap, cur, rfl, hb, hh, hle, _, hsz, hx⟩⟩ := h
  · exact ⟨none, 0, by rw [h0], fun hp => by omega⟩
  · refine ⟨_, cap, rfl, fun _ => ⟨g, 0, rfl, fun i r hr => ?_⟩⟩
    obtain ⟨h1, h2⟩ := flat_get l i r hr
    have hi : i < l.length := (List.getElem?_eq_some_iff.1 hr).1
    rw [← hx, List.getElem?_take] at h1 h2
    rw [if_pos (by omega)] at h1 h2
    rw [Nat.zero_add]
    exact ⟨(cell_of_row w g _ cur TB _ hh).trans (by simpa using h1), (cell_of_row w g _ cur TB _ hh).trans (by simpa using h2)⟩
theorem Ow.form {base : Nat} {l : List (Int × Int)} {v : Value} {w : World} (h : Ow base l v w) : ∃ a cap, v = .slice a l.length cap := by
  rcases h.2 with ⟨rfl, h0⟩ | ⟨g, cap, cur, rfl, _⟩
  · exact ⟨none, 0, by rw [h0]⟩
  · exact ⟨_, cap, rfl⟩
theorem Ow.later {base : Nat} {l : List (Int × Int)} {v : Value} {w w' : World} (h : Ow base l v w) (hb : Below w.heap.size w w') : Ow base l v w' := by
  refine ⟨h.1, ?_⟩
  rcases h.2 with hn | ⟨g, cap, cur, rfl, hbg, hg, rest⟩
  · exact .inl hn
  · exact .inr ⟨g, cap, cur, rfl, hbg, (hb.block g (Array.getElem?_eq_some_iff.1 hg).1).trans hg, rest⟩
theorem Ow.base {base base' : Nat} {l : List (Int × Int)} {v : Value} {w : World} (h : Ow base l v w) (hb : base' ≤ base) : Ow base' l v w := by
  refine ⟨h.1, ?_⟩
  rcases h.2 with hn | ⟨g, cap, cur, rfl, hbg, hg, rest⟩
  · exact .inl hn
  · exact .inr ⟨g, cap, cur, rfl, by omega, hg, rest⟩
theorem Ow.nil (base : Nat) (w : World) : Ow base [] (.slice none 0 0) w := World.ownsRow_nil w base TB 2
theorem info_bl : (Tryd.prog.info? TB).map (fun i => (i.zero, i.size, i.bytes)) = some (some (.agg #[.int .i64 0, .int .i64 0]), 2, 16) := by kernel_rfl
theorem addr_add (g o j : Nat) : (⟨g, o, none⟩ : Addr).add j = ⟨g, o + j, none⟩ := by simp [Addr.add]
theorem flat_cells {w : World} {b off : Nat} {M : List (Int × Int)} (h : ∀ i r, M[i]? = some r → w.cell? ⟨b, off + i * 2, none⟩ = some (.int .i64 r.1) ∧ w.cell? ⟨b, off + i * 2 + 1, none⟩ = some (.int .i64 r.2)) :
    ∀ j u, (flat M)[j]? = some u → w.cell? ⟨b, off + j, none⟩ = some u := by
  intro j u hu
  have hj : j < (flat M).length := (List.getElem?_eq_some_iff.1 hu).1
  rw [flat_len] at hj
  obtain ⟨r, hr⟩ : ∃ r, M[j / 2]? = some r := ⟨M[j / 2]'(by omega), List.getElem?_eq_getElem (by omega)⟩
  obtain ⟨f1, f2⟩ := flat_get M (j / 2) r hr
  obtain ⟨c1, c2⟩ := h (j / 2) r hr
  rcases Nat.mod_two_eq_zero_or_one j with hm | hm
  · have e : j / 2 * 2 = j := by omega
    rw [e] at f1 c1
    rw [hu] at f1
    rw [c1, f1]
  · have e : j / 2 * 2 + 1 = j := by omega
    rw [e] at f2
    rw [Nat.add_assoc, e] at c2
    rw [hu] at f2
    rw [c2, f2]
theorem run_append_bls (base : Nat) (w : World) (ty : TypeId) (v : Value) (l : List (Int × Int)) (hown : Ow base l v w) (A : Option Addr) (m c : Nat) (M : List (Int × Int)) (hb : Bs w (.slice A m c) M)
    (hn : l.length + M.length ≤ 100000000) (hbase : base ≤ w.heap.size) :
    ∃ v' w', (Builtin.append_ #[31, 31] ty #[v, .slice A m c]).run Tryd.prog w = .ok v' w' ∧ Ow base (l ++ M) v' w' ∧ w.grownBy w' v.ownBlock := by
  obtain ⟨i0, hi, hz0, hz1, hz2⟩ := info_parts info_bl
  obtain ⟨A', c', he, hc⟩ := hb
  injection he with e1 e2 e3
  subst e1 e2 e3
  cases A with
  | none =>
    have h0 : M.length = 0 := by
      rcases Nat.eq_zero_or_pos M.length with h1 | h1
      · exact h1
      · obtain ⟨b, off, e, _⟩ := hc h1
        cases e
    have hl := List.eq_nil_of_length_eq_zero h0
    subst hl
    have hrun : (Builtin.append_ #[31, 31] ty #[v, .slice none 0 c]).run Tryd.prog w = .ok v w := by
      rcases hown.2 with ⟨rfl, h0⟩ | ⟨g, cap, cur, rfl, _, _, hnc, _⟩
      · simp [Builtin.append_, run_underlying Tryd.underlying31, sizeOf, typeInfo, hi, Builtin.lenOf, Builtin.firstCells]
      · simp [Builtin.append_, run_underlying Tryd.underlying31, sizeOf, typeInfo, hi, Builtin.lenOf, Builtin.firstCells, hnc, storeCells]
    exact ⟨v, w, hrun, by rw [List.append_nil]; exact hown, World.grownBy.refl w _⟩
  | some ad =>
    by_cases h0 : M.length = 0
    · have hl := List.eq_nil_of_length_eq_zero h0
      subst hl
      obtain ⟨v', w', h1, h2, h3, _, h5⟩ := run_append_own_at (P := Tryd.prog) w base 31 ty TB i0 (.agg #[.int .i64 0, .int .i64 0]) 2 16 Tryd.underlying31 hi hz0 hz1 hz2 rfl (by decide) v l.length (flat l) hown ad 0 c [] rfl (fun j u hu => by cases hu) (fun u hu => by cases hu) (by unfold maxLen; omega) (by omega) hbase
      refine ⟨v', w', h1, ?_, h3⟩
      show w'.ownsRow base TB 2 v' (l ++ []).length (flat (l ++ []))
      rw [List.append_nil]
      simpa using h2
    · obtain ⟨b, off, e, hd⟩ := hc (by omega)
      cases e
      obtain ⟨v', w', h1, h2, h3, _, h5⟩ := run_append_own_at (P := Tryd.prog) w base 31 ty TB i0 (.agg #[.int .i64 0, .int .i64 0]) 2 16 Tryd.underlying31 hi hz0 hz1 hz2 rfl (by decide) v l.length (flat l) hown ⟨b, off, none⟩ M.length c (flat M) (flat_len M) (fun j u hu => by
        rw [addr_add]; exact flat_cells hd j u hu) (flat_one M) (by unfold maxLen; omega) (by omega) hbase
      refine ⟨v', w', h1, ?_, h3⟩
      show w'.ownsRow base TB 2 v' (l ++ M).length (flat (l ++ M))
      rw [flat_app, List.length_append]
      exact h2
theorem wpList_append_bls {ops : Array Oper} {rest : List Oper} {o : Oper} {a : Act} {w : World} {Q : Exit → Act → World → Prop} (hgd : o.guard = none) (s x : Operand)
    (ho : o.op = .call { callee := .builtin .append, args := #[s, x], argTypes := #[31, 31] })
    (base : Nat) (v : Value) (l : List (Int × Int)) (hs : a.eval s = v) (hown : Ow base l v w) (A : Option Addr) (m c : Nat) (M : List (Int × Int)) (hx : a.eval x = .slice A m c) (hb : Bs w (.slice A m c) M)
    (hn : l.length + M.length ≤ 100000000) (hbase : base ≤ w.heap.size)
    (h : ∀ v' w', Ow base (l ++ M) v' w' → w.grownBy w' v.ownBlock → wpList Tryd.prog ops Q rest (a.put o.dst v') w') :
    wpList Tryd.prog ops Q (o :: rest) a w := by
  refine wpList_plain hgd fun K hK => ?_
  obtain ⟨v', w', hrun, h1, h2⟩ := run_append_bls base w o.type v l hown A m c M hb hn hbase
  unfold Oper.wp execOp
  simp only [ho, resolve, invoke, builtin, Sem.run_bind, Sem.run_pure, Result.andThen_ok, List.map_toArray, List.map_cons, List.map_nil, hs, hx, hrun]
  exact hK _ _ (h v' w' h1 h2)
theorem ow_made (w : World) : Ow w.heap.size [] (.slice (some ⟨w.heap.size, 0, none⟩) 0 0) (w.alloc (.cells #[] TB)) := by
  refine ⟨rfl, .inr ⟨w.heap.size, 0, #[], rfl, Nat.le_refl _, ?_, Nat.le_refl _, by unfold maxLen; omega, rfl, rfl⟩⟩
  exact (MapKept.heap_alloc w _).1
/-- Where a walk is to stop at an append. -/
def Stop (p : Prop) : Prop := p
theorem Stop.mk {p : Prop} (h : Stop p) : p := h
abbrev TL : TypeId := 31
theorem tl_slice : Tryd.prog.underlying TL = some (.slice TB) := Tryd.underlying31
/-- The ballots of a slice: what its cells hold. -/
structure IsBl (w : World) (a : Option Addr) (len cap : Nat) (g : Nat → Int × Int) : Prop where
  fit : len ≤ cap ∧ cap ≤ 9223372036854775807
  none : a = none → len = 0 ∧ cap = 0
  cell : 0 < len → ∃ b off, a = some ⟨b, off, Option.none⟩ ∧ b < w.heap.size ∧ ∀ i, i < len → w.cell? ⟨b, off + i * 2, Option.none⟩ = some (.int .i64 (g i).1) ∧ w.cell? ⟨b, off + i * 2 + 1, Option.none⟩ = some (.int .i64 (g i).2)
theorem addr_add2 (b off n : Nat) : (⟨b, off, Option.none⟩ : Addr).add n = ⟨b, off + n, Option.none⟩ := by unfold Addr.add; split <;> simp_all
section
variable {H : Type} {enc : TypeId × Value → H} {w : World} {base : Nat} {spare : Nat → Bool} {held : Bool}
theorem bls_open {fuel : Nat} {cs : List Value} {x : DataW H × List MemPlace} (h : DataW.trod enc Tryd.prog w base spare held fuel TL cs = some x) :
    ∃ a len cap g, cs = [.slice a len cap] ∧ IsBl w a len cap g := by
  rcases Go.Deep.open_slice tl_slice h with ⟨rfl, _⟩ | ⟨⟨b, off, spot⟩, len, cap, m, n, DD, Pl, rfl, _, hl, hm, hmm, rfl, hi⟩
  · exact ⟨none, 0, 0, fun _ => (0, 0), rfl, ⟨Nat.le_refl _, Nat.zero_le _⟩, (fun _ => ⟨rfl, rfl⟩), (fun h0 => absurd h0 (by omega))⟩
  · have hlm : len ≤ m := by rw [hmm]; split <;> omega
    have hspot : 0 < len → spot = none := by
      intro h0
      obtain ⟨cs', hc, _⟩ := hi 0 (by omega)
      rw [tb_cells] at hc
      obtain ⟨_, hl3, hat⟩ := World.cells?_some hc
      have a0 := hat 0 (by omega)
      rw [List.getElem?_eq_getElem (by omega)] at a0
      simpa [Addr.add] using World.cell?_spot a0
    have hall : ∀ i, ∃ v : Int × Int, i < len → spot = none ∧ b < w.heap.size ∧ w.cell? ⟨b, off + i * 2, none⟩ = some (.int .i64 v.1) ∧ w.cell? ⟨b, off + i * 2 + 1, none⟩ = some (.int .i64 v.2) := by
      intro i
      by_cases hlt : i < len
      · obtain ⟨cs', hc, ht⟩ := hi i (by omega)
        rw [tb_cells] at hc
        obtain ⟨_, hl3, hat⟩ := World.cells?_some hc
        match cs', hl3 with
        | [c0, c1], _ =>
          have a0 := hat 0 (by omega)
          have a1 := hat 1 (by omega)
          obtain rfl := hspot (by omega)
          rw [addr_add2, addr_add2] at a0 a1
          obtain ⟨k, d, rfl, rfl⟩ := bal_parts ht
          exact ⟨(k, d), fun _ => ⟨rfl, World.block_lt_of_cell? w _ a0, a0, a1⟩⟩
      · exact ⟨(0, 0), fun h => absurd h hlt⟩
    obtain ⟨f, hf⟩ := Classical.axiomOfChoice hall
    have hmx : cap ≤ 9223372036854775807 := hm
    refine ⟨some ⟨b, off, spot⟩, len, cap, f, rfl, ⟨hl, hmx⟩, (fun h => by cases h), fun h0 => ?_⟩
    obtain ⟨rfl, hb, _⟩ := hf 0 h0
    exact ⟨b, off, rfl, hb, fun i hi => (hf i hi).2.2⟩
end
theorem bs_of {w : World} {a : Option Addr} {len cap : Nat} {g : Nat → Int × Int} (h : IsBl w a len cap g) : ∃ l : List (Int × Int), l.length = len ∧ Bs w (.slice a len cap) l := by
  refine ⟨(List.range len).map g, by simp, a, cap, by simp, fun hp => ?_⟩
  obtain ⟨b, off, rfl, _, hc⟩ := h.cell (by simpa using hp)
  refine ⟨b, off, rfl, fun i x hx => ?_⟩
  have hi : i < len := by have := (List.getElem?_eq_some_iff.1 hx).1; simpa using this
  have e : g i = x := by simpa [hi] using hx
  rw [← e]
  exact hc i hi
theorem lists_long (a : Option Addr) (len cap : Nat) (w : World) (h : 300 < len) (hH : Hv w) :
    Calls Tryd.prog 4 #[.slice a len cap] w fun e w' => e = .returned (.bool true) ∧ Below w.heap.size w w' := by
  have d1 : (300 : Int) < (len : Int) := by omega
  go_enter Tryd.func4, Tryd.ntmps4
  go_wp2_with fail
  refine (works_any _ hH).mono ?_
  rintro e w1 ⟨rfl, hb1⟩
  go_wp2
  go_ret
  exact ⟨rfl, hb1⟩
set_option maxHeartbeats 2000000 in
theorem lists_go (a : Option Addr) (len cap : Nat) (l : List (Int × Int)) (w : World) (hl : l.length = len) (hs : Bs w (.slice a len cap) l) (h : len ≤ 300) (hH : Hv w) :
    Calls Tryd.prog 4 #[.slice a len cap] w fun e w' => e = .returned (.bool true) ∧ Below w.heap.size w w' := by
  have d1 : ¬ (300 : Int) < (len : Int) := by omega
  have oE := ow_made w
  have hM := fun W hB => max_any (.slice a len cap) l W hB (by omega)
  have hR := fun W hB => rmax_any (.slice a len cap) l W hB (by omega)
  generalize mxL l = m at *
  obtain ⟨m0, m1⟩ := m
  have q1 := fun W => eq_b m0 m1 m0 m1 W
  rw [eqB_t ⟨rfl, rfl⟩] at q1
  replace hM := Lib.hid hM
  replace hR := Lib.hid hR
  replace hs := Lib.hid hs
  replace hl := Lib.hid hl
  go_enter Tryd.func4, Tryd.ntmps4
  go_wp2_with (at_builtin; refine Stop.mk ?_)
  unfold Stop
  refine wpList_append_bls rfl _ _ rfl w.heap.size _ [] rfl oE a len cap l rfl (hs.out.later (alloc_b w (.cells #[] TB))) (by have := hl.out; simp; omega) (alloc_b w (.cells #[] TB)).size ?_
  intro v1 w1 o1 hg1
  have hb1 : Below w.heap.size w w1 := (alloc_b w (.cells #[] TB)).grown hg1 (alloc_b w (.cells #[] TB)).size (fun k e => (World.ownsRow.lt oE k e).1)
  rw [List.nil_append] at o1
  obtain ⟨a1, cap1, rfl⟩ := o1.form
  rw [hl.out]
  have hs1 := Lib.hid (hs.out.later hb1)
  have ho1 := Lib.hid o1
  clear oE o1 hg1
  replace hb1 := Lib.hid hb1
  go_wp2_with fail
  refine (hM.out _ hs1.out).mono ?_
  rintro e w2 ⟨rfl, hb2⟩
  have hs2 := Lib.hid (hs1.out.later hb2)
  have ho2 := Lib.hid (ho1.out.rs.later hb2)
  have hB2 := Lib.hid (below2 hb1.out hb2)
  clear hs1 ho1 hb1 hb2 hs
  go_wp2_with fail
  refine (hR.out _ hs2.out).mono ?_
  rintro e w3 ⟨rfl, hb3⟩
  have hs3 := Lib.hid (hs2.out.later hb3)
  have ho3 := Lib.hid (ho2.out.later hb3)
  have hB3 := Lib.hid (below2 hB2.out hb3)
  clear hs2 ho2 hB2 hb3
  rw [hl.out] at ho3
  go_wp2
  go_loopw [4] (fun j wr => ∃ i : Nat, i ≤ len ∧ j = .int .i64 i ∧ Bs wr (.slice a len cap) l ∧ Bs wr (.slice a1 len cap1) l ∧ Below w.heap.size w wr) (fun j _ => len - (intOf j).toNat)
  case atStart => exact ⟨0, Nat.zero_le _, rfl, hs3.out, ho3.out, hB3.out⟩
  case round =>
    obtain ⟨i, hi, rfl, hsr, hor, hBr⟩ := hrel
    by_cases hlt : i < len
    · obtain ⟨_, _, he1, b, off, rfl, hd1⟩ := bs_some hsr (by have := hl.out; omega)
      obtain ⟨_, _, he2, b2, off2, rfl, hd2⟩ := bs_some hor (by have := hl.out; omega)
      cases he1
      cases he2
      obtain ⟨c0, c1⟩ := hd1 i (by have := hl.out; omega)
      obtain ⟨c2, c3⟩ := hd2 i (by have := hl.out; omega)
      generalize gt l i = x at *
      obtain ⟨x0, x1⟩ := x
      simp only at c0 c1 c2 c3
      have q2 := fun W => eq_b x0 x1 x0 x1 W
      rw [eqB_t ⟨rfl, rfl⟩] at q2
      have g0 : wr.drew.cell? ⟨b, off + i * 2, none⟩ = some (.int .i64 x0) := c0
      have g1 : wr.drew.cell? ⟨b, off + i * 2 + 1, none⟩ = some (.int .i64 x1) := c1
      have g2 : wr.drew.cell? ⟨b2, off2 + i * 2, none⟩ = some (.int .i64 x0) := c2
      have g3 : wr.drew.cell? ⟨b2, off2 + i * 2 + 1, none⟩ = some (.int .i64 x1) := c3
      have e0 : (i : Int) < (l.length : Int) := by have := hl.out; omega
      have e1 : (0 : Int) ≤ (i : Int) := by omega
      have e2 : IntKind.i64.wrap ((i : Int) + 1) = (i : Int) + 1 := wrq (by omega) (by omega)
      have hs4 := Lib.hid (hsr.later ((Below.refl _ _).drew))
      have ho4 := Lib.hid (hor.later ((Below.refl _ _).drew))
      have hB4 := Lib.hid (hBr.drew)
      clear hd1 hd2 hsr hor hBr c0 c1 c2 c3
      go_wp2
      go_region
      go_wp2
      go_roundw
      case rel => exact ⟨i + 1, by omega, by go_num, hs4.out, ho4.out, hB4.out⟩
      case measure => simp [intOf]; omega
    · obtain rfl : i = len := by omega
      have e0 : ¬ (i : Int) < (i : Int) := by omega
      go_wp2_with fail
      refine (works_any _ (hH.later hBr)).mono ?_
      rintro e w9 ⟨rfl, hb9⟩
      have hz := below2 hBr hb9
      go_wp2
      go_ret
      exact ⟨rfl, hz⟩
theorem w_ballotLists (a : Option Addr) (len cap : Nat) (g : Nat → Int × Int) (w : World) (h : IsBl w a len cap g) (hH : Hv w) :
    Calls Tryd.prog 4 #[.slice a len cap] w fun e w' => e = .returned (.bool true) ∧ Below w.heap.size w w' := by
  by_cases hl : 300 < len
  · exact lists_long a len cap w hl hH
  · obtain ⟨l, hl2, hs⟩ := bs_of h
    exact lists_go a len cap l w hl2 hs (by omega) hH
end Go.Proofs.YtabfpdlnljkgpaaDoor.Bal
