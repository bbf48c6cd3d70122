/- SortedFunc, follow, Cover. -/
import Derived.Test.YtocencmdfppkaaaR12
import Derived.Shelf.SlSortCmp.NoneTotal
namespace Go.Proofs.Ytocencmdfppkaaa.Rng
open Go.RowKit Go.Lib Go.Sort Go.Shelf
set_option linter.unusedVariables false
set_option linter.unusedSimpArgs false
set_option maxRecDepth 20000

/-- The call gives back a slice that reads as the sorted list. -/
def GivesSorted (L : List Rg) (w : World) (e : Ending) (w' : World) : Prop := ∃ u M, e = .returned u ∧ Sorts L M ∧ Rs w' u M ∧ Below w.heap.size w w'
theorem sorts_nil : Sorts [] [] := ⟨List.Perm.refl _, fun i j hi => by simp at hi⟩
set_option maxHeartbeats 1000000 in
theorem sortedFunc_any (v : Value) (L : List Rg) (w : World) (hv : Rs w v L) (hlen : L.length ≤ 1000) (Bn : Nat) (hG : ∀ k, Gv v Bn k → k < w.heap.size) (hBox : w.cell? ⟨Bn, 0, none⟩ = some v) (p q : Addr)
    (hp : w.cell? p = some (.func (.func 53) #[] #[.pointer (some q)])) (hq : w.cell? q = some (.int .i64 (-1))) :
    Calls Try.prog 43 #[.func (.func 59) #[] #[.pointer (some ⟨Bn, 0, none⟩)], .func (.func 45) #[] #[.pointer (some p)]] w (GivesSorted L w) := by
  have hA := Lib.hid (collect_any v L w hv hlen Bn hG hBox)
  have hpl : p.block < w.heap.size := World.block_lt_of_cell? w p hp
  have hql : q.block < w.heap.size := World.block_lt_of_cell? w q hq
  have hP : Hid (∀ W, Below w.heap.size w W → W.cell? p = some (.func (.func 53) #[] #[.pointer (some q)]) ∧ W.cell? q = some (.int .i64 (-1))) := fun W hb => ⟨(hb.cell hpl).trans hp, (hb.cell hql).trans hq⟩
  clear hBox hv hG hp hq
  go_enter Try.func43, Try.ntmps43
  go_wp2_with fail
  refine hA.out.mono ?_
  rintro e w1 ⟨u, rfl, ho, hb⟩
  obtain ⟨a, cap, rfl⟩ := ho.form
  rcases Nat.eq_zero_or_pos L.length with h0 | h0
  · obtain rfl := List.eq_nil_of_length_eq_zero h0
    have hS := Lib.hid (fun W => AnyF.slices_SortFunc_none sortR_lays a cap (.func (.func 45) #[] #[.pointer (some p)]) W)
    have hR := Lib.hid ho.rs
    clear hP hA ho hlen h0
    go_wp2_with (go_at_call 58; refine (hS.out _).mono ?_; rintro e w' ⟨rfl, rfl⟩)
    go_ret
    exact ⟨_, [], rfl, sorts_nil, hR.out, hb⟩
  · obtain ⟨g, hg⟩ : ∃ g, a = some ⟨g, 0, none⟩ := by
      rcases ho.2 with ⟨he, h1⟩ | ⟨g, cap', cur, he, _⟩
      · omega
      · injection he with h1; exact ⟨g, h1⟩
    subst hg
    obtain ⟨hp1, hq1⟩ := hP.out w1 hb
    have hS := Lib.hid (sort_any w.heap.size L g L.length cap p q w w1 ho h0 hlen hb hb.size hp1 hq1 hpl hql)
    clear hP hA ho hlen h0 hp1 hq1
    generalize L.length = n at *
    go_wp2_with (go_at_call 58; refine hS.out.mono ?_; rintro e w2 ⟨rfl, M, hM, hR, hb2⟩)
    go_ret
    exact ⟨_, M, rfl, hM, hR, hb2⟩

/-- Ranges that follow one another from a beginning on, and just the last one has no end. -/
def followF : List UInt8 → List Rg → Bool
  | _, [] => true
  | s, r :: l => (r.f == s) && (r.t.isEmpty == l.isEmpty) && followF r.t l
set_option maxHeartbeats 1000000 in
theorem follow_any (v : Value) (l : List Rg) (w : World) (h : Rs w v l) (hl : l.length ≤ 1000) :
    Calls Try.prog 46 #[v] w fun e w' => e = .returned (.bool (followF [] l)) ∧ Below w.heap.size w w' := by
  obtain ⟨a, cap, rfl, hc⟩ := h
  replace hc := Lib.hid hc
  generalize hres : followF [] l = res
  replace hres := Lib.hid hres
  go_enter Try.func46, Try.ntmps46
  go_wp2
  go_loopw [3, 9] (fun st j wr => ∃ (k : Nat) (s : List UInt8), k ≤ l.length ∧ j = .int .i64 k ∧ st = .string (tx s) ∧ followF s (l.drop k) = res ∧ Below w.heap.size w wr) (fun _ j _ => l.length - (intOf j).toNat)
  case atStart => exact ⟨0, [], Nat.zero_le _, rfl, rfl, hres.out, Below.refl _ _⟩
  case round =>
    obtain ⟨k, s, hk, rfl, rfl, hf, hb⟩ := hrel
    replace hf := Lib.hid hf
    by_cases hlt : k < l.length
    · obtain ⟨b, off, rfl, hd⟩ := hc.out (by omega)
      obtain ⟨x, hx⟩ : ∃ x, l[k] = x := ⟨_, rfl⟩
      obtain ⟨d0, d1⟩ := hd k x (by rw [List.getElem?_eq_getElem hlt, hx])
      have hbl : b < w.heap.size := World.block_lt_of_cell? w _ d0
      have c0 := (hb.cell (p := ⟨b, off + k * 2, none⟩) hbl).trans d0
      have c1 := (hb.cell (p := ⟨b, off + k * 2 + 1, none⟩) hbl).trans d1
      have hB := bx_new wr (tx x.f) (tx x.t)
      have hstep : res = ((x.f == s) && (x.t.isEmpty == decide (k + 1 = l.length)) && followF x.t (l.drop (k + 1))) := by
        rw [← hf.out, List.drop_eq_getElem_cons hlt, hx]
        have : (l.drop (k + 1)).isEmpty = decide (k + 1 = l.length) := by
          cases hdr : l.drop (k + 1) with
          | nil => have := congrArg List.length hdr; rw [List.length_drop] at this; simp at this; simp; omega
          | cons y ys => have := congrArg List.length hdr; rw [List.length_drop] at this; simp at this; simp; omega
        show ((x.f == s) && (x.t.isEmpty == (l.drop (k + 1)).isEmpty) && followF x.t (l.drop (k + 1))) = _
        rw [this]
      replace hstep := Lib.hid hstep
      clear hd d0 d1 hx hf
      have b1 : ((tx x.f).toList == (tx s).toList) = (x.f == s) := by rw [tx_l, tx_l]
      have b2 : ((tx x.t).toList == []) = x.t.isEmpty := by rw [tx_l]; cases x.t <;> rfl
      have b2' : (tx x.t).toList.isEmpty = x.t.isEmpty := by rw [tx_l]
      have b3 : ((k : Int) == (l.length : Int) - 1) = decide (k + 1 = l.length) := by
        rw [Bool.eq_iff_iff]; simp; omega
      generalize (x.f == s) = z1 at *
      generalize x.t.isEmpty = z2 at *
      generalize decide (k + 1 = l.length) = z3 at *
      obtain ⟨e0, e1⟩ := hB.cells
      generalize tx x.f = xf at *
      cases z1 <;> cases z2 <;> cases z3
      all_goals
        go_wp2
        first
          | (go_ret; exact ⟨by rw [hstep.out]; rfl, hb.trans (hB.bel.mono hb.size)⟩)
          | (go_roundw
             case rel => exact ⟨k + 1, x.t, by omega, by go_num, rfl, by rw [hstep.out]; rfl, hb.trans (hB.bel.mono hb.size)⟩
             case measure => simp [intOf]; omega)
    · obtain rfl : k = l.length := by omega
      have hn : res = true := by rw [← hf.out, List.drop_length]; rfl
      replace hn := Lib.hid hn
      clear hlt
      go_wp2
      go_ret
      exact ⟨by rw [hn.out]; rfl, hb⟩
end Go.Proofs.Ytocencmdfppkaaa.Rng
