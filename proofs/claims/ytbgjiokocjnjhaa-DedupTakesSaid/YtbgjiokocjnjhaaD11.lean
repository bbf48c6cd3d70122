/- Lists of effects in memory; effects, All; slices.Equal on them. -/
import Derived.Test.YtbgjiokocjnjhaaD10
namespace Go.Proofs.Ytbgjiokocjnjhaa.Ded
open Go.RowKit Go.Lib Go.Shelf
open Rng (tx nameOk)
open Eff (TE)
set_option linter.unusedVariables false
set_option linter.unusedSimpArgs false
set_option maxRecDepth 100000
variable {base : Nat} {w : World} {b : Nat} {v : Value} {n : Int} {L : List En}

abbrev TEs : TypeId := 34
abbrev fc (e : Ef) : List Value := [.int .i64 e.s, .int .i64 e.t, .int .i64 e.p]
def flatE (l : List Ef) : List Value := l.flatMap fc
theorem flatE_len : ∀ l : List Ef, (flatE l).length = l.length * 3
  | [] => rfl
  | x :: r => by
    show (fc x ++ flatE r).length = _
    rw [List.length_append, flatE_len r, show (x :: r).length = r.length + 1 from rfl, show (fc x).length = 3 from rfl]
    omega
theorem flatE_app (l m : List Ef) : flatE (l ++ m) = flatE l ++ flatE m := List.flatMap_append
theorem flatE_one (x : Ef) : flatE [x] = fc x := by simp [flatE]
theorem flatE_get {l : List Ef} {i : Nat} {x : Ef} (h : l[i]? = some x) {j : Nat} (hj : j < 3) : (flatE l)[i * 3 + j]? = (fc x)[j]? := by
  induction l generalizing i with
  | nil => cases h
  | cons y r ih =>
    rw [show flatE (y :: r) = fc y ++ flatE r from rfl]
    cases i with
    | zero =>
      simp only [List.getElem?_cons_zero, Option.some.injEq] at h
      subst h
      rw [Nat.zero_mul, Nat.zero_add, List.getElem?_append_left (by simpa using hj)]
    | succ i =>
      rw [List.getElem?_append_right (by simp; omega)]
      have e : (i + 1) * 3 + j - (fc y).length = i * 3 + j := by simp; omega
      rw [e]
      exact ih h
theorem fc_one (x : Ef) : ∀ u ∈ fc x, u.oneCell' = true := by
  intro u hu
  simp only [List.mem_cons, List.not_mem_nil, or_false] at hu
  rcases hu with rfl | rfl | rfl <;> rfl
/-- A row of effects of the call's own. -/
def Fw (base : Nat) (l : List Ef) (v : Value) (w : World) : Prop := w.ownsRow base TE 3 v l.length (flatE l)
/-- A slice that reads as a list of effects. -/
def Fs (w : World) (v : Value) (l : List Ef) : Prop :=
  ∃ a c, v = .slice a l.length c ∧ (0 < l.length → ∃ g off, a = some ⟨g, off, none⟩ ∧ ∀ i x, l[i]? = some x → w.cell? ⟨g, off + i * 3, none⟩ = some (.int .i64 x.s) ∧ w.cell? ⟨g, off + i * 3 + 1, none⟩ = some (.int .i64 x.t) ∧ w.cell? ⟨g, off + i * 3 + 2, none⟩ = some (.int .i64 x.p))
theorem Fw.nil (base : Nat) (w : World) : Fw base [] (.slice none 0 0) w := World.ownsRow_nil w base TE 3
theorem Fw.form {base : Nat} {l : List Ef} {v : Value} {w : World} (h : Fw base l v w) : ∃ a c, v = .slice a l.length c := by
  rcases h.2 with ⟨rfl, h0⟩ | ⟨g, cap, cur, rfl, _⟩
  · exact ⟨none, 0, by rw [h0]⟩
  · exact ⟨_, _, rfl⟩
theorem Fw.later {base : Nat} {l : List Ef} {v : Value} {w w' : World} (h : Fw base l v w) (hb : Below w.heap.size w w') : Fw base l v w' := by
  refine ⟨h.1, ?_⟩
  rcases h.2 with hn | ⟨g, cap, cur, rfl, hbg, hg, rest⟩
  · exact .inl hn
  · exact .inr ⟨g, cap, cur, rfl, hbg, (hb.block g (Array.getElem?_eq_some_iff.1 hg).1).trans hg, rest⟩
theorem Fw.kept {base : Nat} {l : List Ef} {v : Value} {w w' : World} (h : Fw base l v w) (hs : ∀ k, v.ownBlock = some k → w'.heap[k]? = w.heap[k]?) : Fw base l v w' := by
  refine ⟨h.1, ?_⟩
  rcases h.2 with hn | ⟨g, cap, cur, rfl, hbg, hg, rest⟩
  · exact .inl hn
  · exact .inr ⟨g, cap, cur, rfl, hbg, (hs g rfl).trans hg, rest⟩
theorem Fw.lt {base : Nat} {l : List Ef} {v : Value} {w : World} (h : Fw base l v w) : ∀ k, v.ownBlock = some k → base ≤ k ∧ k < w.heap.size := World.ownsRow.lt h
theorem Fw.fs {base : Nat} {l : List Ef} {v : Value} {w : World} (h : Fw base l v w) : Fs w v l := by
  obtain ⟨_, ⟨rfl, h0⟩ | ⟨g, cap, cur, rfl, hb, hh, hle, _, hsz, hx⟩⟩ := h
  · exact ⟨none, 0, by rw [h0], fun hp => by omega⟩
  · refine ⟨_, cap, rfl, fun _ => ⟨g, 0, rfl, fun i x hr => ?_⟩⟩
    have hi : i < l.length := (List.getElem?_eq_some_iff.1 hr).1
    have H : ∀ j, j < 3 → w.cell? ⟨g, 0 + i * 3 + j, none⟩ = (fc x)[j]? := fun j hj => by
      rw [Nat.zero_add, cell_of_row w g _ cur TE _ hh, ← flatE_get hr hj, ← hx, List.getElem?_take, if_pos (by omega)]
      simp
    exact ⟨H 0 (by omega), H 1 (by omega), H 2 (by omega)⟩
theorem Fs.later {w w' : World} {v : Value} {l : List Ef} (h : Fs w v l) (hb : Below w.heap.size w w') : Fs w' v l := by
  obtain ⟨a, c, e, hc⟩ := h
  refine ⟨a, c, e, fun hp => ?_⟩
  obtain ⟨g, off, e2, hx⟩ := hc hp
  have hcell : ∀ o u, w.cell? ⟨g, o, none⟩ = some u → w'.cell? ⟨g, o, none⟩ = some u := fun o u hu => (hb.cell (p := ⟨g, o, none⟩) (World.block_lt_of_cell? w _ hu)).trans hu
  exact ⟨g, off, e2, fun i x hi => ⟨hcell _ _ (hx i x hi).1, hcell _ _ (hx i x hi).2.1, hcell _ _ (hx i x hi).2.2⟩⟩
theorem info_ef : (Try.prog.info? TE).map (fun i => (i.zero, i.size, i.bytes)) = some (some (.agg #[.int .i64 0, .int .i64 0, .int .i64 0]), 3, 24) := by kernel_rfl
theorem run_append_ef (base : Nat) (w : World) (ty : TypeId) (v : Value) (l : List Ef) (hown : Fw base l v w) (b c : Nat) (x : Ef) (hx : w.heap[b]? = some (.cells (fc x).toArray TE (0, 0))) (hn : l.length ≤ 100000000) (hbase : base ≤ w.heap.size) :
    ∃ v' w', (Builtin.append_ #[TEs, TEs] ty #[v, .slice (some ⟨b, 0, none⟩) 1 c]).run Try.prog w = .ok v' w' ∧ Fw base (l ++ [x]) v' w' ∧ w.grownBy w' v.ownBlock := by
  obtain ⟨i0, hi, hz0, hz1, hz2⟩ := info_p info_ef
  obtain ⟨v', w', h1, h2, h3, _, h5⟩ := run_append_own_at (P := Try.prog) w base TEs ty TE i0 _ 3 24 Try.underlying34 hi hz0 hz1 hz2 rfl (by decide) v l.length (flatE l) hown ⟨b, 0, none⟩ 1 c (fc x) rfl
    (fun j u hu => by rw [addr_add, Nat.zero_add, cell_of_row w b j _ TE _ hx]; simpa using hu) (fc_one x) (by unfold maxLen; omega) (by omega) hbase
  refine ⟨v', w', h1, ?_, h3⟩
  unfold Fw
  rw [flatE_app, flatE_one, List.length_append]
  exact h2
abbrev effs (L : List En) : List Ef := L.map (·.ef)
/-- What is given back: a row of effects of the call's own. -/
def Effd (l : List Ef) (w : World) (r : Ending) (w' : World) : Prop := ∃ v', r = .returned v' ∧ Fw w.heap.size l v' w' ∧ Below w.heap.size w w'
/-- A round of effects. -/
structure EAt (base : Nat) (w : World) (v : Value) (L : List En) (k : Nat) (v' : Value) (W : World) : Prop where
  row : Ow base L v W
  out : Fw w.heap.size (effs (L.take k)) v' W
  bel : Below w.heap.size w W
  lt : ∀ j, v.ownBlock = some j → j < w.heap.size
theorem EAt.step {base : Nat} {w : World} {v : Value} {L : List En} {k : Nat} {v1 v' : Value} {W W2 w' : World} {x : En} (h : EAt base w v L k v1 W) (hx : L[k]? = some x) (hb : Below W.heap.size W W2)
    (hO : Fw w.heap.size (effs (L.take k) ++ [x.ef]) v' w') (hG : W2.grownBy w' v1.ownBlock) : EAt base w v L (k + 1) v' w' := by
  have hk : k < L.length := (List.getElem?_eq_some_iff.1 hx).1
  have hbs := hb.size
  have hws := h.bel.size
  refine ⟨(h.row.later hb).kept fun j hj => hG.block j (by have := h.lt j hj; omega) (fun e => ?_), ?_, (h.bel.trans (hb.mono hws)).grown hG (by omega) (fun j e => ?_), h.lt⟩
  · have h1 := h.lt j hj
    have h2 := (h.out.lt j e.symm).1
    omega
  · rw [List.take_succ_eq_append_getElem hk]
    have hxe : L[k] = x := by rw [List.getElem?_eq_getElem hk] at hx; simpa using hx
    rw [hxe]
    simpa using hO
  · have := (h.out.lt j e).1
    omega
set_option maxHeartbeats 1000000 in
theorem effects_any (v : Value) (L : List En) (w : World) (hown : Ow base L v w) (hn : L.length ≤ 100000000) :
    Calls Try.prog 42 #[v] w (Effd (effs L) w) := by
  have E0 : EAt base w v L 0 (.slice none 0 0) w := ⟨hown, by simpa using Fw.nil _ _, Below.refl _ _, fun j hj => (hown.lt j hj).2⟩
  replace E0 := Lib.hid E0
  obtain ⟨a, c, rfl⟩ := hown.form
  clear hown
  go_enter Try.func42, Try.ntmps42
  go_wp2
  go_loopw [3, 8] (fun s3 s8 wr => ∃ k : Nat, s8 = .int .i64 k ∧ k ≤ L.length ∧ Hid (EAt base w (.slice a L.length c) L k s3 wr)) (fun _ s8 _ => L.length - (intOf s8).toNat)
  case atStart => exact ⟨0, rfl, Nat.zero_le _, E0⟩
  case round =>
    obtain ⟨k, rfl, hkl, E1⟩ := hrel
    by_cases hlt : k < L.length
    · obtain ⟨x, hx⟩ : ∃ x, L[k]? = some x := ⟨_, List.getElem?_eq_getElem hlt⟩
      have HX := Lib.hid hx
      clear hx
      obtain ⟨a1, m1, c1, rfl⟩ : ∃ a m c, _ = Value.slice a m c := by obtain ⟨a, c, e⟩ := E1.out.out.form; exact ⟨a, _, c, e⟩
      obtain ⟨hfl, ⟨h0, h00⟩ | ⟨g, cap, cur, h1, hgb, hgg, hle, hm, hsz, ht⟩⟩ := E1.out.row
      · omega
      injection h1 with e1 e2 e3
      subst e1 e3
      obtain ⟨s0, s1, s2, s3, s4, s5, s6⟩ := row7 (cap := 0) hgg ht HX.out
      have hbx := E1.out.bel.size
      have h2 : ((wr.alloc (.cells (ec x).toArray TN)).alloc (.cells (fc x.ef).toArray TE)).heap[wr.heap.size + 1]? = some (.cells (fc x.ef).toArray TE (0, 0)) := by
        have := heap_alloc_new (wr.alloc (.cells (ec x).toArray TN)) (.cells (fc x.ef).toArray TE)
        rwa [World.size_alloc] at this
      have hB2 : Below wr.heap.size wr ((wr.alloc (.cells (ec x).toArray TN)).alloc (.cells (fc x.ef).toArray TE)) := (alloc_b _ _).alloc (by simp) _
      obtain ⟨v', w', hr, hO, hG⟩ := run_append_ef w.heap.size _ TEs _ _ (E1.out.out.later hB2) (wr.heap.size + 1) 1 x.ef h2 (by simp; omega) (by have := hB2.size; omega)
      have hE : EAt base w (.slice (some ⟨g, 0, none⟩) L.length c) L (k + 1) v' w' := E1.out.step HX.out hB2 hO hG
      replace hE := Lib.hid hE
      replace hr := Lib.hid hr
      clear hO hG hB2 h2 hgg hsz ht hfl
      go_wp2_with (at_builtin; refine Lib.wpList_append_run _ rfl _ _ _ _ rfl _ _ rfl rfl _ _ hr.out ?_)
      go_roundw
      case rel => exact ⟨k + 1, by go_num, by omega, hE⟩
      case measure => simp [intOf]; omega
    · obtain rfl : k = L.length := by omega
      have hE : Hid (Effd (effs L) w (.returned u3) wr) := Lib.hid ⟨u3, rfl, by have := E1.out.out; rwa [List.take_length] at this, E1.out.bel⟩
      go_wp2
      go_ret
      exact hE.out
theorem blw_drewN {B : Nat} {a w : World} (h : Below B a w) (n : Nat) : Below B a (w.drewN n) := h.trans ⟨rfl, rfl, rfl, Nat.le_refl _, fun _ _ => rfl⟩
theorem all_nv {p : Value} (h : Nv p w) : Calls Try.prog 24 #[p] w fun r w' => r = .returned (.slice none 0 0) ∧ Below w.heap.size w w' := by
  have HV := Lib.hid h.valid
  clear h
  go_enter Try.func24, Try.ntmps24
  go_wp2_with (go_at_call 37; refine HV.out.mono ?_; rintro r w2 ⟨rfl, rfl⟩)
  go_ret
  exact ⟨rfl, Below.refl _ _⟩
theorem all_any (h : Dx base w b v n L) : Calls Try.prog 24 #[.pointer (some ⟨b, 0, none⟩)] w (Effd (effs L) w) := by
  have HV := Lib.hid h.valid
  obtain ⟨c0, c1, c2⟩ := h.cells
  have HE := Lib.hid (effects_any v L w h.row (by have := h.small; omega))
  clear h c0 c1
  go_enter Try.func24, Try.ntmps24
  go_wp2_with (first
    | (go_at_call 37; refine HV.out.mono ?_; rintro r w2 ⟨rfl, rfl⟩)
    | (go_at_call 42; refine HE.out.mono ?_; rintro r w2 ⟨v', rfl, hO, hB⟩))
  have hI : Hid (Effd (effs L) w (.returned v') w2) := Lib.hid ⟨v', rfl, hO, hB⟩
  go_ret
  exact hI.out
def eqF (l m : List Ef) : Bool := decide (l = m)
theorem eq_e (x y : Ef) (w : World) : (Op.equalIn 10000 TE (efA x) (efA y)).run Try.prog w = .ok (decide (x = y)) w := by
  obtain ⟨x1, x2, x3⟩ := x
  obtain ⟨y1, y2, y3⟩ := y
  have e : decide ((⟨x1, x2, x3⟩ : Ef) = ⟨y1, y2, y3⟩) = (x1 == y1 && (x2 == y2 && x3 == y3)) := by
    simp only [Ef.mk.injEq, Bool.decide_and]
    rfl
  rw [e]
  simp [go_sem]
  by_cases h1 : x1 = y1 <;> by_cases h2 : x2 = y2 <;> by_cases h3 : x3 = y3 <;> simp [*]
theorem take_eq {l m : List Ef} {k : Nat} {x y : Ef} (h : l.take k = m.take k) (hx : l[k]? = some x) (hy : m[k]? = some y) (e : x = y) : l.take (k + 1) = m.take (k + 1) := by
  have h1 := (List.getElem?_eq_some_iff.1 hx).1
  have h2 := (List.getElem?_eq_some_iff.1 hy).1
  rw [List.take_succ_eq_append_getElem h1, List.take_succ_eq_append_getElem h2, h]
  congr 2
  rw [List.getElem?_eq_getElem h1] at hx
  rw [List.getElem?_eq_getElem h2] at hy
  simp only [Option.some.injEq] at hx hy
  rw [hx, hy, e]
set_option maxHeartbeats 1000000 in
theorem equal_any (v1 v2 : Value) (l m : List Ef) (w : World) (h1 : Fs w v1 l) (h2 : Fs w v2 m) (hl : l.length ≤ 100000000) (hm : m.length ≤ 100000000) :
    Calls Try.prog 17 #[v1, v2] w fun r w' => r = .returned (.bool (eqF l m)) ∧ Below w.heap.size w w' := by
  obtain ⟨a1, c1, rfl, h1⟩ := h1
  obtain ⟨a2, c2, rfl, h2⟩ := h2
  by_cases he : l.length = m.length
  · rw [← he] at h2 hm ⊢
    have H1 := Lib.hid h1
    have H2 := Lib.hid h2
    have HE := Lib.hid he
    clear h1 h2 he hm
    go_enter Try.func17, Try.ntmps17
    go_wp2
    go_loopw [13] (fun s13 wr => ∃ k : Nat, s13 = .int .i64 k ∧ k ≤ l.length ∧ Hid (l.take k = m.take k) ∧ Hid (Below w.heap.size w wr)) (fun s13 _ => l.length - (intOf s13).toNat)
    case atStart => exact ⟨0, rfl, Nat.zero_le _, Lib.hid (by simp), Lib.hid (Below.refl _ _)⟩
    case round =>
      obtain ⟨k, rfl, hkl, HT, HB⟩ := hrel
      by_cases hlt : k < l.length
      · obtain ⟨g1, o1, rfl, hx1⟩ := H1.out (by omega)
        obtain ⟨g2, o2, rfl, hx2⟩ := H2.out (by omega)
        obtain ⟨x, hx⟩ : ∃ x, l[k]? = some x := ⟨_, List.getElem?_eq_getElem hlt⟩
        obtain ⟨y, hy⟩ : ∃ y, m[k]? = some y := ⟨_, List.getElem?_eq_getElem (by have := HE.out; omega)⟩
        have hc : ∀ g o u, w.cell? ⟨g, o, none⟩ = some u → wr.cell? ⟨g, o, none⟩ = some u := fun g o u hu => (HB.out.cell (p := ⟨g, o, none⟩) (World.block_lt_of_cell? w _ hu)).trans hu
        obtain ⟨p1, p2, p3⟩ := hx1 k x hx
        obtain ⟨q1, q2, q3⟩ := hx2 k y hy
        replace p1 := hc _ _ _ p1
        replace p2 := hc _ _ _ p2
        replace p3 := hc _ _ _ p3
        replace q1 := hc _ _ _ q1
        replace q2 := hc _ _ _ q2
        replace q3 := hc _ _ _ q3
        have HX := Lib.hid hx
        have HY := Lib.hid hy
        clear hx hy hc hx1 hx2
        have hq := fun w => eq_e x y w
        by_cases hxy : x = y
        · rw [decide_eq_true hxy] at hq
          have hT := Lib.hid (take_eq HT.out HX.out HY.out hxy)
          clear hxy
          go_wp2
          go_quiet (fail)
          go_wp2
          go_roundw
          case rel => exact ⟨k + 1, by go_num, by omega, hT, Lib.hid (blw_drewN HB.out _)⟩
          case measure => simp [intOf]; omega
        · rw [decide_eq_false hxy] at hq
          have hI : Hid (eqF l m = false) := Lib.hid (decide_eq_false fun e => by
            have h1 := HX.out
            rw [e, HY.out] at h1
            exact hxy (by simpa using h1.symm))
          clear hxy
          go_wp2
          go_quiet (fail)
          go_wp2
          go_ret
          exact ⟨by rw [hI.out]; rfl, blw_drewN HB.out _⟩
      · have hI : Hid (eqF l m = true) := Lib.hid (decide_eq_true (by
          have h1 := HT.out
          rwa [List.take_of_length_le (by omega), List.take_of_length_le (by have := HE.out; omega)] at h1))
        obtain rfl : k = l.length := by omega
        go_wp2
        go_ret
        exact ⟨by rw [hI.out]; rfl, HB.out⟩
  · have hI : Hid (eqF l m = false) := Lib.hid (decide_eq_false fun e => he (by rw [e]))
    have hd : ((l.length : Int) == (m.length : Int)) = false := by simp; omega
    clear h1 h2
    go_enter Try.func17, Try.ntmps17
    go_wp2
    go_ret
    exact ⟨by rw [hI.out]; rfl, Below.refl _ _⟩
end Go.Proofs.Ytbgjiokocjnjhaa.Ded
