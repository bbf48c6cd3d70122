/- raise, Forget, Jump, Copy. -/
import Derived.Test.YtgeejkedljhcoaaT03
namespace Go.Proofs.Ytgeejkedljhcoaa.Slt
open Go.RowKit Go.Maps Go.Lib
set_option linter.unusedVariables false
set_option linter.unusedSimpArgs false
set_option maxRecDepth 20000

def cloneI_ren : Go.Shelf.Ren := ⟨fun | 5 => 47 | 7 => 58 | n => n, fun | 23 => 36 | 25 => 3 | 3 => 9 | 4 => 4 | 20 => 20 | n => n, fun | n => n⟩
theorem cloneI : Go.Proofs.SlLaysW.n5 Try.prog cloneI_ren := {
  mixed := by kernel_rfl
  f5 := ⟨"maps.Clone[map[int]string,int,string]", by decide, Try.func47.trans (congrArg some (by kernel_rfl))⟩
  f7 := Try.func58.trans (congrArg some (by kernel_rfl))
  t4 := Try.underlying4
  a4 := Try.isAgg4
  z4 := Try.sizeOf4
  v4 := Try.zeroValue4
  t20 := Try.underlying20
  a20 := Try.isAgg20
  z20 := Try.sizeOf20
  v20 := Try.zeroValue20
  t23 := Try.underlying36
  a23 := Try.isAgg36
  z23 := Try.sizeOf36
  v23 := Try.zeroValue36 }
theorem clone_any {b n : Nat} {M : List Et} (w : World) (hown : w.ownsMap Try.prog TI rdK b n (DM M)) :
    Calls Try.prog 47 #[.map (some b)] w fun e w' => e = .returned (.map (some w.heap.size)) ∧ w'.ownsMap Try.prog TI rdK w.heap.size n (DM M) ∧ w'.ownsMap Try.prog TI rdK b n (DM M) ∧ Below w.heap.size w w' :=
  AnyW.maps_Clone_owns cloneI TI rdK b n (DM M) w hown

/-! Copy. -/
structure CAt (w : World) (sb mb : Nat) (s : St) (W : World) : Prop where
  ax : Ax W sb mb s
  bel : Below w.heap.size w W
theorem CAt.later {w W W' : World} {sb mb : Nat} {s : St} (h : CAt w sb mb s W) (hb : Below W.heap.size W W') : CAt w sb mb s W' := ⟨h.ax.later hb, h.bel.trans (hb.mono h.bel.size)⟩
abbrev SC (w : World) (sb mb : Nat) (s : St) (W : World) : Prop :=
  W.cell? ⟨sb, 0, none⟩ = some (.int .i64 s.b) ∧ W.cell? ⟨sb, 1, none⟩ = some (.map (some mb)) ∧ CAt w sb mb s W
theorem CAt.sc {w W : World} {sb mb : Nat} {s : St} (h : CAt w sb mb s W) : SC w sb mb s W := ⟨h.ax.cells.1, h.ax.cells.2, h⟩
def Copd (s : St) (w : World) (e : Ending) (w' : World) : Prop := ∃ sb' mb', e = .returned (.pointer (some ⟨sb', 0, none⟩)) ∧ w.heap.size ≤ sb' ∧ w.heap.size ≤ mb' ∧ Ax w' sb' mb' s ∧ Below w.heap.size w w'
set_option maxHeartbeats 1000000 in
theorem copy_any {sb mb : Nat} {s : St} (w : World) (h : Ax w sb mb s) : Calls Try.prog 22 #[.pointer (some ⟨sb, 0, none⟩)] w (Copd s w) := by
  have HV := Lib.hid h.valid
  have C0 : CAt w sb mb s w := ⟨h, Below.refl _ _⟩
  replace C0 := Lib.hid C0
  have HK := Lib.hid (fun (W : World) (h : CAt w sb mb s W) => h.sc)
  have HC := Lib.hid (fun (W : World) (h : CAt w sb mb s W) => clone_any W h.ax.own)
  have HO := Lib.hid h.ok
  clear h
  go_enter Try.func22, Try.ntmps22
  go_wp2_with (go_at_call 41; refine HV.out.mono ?_; rintro r w2 ⟨rfl, rfl⟩)
  go_region_held3 (SC w sb mb s) (first | exact HK.out _ (C0.out.later (Below.refl _ _).drew) | exact HK.out _ (by assumption) | assumption | exact HK.out _ (CAt.later (by assumption) (alloc_b _ _)))
    ((go_at_call 47; refine (HC.out _ (by assumption : SC w sb mb s _).2.2).mono ?_; rintro r w2 ⟨rfl, hn, _, hB⟩; rename World => w1; have hn2 := CAt.later (by assumption : SC w sb mb s _).2.2 hB))
  have hE : Hid (Copd s w (.returned (.pointer (some ⟨w1.heap.size, 0, none⟩))) (w1.alloc (.cells #[.int .i64 s.b, .map (some w.heap.size)] TA))) := Lib.hid
    ⟨w1.heap.size, w.heap.size, rfl, hn2.bel.size, Nat.le_refl _, ⟨heap_alloc_new _ _, (show World.ownsMap w1 _ _ _ w.heap.size _ _ from hn).alloc _, HO.out⟩, hn2.bel.alloc hn2.bel.size _⟩
  clear hn hB hn2
  go_wp2
  go_ret
  exact hE.out

/-! raise. -/
theorem fr_del {M : List Et} {i : Int} : delM (frM M i) i = frM M (i + 1) := by
  unfold delM frM
  rw [List.filter_filter]
  refine List.filter_congr fun e _ => ?_
  by_cases h1 : i + 1 ≤ e.s
  · rw [decide_eq_true h1, decide_eq_true (show i ≤ e.s by omega)]
    simp; omega
  · rw [decide_eq_false h1]
    by_cases h2 : i ≤ e.s
    · have : e.s = i := by omega
      simp [this]
    · rw [decide_eq_false h2]; simp
abbrev KL (sb mb : Nat) : Nat → Prop := fun k => k = sb ∨ k = mb
theorem ok_fr {s : St} (h : OkS s) {i j : Int} (hi : s.b ≤ i ∧ i ≤ 4096) (hj : i ≤ j) : OkS ⟨i, frM s.M j⟩ :=
  ⟨⟨by have := h.hb.1; show 0 ≤ i; omega, hi.2⟩, srt_fr h.srt j, fun e he => by
    obtain ⟨h1, h2⟩ := mem_fr.1 he
    obtain ⟨_, h3, h4⟩ := h.ent e h1
    exact ⟨by show i ≤ e.s; omega, h3, h4⟩⟩
/-- The log on the way: base i, and what is left from j on. -/
structure FAt (w : World) (sb mb : Nat) (s : St) (i j : Int) (W : World) : Prop where
  ax : Ax W sb mb ⟨i, frM s.M j⟩
  kp : Keeps (KL sb mb) w W
theorem FAt.later {w W W' : World} {sb mb : Nat} {s : St} {i j : Int} (h : FAt w sb mb s i j W) (hb : Below W.heap.size W W') : FAt w sb mb s i j W' := ⟨h.ax.later hb, h.kp.later hb⟩
theorem FAt.drew {w W : World} {sb mb : Nat} {s : St} {i j : Int} (h : FAt w sb mb s i j W) : FAt w sb mb s i j W.drew := h.later (Below.refl _ _).drew
theorem FAt.set {w W : World} {sb mb : Nat} {s : St} {i j : Int} (h : FAt w sb mb s i j W) (hok : OkS s) (hi : s.b ≤ i + 1 ∧ i + 1 ≤ 4096) (hj : i + 1 ≤ j) :
    FAt w sb mb s (i + 1) j (W.setCell ⟨sb, 0, none⟩ (.int .i64 (i + 1))) :=
  ⟨⟨heap_setCell_same W sb 0 _ TA (.int .i64 (i + 1)) h.ax.box, h.ax.own.setCell (Ne.symm h.ax.ne) _, ok_fr hok hi hj⟩, h.kp.setCell (p := ⟨sb, 0, none⟩) (.inl (.inl rfl)) _⟩
theorem wpList_del {ops : Array Oper} {rest : List Oper} {o : Oper} {a : Act} {w W : World} {Q : Exit → Act → World → Prop} (hg : o.guard = none) (m q : Operand) (hop : o.op = Op.call { callee := Callee.builtin Builtin.delete, args := #[m, q], argTypes := #[TM, TI] })
    {sb mb : Nat} {s : St} {i : Int} (h : FAt w sb mb s i i W) (hok : OkS s) (hi : s.b ≤ i ∧ i ≤ 4096) (hm : a.eval m = .map (some mb)) (hk : (Lit.int .i64 i).wf = true) (hq : a.eval q = .int .i64 i)
    (hK : ∀ W', FAt w sb mb s i (i + 1) W' → wpList Try.prog ops Q rest (a.put o.dst (.tuple #[])) W') : wpList Try.prog ops Q (o :: rest) a W := by
  refine wpList_delete_own W hg m q TM TI hop TK keyI Try.underlying36 rdK mb (frM s.M i).length (DM (frM s.M i)) hm h.ax.own _ _ hq (key_of hk) ?_
  intro W' ho ht
  rw [del_DM, fr_del] at ho
  refine hK W' ⟨⟨?_, own_tight ho, ok_fr hok hi (by omega)⟩, h.kp.grown ht.grown fun g e => by injection e with e; exact .inl (.inr e.symm)⟩
  exact (ht.grown.block sb (Array.getElem?_eq_some_iff.1 h.ax.box).1 (fun e => by injection e with e; exact h.ax.ne e)).trans h.ax.box
def RsIs (w : World) (sb mb : Nat) (s : St) (u : Int) (e : Ending) (w' : World) : Prop :=
  e = .returned (.tuple #[]) ∧ Ax w' sb mb (rsS s u) ∧ Keeps (KL sb mb) w w'
set_option maxHeartbeats 1000000 in
theorem raise_any {sb mb : Nat} {s : St} (u : Int) (hu : u ≤ 4096) (w : World) (h : Ax w sb mb s) :
    Calls Try.prog 44 #[.pointer (some ⟨sb, 0, none⟩), .int .i64 u] w (RsIs w sb mb s u) := by
  have hok := Lib.hid h.ok
  have hb := h.ok.hb
  have hM : frM s.M s.b = s.M := fr_all fun p hp => (h.ok.ent p hp).1
  have h0 : FAt w sb mb s s.b s.b w := ⟨by rw [hM]; exact h, Keeps.refl _ _⟩
  have hfin : Hid (∀ i W, u ≤ i → i ≤ max s.b u → s.b ≤ i → FAt w sb mb s i i W → RsIs w sb mb s u (.returned (.tuple #[])) W) := Lib.hid fun i W h1 h2 h3 hW => by
    have hi : i = max s.b u := by omega
    refine ⟨rfl, ?_, hW.kp⟩
    unfold rsS
    have e2 : frM s.M i = frM s.M u := by
      rw [hi, ← fr_fr, hM]
    have := hW.ax
    rw [e2, hi] at this
    exact this
  replace h0 := Lib.hid h0
  clear hM h
  go_enter Try.func44, Try.ntmps44
  go_wp2
  go_loopw [] (fun wr => ∃ i : Int, s.b ≤ i ∧ i ≤ max s.b u ∧ FAt w sb mb s i i wr) (fun wr => match wr.cell? ⟨sb, 0, none⟩ with | some (.int _ k) => 4096 - k.toNat | _ => 0)
  case atStart => exact ⟨s.b, Int.le_refl _, by omega, h0.out⟩
  case round =>
    obtain ⟨i, hi0, hi1, hF⟩ := hrel
    obtain ⟨c1, c2⟩ := hF.ax.cells
    by_cases hlt : i < u
    · have b2 : decide (i < u) = true := decide_eq_true hlt
      have hwf : (Lit.int .i64 i).wf = true := wf64 (by omega) (by omega)
      have hadd : IntKind.i64.wrap (i + 1) = i + 1 := by rw [IntKind.wrap_i64]; omega
      have hFd := Lib.hid hF.drew
      obtain ⟨d1, d2⟩ := hF.drew.ax.cells
      replace hF := Lib.hid hF
      have hlt' := Lib.hid hlt
      clear hlt
      go_wp2
      go_still_tail 8, (by kernel_rfl)
      change wpList _ _ _ _ _ wr.drew
      refine wpList_del rfl _ _ rfl hFd.out hok.out ⟨hi0, by have := hlt'.out; omega⟩ rfl hwf rfl ?_
      intro W1 hW1
      obtain ⟨e1, _⟩ := hW1.ax.cells
      have f1 := hW1.ax.frozen 0
      have h2 := Lib.hid (hW1.set hok.out ⟨by omega, by have := hlt'.out; omega⟩ (Int.le_refl _))
      replace hW1 := Lib.hid hW1
      go_wp2
      go_roundw
      case rel => exact ⟨i + 1, by omega, by have := hlt'.out; omega, h2.out⟩
      case measure => rw [c1, h2.out.ax.cells.1]; simp; have := hlt'.out; omega
    · have b2 : decide (i < u) = false := decide_eq_false hlt
      have hF' := Lib.hid (hfin.out i _ (by omega) hi1 hi0 hF)
      clear hF hlt
      go_wp2
      go_end0
      exact hF'.out

/-! Forget, Jump. -/
def MovIs (w : World) (sb mb : Nat) (c : Int) (s' : St) (e : Ending) (w' : World) : Prop :=
  e = .returned (.int .i64 c) ∧ Ax w' sb mb s' ∧ Keeps (KL sb mb) w w'
set_option maxHeartbeats 1000000 in
theorem forget_any {sb mb : Nat} {s : St} (u : Int) (w : World) (h : Ax w sb mb s) :
    Calls Try.prog 18 #[.pointer (some ⟨sb, 0, none⟩), .int .i64 u] w (MovIs w sb mb (forE s u) (forS s u)) := by
  have HV := Lib.hid h.valid
  have HB := Lib.hid (isbase_any u w)
  have HU := Lib.hid (upto_any w h)
  have hno : Hid (forE s u ≠ 0 → MovIs w sb mb (forE s u) (forS s u) (.returned (.int .i64 (forE s u))) w) := Lib.hid fun h0 => ⟨rfl, by unfold forS; rw [if_neg h0]; exact h, Keeps.refl _ _⟩
  have HR := Lib.hid (fun hu => raise_any u hu w h)
  have hyes : Hid (forE s u = 0 → ∀ W, Ax W sb mb (rsS s u) → Keeps (KL sb mb) w W → MovIs w sb mb (forE s u) (forS s u) (.returned (.int .i64 0)) W) := Lib.hid fun h0 W hA hK => ⟨by rw [h0], by unfold forS; rw [if_pos h0]; exact hA, hK⟩
  by_cases hu : 0 ≤ u ∧ u ≤ 4096
  · have he : forE s u = if uptoV s < u then 3 else 0 := if_pos hu
    rw [show decide (0 ≤ u ∧ u ≤ 4096) = true from decide_eq_true hu] at HB
    clear h
    generalize forS s u = fs at *
    by_cases hlt : uptoV s < u
    · rw [if_pos hlt] at he
      have b1 : decide (uptoV s < u) = true := decide_eq_true hlt
      rw [he] at hno ⊢
      generalize uptoV s = U at *
      clear he hlt hyes hu
      go_enter Try.func18, Try.ntmps18
      go_wp2_with (first
        | (go_at_call 41; refine HV.out.mono ?_; rintro e w' ⟨rfl, rfl⟩)
        | (go_at_call 43; refine HB.out.mono ?_; rintro e w' ⟨rfl, rfl⟩)
        | (go_at_call 25; refine HU.out.mono ?_; rintro e w' ⟨rfl, rfl⟩))
      go_ret
      exact hno.out (by decide)
    · rw [if_neg hlt] at he
      have b1 : decide (uptoV s < u) = false := decide_eq_false hlt
      have HR2 := Lib.hid (HR.out hu.2)
      rw [he] at hyes ⊢
      replace hyes := Lib.hid (hyes.out rfl)
      generalize uptoV s = U at *
      clear he hlt hno hu HR
      go_enter Try.func18, Try.ntmps18
      go_wp2_with (first
        | (go_at_call 41; refine HV.out.mono ?_; rintro e w' ⟨rfl, rfl⟩)
        | (go_at_call 43; refine HB.out.mono ?_; rintro e w' ⟨rfl, rfl⟩)
        | (go_at_call 25; refine HU.out.mono ?_; rintro e w' ⟨rfl, rfl⟩)
        | (go_at_call 44; refine HR2.out.mono ?_; rintro e w2 ⟨rfl, hA2, hK2⟩))
      go_ret
      exact hyes.out _ hA2 hK2
  · have he : forE s u = 2 := if_neg hu
    rw [show decide (0 ≤ u ∧ u ≤ 4096) = false from decide_eq_false hu] at HB
    rw [he] at hno ⊢
    clear h he hu HR hyes
    generalize forS s u = fs at *
    go_enter Try.func18, Try.ntmps18
    go_wp2_with (first
      | (go_at_call 41; refine HV.out.mono ?_; rintro e w' ⟨rfl, rfl⟩)
      | (go_at_call 43; refine HB.out.mono ?_; rintro e w' ⟨rfl, rfl⟩))
    go_ret
    exact hno.out (by decide)
set_option maxHeartbeats 1000000 in
theorem jump_any {sb mb : Nat} {s : St} (u : Int) (w : World) (h : Ax w sb mb s) :
    Calls Try.prog 20 #[.pointer (some ⟨sb, 0, none⟩), .int .i64 u] w (MovIs w sb mb (jmpE s u) (jmpS s u)) := by
  have HV := Lib.hid h.valid
  have HB := Lib.hid (isbase_any u w)
  have HU := Lib.hid (upto_any w h)
  have hno : Hid (jmpE s u ≠ 0 → MovIs w sb mb (jmpE s u) (jmpS s u) (.returned (.int .i64 (jmpE s u))) w) := Lib.hid fun h0 => ⟨rfl, by unfold jmpS; rw [if_neg h0]; exact h, Keeps.refl _ _⟩
  have HR := Lib.hid (fun hu => raise_any u hu w h)
  have hyes : Hid (jmpE s u = 0 → ∀ W, Ax W sb mb (rsS s u) → Keeps (KL sb mb) w W → MovIs w sb mb (jmpE s u) (jmpS s u) (.returned (.int .i64 0)) W) := Lib.hid fun h0 W hA hK => ⟨by rw [h0], by unfold jmpS; rw [if_pos h0]; exact hA, hK⟩
  by_cases hu : 0 ≤ u ∧ u ≤ 4096
  · have he : jmpE s u = if u < uptoV s then 8 else 0 := if_pos hu
    rw [show decide (0 ≤ u ∧ u ≤ 4096) = true from decide_eq_true hu] at HB
    clear h
    generalize jmpS s u = fs at *
    by_cases hlt : u < uptoV s
    · rw [if_pos hlt] at he
      have b1 : decide (u < uptoV s) = true := decide_eq_true hlt
      rw [he] at hno ⊢
      generalize uptoV s = U at *
      clear he hlt hyes hu
      go_enter Try.func20, Try.ntmps20
      go_wp2_with (first
        | (go_at_call 41; refine HV.out.mono ?_; rintro e w' ⟨rfl, rfl⟩)
        | (go_at_call 43; refine HB.out.mono ?_; rintro e w' ⟨rfl, rfl⟩)
        | (go_at_call 25; refine HU.out.mono ?_; rintro e w' ⟨rfl, rfl⟩))
      go_ret
      exact hno.out (by decide)
    · rw [if_neg hlt] at he
      have b1 : decide (u < uptoV s) = false := decide_eq_false hlt
      have HR2 := Lib.hid (HR.out hu.2)
      rw [he] at hyes ⊢
      replace hyes := Lib.hid (hyes.out rfl)
      generalize uptoV s = U at *
      clear he hlt hno hu HR
      go_enter Try.func20, Try.ntmps20
      go_wp2_with (first
        | (go_at_call 41; refine HV.out.mono ?_; rintro e w' ⟨rfl, rfl⟩)
        | (go_at_call 43; refine HB.out.mono ?_; rintro e w' ⟨rfl, rfl⟩)
        | (go_at_call 25; refine HU.out.mono ?_; rintro e w' ⟨rfl, rfl⟩)
        | (go_at_call 44; refine HR2.out.mono ?_; rintro e w2 ⟨rfl, hA2, hK2⟩))
      go_ret
      exact hyes.out _ hA2 hK2
  · have he : jmpE s u = 2 := if_neg hu
    rw [show decide (0 ≤ u ∧ u ≤ 4096) = false from decide_eq_false hu] at HB
    rw [he] at hno ⊢
    clear h he hu HR hyes
    generalize jmpS s u = fs at *
    go_enter Try.func20, Try.ntmps20
    go_wp2_with (first
      | (go_at_call 41; refine HV.out.mono ?_; rintro e w' ⟨rfl, rfl⟩)
      | (go_at_call 43; refine HB.out.mono ?_; rintro e w' ⟨rfl, rfl⟩))
    go_ret
    exact hno.out (by decide)
end Go.Proofs.Ytgeejkedljhcoaa.Slt
