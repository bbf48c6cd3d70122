/- DiskTorn: the account of the records. -/
import Derived.Test.YtojeccmnhgcmcaaDoorH12
namespace Go.Proofs.YtojeccmnhgcmcaaDoor.Dsk
open Go.RowKit Go.ChangeShapes Go.WideShapes _root_.Go.Proofs.YtojeccmnhgcmcaaDoor.Frame
open _root_.Go.Proofs.YtojeccmnhgcmcaaDoor.Crc (Hv more more_lt ret_u32)
set_option linter.unusedVariables false
set_option linter.unusedSimpArgs false
set_option maxRecDepth 100000

theorem wf_le {x : Int} (h : (Lit.int .i64 x).wf = true) : x ≤ 9223372036854775807 := by
  have e1 : IntKind.i64.min = -9223372036854775808 := by decide
  have e2 : IntKind.i64.max = 9223372036854775807 := by decide
  simp [Lit.wf, e1, e2] at h
  omega
theorem wpList_append_v {ops : Array Oper} {rest : List Oper} {o : Oper} {a : Act} {w : World} {Q : Exit → Act → World → Prop} (hgd : o.guard = none) (s x : Operand)
    (ho : o.op = .call { callee := .builtin .append, args := #[s, x], argTypes := #[TSs, TSs] })
    (base : Nat) (v : Value) (n : Nat) (xs : List Value) (hs : a.eval s = v) (hown : w.ownsRow base TSl 1 v n xs) (g c : Nat) (A : Option Addr) (N C : Nat) (hx : a.eval x = .slice (some ⟨g, 0, none⟩) 1 c) (hc : w.cell? ⟨g, 0, none⟩ = some (.slice A N C))
    (hn : n ≤ 100000000) (hbase : base ≤ w.heap.size)
    (h : ∀ v' w', w'.ownsRow base TSl 1 v' (n + 1) (xs ++ [.slice A N C]) → w.grownBy w' v.ownBlock → wpList Tryd.prog ops Q rest (a.put o.dst v') w') :
    wpList Tryd.prog ops Q (o :: rest) a w := by
  refine wpList_plain hgd fun K hK => ?_
  obtain ⟨i0, hi, hz0, hz1, hz2⟩ := info_parts info_sl
  obtain ⟨v', w', hrun, h1, h2, _, h4⟩ := run_append_own_at (P := Tryd.prog) w base TSs o.type TSl i0 (.slice none 0 0) 1 24 Tryd.underlying39 hi hz0 hz1 hz2 rfl (by decide) v n xs hown ⟨g, 0, none⟩ 1 c [.slice A N C] rfl (fun j u hu => by
    cases j with
    | zero => cases hu; simpa [Addr.add] using hc
    | succ j => simp at hu) (fun u hu => by simp at hu; subst hu; rfl) (by unfold maxLen; omega) (by omega) hbase
  unfold Oper.wp execOp
  simp only [ho, resolve, invoke, builtin, Sem.run_bind, Sem.run_pure, Result.andThen_ok, List.map_toArray, List.map_cons, List.map_nil, hs, hx, hrun]
  exact hK _ _ (h v' w' h1 h2)
/-- The account: behind k steps m is the disk's state; the list of its contents lies in a row of one's own. -/
structure TA (w : World) (k : Nat) (m : St) (v : Value) (W : World) : Prop where
  ok : OkS m
  sz : tot m.L ≤ 108 * k
  row : ∃ xs, W.ownsRow w.heap.size TSl 1 v m.L.length xs ∧ Sl W (Old w) xs m.L
  bel : Below w.heap.size w W
section
variable {w W W' : World} {k : Nat} {m m' : St} {v v' : Value}
theorem Below.same (h : Below w.heap.size w W) (h2 : Below w.heap.size w W') : Same (Old w) W W' := fun i hi => (h2.block i hi).trans (h.block i hi).symm
theorem TA.form (h : TA w k m v W) : ∃ a cap, v = .slice a m.L.length cap := by
  obtain ⟨xs, h1, _⟩ := h.row
  exact rows_form h1
/-- The account behind a step that leaves the list as it is. -/
theorem TA.keep (h : TA w k m v W) (hok : OkS m') (hL : m'.L = m.L) : TA w (k + 1) m' v W :=
  ⟨hok, by rw [hL]; have := h.sz; omega, by rw [hL]; exact h.row, h.bel⟩
theorem TA.later (h : TA w k m v W) (hb : Below W.heap.size W W') : TA w k m v W' := by
  obtain ⟨xs, h1, h2⟩ := h.row
  have hb' := h.bel.trans (hb.mono h.bel.size)
  exact ⟨h.ok, h.sz, ⟨xs, rows_later h1 hb, h2.kept (Below.same h.bel hb')⟩, hb'⟩
theorem TA.empty (hok : OkS m) (hL : m.L = []) (hb : Below w.heap.size w W) : TA w k m (.slice none 0 0) W :=
  ⟨hok, by rw [hL]; exact Nat.zero_le _, ⟨[], by rw [hL]; exact ⟨rfl, .inl ⟨rfl, rfl⟩⟩, by rw [hL]; exact Sl.nil _ _⟩, hb⟩
theorem TA.bss (h : TA w k m v W) : Bss W (fun i => Old w i ∨ v.ownBlock = some i) v m.L := by
  obtain ⟨xs, h1, h2⟩ := h.row
  exact own_bss h1 (h2.wide fun i hi => .inl hi) fun i hi => .inr hi
theorem TA.lt (h : TA w k m v W) : ∀ i, (Old w i ∨ v.ownBlock = some i) → i < W.heap.size := by
  obtain ⟨xs, h1, _⟩ := h.row
  rintro i (hi | hi)
  · exact Nat.lt_of_lt_of_le hi h.bel.size
  · exact (World.ownsRow.lt h1 i hi).2
theorem TA.kept (h : TA w k m v W) (hs : Same (fun i => Old w i ∨ v.ownBlock = some i) W W') (hb : Below w.heap.size w W') : TA w k m v W' := by
  obtain ⟨xs, h1, h2⟩ := h.row
  exact ⟨h.ok, h.sz, ⟨xs, rows_kept h1 fun i hi => hs i (.inr hi), h2.kept fun i hi => hs i (.inl hi)⟩, hb⟩
theorem TA.beside {G : Nat → Prop} {B : Nat} (h : TA w k m v W) (hk : Keeps G W W') (hG : ∀ i, G i → B ≤ i) (hB : ∀ i, (Old w i ∨ v.ownBlock = some i) → i < B) (hw : w.heap.size ≤ B) : TA w k m v W' :=
  h.kept (Same.of_keeps hk h.lt fun i hi hg => by have := hG i hg; have := hB i hi; omega) (bel_keeps h.bel hk fun i hi => Nat.le_trans hw (hG i hi))
theorem TA.cut {a : Option Addr} {cap : Nat} (h : TA w k m (.slice a m.L.length cap) W) (x : Int) : TA w (k + 1) (torS m x) (.slice a (torK m x) cap) W := by
  obtain ⟨xs, h1, h2⟩ := h.row
  have hK := torK_le h.ok x
  have e : (torS m x).L.length = torK m x := by show (m.L.take (torK m x)).length = _; rw [List.length_take]; omega
  refine ⟨ok_tor h.ok x, ?_, ⟨xs.take (torK m x), ?_, Dsk.Sl.take h2 _⟩, h.bel⟩
  · show tot (m.L.take (torK m x)) ≤ _
    have := tot_take_le m.L (torK m x)
    have := h.sz
    omega
  · rw [e]; exact rows_cut h1 hK
theorem TA.app {A : Option Addr} {N C : Nat} {c : List Nat} {xs : List Value} (h : TA w k m v W) (hx : W.ownsRow w.heap.size TSl 1 v m.L.length xs) (hs : Sl W (Old w) xs m.L) (hc : Bs W (Old w) (.slice A N C) c) (hl : c.length ≤ 100) (hk : k ≤ 80)
    (ho : W'.ownsRow w.heap.size TSl 1 v' (m.L.length + 1) (xs ++ [.slice A N C])) (hb : Below w.heap.size w W') : TA w (k + 1) (appS m c) v' W' := by
  have hz := h.sz
  have h0 : appE m c = 0 := appE_ok (by omega) (by omega)
  rw [appS_ok h0]
  have one : Sl W' (Old w) [.slice A N C] [c] := ⟨rfl, fun i s hi => by
    match i, hi with
    | 0, hi =>
      cases hi
      exact hc.kept (Below.same h.bel hb)⟩
  refine ⟨ok_app h.ok hc.1 h0, ?_, ⟨_, ?_, Sl.app (hs.kept (Below.same h.bel hb)) one⟩, hb⟩
  · show tot (m.L ++ [c]) ≤ _
    rw [tot_snoc]; omega
  · show W'.ownsRow w.heap.size TSl 1 v' (m.L ++ [c]).length _
    rw [List.length_append]
    exact ho
end
def Acc (w : World) (S : Nat → Sq) (k : Nat) (v s st hs : Value) (W : World) : Prop :=
  s = .int .i64 ((runS S k).k : Nat) ∧ st = .string (str (runS S k).S) ∧ hs = .bool (runS S k).h ∧ TA w k (runS S k) v W
theorem app_long {m : St} {c : List Nat} (h : 65536 < c.length) : appS m c = m := appS_no (by rw [appE_long h]; omega)
theorem app_k {m : St} {c : List Nat} : (appS m c).k = m.k ∧ (appS m c).S = m.S ∧ (appS m c).h = m.h := by unfold appS; split <;> exact ⟨rfl, rfl, rfl⟩
theorem sav_ok {m : St} {c : List Nat} (h : ¬ 65536 < c.length) : savS m c = ⟨[], 0, c, true⟩ := if_neg h
theorem sav_no {m : St} {c : List Nat} (h : 65536 < c.length) : savS m c = m := if_pos h
end Go.Proofs.YtojeccmnhgcmcaaDoor.Dsk
