/- Parts of a slice of values; a slice of the call's own is cleared. -/
import Derived.Test.YtnkmiigcglddmaaW26
import Derived.Lib.SliceRun
namespace Go.Proofs.Ytnkmiigcglddmaa.Wire
open Go.RowKit Go.ChangeShapes
set_option linter.unusedVariables false
set_option linter.unusedSimpArgs false

theorem info_v : (Try.prog.info? TV).map (fun i => i.size) = some 3 := by kernel_rfl
theorem size_v (w : World) : (Go.sizeOf TV).run Try.prog w = .ok 3 w := by
  obtain ⟨i0, hi, h3⟩ := Option.map_eq_some_iff.1 info_v
  simp [Go.sizeOf, typeInfo, hi, h3]
theorem und_v : Try.prog.underlying 22 = some (.slice (Try.prog.elem 22)) := by simp [Program.elem, Try.underlying22]
theorem elem_v : Try.prog.elem 22 = TV := by simp [Program.elem, Try.underlying22]
def cutV (a : Option Addr) (cap j : Nat) : Option Addr := if cap = j then a else a.map (·.add (j * 3))
theorem cutV_zero (a : Option Addr) (cap : Nat) : cutV a cap 0 = a := by
  have e : ∀ x : Addr, x.add 0 = x := fun x => by cases x; simp [Addr.add]
  unfold cutV
  split
  · rfl
  · cases a with
    | none => rfl
    | some x => simp [e]
theorem vtail_run (a : Option Addr) (len cap j : Nat) (hj : j ≤ len) (w : World) :
    (Instr.slice 22 (.slice a len cap) (some (.int .i64 (j : Int))) none none).run Try.prog w = .ok (.slice (cutV a cap j) (len - j) (cap - j)) w := by
  rw [run_slice_l w 22 _ _ _ und_v .i64 _ (by omega) (by omega), elem_v, size_v]
  simp [Result.andThen, sliced, cutV]
theorem vhead_run (a : Option Addr) (len cap hi : Nat) (h2 : hi ≤ cap) (w : World) :
    (Instr.slice 22 (.slice a len cap) none (some (.int .i64 (hi : Int))) none).run Try.prog w = .ok (.slice a hi cap) w := by
  rw [run_slice_h w 22 _ _ _ und_v .i64 _ (by omega) (by omega), elem_v, size_v]
  have := cutV_zero a cap
  simpa [Result.andThen, sliced, cutV] using this
theorem IsVals.head {w : World} {a : Option Addr} {len cap : Nat} {xs : List Val} (h : IsVals w a len cap xs) (j : Nat) (hj : j ≤ len) : IsVals w a j cap (xs.take j) := by
  obtain ⟨hl, hc, hok, hcell⟩ := h
  refine ⟨by rw [List.length_take]; omega, by omega, fun x hx => hok x (List.mem_of_mem_take hx), fun h0 => ?_⟩
  obtain ⟨b, off, ha, hb, hi⟩ := hcell (by omega)
  refine ⟨b, off, ha, hb, fun i hij => ?_⟩
  have e : (xs.take j).getD i zv = xs.getD i zv := by rw [List.getD_eq_getElem?_getD, List.getD_eq_getElem?_getD, List.getElem?_take_of_lt hij]
  rw [e]
  exact hi i (by omega)
theorem IsVals.tail {w : World} {a : Option Addr} {len cap : Nat} {xs : List Val} (h : IsVals w a len cap xs) (j : Nat) (hj : j ≤ len) : IsVals w (cutV a cap j) (len - j) (cap - j) (xs.drop j) := by
  obtain ⟨hl, hc, hok, hcell⟩ := h
  refine ⟨by rw [List.length_drop]; omega, by omega, fun x hx => hok x (List.mem_of_mem_drop hx), fun h0 => ?_⟩
  obtain ⟨b, off, rfl, hb, hi⟩ := hcell (by omega)
  refine ⟨b, off + j * 3, ?_, hb, fun i hij => ?_⟩
  · unfold cutV
    rw [if_neg (by omega)]
    simp [addr_add]
  · have e : (xs.drop j).getD i zv = xs.getD (j + i) zv := by rw [List.getD_eq_getElem?_getD, List.getD_eq_getElem?_getD, List.getElem?_drop]
    rw [e]
    have h3 : off + j * 3 + i * 3 = off + (j + i) * 3 := by omega
    rw [h3]
    exact hi (j + i) (by omega)

/-! Cleared. -/
theorem Keeps.setCells {F : Nat → Prop} {a : World} {b : Nat} (hb : F b) : ∀ (vs : List Value) (o : Nat) (w : World), Keeps F a w → Keeps F a (w.setCells b o vs)
  | [], _, _, h => h
  | v :: vs, o, w, h => Keeps.setCells hb vs (o + 1) _ (h.setCell (p := ⟨b, o, none⟩) (.inl hb) v)
theorem zero_u8 (w : World) : (Go.zeroValue 5).run Try.prog w = .ok (.int .u8 0) w := by simp [Try.zeroValue5]
theorem run_clear_own {F : Nat → Prop} {w : World} {v : Value} {l : List Nat} (h : Ow v l F w) (ty : TypeId) : ∃ w', (Builtin.clear_ #[35] ty #[v]).run Try.prog w = .ok (.tuple #[]) w' ∧ Keeps F w w' := by
  obtain ⟨ho, h8, hv, hlt⟩ := h
  obtain ⟨_, hn | ⟨g, cap, cur, rfl, hbg, hg, rest⟩⟩ := ho
  · obtain ⟨rfl, h0⟩ := hn
    refine ⟨w, ?_, Keeps.refl F w⟩
    simp [Builtin.clear_, run_underlying Try.underlying35]
  · by_cases h0 : l.length = 0
    · refine ⟨w, ?_, Keeps.refl F w⟩
      rw [h0]
      simp [Builtin.clear_, run_underlying Try.underlying35]
    · have ho2 : w.ownsRow 0 5 1 (.slice (some ⟨g, 0, none⟩) l.length cap) l.length (bv l) := ⟨by assumption, .inr ⟨g, cap, cur, rfl, hbg, hg, rest⟩⟩
      refine ⟨_, Lib.run_clear_slice w 35 5 ty (.int .u8 0) Try.underlying35 zero_u8 rfl rfl g 0 l.length cap (by omega) (fun j hj => ?_) (fun j hj => ?_), (Keeps.refl F w).setCells (hv g rfl) _ _ _⟩
      · rw [Nat.zero_add, ho2.cellAt j (by omega), bv_at l j hj]; rfl
      · rw [Nat.zero_add]; exact blk_frozen hg j
theorem wpList_clear {ops : Array Oper} {rest : List Oper} {o : Oper} {a : Act} {w : World} {Q : Exit → Act → World → Prop} (hgd : o.guard = none) (s : Operand)
    (ho : o.op = .call { callee := .builtin .clear, args := #[s], argTypes := #[35] }) (v : Value) (hs : a.eval s = v) (w0 : World) (L : List Asrt) (l : List Nat) (hw : Has w0 w (Ow v l :: L))
    (h : ∀ w', Has w0 w' L → wpList Try.prog ops Q rest (a.put o.dst (.tuple #[])) w') :
    wpList Try.prog ops Q (o :: rest) a w := by
  obtain ⟨F, hF, hlt, hst⟩ := hw.step
  refine wpList_plain hgd fun K hK => ?_
  obtain ⟨w', hrun, hk⟩ := run_clear_own hF o.type
  unfold Oper.wp execOp
  simp only [ho, resolve, invoke, builtin, Sem.run_bind, Sem.run_pure, Result.andThen_ok, List.map_toArray, List.map_cons, List.map_nil, hs, hrun]
  exact hK _ _ (h w' (hst (fun _ _ => True) w' (fun _ _ _ _ _ _ _ _ _ => trivial) trivial hk).drop)
/-- One of the things comes first. -/
theorem All.perm {L L' : List Asrt} (hp : L.Perm L') : ∀ {G : Nat → Prop} {w : World}, All L G w → (∀ k, G k → k < w.heap.size) → All L' G w := by
  induction hp with
  | nil => intro G w h _; exact h
  | cons A _ ih => intro G w h hlt; obtain ⟨F, h1, hA, hS, hL⟩ := h; exact ⟨F, h1, hA, hS, ih hL fun k hk => hlt k hk.1⟩
  | swap A B l => intro G w h hlt; exact h.swap hlt
  | trans _ _ ih1 ih2 => intro G w h hlt; exact ih2 (ih1 h hlt) hlt
theorem Has.pull {w0 W : World} (l : List Asrt) {A : Asrt} {m : List Asrt} (h : Has w0 W (l ++ A :: m)) : Has w0 W (A :: (l ++ m)) := ⟨h.bel, h.all.perm List.perm_middle fun k hk => hk.2⟩
theorem Has.up5 {w0 W : World} {A B C D E : Asrt} {L : List Asrt} (h : Has w0 W (A :: B :: C :: D :: E :: L)) : Has w0 W (E :: A :: B :: C :: D :: L) := Has.pull [A, B, C, D] h
theorem Has.up6 {w0 W : World} {A B C D E F : Asrt} {L : List Asrt} (h : Has w0 W (A :: B :: C :: D :: E :: F :: L)) : Has w0 W (F :: A :: B :: C :: D :: E :: L) := Has.pull [A, B, C, D, E] h
end Go.Proofs.Ytnkmiigcglddmaa.Wire
