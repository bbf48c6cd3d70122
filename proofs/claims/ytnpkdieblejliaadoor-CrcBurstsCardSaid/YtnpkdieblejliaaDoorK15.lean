/- Appends of bytes; the walk of CrcParts. -/
import Derived.Test.YtnpkdieblejliaaDoorK14
import Derived.Deep.AppendLies
import Derived.Laws.OwnMore
import Derived.OwnWalk
namespace Go.Proofs.YtnpkdieblejliaaDoor.Crc
open Go.RowKit Go.ChangeShapes
set_option linter.unusedVariables false

def u8l (l : List Nat) : List Value := l.map fun c : Nat => Value.int .u8 (c : Nat)
theorem u8l_len (l : List Nat) : (u8l l).length = l.length := by simp [u8l]
theorem u8l_app (l m : List Nat) : u8l l ++ u8l m = u8l (l ++ m) := by simp [u8l]
theorem u8l_one (l : List Nat) : ∀ u ∈ u8l l, u.oneCell' = true := by intro v hv; obtain ⟨x, _, rfl⟩ := List.mem_map.1 hv; rfl
theorem u8l_get (l : List Nat) (j : Nat) (v : Value) (h : (u8l l)[j]? = some v) : j < l.length ∧ v = .int .u8 (l.getD j 0 : Nat) := by
  have hj : j < (u8l l).length := by
    rcases Nat.lt_or_ge j (u8l l).length with h1 | h1
    · exact h1
    · rw [List.getElem?_eq_none h1] at h; cases h
  rw [u8l_len] at hj
  refine ⟨hj, ?_⟩
  unfold u8l at h
  rw [List.getElem?_map, List.getElem?_eq_getElem hj] at h
  rw [List.getD_eq_getElem?_getD, List.getElem?_eq_getElem hj]
  exact (Option.some.inj h).symm
theorem info_u8 : (Tryd.prog.info? 5).map (fun i => (i.zero, i.size, i.bytes)) = some (some (.int .u8 0), 1, 1) := by kernel_rfl

theorem own_bs {w : World} {base n : Nat} {v : Value} {l : List Nat} (h : w.ownsRow base 5 1 v n (u8l l)) (h8 : ∀ c ∈ l, c < 256) : Bs w v l := by
  have hn : n = l.length := by have := h.1; rw [u8l_len] at this; omega
  subst hn
  rcases h.2 with ⟨rfl, h0⟩ | ⟨g, cap, cur, hv, _⟩
  · have hl := List.eq_nil_of_length_eq_zero h0
    subst hl
    exact ⟨h8, none, 0, rfl, fun hp => absurd hp (Nat.lt_irrefl 0)⟩
  · subst hv
    refine ⟨h8, _, _, rfl, fun hp => ⟨g, 0, rfl, fun i hi => ?_⟩⟩
    rw [Nat.zero_add, h.cellAt i (by omega)]
    unfold u8l
    rw [List.getElem?_map, List.getElem?_eq_getElem hi, List.getD_eq_getElem?_getD, List.getElem?_eq_getElem hi]
    rfl
theorem own_block_ge {w : World} {base n : Nat} {e : TypeId} {v : Value} {xs : List Value} (h : w.ownsRow base e 1 v n xs) : ∀ k, v.ownBlock = some k → base ≤ k := by
  intro k hk
  rcases h.2 with ⟨rfl, h0⟩ | ⟨g, cap, cur, rfl, hb, _⟩
  · cases hk
  · have : g = k := by simpa [Value.ownBlock] using hk
    omega

theorem wpList_append_bs {ops : Array Oper} {rest : List Oper} {o : Oper} {a : Act} {w : World} {Q : Exit → Act → World → Prop} (hgd : o.guard = none) (s x : Operand)
    (ho : o.op = .call { callee := .builtin .append, args := #[s, x], argTypes := #[22, 22] })
    (base : Nat) (v : Value) (n : Nat) (xs : List Value) (hs : a.eval s = v) (hown : w.ownsRow base 5 1 v n xs)
    (A : Option Addr) (m c : Nat) (l : List Nat) (hx : a.eval x = .slice A m c) (hb : Bs w (.slice A m c) l) (h63 : n + m ≤ 1000000000) (hbase : base ≤ w.heap.size)
    (h : ∀ v' w', w'.ownsRow base 5 1 v' (n + m) (xs ++ u8l l) → w.grownBy w' v.ownBlock → (v'.ownBlock = v.ownBlock ∨ v'.ownBlock = some w.heap.size) → wpList Tryd.prog ops Q rest (a.put o.dst v') w') :
    wpList Tryd.prog ops Q (o :: rest) a w := by
  obtain ⟨i0, hi, hz0, hz1, hz2⟩ := info_parts info_u8
  obtain ⟨h8, A', c', hv, hc⟩ := hb
  injection hv with e1 e2 e3
  subst e1 e2 e3
  cases A with
  | none =>
    have h0 : l.length = 0 := by
      rcases Nat.eq_zero_or_pos l.length with h1 | h1
      · exact h1
      · obtain ⟨b, off, e, _⟩ := hc h1
        cases e
    have hl := List.eq_nil_of_length_eq_zero h0
    subst hl
    refine wpList_plain hgd fun K hK => ?_
    have hrun : (Builtin.append_ #[22, 22] o.type #[v, .slice none 0 c]).run Tryd.prog w = .ok v w := by
      rcases hown.2 with ⟨rfl, rfl⟩ | ⟨g, cap, cur, rfl, _, _, hnc, _⟩
      · simp [Builtin.append_, run_underlying Tryd.underlying22, sizeOf, typeInfo, hi, Builtin.lenOf, Builtin.firstCells]
      · simp [Builtin.append_, run_underlying Tryd.underlying22, sizeOf, typeInfo, hi, Builtin.lenOf, Builtin.firstCells, hnc, storeCells]
    have hx' : a.eval x = .slice none 0 c := hx
    unfold Oper.wp
    simp [execOp, ho, resolve, invoke, builtin, hs, hx', hrun, Result.andThen]
    refine hK _ _ (h v w ?_ (World.grownBy.refl w _) (.inl rfl))
    simpa [u8l] using hown
  | some ad =>
    refine wpList_append_own_at w hgd s x _ ho base 5 i0 (.int .u8 0) 1 1 Tryd.underlying22 hi hz0 hz1 hz2 rfl (by decide) v n xs hs hown ad l.length c (u8l l) hx (by rw [u8l_len]; omega) (fun j u hu => ?_) (u8l_one l) (by unfold maxLen; omega) (by omega) hbase (fun v' w' h1 h2 _ h4 => h v' w' h1 h2 h4)
    obtain ⟨hj, rfl⟩ := u8l_get l j u hu
    obtain ⟨b, off, e, hcell⟩ := hc (by omega)
    cases e
    rw [addr_add, hcell j hj]
theorem grown_below {B n : Nat} {w0 w w' : World} {e : TypeId} {v : Value} {xs : List Value} (hb : Below B w0 w) (hown : w.ownsRow B e 1 v n xs) (hg : w.grownBy w' v.ownBlock) (hB : B ≤ w.heap.size) : Below B w0 w' :=
  hb.grown hg hB (own_block_ge hown)

theorem sum_is (v : Value) (l : List Nat) (r : Nat) (hr : more 0 l = r) (w : World) (hv : Bs w v l) (hlen : l.length ≤ 140737488355328) (hH : Hv w) :
    Calls Tryd.prog 14 #[v] w fun e w' => e = .returned (.int .u32 r) ∧ w = w' := by subst hr; exact sum_any v l w hv hlen hH
theorem more_is (s : Nat) (v : Value) (l : List Nat) (r : Nat) (hr : more s l = r) (hs : s < 4294967296) (w : World) (hv : Bs w v l) (hlen : l.length ≤ 140737488355328) (hH : Hv w) :
    Calls Tryd.prog 16 #[.int .u32 s, v] w fun e w' => e = .returned (.int .u32 r) ∧ w = w' := by subst hr; exact more_any s hs v l w hv hlen hH

theorem parts_go (a0 : Option Addr) (cap0 : Nat) (a1 : Option Addr) (cap1 : Nat) (l m : List Nat) (w : World) (h0 : Bs w (.slice a0 l.length cap0) l) (h1 : Bs w (.slice a1 m.length cap1) m) (hl : l.length ≤ 2000) (hm : m.length ≤ 2000) (hH : Hv w) :
    Calls Tryd.prog 6 #[.slice a0 l.length cap0, .slice a1 m.length cap1] w fun e w' => e = .returned (.bool true) ∧ Below w.heap.size w w' := by
  have hd0 : decide (2000 < (l.length : Int)) = false := by simp; omega
  have hd1 : decide (2000 < (m.length : Int)) = false := by simp; omega
  obtain ⟨S0, hS0⟩ : ∃ r, more 0 l = r := ⟨_, rfl⟩
  obtain ⟨S1, hS1⟩ : ∃ r, more 0 m = r := ⟨_, rfl⟩
  obtain ⟨R, hR⟩ : ∃ r, more 0 (l ++ m) = r := ⟨_, rfl⟩
  have hM : more S0 m = R := by rw [← hS0, ← hR, more_append]
  have hJ : stps (8 * m.length) S0 ^^^ S1 = R := by rw [← hS0, ← hS1, ← hR, more_join]
  have hS0l : S0 < 4294967296 := by rw [← hS0]; exact more_lt 0 l (by omega) h0.1
  have hS1l : S1 < 4294967296 := by rw [← hS1]; exact more_lt 0 m (by omega) h1.1
  have h8 : ∀ c ∈ l ++ m, c < 256 := fun c hc => (List.mem_append.1 hc).elim (h0.1 c) (h1.1 c)
  have HS0 := Lib.hid (sum_is (.slice a0 l.length cap0) l S0 hS0)
  have HS1 := Lib.hid (sum_is (.slice a1 m.length cap1) m S1 hS1)
  have HM := Lib.hid (more_is S0 (.slice a1 m.length cap1) m R hM hS0l)
  have HJ := Lib.hid (join_is S0 S1 m.length R hJ hS0l hS1l (by omega))
  have H8 := Lib.hid h8
  have HR := Lib.hid hR
  clear hS0 hS1 hM hJ h8 hR
  have hown0 := World.ownsRow_lit (base := w.heap.size) (e := 5) (size := 1) w #[] 0 (Nat.le_refl _) (by decide) rfl
  have hb0 : Below w.heap.size w (w.alloc (.cells #[] 5)) := (Below.refl _ _).alloc (Nat.le_refl _) _
  have Hown0 := Lib.hid hown0
  clear hown0
  go_enter Tryd.func6, Tryd.ntmps6
  go_wp2_with (first
    | (at_builtin; refine wpList_append_bs rfl _ _ rfl w.heap.size _ 0 [] rfl Hown0.out a0 l.length cap0 l rfl (h0.later hb0) (by omega) (by simp) ?_; intro v1 w1 hown1 hg1 _; have hb1 := grown_below hb0 Hown0.out hg1 (by simp); have Hown1 := Lib.hid hown1; clear hown1 hg1 Hown0)
    | (at_builtin; refine wpList_append_bs rfl _ _ rfl w.heap.size v1 (0 + l.length) ([] ++ u8l l) rfl Hown1.out a1 m.length cap1 m rfl (h1.later hb1) (by omega) hb1.size ?_; intro v2 w2 hown2 hg2 _; have G := grown_below hb1 Hown1.out hg2 hb1.size; have hv2 := own_bs (l := l ++ m) (by rw [← u8l_app]; exact hown2) H8.out; have hv0 := h0.later G; have hv1 := h1.later G; have hH2 := hH.later G; clear hown2 hg2 Hown1)
    | (go_at_call 14; refine (sum_is v2 (l ++ m) R HR.out _ hv2 (by simp; omega) hH2).mono ?_; rintro e w' ⟨rfl, rfl⟩)
    | (go_at_call 14; refine (HS0.out _ hv0 (by omega) hH2).mono ?_; rintro e w' ⟨rfl, rfl⟩)
    | (go_at_call 14; refine (HS1.out _ hv1 (by omega) hH2).mono ?_; rintro e w' ⟨rfl, rfl⟩)
    | (go_at_call 20; refine (HJ.out _ hH2).mono ?_; rintro e w3 ⟨rfl, hb3⟩; have G := more_b G hb3; have hv0 := hv0.later hb3; have hv1 := hv1.later hb3; have hH2 := hH2.later hb3)
    | (go_at_call 16; refine (HM.out _ hv1 (by omega) hH2).mono ?_; rintro e w' ⟨rfl, rfl⟩)
    | (go_at_call 13; refine (works_any _ hH2).mono ?_; rintro e w4 ⟨rfl, hb4⟩; have G := more_b G hb4))
  go_ret
  exact ⟨rfl, G⟩
theorem parts_long (a0 : Option Addr) (len0 cap0 : Nat) (a1 : Option Addr) (len1 cap1 : Nat) (w : World) (hH : Hv w) (h : 2000 < len0 ∨ 2000 < len1) :
    Calls Tryd.prog 6 #[.slice a0 len0 cap0, .slice a1 len1 cap1] w fun e w' => e = .returned (.bool true) ∧ Below w.heap.size w w' := by
  by_cases h0 : 2000 < len0
  · have hd0 : decide (2000 < (len0 : Int)) = true := by simp; omega
    go_enter Tryd.func6, Tryd.ntmps6
    go_wp2_with (go_at_call 13; refine (works_any _ hH).mono ?_; rintro e w4 ⟨rfl, G⟩)
    go_ret
    exact ⟨rfl, G⟩
  · have hd0 : decide (2000 < (len0 : Int)) = false := by simp; omega
    have hd1 : decide (2000 < (len1 : Int)) = true := by simp; omega
    go_enter Tryd.func6, Tryd.ntmps6
    go_wp2_with (go_at_call 13; refine (works_any _ hH).mono ?_; rintro e w4 ⟨rfl, G⟩)
    go_ret
    exact ⟨rfl, G⟩
theorem w_crcParts (a0 : Option Addr) (len0 cap0 : Nat) (z0 : List Int) (a1 : Option Addr) (len1 cap1 : Nat) (z1 : List Int) (w : World) (w0 : IsRow .u8 w a0 len0 cap0 z0) (w1 : IsRow .u8 w a1 len1 cap1 z1) (hH : Hv w) :
    Calls Tryd.prog 6 #[.slice a0 len0 cap0, .slice a1 len1 cap1] w fun e w' => e = .returned (.bool true) ∧ Below w.heap.size w w' := by
  obtain ⟨l, hl, h0⟩ := row_bs w0
  obtain ⟨m, hm, h1⟩ := row_bs w1
  by_cases h : 2000 < len0 ∨ 2000 < len1
  · exact parts_long a0 len0 cap0 a1 len1 cap1 w hH h
  · subst hl hm
    exact parts_go a0 cap0 a1 cap1 l m w h0 h1 (by omega) (by omega) hH
end Go.Proofs.YtnpkdieblejliaaDoor.Crc
