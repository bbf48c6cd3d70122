/- Cut, Check. -/
import Derived.Test.YtbedkblanefboaaDoorF09
namespace Go.Proofs.YtbedkblanefboaaDoor.Frame
open Go.RowKit Go.ChangeShapes
open Crc (Hv more more_lt ret_u32)
set_option linter.unusedVariables false
set_option linter.unusedSimpArgs false
attribute [local go_sem] Oper.semAt_some

theorem records_any (a : Option Addr) (n cap : Nat) (w : World) : Calls Tryd.prog 35 #[.slice a n cap] w fun e w' => e = .returned (.func (.func 42) #[] #[.pointer (some ⟨w.heap.size, 0, none⟩)]) ∧ w' = w.alloc (.cells #[.slice a n cap] 22) := by
  go_enter Tryd.func35, Tryd.ntmps35
  go_wp2
  go_ret
  exact ⟨rfl, rfl⟩
theorem records_stops (F : Nat → Prop) (v : Value) (b : List Nat) (w : World) (hv : Bs w F v b) (hF : ∀ k, F k → k < w.heap.size) (hH : Hv w) (hlen : b.length ≤ 100000000) (Bn : Nat) (hBn : Bn < w.heap.size) (hBox : w.cell? ⟨Bn, 0, none⟩ = some v) :
    SeqStopsK Fence.wide 3 Tryd.prog 42 #[.pointer (some ⟨Bn, 0, none⟩)] (encI (w := w) (F := F) (b := b)) (Held (Gs F Bn)) (fun ys => conts ys = chain b ∧ Row 0 ys) (fun _ => True) (chain b).length w :=
  fun l J Jx W hW hJ hJx hY h0 => records_in F v b w hv hF hH hlen Bn hBn hBox l J Jx W hW hJ hJx hY h0
theorem held_put {G : Nat → Prop} {n : Nat} (hG : ∀ k, G k → k < n) (W : World) (l : Nat) (o o' : Obj) (hl : n ≤ l) (_ : W.heap[l]? = some o) (_ : o.isCells = false) (_ : o.isWalk = false) : Held G W (W.putObj l o') := by
  refine ⟨(grownBy_putObj' W l o').size, fun k hk => ?_⟩
  have h1 := hG k hk
  rcases Nat.lt_or_ge k W.heap.size with h | h
  · exact (grownBy_putObj' W l o').block k h (by intro e; injection e with e; omega)
  · have h2 : (W.putObj l o').heap.size = W.heap.size := by simp [World.putObj]
    rw [Array.getElem?_eq_none (by omega), Array.getElem?_eq_none (by omega)]

/-- The state between two rounds of Cut. -/
structure CAt (w : World) {w0 : World} {F : Nat → Prop} {b : List Nat} (pre : List (Item w0 F b)) (W : World) : Prop where
  box : Boxed W w.heap.size 3 (.int .i64 (pre.length : Nat))
  bel : Below w.heap.size w W
theorem cat_from {w w0 : World} {F : Nat → Prop} {b : List Nat} (B : Nat) (hB : w.heap.size < B) : OwnFrom B (fun (pre : List (Item w0 F b)) W => CAt w pre W) := by
  rintro pre W W' row ⟨h1, h2⟩ hg hr
  refine ⟨h1.kept hg fun e => ?_, h2.grown hg h2.size fun r e => ?_⟩
  · have := (hr _ e.symm).1; omega
  · have := (hr r e).1; omega
theorem world2 (w : World) (o : Obj) (u : Value) (T : TypeId) : ((w.alloc o).alloc (.cells #[u] T)).cell? ⟨w.heap.size + 1, 0, none⟩ = some u := by
  have := Boxed.new (w.alloc o) T u
  rw [World.size_alloc] at this
  exact this.cell
set_option maxRecDepth 100000 in
set_option maxHeartbeats 2000000 in
theorem cut_go (F : Nat → Prop) (a : Option Addr) (cap : Nat) (b : List Nat) (n : Nat) (w : World) (hv : Bs w F (.slice a b.length cap) b) (hF : ∀ k, F k → k < w.heap.size) (hH : Hv w) (hlen : b.length ≤ 100000000) (hn : n ≤ b.length) :
    Calls Tryd.prog 22 #[.slice a b.length cap, .int .i64 (n : Nat)] w fun e w' => e = .returned (.tuple #[.int .i64 ((chain (b.take n)).length : Nat), .int .i64 0]) ∧ Below w.heap.size w w' := by
  have hcap : b.length ≤ cap := by obtain ⟨_, _, _, e, h, _⟩ := hv; injection e with _ _ e; omega
  have hd : decide (((n : Nat) : Int) < 0) = false := by simp
  have hd2 : decide (b.length < n) = false := by simp; omega
  have tu := fun w => upto_run a b.length cap n (by omega) w
  refine (callsIn_wide (n := 4)).1 ?_
  refine callsIn_of_wp_marks Tryd.func22 rfl trivial ?_ rfl
  simp only [Tryd.ntmps22, List.size_toArray, List.length_cons, List.length_nil, Nat.reduceAdd, Nat.reduceSub, Array.replicate_succ, Array.replicate_zero, List.push_toArray, List.append_toArray, List.nil_append, List.cons_append]
  gi_wp2_with (first
    | (refine ⟨trivial, ?_⟩; gi_at_call 35; refine (callsIn_wide.2 (records_any _ _ _ _)).mono ?_; rintro e w' ⟨rfl, rfl⟩))
  have hb0 : Below w.heap.size w ((w.alloc (.cells #[.int .i64 0] 3)).alloc (.cells #[.slice a n cap] 22)) := ((Below.refl _ _).alloc (Nat.le_refl _) _).alloc (by simp) _
  have hv2 := (hv.upto n hn).kept (Same.of_below hb0 hF)
  have hF2 : ∀ k, F k → k < ((w.alloc (.cells #[.int .i64 0] 3)).alloc (.cells #[.slice a n cap] 22)).heap.size := fun k hk => Nat.lt_of_lt_of_le (hF k hk) hb0.size
  have hH2 := hv_later hH hb0
  have hbox := world2 w (.cells #[.int .i64 0] 3) (.slice a n cap) 22
  have hst := records_stops F _ (b.take n) _ hv2 hF2 hH2 (by rw [List.length_take]; omega) (w.heap.size + 1) (by simp) hbox
  have hG : ∀ k, Gs F (w.heap.size + 1) k → k < ((w.alloc (.cells #[.int .i64 0] 3)).alloc (.cells #[.slice a n cap] 22)).heap.size := by
    rintro k (hk | rfl | rfl)
    · exact hF2 k hk
    · simp
    · exact hv_lt hH2
  have hB6 : ∀ k, Gs F (w.heap.size + 1) k → k ≠ w.heap.size := by
    rintro k (hk | rfl | rfl)
    · have := hF k hk; omega
    · omega
    · have := hv_lt hH; omega
  have h00 : CAt w ([] : List (Item ((w.alloc (.cells #[.int .i64 0] 3)).alloc (.cells #[.slice a n cap] 22)) F (b.take n))) ((w.alloc (.cells #[.int .i64 0] 3)).alloc (.cells #[.slice a n cap] 22)) :=
    ⟨(Boxed.new w 3 (.int .i64 0)).alloc _, hb0⟩
  have hN : (chain (b.take n)).length ≤ 100000000 := by
    have h1 := chain_tot (b.take n) (hv2.1)
    have h2 : (chain (b.take n)).length ≤ tot (chain (b.take n)) := by
      generalize chain (b.take n) = L
      induction L with
      | nil => exact Nat.zero_le _
      | cons c L ih => show L.length + 1 ≤ 8 + c.length + tot L; omega
    rw [List.length_take] at h1; omega
  generalize hL : chain (b.take n) = L at *
  refine wpIn_rangeFunc_ownG rfl (by omega) (gf := 42) (lb := #[.pointer (some ⟨w.heap.size + 1, 0, none⟩)]) rfl trivial (enters_of Tryd.func42 (by kernel_rfl) rfl)
    hst (fun h k => h.trans k) (held_put hG) (Below.refl _ _) (fun _ => rfl)
    (fun pre W => CAt w pre W) (fun _ _ _ => False) (cat_from _ (by simp; omega)) (fun _ _ _ _ _ hs _ _ => hs) h00
    (fun x => { tmps := #[.slice a b.length cap, .int .i64 (n : Nat), undef, undef, .int .i64 0, .int .i64 0, .pointer (some ⟨w.heap.size, 0, none⟩), .int .i64 (n : Nat), .bool false, .bool false, .int .i64 (n : Nat), .slice a b.length cap, .int .i64 (b.length : Nat), .bool false, .bool false, .slice a b.length cap, .int .i64 (n : Nat), .slice a n cap, .func (.func 42) #[] #[.pointer (some ⟨w.heap.size + 1, 0, none⟩)], .agg #[.int .i64 (x.k : Nat), x.v], .int .i64 ((x.k + (8 + x.c.length) : Nat) : Int), undef, undef, undef], defers := [] }) ?assign ?body ?done ?stop
  case assign =>
    intro l' x W K hK
    gi_wp2
    simpa using hK
  case body =>
    rintro l' pre x W hM hlt
    have c1 := Boxed.cell hM.box
    have f1 := Boxed.frozen hM.box
    have hpl : pre.length ≤ 100000000 := by omega
    gi_wp2
    have e1 : (pre.length : Int) + 1 = ((pre ++ [x]).length : Nat) := by simp
    rw [e1]
    refine ⟨KeepsOthers.from (KeepsOthers.setCell _ _ _) _, ⟨by simp [World.setCell], fun k hk => Below.heap_setCell _ _ _ _ (hB6 k hk)⟩, hM.box.set _, hM.bel.setCell (p := ⟨w.heap.size, 0, none⟩) (Nat.le_refl _) _⟩
  case done =>
    rintro D ys W hD ⟨hys, hrow⟩ hM hK
    have hM2 := cat_from (w := w) w.heap.size.succ (Nat.lt_succ_self _) ys W (W.putObj D (.deferred none)) (some D) hM (grownBy_putObj' W D _) (fun r e => by cases e; exact ⟨by simp at hD; omega, _, hK, rfl⟩)
    have hyl : ys.length = L.length := by rw [← hys, List.length_map]
    have c1 := Boxed.cell hM.box
    simp only [Exit.inBlock, Exit.then]
    go_at_K
    gi_wp2
    refine ⟨by simp, .inl ⟨_, _, rfl, run_takeDeferred hK, ?_⟩⟩
    exact ⟨.tuple #[.int .i64 (L.length : Nat), .int .i64 0], by simp [results, Tryd.results22, go_sem], rfl, hM2.bel⟩
  case stop =>
    rintro D c pre W _ _ h _
    exact h.elim

/-- How many records the first n bytes have. -/
def cutN (b : List Nat) (n : Int) : Nat := if n < 0 ∨ (b.length : Int) < n then 0 else (chain (b.take n.toNat)).length
def cutE (b : List Nat) (n : Int) : Nat := if n < 0 ∨ (b.length : Int) < n then 3 else 0
theorem cut_any (F : Nat → Prop) (v : Value) (b : List Nat) (n : Int) (w : World) (hv : Bs w F v b) (hF : ∀ k, F k → k < w.heap.size) (hH : Hv w) (hlen : b.length ≤ 100000000) :
    Calls Tryd.prog 22 #[v, .int .i64 n] w fun e w' => e = .returned (.tuple #[.int .i64 (cutN b n : Nat), .int .i64 (cutE b n : Nat)]) ∧ Below w.heap.size w w' := by
  have hv0 := hv
  obtain ⟨_, a, cap, rfl, _⟩ := hv0
  by_cases h : n < 0 ∨ (b.length : Int) < n
  · unfold cutN cutE
    rw [if_pos h, if_pos h]
    by_cases h0 : n < 0
    · have hd : decide (n < 0) = true := by simpa using h0
      go_enter Tryd.func22, Tryd.ntmps22
      go_wp2
      go_ret2
      exact ⟨rfl, Below.refl _ _⟩
    · have hd : decide (n < 0) = false := by simpa using h0
      have hd2 : decide ((b.length : Int) < n) = true := by simp; omega
      go_enter Tryd.func22, Tryd.ntmps22
      go_wp2
      go_ret2
      exact ⟨rfl, Below.refl _ _⟩
  · obtain ⟨m, rfl⟩ := Int.eq_ofNat_of_zero_le (show 0 ≤ n by omega)
    unfold cutN cutE
    rw [if_neg h, if_neg h, Int.toNat_natCast]
    exact cut_go F a cap b m w hv hF hH hlen (by omega)

/-! Where the last record ends. -/
def endp {w : World} {F : Nat → Prop} {b : List Nat} (k : Nat) (ys : List (Item w F b)) : Nat := (ys.getLast?.map fun x => x.k + (8 + x.c.length)).getD k
theorem endp_snoc {w : World} {F : Nat → Prop} {b : List Nat} (k : Nat) (ys : List (Item w F b)) (x : Item w F b) : endp k (ys ++ [x]) = x.k + (8 + x.c.length) := by simp [endp]
theorem Row.endp {w : World} {F : Nat → Prop} {b : List Nat} : ∀ (k : Nat) (ys : List (Item w F b)), Row k ys → Frame.endp k ys = k + tot (conts ys)
  | k, [], _ => rfl
  | k, y :: ys, h => by
    have ih := Row.endp _ ys h.2
    have e : Frame.endp k (y :: ys) = Frame.endp (y.k + (8 + y.c.length)) ys := by
      unfold Frame.endp
      rw [List.getLast?_cons]
      cases ys.getLast? <;> rfl
    rw [e, h.1, ih]
    show _ = k + (8 + y.c.length + tot (conts ys))
    omega
/-- What Check gives back. -/
def checkE (b : List Nat) : Nat := if tot (chain b) = b.length then 0 else restE (b.drop (tot (chain b)))
structure EAt (w : World) {w0 : World} {F : Nat → Prop} {b : List Nat} (pre : List (Item w0 F b)) (W : World) : Prop where
  box : Boxed W w.heap.size 3 (.int .i64 (endp 0 pre : Nat))
  bel : Below w.heap.size w W
  siz : w.heap.size + 2 ≤ W.heap.size
theorem eat_from {w w0 : World} {F : Nat → Prop} {b : List Nat} (B : Nat) (hB : w.heap.size < B) : OwnFrom B (fun (pre : List (Item w0 F b)) W => EAt w pre W) := by
  rintro pre W W' row ⟨h1, h2, h3⟩ hg hr
  refine ⟨h1.kept hg fun e => ?_, h2.grown hg h2.size fun r e => ?_, Nat.le_trans h3 hg.size⟩
  · have := (hr _ e.symm).1; omega
  · have := (hr r e).1; omega
set_option maxRecDepth 100000 in
set_option maxHeartbeats 2000000 in
theorem check_is (F : Nat → Prop) (v : Value) (b : List Nat) (w : World) (hv : Bs w F v b) (hF : ∀ k, F k → k < w.heap.size) (hH : Hv w) (hlen : b.length ≤ 100000000) :
    Calls Tryd.prog 25 #[v] w fun e w' => e = .returned (.int .i64 (checkE b : Nat)) ∧ Below w.heap.size w w' := by
  have hv0 := hv
  obtain ⟨h8, a, cap, rfl, hcap, _⟩ := hv0
  have hce : checkE b = if tot (chain b) = b.length then 0 else restE (b.drop (tot (chain b))) := rfl
  generalize checkE b = C at *
  refine (callsIn_wide (n := 4)).1 ?_
  refine callsIn_of_wp_marks Tryd.func25 rfl trivial ?_ rfl
  simp only [Tryd.ntmps25, List.size_toArray, List.length_cons, List.length_nil, Nat.reduceAdd, Nat.reduceSub, Array.replicate_succ, Array.replicate_zero, List.push_toArray, List.append_toArray, List.nil_append, List.cons_append]
  gi_wp2_with (first
    | (refine ⟨trivial, ?_⟩; gi_at_call 35; refine (callsIn_wide.2 (records_any _ _ _ _)).mono ?_; rintro e w' ⟨rfl, rfl⟩))
  have hb0 : Below w.heap.size w ((w.alloc (.cells #[.int .i64 0] 3)).alloc (.cells #[.slice a b.length cap] 22)) := ((Below.refl _ _).alloc (Nat.le_refl _) _).alloc (by simp) _
  have hv2 := hv.kept (Same.of_below hb0 hF)
  have hF2 : ∀ k, F k → k < ((w.alloc (.cells #[.int .i64 0] 3)).alloc (.cells #[.slice a b.length cap] 22)).heap.size := fun k hk => Nat.lt_of_lt_of_le (hF k hk) hb0.size
  have hH2 := hv_later hH hb0
  have hbox := world2 w (.cells #[.int .i64 0] 3) (.slice a b.length cap) 22
  have hst := records_stops F _ b _ hv2 hF2 hH2 hlen (w.heap.size + 1) (by simp) hbox
  have hG : ∀ k, Gs F (w.heap.size + 1) k → k < ((w.alloc (.cells #[.int .i64 0] 3)).alloc (.cells #[.slice a b.length cap] 22)).heap.size := by
    rintro k (hk | rfl | rfl)
    · exact hF2 k hk
    · simp
    · exact hv_lt hH2
  have hB6 : ∀ k, Gs F (w.heap.size + 1) k → k ≠ w.heap.size := by
    rintro k (hk | rfl | rfl)
    · have := hF k hk; omega
    · omega
    · have := hv_lt hH; omega
  have h00 : EAt w ([] : List (Item ((w.alloc (.cells #[.int .i64 0] 3)).alloc (.cells #[.slice a b.length cap] 22)) F b)) ((w.alloc (.cells #[.int .i64 0] 3)).alloc (.cells #[.slice a b.length cap] 22)) :=
    ⟨(Boxed.new w 3 (.int .i64 0)).alloc _, hb0, by simp⟩
  have htot := chain_tot b h8
  have hlk := look_in F (.slice a b.length cap) b (tot (chain b))
  generalize hL : chain b = L at *
  refine wpIn_rangeFunc_ownG rfl (by omega) (gf := 42) (lb := #[.pointer (some ⟨w.heap.size + 1, 0, none⟩)]) rfl trivial (enters_of Tryd.func42 (by kernel_rfl) rfl)
    hst (fun h k => h.trans k) (held_put hG) (Below.refl _ _) (fun _ => rfl)
    (fun pre W => EAt w pre W) (fun _ _ _ => False) (eat_from _ (by simp; omega)) (fun _ _ _ _ _ hs _ _ => hs) h00
    (fun x => { tmps := #[.slice a b.length cap, undef, .int .i64 0, .pointer (some ⟨w.heap.size, 0, none⟩), undef, .int .i64 ((x.k + (8 + x.c.length) : Nat) : Int), undef, undef, undef, .slice a b.length cap, .func (.func 42) #[] #[.pointer (some ⟨w.heap.size + 1, 0, none⟩)], .agg #[.int .i64 (x.k : Nat), x.v], .int .i64 ((x.k + (8 + x.c.length) : Nat) : Int), undef, undef, undef, undef, undef, undef, undef, undef, undef, undef, undef, undef, undef], defers := [] }) ?assign ?body ?done ?stop
  case assign =>
    intro l' x W K hK
    generalize hz : x.k + (8 + x.c.length) = z at *
    gi_wp2
    exact hK
  case body =>
    rintro l' pre x W hM hlt
    have c1 := Boxed.cell hM.box
    have f1 := Boxed.frozen hM.box
    have e1 := endp_snoc 0 pre x
    have HE := Lib.hid e1
    clear e1
    generalize hz : x.k + (8 + x.c.length) = z at *
    replace hz := Lib.hid hz
    gi_wp2
    rw [← HE.out]
    refine ⟨KeepsOthers.from (KeepsOthers.setCell _ _ _) _, ⟨by simp [World.setCell], fun k hk => Below.heap_setCell _ _ _ _ (hB6 k hk)⟩, hM.box.set _, hM.bel.setCell (p := ⟨w.heap.size, 0, none⟩) (Nat.le_refl _) _, by simpa [World.setCell] using hM.siz⟩
  case done =>
    rintro D ys W hD ⟨hys, hrow⟩ hM hK
    have hD' : w.heap.size + 2 ≤ D := by simpa using hD
    have hep := Row.endp 0 ys hrow
    rw [hys, Nat.zero_add] at hep
    have c1 := Boxed.cell hM.box
    rw [hep] at c1
    have hL1 := fun w1 (h : Below w.heap.size w w1) => hlk w1 (hv.kept (Same.of_below h hF)) (fun k hk => Nat.lt_of_lt_of_le (hF k hk) h.size) (hv_later hH h) hlen htot
    have hbel := hM.bel
    generalize tot L = T at *
    have HL := Lib.hid hL1
    have HC := Lib.hid hce
    clear hlk hL1 hce hep hM h00 hst
    by_cases hT : T = b.length
    · have hC0 : C = 0 := by rw [HC.out, if_pos hT]
      subst hC0
      have hT2 : ((T : Int) == (b.length : Int)) = true := by simp; omega
      replace hT := Lib.hid hT
      simp only [Exit.inBlock, Exit.then]
      go_at_K
      gi_wp2
      refine ⟨by simp, .inl ⟨_, _, rfl, run_takeDeferred hK, ?_⟩⟩
      exact ⟨.int .i64 0, by simp [results, Tryd.results25, go_sem], rfl, hbel.grown (grownBy_putObj' W D _) hbel.size (fun k e => by cases e; omega)⟩
    · have hC0 : C = restE (b.drop T) := by rw [HC.out, if_neg hT]
      have hT2 : ((T : Int) == (b.length : Int)) = false := by simp; omega
      replace hT := Lib.hid hT
      unfold LookK LookE LookR at HL
      rw [← hC0] at HL
      clear hC0
      simp only [Exit.inBlock, Exit.then]
      go_at_K
      gi_wp2_with (first
        | (refine ⟨trivial, ?_⟩; gi_at_call 32; refine (callsIn_wide.2 (HL.out _ hbel)).mono ?_; rintro e w1 ⟨u, rfl, hu, hb1⟩; obtain ⟨_, a', cap', rfl, _⟩ := hu))
      refine ⟨by simp, .inl ⟨_, _, rfl, run_takeDeferred ((hb1.block D (Array.getElem?_eq_some_iff.1 hK).1).trans hK |> fun h => (Below.heap_alloc w1 _ D (Array.getElem?_eq_some_iff.1 h).1).trans h), ?_⟩⟩
      refine ⟨.int .i64 (C : Nat), by simp [results, Tryd.results25, go_sem], rfl, ?_⟩
      exact (hbel.trans ((hb1.trans (((Below.refl w1.heap.size w1).alloc (Nat.le_refl _) _).mono hb1.size)).mono hbel.size)).grown (grownBy_putObj' _ D _) (by have := hb1.size; have := hbel.size; simp; omega) (fun k e => by cases e; omega)
  case stop =>
    rintro D c pre W _ _ h _
    exact h.elim
end Go.Proofs.YtbedkblanefboaaDoor.Frame
