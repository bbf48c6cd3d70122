/- The walk of NumTotal: two lists that grow side by side. -/
import Derived.Test.YtkphkjcpbnnpfaaC17
import Derived.StillTailTactics
import Derived.Deep.RegionWith
import Derived.Deep.AppendLies
namespace Go.Proofs.Ytkphkjcpbnnpfaa.Num
open Go.RowKit Go.ChangeShapes
set_option linter.unusedVariables false

theorem own_later {w w' : World} {base n : Nat} {e : TypeId} {v : Value} {xs : List Value} (h : w.ownsRow base e 1 v n xs) (hb : Below w.heap.size w w') : w'.ownsRow base e 1 v n xs := by
  refine ⟨h.1, ?_⟩
  rcases h.2 with hn | ⟨g, cap, cur, rfl, hbg, hg, rest⟩
  · exact .inl hn
  · exact .inr ⟨g, cap, cur, rfl, hbg, by rw [hb.block g (Array.getElem?_eq_some_iff.1 hg).1]; exact hg, rest⟩
theorem own_lt {w : World} {base n : Nat} {e : TypeId} {v : Value} {xs : List Value} (h : w.ownsRow base e 1 v n xs) : ∀ g, v.ownBlock = some g → g < w.heap.size := by
  intro k hk
  rcases h.2 with ⟨rfl, _⟩ | ⟨g, cap, cur, rfl, hbg, hg, rest⟩
  · cases hk
  · have : g = k := by simpa [Value.ownBlock] using hk
    subst this
    exact (Array.getElem?_eq_some_iff.1 hg).1
/-- The two lists lie in different blocks. -/
def Apart (v1 v2 : Value) : Prop := v1.ownBlock = none ∨ v1.ownBlock ≠ v2.ownBlock
/-- What is known of the two lists: the first i numbers of A, the first j of B. -/
structure NAt (w : World) (A B : List Int) (i j : Nat) (v1 v2 : Value) (wr : World) : Prop where
  own1 : wr.ownsRow w.heap.size 2 1 v1 i (ints (A.take i))
  own2 : wr.ownsRow w.heap.size 2 1 v2 j (ints (B.take j))
  apart : Apart v1 v2
  bel : Below w.heap.size w wr
theorem NAt.later {w wr w1 : World} {A B : List Int} {i j : Nat} {v1 v2 : Value} (h : NAt w A B i j v1 v2 wr) (hb : Below wr.heap.size wr w1) : NAt w A B i j v1 v2 w1 :=
  ⟨own_later h.own1 hb, own_later h.own2 hb, h.apart, h.bel.trans (hb.mono h.bel.size)⟩
theorem NAt.fst {w wr w1 : World} {A B : List Int} {i j : Nat} {v1 v2 v' : Value} (h : NAt w A B i j v1 v2 wr) (ho : w1.ownsRow w.heap.size 2 1 v' (i + 1) (ints (A.take (i + 1)))) (hg : wr.grownBy w1 v1.ownBlock)
    (hl : v'.ownBlock = v1.ownBlock ∨ v'.ownBlock = some wr.heap.size) : NAt w A B (i + 1) j v' v2 w1 := by
  refine ⟨ho, ?_, ?_, h.bel.grown hg h.bel.size (own_ge h.own1)⟩
  · refine h.own2.kept hg ?_
    cases h2 : v2.ownBlock with
    | none => exact .inl rfl
    | some g2 =>
      right
      rcases h.apart with h1 | h1
      · rw [h1]; exact fun e => by cases e
      · rw [← h2]; exact fun e => h1 e.symm
  · rcases hl with hl | hl
    · unfold Apart; rw [hl]; exact h.apart
    · right
      rw [hl]
      intro e
      exact absurd (own_lt h.own2 _ e.symm) (Nat.lt_irrefl _)
theorem NAt.snd {w wr w1 : World} {A B : List Int} {i j : Nat} {v1 v2 v' : Value} (h : NAt w A B i j v1 v2 wr) (ho : w1.ownsRow w.heap.size 2 1 v' (j + 1) (ints (B.take (j + 1)))) (hg : wr.grownBy w1 v2.ownBlock)
    (hl : v'.ownBlock = v2.ownBlock ∨ v'.ownBlock = some wr.heap.size) : NAt w A B i (j + 1) v1 v' w1 := by
  refine ⟨?_, ho, ?_, h.bel.grown hg h.bel.size (own_ge h.own2)⟩
  · exact h.own1.kept hg h.apart
  · rcases hl with hl | hl
    · unfold Apart; rw [hl]; exact h.apart
    · cases h1 : v1.ownBlock with
      | none => exact .inl h1
      | some g1 =>
        right
        rw [hl, h1]
        intro e
        have e2 : g1 = wr.heap.size := by injection e
        have := own_lt h.own1 _ h1
        omega
theorem take_one {A : List Int} {k : Nat} (h : k < A.length) : A.take k ++ [A.getD k 0] = A.take (k + 1) := by
  rw [List.take_succ_eq_append_getElem h, List.getD_eq_getElem?_getD, List.getElem?_eq_getElem h]
  rfl
theorem il_new (w : World) (x : Int) : IsList (w.alloc (.cells #[.int .i64 x] 2)) (.slice (some ⟨w.heap.size, 0, none⟩) 1 1) [x] :=
  blk_list (l := [x]) (heap_alloc_new w _) rfl
theorem min2n (a n : Nat) (h : min a 500 = n) (ts : Array TypeId) (t : TypeId) (w : World) :
    (Builtin.min_ ts t #[.int .i64 a, .int .i64 500]).run Try.prog w = .ok (.int .i64 n) w := by
  have e : (if (500 : Int) < (a : Int) then (500 : Int) else (a : Int)) = (n : Int) := by split <;> omega
  have h3 := run_min_int2 (P := Try.prog) w ts t .i64 .i64 a 500
  rw [h3, e]

/-- What is known when both lists are whole. -/
structure ZAt (w : World) (A B : List Int) (g1 cp1 k : Nat) (v2 : Value) (W : World) : Prop where
  own1 : W.ownsRow w.heap.size 2 1 (.slice (some ⟨g1, 0, none⟩) k cp1) k (ints A)
  own2 : W.ownsRow w.heap.size 2 1 v2 k (ints B)
  apart : Apart (.slice (some ⟨g1, 0, none⟩) k cp1) v2
  bel : Below w.heap.size w W
  lenA : A.length = k
  lenB : B.length = k
theorem ZAt.later {w W W1 : World} {A B : List Int} {g1 cp1 k : Nat} {v2 : Value} (h : ZAt w A B g1 cp1 k v2 W) (hb : Below W.heap.size W W1) : ZAt w A B g1 cp1 k v2 W1 :=
  ⟨own_later h.own1 hb, own_later h.own2 hb, h.apart, h.bel.trans (hb.mono h.bel.size), h.lenA, h.lenB⟩
theorem ZAt.alloc {w W : World} {A B : List Int} {g1 cp1 k : Nat} {v2 : Value} (h : ZAt w A B g1 cp1 k v2 W) (o : Obj) : ZAt w A B g1 cp1 k v2 (W.alloc o) := h.later ((Below.refl _ _).alloc (Nat.le_refl _) _)
theorem ZAt.cell {w W : World} {A B : List Int} {g1 cp1 k : Nat} {v2 : Value} (h : ZAt w A B g1 cp1 k v2 W) (i : Nat) (hi : i < k) : W.cell? ⟨g1, i, none⟩ = some (.int .i64 (A.getD i 0)) := by
  rw [h.own1.cellAt i (by omega)]
  have := h.lenA
  simp [ints, List.getElem?_map, List.getElem?_eq_getElem (show i < A.length by omega), List.getD_eq_getElem?_getD]
theorem ZAt.all {w W : World} {A B : List Int} {g1 cp1 k : Nat} {v2 : Value} (h : ZAt w A B g1 cp1 k v2 W) : IsList W (.slice (some ⟨g1, 0, none⟩) k cp1) A := by
  refine ⟨_, cp1, by rw [h.lenA], fun _ => ⟨g1, 0, rfl, fun i hi => ?_⟩⟩
  rw [Nat.zero_add]
  exact h.cell i (by rw [← h.lenA]; exact hi)
theorem ZAt.opp {w W : World} {A B : List Int} {g1 cp1 k : Nat} {v2 : Value} (h : ZAt w A B g1 cp1 k v2 W) : IsList W v2 B := by
  have := h.own2
  rw [← h.lenB] at this
  exact own_list this
theorem ZAt.low {w W : World} {A B : List Int} {g1 cp1 k : Nat} {v2 : Value} (h : ZAt w A B g1 cp1 k v2 W) (p : Nat) (hp : p ≤ k) : IsList W (.slice (some ⟨g1, 0, none⟩) p cp1) (A.take p) := by
  have hl : (A.take p).length = p := by rw [List.length_take, h.lenA]; omega
  refine ⟨_, cp1, by rw [hl], fun _ => ⟨g1, 0, rfl, fun i hi => ?_⟩⟩
  rw [hl] at hi
  rw [Nat.zero_add, h.cell i (by omega)]
  simp [List.getD_eq_getElem?_getD, hi]
theorem ZAt.high {w W : World} {A B : List Int} {g1 cp1 k : Nat} {v2 : Value} (h : ZAt w A B g1 cp1 k v2 W) (p c : Nat) (hp : p ≤ k) (hk : k ≤ cp1) (X : Addr) (hX : X = if cp1 = p then ⟨g1, 0, none⟩ else ⟨g1, p, none⟩) : IsList W (.slice (some X) (k - p) c) (A.drop p) := by
  have hl : (A.drop p).length = k - p := by rw [List.length_drop, h.lenA]
  refine ⟨_, c, by rw [hl], fun hpos => ?_⟩
  rw [hl] at hpos
  rw [if_neg (by omega)] at hX
  subst hX
  refine ⟨g1, p, rfl, fun i hi => ?_⟩
  rw [hl] at hi
  rw [h.cell (p + i) (by omega)]
  simp [List.getD_eq_getElem?_getD, List.getElem?_drop]
theorem ZAt.turn {w W W1 : World} {A B : List Int} {g1 cp1 k : Nat} {v2 : Value} (h : ZAt w A B g1 cp1 k v2 W) (ho : W1.ownsRow w.heap.size 2 1 v2 B.length (ints B.reverse)) (hg : W.grownBy W1 v2.ownBlock) : ZAt w A B.reverse g1 cp1 k v2 W1 :=
  ⟨h.own1.kept hg h.apart, by rw [← h.lenB]; exact ho, h.apart, h.bel.grown hg h.bel.size (own_ge h.own2), h.lenA, by rw [List.length_reverse]; exact h.lenB⟩
theorem sum_ok (l : List Int) (hok : ∀ z ∈ l, Ok z) (hn : l.length ≤ 10000) (hS : Ok l.sum) (v : Value) (w : World) (h : IsList w v l) :
    Calls Try.prog 24 #[v] w fun r w' => r = .returned (.tuple #[.int .i64 l.sum, .int .i64 0]) ∧ Below w.heap.size w w' := by
  have := sum_to v l l.sum w h hok hn rfl
  rw [okB_t hS] at this
  exact this
theorem sum_bad (l : List Int) (hok : ∀ z ∈ l, Ok z) (hn : l.length ≤ 10000) (hS : ¬ Ok l.sum) (v : Value) (w : World) (h : IsList w v l) :
    Calls Try.prog 24 #[v] w fun r w' => r = .returned (.tuple #[.int .i64 0, .int .i64 7]) ∧ Below w.heap.size w w' := by
  have := sum_to v l l.sum w h hok hn rfl
  rw [okB_f hS] at this
  exact this
theorem sum_none_ (l : List Int) (hok : ∀ z ∈ l, Ok z) (hn : l.length ≤ 10000) (hS : l.sum = 0) (v : Value) (w : World) (h : IsList w v l) :
    Calls Try.prog 24 #[v] w fun r w' => r = .returned (.tuple #[.int .i64 0, .int .i64 0]) ∧ Below w.heap.size w w' := by
  have := sum_to v l 0 w h hok hn hS
  rw [okB_t (show Ok 0 by unfold Ok; omega)] at this
  exact this
theorem add_is (a b S : Int) (hS : a + b = S) (ha : Ok a) (hb : Ok b) (w : World) :
    Calls Try.prog 13 #[.int .i64 a, .int .i64 b] w fun e w' => e = .returned (.tuple #[.int .i64 (vl (okB S) S), .int .i64 (er (okB S))]) ∧ Below w.heap.size w w' := by
  subst hS
  have := add_any a b w
  have e : addB a b = okB (a + b) := by unfold addB; rw [okB_t ha, okB_t hb]; rfl
  rw [e] at this
  exact this
theorem sum_neg (A : List Int) : (A.map fun x => -x).sum = -A.sum := by
  induction A with
  | nil => rfl
  | cons a A ih => rw [List.map_cons, List.sum_cons, List.sum_cons, ih]; omega
theorem sum_rev (A : List Int) : A.reverse.sum = A.sum := by
  induction A with
  | nil => rfl
  | cons a A ih => rw [List.reverse_cons, List.sum_append, ih, List.sum_cons]; simp; omega
set_option maxHeartbeats 4000000 in
theorem total_pos (b o cap : Nat) (zs : List Int) (t n : Nat) (w : World) (h0 : IsList w (.slice (some ⟨b, o, none⟩) zs.length cap) zs) (hz : ∀ i, i < zs.length → I64 (zs.getD i 0)) (hcap : zs.length ≤ cap)
    (hn : min zs.length 500 = n) (hn0 : 0 < n) (ht : t < 65536) :
    Calls Try.prog 9 #[.slice (some ⟨b, o, none⟩) zs.length cap, .int .u16 t] w fun e w' => e = .returned (.bool true) ∧ Below w.heap.size w w' := by
  have hmin := min2n _ _ hn
  have hnl : n ≤ zs.length := by omega
  have hn5 : n ≤ 500 := by omega
  have q0 : (n : Int) ≤ (cap : Int) := by omega
  clear hn
  obtain ⟨A, hA⟩ : ∃ A, (zs.take n).map cutV = A := ⟨_, rfl⟩
  obtain ⟨B, hB⟩ : ∃ B, A.map (fun x => -x) = B := ⟨_, rfl⟩
  have hAl : A.length = n := by rw [← hA]; simp; omega
  have hBl : B.length = n := by rw [← hB, List.length_map, hAl]
  have hAk : ∀ k, k < n → A.getD k 0 = cutV (zs.getD k 0) := by
    intro k hk
    rw [← hA]
    simp [List.getD_eq_getElem?_getD, List.getElem?_map, hk, List.getElem?_eq_getElem (show k < zs.length by omega)]
  have hBk : ∀ k, k < n → B.getD k 0 = -cutV (zs.getD k 0) := by
    intro k hk
    rw [← hB, List.getD_eq_getElem?_getD, List.getElem?_map, List.getElem?_eq_getElem (by omega)]
    have := hAk k hk
    rw [List.getD_eq_getElem?_getD, List.getElem?_eq_getElem (by omega)] at this
    simpa using this
  have HA := Lib.hid hA
  have HB := Lib.hid hB
  have HAl := Lib.hid hAl
  have HBl := Lib.hid hBl
  have HAk := Lib.hid hAk
  have HBk := Lib.hid hBk
  have Hz := Lib.hid hz
  clear hA hB hAl hBl hAk hBk hz
  go_enter Try.func9, Try.ntmps9
  go_wp2
  clear hmin
  go_loopw [5, 6, 28] (fun v1 v2 i wr => ∃ k : Nat, k ≤ n ∧ i = .int .i64 k ∧ NAt w A B k k v1 v2 wr) (fun _ _ i _ => n - (intOf i).toNat)
  case atStart => exact ⟨0, Nat.zero_le _, rfl, ⟨⟨rfl, .inl ⟨rfl, rfl⟩⟩, ⟨rfl, .inl ⟨rfl, rfl⟩⟩, .inl rfl, Below.refl _ _⟩⟩
  case round =>
    obtain ⟨k, hk, rfl, hm⟩ := hrel
    by_cases hlt : k < n
    · have hc : wr.cell? ⟨b, o + k, none⟩ = some (.int .i64 (zs.getD k 0)) := by
        obtain ⟨a', cap', hv, hc⟩ := h0.later hm.bel
        injection hv with e1
        subst e1
        obtain ⟨b', off', e, hcell⟩ := hc (by omega)
        cases e
        exact hcell k (by omega)
      have hi := Hz.out k (by omega)
      have hak := HAk.out k hlt
      have hbk := HBk.out k hlt
      generalize zs.getD k 0 = x at *
      have hok := cutV_ok x
      have hcut := cut_any x
      generalize cutV x = y at *
      have t1 := take_one (A := A) (k := k) (by rw [HAl.out]; exact hlt)
      have t2 := take_one (A := B) (k := k) (by rw [HBl.out]; exact hlt)
      rw [hak] at t1
      rw [hbk] at t2
      have T1 := Lib.hid t1
      have T2 := Lib.hid t2
      have HM := Lib.hid hm
      have HC := Lib.hid hcut
      have HI := Lib.hid hi
      unfold Ok at hok
      clear t1 t2 hm hcut hi hak hbk
      have HM1 := Lib.hid (HM.out.later ((Below.refl wr.heap.size wr).alloc (Nat.le_refl _) (.cells #[.int .i64 y] 2)))
      go_wp2_with (first
        | (go_at_call 35; refine (HC.out _ HI.out).mono ?_; rintro e w' ⟨rfl, rfl⟩)
        | (at_builtin; refine il_append rfl (.tmp 32) (.tmp 35) rfl w.heap.size u5 k (A.take k) rfl HM1.out.own1 _ 1 1 [y] rfl (il_new _ _) (by omega) HM1.out.bel.size ?_; intro v1 w2 ho1 hg1 hl1; have HM2 := Lib.hid ((HM1.out.fst (by rw [← T1.out]; exact ho1) hg1 hl1).later ((Below.refl w2.heap.size w2).alloc (Nat.le_refl _) (.cells #[.int .i64 (-y)] 2))); clear ho1 hg1 hl1)
        | (at_builtin; refine il_append rfl (.tmp 37) (.tmp 41) rfl w.heap.size u6 k (B.take k) rfl HM2.out.own2 _ 1 1 [-y] rfl (il_new _ _) (by omega) HM2.out.bel.size ?_; intro v2 w3 ho2 hg2 hl2; have HM3 := Lib.hid (HM2.out.snd (by rw [← T2.out]; exact ho2) hg2 hl2); clear ho2 hg2 hl2))
      go_roundw
      case rel => exact ⟨k + 1, by omega, by go_num, HM3.out⟩
      case measure => simp [intOf]; omega
    · obtain rfl : k = n := by omega
      obtain ⟨p, hp, hp2⟩ : ∃ p : Nat, (t : Int) % ((k : Int) + 1) = (p : Int) ∧ p ≤ k := ⟨t % (k + 1), by rw [Int.natCast_emod, Int.natCast_add]; rfl, by have := Nat.mod_lt t (show 0 < k + 1 by omega); omega⟩
      have eA : A.take k = A := List.take_of_length_le (by rw [HAl.out]; omega)
      have eB : B.take k = B := List.take_of_length_le (by rw [HBl.out]; omega)
      have own1 := hm.own1
      have own2 := hm.own2
      rw [eA] at own1
      rw [eB] at own2
      obtain ⟨g1, cp1, hv1, _, _⟩ := World.ownsRow.form own1 hn0
      subst hv1
      obtain ⟨g2, cp2, hv2, _, _⟩ := World.ownsRow.form own2 hn0
      subst hv2
      have hkc : k ≤ cp1 := by
        rcases own1.2 with ⟨h, _⟩ | ⟨_, _, _, hv, _, _, h, _⟩
        · cases h
        · injection hv with _ _ e3
          omega
      have HZ := Lib.hid (ZAt.mk own1 own2 hm.apart hm.bel HAl.out HBl.out)
      have okA : Hid (∀ z ∈ A, Ok z) := by
        show ∀ z ∈ A, Ok z
        rw [← HA.out]
        intro z hz
        obtain ⟨x, _, rfl⟩ := List.mem_map.1 hz
        exact cutV_ok x
      clear hm own1 own2 eA eB
      have q1 : (p : Int) ≤ (k : Int) := by omega
      have q2 : (p : Int) ≤ (cp1 : Int) := by omega
      have q3 : (k : Int) ≤ (cp1 : Int) := by omega
      have hS : (A.take p).sum + (A.drop p).sum = A.sum := by rw [← List.sum_append, List.take_append_drop]
      have okB' : Hid (∀ z ∈ B, Ok z) := by
        show ∀ z ∈ B, Ok z
        rw [← HB.out]
        intro z hz
        obtain ⟨x, hx, rfl⟩ := List.mem_map.1 hz
        have := okA.out x hx
        unfold Ok at *
        omega
      have S1 := Lib.hid (fun v w h => sum_to v A A.sum w h okA.out (by rw [HAl.out]; omega) rfl)
      have S2 := Lib.hid (fun v w h => sum_to v (A.drop p ++ A.take p) A.sum w h (fun z hz => okA.out z ((List.mem_append.1 hz).elim List.mem_of_mem_drop List.mem_of_mem_take)) (by rw [List.length_append, List.length_drop, List.length_take, HAl.out]; omega) (by rw [List.sum_append]; omega))
      have S3 := Lib.hid (sum_none_ (A ++ B.reverse) (fun z hz => (List.mem_append.1 hz).elim (okA.out z) (fun h => okB'.out z (List.mem_reverse.1 h))) (by rw [List.length_append, List.length_reverse, HAl.out, HBl.out]; omega) (by rw [List.sum_append, sum_rev, ← HB.out, sum_neg]; omega))
      have okL : ∀ z ∈ A.take p, Ok z := fun z hz => okA.out z (List.mem_of_mem_take hz)
      have okH : ∀ z ∈ A.drop p, Ok z := fun z hz => okA.out z (List.mem_of_mem_drop hz)
      have lenL : (A.take p).length ≤ 1000 := by rw [List.length_take, HAl.out]; omega
      have lenH : (A.drop p).length ≤ 1000 := by rw [List.length_drop, HAl.out]; omega
      have KL : Hid (Ok (A.take p).sum → ∀ (v : Value) (w : World), IsList w v (A.take p) → Calls Try.prog 24 #[v] w fun r w' => r = .returned (.tuple #[.int .i64 (A.take p).sum, .int .i64 0]) ∧ Below w.heap.size w w') := fun h => sum_ok _ okL (by omega) h
      have NL : Hid (¬ Ok (A.take p).sum → ∀ (v : Value) (w : World), IsList w v (A.take p) → Calls Try.prog 24 #[v] w fun r w' => r = .returned (.tuple #[.int .i64 0, .int .i64 7]) ∧ Below w.heap.size w w') := fun h => sum_bad _ okL (by omega) h
      have KH : Hid (Ok (A.drop p).sum → ∀ (v : Value) (w : World), IsList w v (A.drop p) → Calls Try.prog 24 #[v] w fun r w' => r = .returned (.tuple #[.int .i64 (A.drop p).sum, .int .i64 0]) ∧ Below w.heap.size w w') := fun h => sum_ok _ okH (by omega) h
      have NH : Hid (¬ Ok (A.drop p).sum → ∀ (v : Value) (w : World), IsList w v (A.drop p) → Calls Try.prog 24 #[v] w fun r w' => r = .returned (.tuple #[.int .i64 0, .int .i64 7]) ∧ Below w.heap.size w w') := fun h => sum_bad _ okH (by omega) h
      have ADD := Lib.hid (add_is _ _ _ hS)
      clear okL okH hS
      have HHI : Hid (∀ (W : World) (C : Nat) (X : Addr), ZAt w A B g1 cp1 k (.slice (some ⟨g2, 0, none⟩) k cp2) W → (X = if cp1 = p then ⟨g1, 0, none⟩ else ⟨g1, p, none⟩) → IsList W (.slice (some X) (k - p) C) (A.drop p)) := fun W C X h hX => h.high p C hp2 hkc X hX
      have lenB1 : B.reverse.length ≤ 1000 := by rw [List.length_reverse, HBl.out]; omega
      have lenA1 : A.length ≤ 1000 := by rw [HAl.out]; omega
      have HHR : Hid (∀ (W : World) (C : Nat) (X : Addr), ZAt w A B.reverse g1 cp1 k (.slice (some ⟨g2, 0, none⟩) k cp2) W → (X = if cp1 = p then ⟨g1, 0, none⟩ else ⟨g1, p, none⟩) → IsList W (.slice (some X) (k - p) C) (A.drop p)) := fun W C X h hX => h.high p C hp2 hkc X hX
      go_wp2_with fail
      rw [hp]
      refine (S1.out _ _ HZ.out.all).mono ?_
      rintro e w1 ⟨rfl, hb1⟩
      have HZ := Lib.hid (HZ.out.later hb1)
      go_wp2_with fail
      generalize vl (okB A.sum) A.sum = sv at *
      generalize er (okB A.sum) = se at *
      generalize (A.take p).sum = sa at *
      generalize (A.drop p).sum = sb at *
      by_cases hcp : cp1 = p
      · subst hcp
        have hk0 : k - cp1 = 0 := by omega
        rw [hk0] at HHI HHR
        clear hk0
        have HW := Lib.hid (HZ.out.later (((Below.refl w1.heap.size w1).alloc (Nat.le_refl _) (.cells #[.slice (some ⟨g1, 0, none⟩) 0 0, .slice (some ⟨g1, 0, none⟩) cp1 cp1] 28)).drew))
        go_region_with (first
          | (go_at_call 36; refine (concat_two w1.heap.size 2 (.slice (some ⟨g1, 0, none⟩) 0 0) (.slice (some ⟨g1, 0, none⟩) cp1 cp1) (A.drop cp1) (A.take cp1) _ (by simp [go_sem]) (by simp [go_sem]) (HHI.out _ _ _ HW.out (by first | rw [if_pos rfl] | simp)) (HW.out.low cp1 hp2) lenH lenL).mono ?_; rintro e w3 ⟨v3, rfl, hown3, hb3⟩; have HZ := Lib.hid (HW.out.later hb3); have L3 := own_list hown3; clear hown3 HW)
          | (go_at_call 24; refine (S2.out _ _ L3).mono ?_; rintro e w4 ⟨rfl, hb4⟩; have HZ := Lib.hid (HZ.out.later hb4); clear L3))
        simp only [List.getElem_toArray, List.getElem_cons_succ, List.getElem_cons_zero]
        go_frame
        go_wp2_with fail
        have o2 : w4.ownsRow w.heap.size 2 1 (.slice (some ⟨g2, 0, none⟩) k cp2) B.length (ints B) := by rw [HZ.out.lenB]; exact HZ.out.own2
        refine (rev_any w.heap.size (.slice (some ⟨g2, 0, none⟩) k cp2) B _ o2 (by rw [HBl.out]; omega)).mono ?_
        rintro e w5 ⟨rfl, ho5, hg5⟩
        have HZ := Lib.hid (HZ.out.turn ho5 hg5)
        clear o2 ho5 hg5
        go_wp2_with fail
        have HW := Lib.hid (HZ.out.alloc (.cells #[.slice (some ⟨g1, 0, none⟩) k cp1, .slice (some ⟨g2, 0, none⟩) k cp2] 28))
        refine (concat_two w5.heap.size 2 (.slice (some ⟨g1, 0, none⟩) k cp1) (.slice (some ⟨g2, 0, none⟩) k cp2) A B.reverse _ (by simp [go_sem]) (by simp [go_sem]) HW.out.all HW.out.opp lenA1 lenB1).mono ?_
        rintro e w6 ⟨v6, rfl, hown6, hb6⟩
        have HZ := Lib.hid (HW.out.later hb6)
        have L6 := own_list hown6
        clear hown6 HW
        go_wp2_with fail
        refine (S3.out _ _ L6).mono ?_
        rintro e w7 ⟨rfl, hb7⟩
        have HZ := Lib.hid (HZ.out.later hb7)
        clear L6
        go_wp2_with fail
        by_cases oa : Ok sa
        · refine (KL.out oa _ _ (HZ.out.low cp1 hp2)).mono ?_
          rintro e w8 ⟨rfl, hb8⟩
          have HZ := Lib.hid (HZ.out.later hb8)
          go_wp2_with fail
          by_cases ob : Ok sb
          · refine (KH.out ob _ _ (HHR.out _ _ _ HZ.out (by first | rw [if_pos rfl] | simp))).mono ?_
            rintro e w9 ⟨rfl, hb9⟩
            have HZ := Lib.hid (HZ.out.later hb9)
            have OA := Lib.hid oa
            have OB := Lib.hid ob
            clear oa ob
            go_wp2_with (first
              | (go_at_call 13; refine (ADD.out OA.out OB.out _).mono ?_; rintro e w10 ⟨rfl, hb10⟩; have HZ := Lib.hid (HZ.out.later hb10))
              | (go_at_call 21; refine (works_any _).mono ?_; rintro e w11 ⟨rfl, hb11⟩; have HZ := Lib.hid (HZ.out.later hb11)))
            go_ret
            exact ⟨rfl, HZ.out.bel⟩
          · refine (NH.out ob _ _ (HHR.out _ _ _ HZ.out (by first | rw [if_pos rfl] | simp))).mono ?_
            rintro e w9 ⟨rfl, hb9⟩
            have HZ := Lib.hid (HZ.out.later hb9)
            clear oa ob
            go_wp2_with (go_at_call 21; refine (works_any _).mono ?_; rintro e w11 ⟨rfl, hb11⟩; have HZ := Lib.hid (HZ.out.later hb11))
            go_ret
            exact ⟨rfl, HZ.out.bel⟩
        · refine (NL.out oa _ _ (HZ.out.low cp1 hp2)).mono ?_
          rintro e w8 ⟨rfl, hb8⟩
          have HZ := Lib.hid (HZ.out.later hb8)
          go_wp2_with fail
          by_cases ob : Ok sb
          · refine (KH.out ob _ _ (HHR.out _ _ _ HZ.out (by first | rw [if_pos rfl] | simp))).mono ?_
            rintro e w9 ⟨rfl, hb9⟩
            have HZ := Lib.hid (HZ.out.later hb9)
            clear oa ob
            go_wp2_with (go_at_call 21; refine (works_any _).mono ?_; rintro e w11 ⟨rfl, hb11⟩; have HZ := Lib.hid (HZ.out.later hb11))
            go_ret
            exact ⟨rfl, HZ.out.bel⟩
          · refine (NH.out ob _ _ (HHR.out _ _ _ HZ.out (by first | rw [if_pos rfl] | simp))).mono ?_
            rintro e w9 ⟨rfl, hb9⟩
            have HZ := Lib.hid (HZ.out.later hb9)
            clear oa ob
            go_wp2_with (go_at_call 21; refine (works_any _).mono ?_; rintro e w11 ⟨rfl, hb11⟩; have HZ := Lib.hid (HZ.out.later hb11))
            go_ret
            exact ⟨rfl, HZ.out.bel⟩
      · have HW := Lib.hid (HZ.out.later (((Below.refl w1.heap.size w1).alloc (Nat.le_refl _) (.cells #[.slice (some ⟨g1, p, none⟩) (k - p) (cp1 - p), .slice (some ⟨g1, 0, none⟩) p cp1] 28)).drew))
        go_region_with (first
          | (go_at_call 36; refine (concat_two w1.heap.size 2 (.slice (some ⟨g1, p, none⟩) (k - p) (cp1 - p)) (.slice (some ⟨g1, 0, none⟩) p cp1) (A.drop p) (A.take p) _ (by simp [go_sem]) (by simp [go_sem]) (HHI.out _ _ _ HW.out (by rw [if_neg hcp])) (HW.out.low p hp2) lenH lenL).mono ?_; rintro e w3 ⟨v3, rfl, hown3, hb3⟩; have HZ := Lib.hid (HW.out.later hb3); have L3 := own_list hown3; clear hown3 HW)
          | (go_at_call 24; refine (S2.out _ _ L3).mono ?_; rintro e w4 ⟨rfl, hb4⟩; have HZ := Lib.hid (HZ.out.later hb4); clear L3))
        simp only [List.getElem_toArray, List.getElem_cons_succ, List.getElem_cons_zero]
        go_frame
        go_wp2_with fail
        have o2 : w4.ownsRow w.heap.size 2 1 (.slice (some ⟨g2, 0, none⟩) k cp2) B.length (ints B) := by rw [HZ.out.lenB]; exact HZ.out.own2
        refine (rev_any w.heap.size (.slice (some ⟨g2, 0, none⟩) k cp2) B _ o2 (by rw [HBl.out]; omega)).mono ?_
        rintro e w5 ⟨rfl, ho5, hg5⟩
        have HZ := Lib.hid (HZ.out.turn ho5 hg5)
        clear o2 ho5 hg5
        go_wp2_with fail
        have HW := Lib.hid (HZ.out.alloc (.cells #[.slice (some ⟨g1, 0, none⟩) k cp1, .slice (some ⟨g2, 0, none⟩) k cp2] 28))
        refine (concat_two w5.heap.size 2 (.slice (some ⟨g1, 0, none⟩) k cp1) (.slice (some ⟨g2, 0, none⟩) k cp2) A B.reverse _ (by simp [go_sem]) (by simp [go_sem]) HW.out.all HW.out.opp lenA1 lenB1).mono ?_
        rintro e w6 ⟨v6, rfl, hown6, hb6⟩
        have HZ := Lib.hid (HW.out.later hb6)
        have L6 := own_list hown6
        clear hown6 HW
        go_wp2_with fail
        refine (S3.out _ _ L6).mono ?_
        rintro e w7 ⟨rfl, hb7⟩
        have HZ := Lib.hid (HZ.out.later hb7)
        clear L6
        go_wp2_with fail
        by_cases oa : Ok sa
        · refine (KL.out oa _ _ (HZ.out.low p hp2)).mono ?_
          rintro e w8 ⟨rfl, hb8⟩
          have HZ := Lib.hid (HZ.out.later hb8)
          go_wp2_with fail
          by_cases ob : Ok sb
          · refine (KH.out ob _ _ (HHR.out _ _ _ HZ.out (by rw [if_neg hcp]))).mono ?_
            rintro e w9 ⟨rfl, hb9⟩
            have HZ := Lib.hid (HZ.out.later hb9)
            have OA := Lib.hid oa
            have OB := Lib.hid ob
            clear oa ob
            go_wp2_with (first
              | (go_at_call 13; refine (ADD.out OA.out OB.out _).mono ?_; rintro e w10 ⟨rfl, hb10⟩; have HZ := Lib.hid (HZ.out.later hb10))
              | (go_at_call 21; refine (works_any _).mono ?_; rintro e w11 ⟨rfl, hb11⟩; have HZ := Lib.hid (HZ.out.later hb11)))
            go_ret
            exact ⟨rfl, HZ.out.bel⟩
          · refine (NH.out ob _ _ (HHR.out _ _ _ HZ.out (by rw [if_neg hcp]))).mono ?_
            rintro e w9 ⟨rfl, hb9⟩
            have HZ := Lib.hid (HZ.out.later hb9)
            clear oa ob
            go_wp2_with (go_at_call 21; refine (works_any _).mono ?_; rintro e w11 ⟨rfl, hb11⟩; have HZ := Lib.hid (HZ.out.later hb11))
            go_ret
            exact ⟨rfl, HZ.out.bel⟩
        · refine (NL.out oa _ _ (HZ.out.low p hp2)).mono ?_
          rintro e w8 ⟨rfl, hb8⟩
          have HZ := Lib.hid (HZ.out.later hb8)
          go_wp2_with fail
          by_cases ob : Ok sb
          · refine (KH.out ob _ _ (HHR.out _ _ _ HZ.out (by rw [if_neg hcp]))).mono ?_
            rintro e w9 ⟨rfl, hb9⟩
            have HZ := Lib.hid (HZ.out.later hb9)
            clear oa ob
            go_wp2_with (go_at_call 21; refine (works_any _).mono ?_; rintro e w11 ⟨rfl, hb11⟩; have HZ := Lib.hid (HZ.out.later hb11))
            go_ret
            exact ⟨rfl, HZ.out.bel⟩
          · refine (NH.out ob _ _ (HHR.out _ _ _ HZ.out (by rw [if_neg hcp]))).mono ?_
            rintro e w9 ⟨rfl, hb9⟩
            have HZ := Lib.hid (HZ.out.later hb9)
            clear oa ob
            go_wp2_with (go_at_call 21; refine (works_any _).mono ?_; rintro e w11 ⟨rfl, hb11⟩; have HZ := Lib.hid (HZ.out.later hb11))
            go_ret
            exact ⟨rfl, HZ.out.bel⟩
end Go.Proofs.Ytkphkjcpbnnpfaa.Num
