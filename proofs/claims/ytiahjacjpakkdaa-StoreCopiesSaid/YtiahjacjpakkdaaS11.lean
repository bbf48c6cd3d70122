/- What the program does with a counter: room, add, giveBack, takeBack, change; Do, Undo, Free. -/
import Derived.Test.YtiahjacjpakkdaaS10
namespace Go.Proofs.Ytiahjacjpakkdaa.Cnt
open Go.RowKit
set_option linter.unusedVariables false
set_option linter.unusedSimpArgs false
set_option maxRecDepth 20000

abbrev cV (c : Ct) : Value := cA c.v c.u c.d c.l c.h
/-- What a change leads to: a counter and an error. -/
abbrev rV (r : Ct × Int) : Value := .tuple #[cV r.1, .int .i64 r.2]
theorem blk_frozen {w : World} {g : Nat} {cs : Array Value} {e : TypeId} (h : w.heap[g]? = some (.cells cs e (0, 0))) (i : Nat) : w.frozen? ⟨g, i, none⟩ = false := by
  simp [World.frozen?, h]
theorem Cx.froz {w w' : World} {q : Nat} {v u d l h : Int} (x : Cx w q v u d l h w') :
    w'.frozen? ⟨q, 0, none⟩ = false ∧ w'.frozen? ⟨q, 1, none⟩ = false ∧ w'.frozen? ⟨q, 2, none⟩ = false ∧ w'.frozen? ⟨q, 3, none⟩ = false ∧ w'.frozen? ⟨q, 4, none⟩ = false :=
  ⟨blk_frozen x.blk 0, blk_frozen x.blk 1, blk_frozen x.blk 2, blk_frozen x.blk 3, blk_frozen x.blk 4⟩
/-- A counter's box, and a box of zeros for the result behind it. -/
theorem cx_two (w : World) (v u d l h : Int) : Cx w w.heap.size v u d l h ((w.alloc (cRow v u d l h)).alloc (cRow 0 0 0 0 0)) ∧ Cx w (w.heap.size + 1) 0 0 0 0 0 ((w.alloc (cRow v u d l h)).alloc (cRow 0 0 0 0 0)) := by
  have h1 := cx_new w v u d l h
  refine ⟨h1.alloc _, ?_, (h1.alloc _).bel⟩
  have := heap_alloc_new (w.alloc (cRow v u d l h)) (cRow 0 0 0 0 0)
  simpa using this
/-- The world in which one box has another counter. -/
structure St (w1 w2 : World) (q : Nat) (v u d l h : Int) : Prop where
  blk : w2.heap[q]? = some (cRow v u d l h)
  oth : ∀ k, k ≠ q → w2.heap[k]? = w1.heap[k]?
  size : w2.heap.size = w1.heap.size
  os : w2.os = w1.os
  tape : w2.tape = w1.tape
  output : w2.output = w1.output
theorem St.below {B : Nat} {w w1 w2 : World} {q : Nat} {v u d l h : Int} (s : St w1 w2 q v u d l h) (hb : Below B w w1) (hq : B ≤ q) : Below B w w2 :=
  hb.trans ⟨s.os, s.tape, s.output, by rw [s.size]; exact Nat.le_refl _, fun k hk => s.oth k (by omega)⟩
theorem Cx.other {w w1 w2 : World} {p q : Nat} {v u d l h v' u' d' l' h' : Int} (x : Cx w p v u d l h w1) (s : St w1 w2 q v' u' d' l' h') (hq : w.heap.size ≤ q) (hne : p ≠ q) : Cx w p v u d l h w2 :=
  ⟨(s.oth p hne).trans x.blk, s.below x.bel hq⟩
theorem Cx.self {w w1 w2 : World} {q : Nat} {v u d l h v' u' d' l' h' : Int} (x : Cx w q v u d l h w1) (s : St w1 w2 q v' u' d' l' h') (hq : w.heap.size ≤ q) : Cx w q v' u' d' l' h' w2 :=
  ⟨s.blk, s.below x.bel hq⟩
theorem info_TC : (Try.prog.info? TC).map (·.size) = some 5 := by kernel_rfl
theorem store_cx {ops : Array Oper} {rest : List Oper} {o : Oper} {a : Act} {w : World} {Q : Exit → Act → World → Prop} (hgd : o.guard = none) (x y : Operand) (ho : o.op = .store TC x y)
    (g : Nat) {v u d l h v0 u0 d0 l0 h0 : Int} (hx : a.eval x = .pointer (some ⟨g, 0, none⟩)) (hy : a.eval y = cA v u d l h)
    (hg : w.heap[g]? = some (cRow v0 u0 d0 l0 h0))
    (h : ∀ w2, St w w2 g v u d l h → wpList Try.prog ops Q rest (a.put o.dst undef) w2) : wpList Try.prog ops Q (o :: rest) a w := by
  refine wpList_store_row hgd TC x y ho g _ hx hy TC _ hg info_TC rfl (by simp [Value.oneCell']) (h _ ⟨setRow_heap w g _ _ _ _ hg, fun k hk => setRow_other w g k _ hk, size_setRow _ _ _, rfl, rfl, rfl⟩)
def roomN (c : Ct) : Int := min (c.h - (c.v + c.d)) (1152921504606846976 - c.u)
def mirC (c : Ct) : Ct := ⟨-c.v, c.d, c.u, -c.h, -c.l⟩
def addC (c : Ct) (n : Int) : Ct × Int := if roomN c < n then (zero, 7) else (⟨c.v + n, c.u + n, c.d, c.l, c.h⟩, 0)
def giveC (c : Ct) (n : Int) : Ct × Int := if c.u < n then (zero, 9) else (⟨c.v, c.u - n, c.d, c.l, c.h⟩, 0)
def takeC (c : Ct) (n : Int) : Ct × Int := if c.u < n then (zero, 9) else (⟨c.v - n, c.u - n, c.d, c.l, c.h⟩, 0)
def chC (f : Ct → Int → Ct × Int) (c : Ct) (n : Int) : Ct × Int :=
  if okC c && okB n then (if 0 ≤ n then f c n else (mirC (f (mirC c) (-n)).1, (f (mirC c) (-n)).2)) else (zero, 2)
theorem mir_ok {c : Ct} (h : OkC c) : OkC (mirC c) := by
  obtain ⟨h1, h2, h3, h4, h5, h6, h7, h8, h9⟩ := h
  unfold Ok at *
  simp only [OkC, mirC, Ok]
  omega
theorem okC_t {c : Ct} (h : OkC c) : okC c = true := decide_eq_true h
theorem okC_f {c : Ct} (h : ¬ OkC c) : okC c = false := decide_eq_false h

theorem room_any (v u d l g : Int) (w : World) (hc : OkC ⟨v, u, d, l, g⟩) :
    Calls Try.prog 69 #[cA v u d l g] w fun e w' => e = .returned (.int .i64 (roomN ⟨v, u, d, l, g⟩)) ∧ Below w.heap.size w w' := by
  obtain ⟨h1, h2, h3, h4, h5, h6, h7, h8, h9⟩ := hc
  unfold Ok at *
  simp only at *
  have b1 : IntKind.i64.wrap (v - u) = v - u := i64w (by omega) (by omega)
  have b2 : IntKind.i64.wrap (v + d) = v + d := i64w (by omega) (by omega)
  have b3 : IntKind.i64.wrap (g - (v + d)) = g - (v + d) := i64w (by omega) (by omega)
  have b4 : IntKind.i64.wrap (1152921504606846976 - u) = 1152921504606846976 - u := i64w (by omega) (by omega)
  have hl := fun W => least_any v u d l g W b1 b2
  have hm : ∀ (ts : Array TypeId) (t : TypeId) (W : World), (Builtin.min_ ts t #[.int .i64 (g - (v + d)), .int .i64 (1152921504606846976 - u)]).run Try.prog W = .ok (.int .i64 (roomN ⟨v, u, d, l, g⟩)) W := fun ts t W => by
    rw [run_min_int2]
    unfold roomN
    congr 2
    simp only
    split <;> omega
  replace hl := Lib.hid hl
  clear b1 b2 h1 h2 h3 h4 h5 h6 h7 h8 h9
  generalize roomN ⟨v, u, d, l, g⟩ = m at *
  have hx := cx_new w v u d l g
  go_enter Try.func69, Try.ntmps69
  go_wp2_with (go_at_call 45; refine (hl.out _).mono ?_; rintro e w1 ⟨rfl, hb1⟩; have hx1 := hx.later hb1; obtain ⟨c0, c1, c2, c3, c4⟩ := hx1.cells)
  go_ret
  exact ⟨rfl, hx1.bel⟩
theorem add_any (v u d l g n : Int) (w : World) (hc : OkC ⟨v, u, d, l, g⟩) (hn : Ok n) (h0 : 0 ≤ n) :
    Calls Try.prog 56 #[cA v u d l g, .int .i64 n] w fun e w' => e = .returned (rV (addC ⟨v, u, d, l, g⟩ n)) ∧ Below w.heap.size w w' := by
  have hr := Lib.hid (fun W => room_any v u d l g W hc)
  have hx := (cx_two w v u d l g)
  have hz : addC ⟨v, u, d, l, g⟩ n = if roomN ⟨v, u, d, l, g⟩ < n then (zero, 7) else (⟨v + n, u + n, d, l, g⟩, 0) := rfl
  obtain ⟨h1, h2, h3, h4, h5, h6, h7, h8, h9⟩ := hc
  unfold Ok at *
  simp only at *
  have b1 : IntKind.i64.wrap (v + n) = v + n := i64w (by omega) (by omega)
  have b2 : IntKind.i64.wrap (u + n) = u + n := i64w (by omega) (by omega)
  replace hz := Lib.hid hz
  clear h1 h2 h3 h4 h5 h6 h7 h8 h9 hn h0
  generalize addC ⟨v, u, d, l, g⟩ n = r at *
  generalize roomN ⟨v, u, d, l, g⟩ = m at *
  go_enter Try.func56, Try.ntmps56
  go_wp2_with (go_at_call 69; refine (hr.out _).mono ?_; rintro e w1 ⟨rfl, hb1⟩; have hx1 := hx.1.later hb1; have hy1 := hx.2.later hb1; obtain ⟨c0, c1, c2, c3, c4⟩ := hx1.cells; obtain ⟨d0, d1, d2, d3, d4⟩ := hy1.cells; obtain ⟨e0, e1, e2, e3, e4⟩ := hx1.froz; obtain ⟨f0, f1, f2, f3, f4⟩ := hy1.froz)
  · refine bodyPost_ret (v := rV (zero, 7)) (by simp [results, Try.results56, go_sem, d0, d1, d2, d3, d4, zero]) rfl ⟨?_, ?_⟩
    · rw [hz.out, if_pos (by omega)]
    · have hbel := hx1.bel
      go_grown
  · refine bodyPost_ret (v := rV (⟨v + n, u + n, d, l, g⟩, 0)) (by simp [results, Try.results56, go_sem, d0, d1, d2, d3, d4]) rfl ⟨?_, ?_⟩
    · rw [hz.out, if_neg (by omega)]
    · have hbel := hx1.bel
      go_grown
theorem give_any (v u d l g n : Int) (w : World) (hc : OkC ⟨v, u, d, l, g⟩) (hn : Ok n) (h0 : 0 ≤ n) :
    Calls Try.prog 58 #[cA v u d l g, .int .i64 n] w fun e w' => e = .returned (rV (giveC ⟨v, u, d, l, g⟩ n)) ∧ Below w.heap.size w w' := by
  have hz : giveC ⟨v, u, d, l, g⟩ n = if u < n then (zero, 9) else (⟨v, u - n, d, l, g⟩, 0) := rfl
  obtain ⟨h1, h2, h3, h4, h5, h6, h7, h8, h9⟩ := hc
  unfold Ok at *
  simp only at *
  have b1 : IntKind.i64.wrap (u - n) = u - n := i64w (by omega) (by omega)
  replace hz := Lib.hid hz
  clear h1 h2 h3 h4 h5 h6 h7 h8 h9 hn h0
  generalize giveC ⟨v, u, d, l, g⟩ n = r at *
  go_enter Try.func58, Try.ntmps58
  go_wp2
  · refine bodyPost_ret (v := rV (zero, 9)) (by simp [results, Try.results58, go_sem, zero]) rfl ⟨?_, ?_⟩
    · rw [hz.out, if_pos (by omega)]
    · go_grown
  · refine bodyPost_ret (v := rV (⟨v, u - n, d, l, g⟩, 0)) (by simp [results, Try.results58, go_sem]) rfl ⟨?_, ?_⟩
    · rw [hz.out, if_neg (by omega)]
    · go_grown
set_option maxHeartbeats 1000000 in
theorem take_any (v u d l g n : Int) (w : World) (hc : OkC ⟨v, u, d, l, g⟩) (hn : Ok n) (h0 : 0 ≤ n) :
    Calls Try.prog 57 #[cA v u d l g, .int .i64 n] w fun e w' => e = .returned (rV (takeC ⟨v, u, d, l, g⟩ n)) ∧ Below w.heap.size w w' := by
  have hr := fun W => give_any v u d l g n W hc hn h0
  have hx := (cx_two w v u d l g)
  obtain ⟨h1, h2, h3, h4, h5, h6, h7, h8, h9⟩ := hc
  unfold Ok at *
  simp only at *
  have b1 : IntKind.i64.wrap (v - n) = v - n := i64w (by omega) (by omega)
  clear h1 h2 h3 h4 h5 h6 h7 h8 h9 hn h0
  unfold giveC takeC at *
  simp only at *
  by_cases hlt : u < n
  · simp only [if_pos hlt, zero] at hr ⊢
    replace hr := Lib.hid hr
    clear hlt
    go_enter Try.func57, Try.ntmps57
    go_wp2_with (first
      | (go_at_call 58; refine (hr.out _).mono ?_; rintro e w1 ⟨rfl, hb1⟩; have hx1 := hx.1.later hb1; have hy1 := hx.2.later hb1)
      | (refine store_cx rfl _ _ rfl w.heap.size rfl rfl hx1.blk ?_; intro w2 hs2; have hx2 := hx1.self hs2 (Nat.le_refl _); have hy2 := hy1.other hs2 (Nat.le_refl _) (by omega))
      | (refine store_cx rfl _ _ rfl (w.heap.size + 1) rfl rfl hy2.blk ?_; intro w3 hs3; have hy3 := hy2.self hs3 (by omega); obtain ⟨d0, d1, d2, d3, d4⟩ := hy3.cells))
    refine bodyPost_ret (v := rV (⟨0, 0, 0, 0, 0⟩, 9)) (by simp [results, Try.results57, go_sem, d0, d1, d2, d3, d4]) rfl ⟨rfl, hy3.bel⟩
  · simp only [if_neg hlt] at hr ⊢
    generalize hun : u - n = un at *
    replace hr := Lib.hid hr
    clear hlt hun
    go_enter Try.func57, Try.ntmps57
    go_wp2_with (first
      | (go_at_call 58; refine (hr.out _).mono ?_; rintro e w1 ⟨rfl, hb1⟩; have hx1 := hx.1.later hb1; have hy1 := hx.2.later hb1)
      | (refine store_cx rfl _ _ rfl w.heap.size rfl rfl hx1.blk ?_; intro w2 hs2; have hx2 := hx1.self hs2 (Nat.le_refl _); have hy2 := hy1.other hs2 (Nat.le_refl _) (by omega); obtain ⟨c0, c1, c2, c3, c4⟩ := hx2.cells; obtain ⟨e0, e1, e2, e3, e4⟩ := hx2.froz; obtain ⟨d0, d1, d2, d3, d4⟩ := hy2.cells; obtain ⟨f0, f1, f2, f3, f4⟩ := hy2.froz))
    refine bodyPost_ret (v := rV (⟨v - n, un, d, l, g⟩, 0)) (by simp [results, Try.results57, go_sem, d0, d1, d2, d3, d4]) rfl ⟨rfl, ?_⟩
    have hbel := hx2.bel
    go_grown
theorem i64_ok {a : Int} (h : Ok a) : IntKind.i64.wrap (-a) = -a := by unfold Ok at h; exact i64w (by omega) (by omega)
/-- What a function on valid counters and sizes returns can be mirrored. -/
def Mir (f : Ct → Int → Ct × Int) : Prop := ∀ c n, OkC c → Ok n → 0 ≤ n → IntKind.i64.wrap (-(f c n).1.v) = -(f c n).1.v ∧ IntKind.i64.wrap (-(f c n).1.l) = -(f c n).1.l ∧ IntKind.i64.wrap (-(f c n).1.h) = -(f c n).1.h
theorem add_mir : Mir addC := by
  intro c n ⟨h1, h2, h3, h4, h5, h6, h7, h8, h9⟩ hn h0
  unfold Ok at *
  unfold addC
  split
  · exact ⟨i64w (by simp [zero]) (by simp [zero]), i64w (by simp [zero]) (by simp [zero]), i64w (by simp [zero]) (by simp [zero])⟩
  · exact ⟨i64w (by simp only; omega) (by simp only; omega), i64w (by simp only; omega) (by simp only; omega), i64w (by simp only; omega) (by simp only; omega)⟩
theorem give_mir : Mir giveC := by
  intro c n ⟨h1, h2, h3, h4, h5, h6, h7, h8, h9⟩ hn h0
  unfold Ok at *
  unfold giveC
  split
  · exact ⟨i64w (by simp [zero]) (by simp [zero]), i64w (by simp [zero]) (by simp [zero]), i64w (by simp [zero]) (by simp [zero])⟩
  · exact ⟨i64w (by simp only; omega) (by simp only; omega), i64w (by simp only; omega) (by simp only; omega), i64w (by simp only; omega) (by simp only; omega)⟩
theorem take_mir : Mir takeC := by
  intro c n ⟨h1, h2, h3, h4, h5, h6, h7, h8, h9⟩ hn h0
  unfold Ok at *
  unfold takeC
  split
  · exact ⟨i64w (by simp [zero]) (by simp [zero]), i64w (by simp [zero]) (by simp [zero]), i64w (by simp [zero]) (by simp [zero])⟩
  · exact ⟨i64w (by simp only; omega) (by simp only; omega), i64w (by simp only; omega) (by simp only; omega), i64w (by simp only; omega) (by simp only; omega)⟩
set_option maxHeartbeats 4000000 in
theorem change_add (v u d l g n : Int) (w : World) :
    Calls Try.prog 55 #[cA v u d l g, .int .i64 n, .func (.func 56) #[] #[]] w fun e w' => e = .returned (rV (chC addC ⟨v, u, d, l, g⟩ n)) ∧ Below w.heap.size w w' := by
  have hk := fun W => check_any v u d l g W
  have hN := fun W => numCheck_any n W
  have hx := (cx_two w v u d l g)
  have hch : chC addC ⟨v, u, d, l, g⟩ n = if okC ⟨v, u, d, l, g⟩ && okB n then (if 0 ≤ n then addC ⟨v, u, d, l, g⟩ n else (mirC (addC ⟨-v, d, u, -g, -l⟩ (-n)).1, (addC ⟨-v, d, u, -g, -l⟩ (-n)).2)) else (zero, 2) := rfl
  unfold ckE at *
  by_cases hc : OkC ⟨v, u, d, l, g⟩
  · rw [okC_t hc] at hk hch
    simp only [if_true, Bool.true_and] at hk hch
    replace hk := Lib.hid hk
    by_cases hn : Ok n
    · rw [okB_t hn] at hN hch
      simp only [if_true] at hN hch
      replace hN := Lib.hid hN
      by_cases h0 : 0 ≤ n
      · have hf := fun W => add_any v u d l g n W hc hn h0
        rw [if_pos h0] at hch
        rw [hch]
        clear hch
        generalize addC ⟨v, u, d, l, g⟩ n = r at *
        obtain ⟨⟨x0, x1, x2, x3, x4⟩, x5⟩ := r
        replace hf := Lib.hid hf
        clear hc hn
        go_enter Try.func55, Try.ntmps55
        go_wp2_with (first
          | (go_at_call 26; refine (hk.out _).mono ?_; rintro e w1 ⟨rfl, hb1⟩; have hx1 := hx.1.later hb1; have hy1 := hx.2.later hb1; obtain ⟨c0, c1, c2, c3, c4⟩ := hx1.cells)
          | (go_at_call 44; refine (hN.out _).mono ?_; rintro e w' ⟨rfl, rfl⟩)
          | (go_at_call 56; refine (hf.out _).mono ?_; rintro e w2 ⟨rfl, hb2⟩; have hy2 := hy1.later hb2)
          | (refine store_cx rfl _ _ rfl (w.heap.size + 1) rfl rfl hy2.blk ?_; intro w3 hs3; have hy3 := hy2.self hs3 (by omega); obtain ⟨d0, d1, d2, d3, d4⟩ := hy3.cells))
        exact bodyPost_ret (v := rV (⟨x0, x1, x2, x3, x4⟩, x5)) (by simp [results, Try.results55, go_sem, d0, d1, d2, d3, d4]) rfl ⟨rfl, hy3.bel⟩
      · have hc2 := mir_ok hc
        have hn2 : Ok (-n) := by unfold Ok at *; omega
        have hf := fun W => add_any (-v) d u (-g) (-l) (-n) W hc2 hn2 (by omega)
        have hm := add_mir ⟨-v, d, u, -g, -l⟩ (-n) hc2 hn2 (by omega)
        have i1 := i64_ok hc.1
        have i2 := i64_ok hc.2.2.2.1
        have i3 := i64_ok hc.2.2.2.2.1
        have i4 := i64_ok hn
        have hM := fun W => mirror_any v u d l g W i1 i2 i3
        rw [if_neg h0] at hch
        rw [hch]
        clear hch
        generalize addC ⟨-v, d, u, -g, -l⟩ (-n) = r at *
        obtain ⟨⟨x0, x1, x2, x3, x4⟩, x5⟩ := r
        obtain ⟨j1, j2, j3⟩ := hm
        have hM2 := fun W => mirror_any x0 x1 x2 x3 x4 W j1 j2 j3
        replace hf := Lib.hid hf
        replace hM := Lib.hid hM
        replace hM2 := Lib.hid hM2
        have b0 : decide (0 ≤ n) = false := by simpa using h0
        clear hc hn hc2 hn2 h0 i1 i2 i3 j1 j2 j3
        go_enter Try.func55, Try.ntmps55
        go_wp2_with (first
          | (go_at_call 26; refine (hk.out _).mono ?_; rintro e w1 ⟨rfl, hb1⟩; have hx1 := hx.1.later hb1; have hy1 := hx.2.later hb1; obtain ⟨c0, c1, c2, c3, c4⟩ := hx1.cells)
          | (go_at_call 44; refine (hN.out _).mono ?_; rintro e w' ⟨rfl, rfl⟩)
          | (go_at_call_of 68 (Value.agg #[.int .i64 v, .int .i64 u, .int .i64 d, .int .i64 l, .int .i64 g]); refine (hM.out _).mono ?_; rintro e w2 ⟨rfl, hb2⟩; have hx2 := hx1.later hb2; have hy2 := hy1.later hb2)
          | (go_at_call 56; refine (hf.out _).mono ?_; rintro e w3 ⟨rfl, hb3⟩; have hy3 := (hy2.later hb3).alloc (cRow x0 x1 x2 x3 x4))
          | (go_at_call_of 68 (Value.agg #[.int .i64 x0, .int .i64 x1, .int .i64 x2, .int .i64 x3, .int .i64 x4]); refine (hM2.out _).mono ?_; rintro e w4 ⟨rfl, hb4⟩; have hy4 := hy3.later hb4)
          | (refine store_cx rfl _ _ rfl (w.heap.size + 1) rfl rfl hy4.blk ?_; intro w5 hs5; have hy5 := hy4.self hs5 (by omega); obtain ⟨d0, d1, d2, d3, d4⟩ := hy5.cells))
        exact bodyPost_ret (v := rV (⟨-x0, x2, x1, -x4, -x3⟩, x5)) (by simp [results, Try.results55, go_sem, d0, d1, d2, d3, d4]) rfl ⟨rfl, hy5.bel⟩
    · rw [okB_f hn] at hN hch
      rw [hch]
      replace hN := Lib.hid (show ∀ W, Calls Try.prog 44 #[.int .i64 n] W (fun e w' => e = .returned (.int .i64 7) ∧ W = w') from hN)
      clear hc hn hch
      go_enter Try.func55, Try.ntmps55
      go_wp2_with (first
        | (go_at_call 26; refine (hk.out _).mono ?_; rintro e w1 ⟨rfl, hb1⟩; have hy1 := hx.2.later hb1)
        | (go_at_call 44; refine (hN.out _).mono ?_; rintro e w' ⟨rfl, rfl⟩)
        | (refine store_cx rfl _ _ rfl (w.heap.size + 1) rfl rfl hy1.blk ?_; intro w5 hs5; have hy5 := hy1.self hs5 (by omega); obtain ⟨d0, d1, d2, d3, d4⟩ := hy5.cells))
      exact bodyPost_ret (v := rV (⟨0, 0, 0, 0, 0⟩, 2)) (by simp [results, Try.results55, go_sem, d0, d1, d2, d3, d4]) rfl ⟨rfl, hy5.bel⟩
  · rw [okC_f hc] at hk hch
    rw [hch]
    replace hk := Lib.hid (show ∀ W, Calls Try.prog 26 #[cA v u d l g] W (fun e w' => e = .returned (.int .i64 2) ∧ Below W.heap.size W w') from hk)
    clear hc hch hN
    go_enter Try.func55, Try.ntmps55
    go_wp2_with (first
      | (go_at_call 26; refine (hk.out _).mono ?_; rintro e w1 ⟨rfl, hb1⟩; have hy1 := hx.2.later hb1)
      | (refine store_cx rfl _ _ rfl (w.heap.size + 1) rfl rfl hy1.blk ?_; intro w5 hs5; have hy5 := hy1.self hs5 (by omega); obtain ⟨d0, d1, d2, d3, d4⟩ := hy5.cells))
    exact bodyPost_ret (v := rV (⟨0, 0, 0, 0, 0⟩, 2)) (by simp [results, Try.results55, go_sem, d0, d1, d2, d3, d4]) rfl ⟨rfl, hy5.bel⟩
theorem do_any (v u d l g n : Int) (w : World) :
    Calls Try.prog 38 #[cA v u d l g, .int .i64 n] w fun e w' => e = .returned (rV (chC addC ⟨v, u, d, l, g⟩ n)) ∧ Below w.heap.size w w' := by
  have hk := fun W => change_add v u d l g n W
  have hx := (cx_two w v u d l g)
  generalize chC addC ⟨v, u, d, l, g⟩ n = r at *
  obtain ⟨⟨x0, x1, x2, x3, x4⟩, x5⟩ := r
  replace hk := Lib.hid hk
  go_enter Try.func38, Try.ntmps38
  go_wp2_with (first
    | (go_at_call 55; refine (hk.out _).mono ?_; rintro e w1 ⟨rfl, hb1⟩; have hy1 := hx.2.later hb1)
    | (refine store_cx rfl _ _ rfl (w.heap.size + 1) rfl rfl hy1.blk ?_; intro w5 hs5; have hy5 := hy1.self hs5 (by omega); obtain ⟨d0, d1, d2, d3, d4⟩ := hy5.cells))
  exact bodyPost_ret (v := rV (⟨x0, x1, x2, x3, x4⟩, x5)) (by simp [results, Try.results38, go_sem, d0, d1, d2, d3, d4]) rfl ⟨rfl, hy5.bel⟩
set_option maxHeartbeats 4000000 in
theorem change_take (v u d l g n : Int) (w : World) :
    Calls Try.prog 55 #[cA v u d l g, .int .i64 n, .func (.func 57) #[] #[]] w fun e w' => e = .returned (rV (chC takeC ⟨v, u, d, l, g⟩ n)) ∧ Below w.heap.size w w' := by
  have hk := fun W => check_any v u d l g W
  have hN := fun W => numCheck_any n W
  have hx := (cx_two w v u d l g)
  have hch : chC takeC ⟨v, u, d, l, g⟩ n = if okC ⟨v, u, d, l, g⟩ && okB n then (if 0 ≤ n then takeC ⟨v, u, d, l, g⟩ n else (mirC (takeC ⟨-v, d, u, -g, -l⟩ (-n)).1, (takeC ⟨-v, d, u, -g, -l⟩ (-n)).2)) else (zero, 2) := rfl
  unfold ckE at *
  by_cases hc : OkC ⟨v, u, d, l, g⟩
  · rw [okC_t hc] at hk hch
    simp only [if_true, Bool.true_and] at hk hch
    replace hk := Lib.hid hk
    by_cases hn : Ok n
    · rw [okB_t hn] at hN hch
      simp only [if_true] at hN hch
      replace hN := Lib.hid hN
      by_cases h0 : 0 ≤ n
      · have hf := fun W => take_any v u d l g n W hc hn h0
        rw [if_pos h0] at hch
        rw [hch]
        clear hch
        generalize takeC ⟨v, u, d, l, g⟩ n = r at *
        obtain ⟨⟨x0, x1, x2, x3, x4⟩, x5⟩ := r
        replace hf := Lib.hid hf
        clear hc hn
        go_enter Try.func55, Try.ntmps55
        go_wp2_with (first
          | (go_at_call 26; refine (hk.out _).mono ?_; rintro e w1 ⟨rfl, hb1⟩; have hx1 := hx.1.later hb1; have hy1 := hx.2.later hb1; obtain ⟨c0, c1, c2, c3, c4⟩ := hx1.cells)
          | (go_at_call 44; refine (hN.out _).mono ?_; rintro e w' ⟨rfl, rfl⟩)
          | (go_at_call 57; refine (hf.out _).mono ?_; rintro e w2 ⟨rfl, hb2⟩; have hy2 := hy1.later hb2)
          | (refine store_cx rfl _ _ rfl (w.heap.size + 1) rfl rfl hy2.blk ?_; intro w3 hs3; have hy3 := hy2.self hs3 (by omega); obtain ⟨d0, d1, d2, d3, d4⟩ := hy3.cells))
        exact bodyPost_ret (v := rV (⟨x0, x1, x2, x3, x4⟩, x5)) (by simp [results, Try.results55, go_sem, d0, d1, d2, d3, d4]) rfl ⟨rfl, hy3.bel⟩
      · have hc2 := mir_ok hc
        have hn2 : Ok (-n) := by unfold Ok at *; omega
        have hf := fun W => take_any (-v) d u (-g) (-l) (-n) W hc2 hn2 (by omega)
        have hm := take_mir ⟨-v, d, u, -g, -l⟩ (-n) hc2 hn2 (by omega)
        have i1 := i64_ok hc.1
        have i2 := i64_ok hc.2.2.2.1
        have i3 := i64_ok hc.2.2.2.2.1
        have i4 := i64_ok hn
        have hM := fun W => mirror_any v u d l g W i1 i2 i3
        rw [if_neg h0] at hch
        rw [hch]
        clear hch
        generalize takeC ⟨-v, d, u, -g, -l⟩ (-n) = r at *
        obtain ⟨⟨x0, x1, x2, x3, x4⟩, x5⟩ := r
        obtain ⟨j1, j2, j3⟩ := hm
        have hM2 := fun W => mirror_any x0 x1 x2 x3 x4 W j1 j2 j3
        replace hf := Lib.hid hf
        replace hM := Lib.hid hM
        replace hM2 := Lib.hid hM2
        have b0 : decide (0 ≤ n) = false := by simpa using h0
        clear hc hn hc2 hn2 h0 i1 i2 i3 j1 j2 j3
        go_enter Try.func55, Try.ntmps55
        go_wp2_with (first
          | (go_at_call 26; refine (hk.out _).mono ?_; rintro e w1 ⟨rfl, hb1⟩; have hx1 := hx.1.later hb1; have hy1 := hx.2.later hb1; obtain ⟨c0, c1, c2, c3, c4⟩ := hx1.cells)
          | (go_at_call 44; refine (hN.out _).mono ?_; rintro e w' ⟨rfl, rfl⟩)
          | (go_at_call_of 68 (Value.agg #[.int .i64 v, .int .i64 u, .int .i64 d, .int .i64 l, .int .i64 g]); refine (hM.out _).mono ?_; rintro e w2 ⟨rfl, hb2⟩; have hx2 := hx1.later hb2; have hy2 := hy1.later hb2)
          | (go_at_call 57; refine (hf.out _).mono ?_; rintro e w3 ⟨rfl, hb3⟩; have hy3 := (hy2.later hb3).alloc (cRow x0 x1 x2 x3 x4))
          | (go_at_call_of 68 (Value.agg #[.int .i64 x0, .int .i64 x1, .int .i64 x2, .int .i64 x3, .int .i64 x4]); refine (hM2.out _).mono ?_; rintro e w4 ⟨rfl, hb4⟩; have hy4 := hy3.later hb4)
          | (refine store_cx rfl _ _ rfl (w.heap.size + 1) rfl rfl hy4.blk ?_; intro w5 hs5; have hy5 := hy4.self hs5 (by omega); obtain ⟨d0, d1, d2, d3, d4⟩ := hy5.cells))
        exact bodyPost_ret (v := rV (⟨-x0, x2, x1, -x4, -x3⟩, x5)) (by simp [results, Try.results55, go_sem, d0, d1, d2, d3, d4]) rfl ⟨rfl, hy5.bel⟩
    · rw [okB_f hn] at hN hch
      rw [hch]
      replace hN := Lib.hid (show ∀ W, Calls Try.prog 44 #[.int .i64 n] W (fun e w' => e = .returned (.int .i64 7) ∧ W = w') from hN)
      clear hc hn hch
      go_enter Try.func55, Try.ntmps55
      go_wp2_with (first
        | (go_at_call 26; refine (hk.out _).mono ?_; rintro e w1 ⟨rfl, hb1⟩; have hy1 := hx.2.later hb1)
        | (go_at_call 44; refine (hN.out _).mono ?_; rintro e w' ⟨rfl, rfl⟩)
        | (refine store_cx rfl _ _ rfl (w.heap.size + 1) rfl rfl hy1.blk ?_; intro w5 hs5; have hy5 := hy1.self hs5 (by omega); obtain ⟨d0, d1, d2, d3, d4⟩ := hy5.cells))
      exact bodyPost_ret (v := rV (⟨0, 0, 0, 0, 0⟩, 2)) (by simp [results, Try.results55, go_sem, d0, d1, d2, d3, d4]) rfl ⟨rfl, hy5.bel⟩
  · rw [okC_f hc] at hk hch
    rw [hch]
    replace hk := Lib.hid (show ∀ W, Calls Try.prog 26 #[cA v u d l g] W (fun e w' => e = .returned (.int .i64 2) ∧ Below W.heap.size W w') from hk)
    clear hc hch hN
    go_enter Try.func55, Try.ntmps55
    go_wp2_with (first
      | (go_at_call 26; refine (hk.out _).mono ?_; rintro e w1 ⟨rfl, hb1⟩; have hy1 := hx.2.later hb1)
      | (refine store_cx rfl _ _ rfl (w.heap.size + 1) rfl rfl hy1.blk ?_; intro w5 hs5; have hy5 := hy1.self hs5 (by omega); obtain ⟨d0, d1, d2, d3, d4⟩ := hy5.cells))
    exact bodyPost_ret (v := rV (⟨0, 0, 0, 0, 0⟩, 2)) (by simp [results, Try.results55, go_sem, d0, d1, d2, d3, d4]) rfl ⟨rfl, hy5.bel⟩
theorem undo_any (v u d l g n : Int) (w : World) :
    Calls Try.prog 39 #[cA v u d l g, .int .i64 n] w fun e w' => e = .returned (rV (chC takeC ⟨v, u, d, l, g⟩ n)) ∧ Below w.heap.size w w' := by
  have hk := fun W => change_take v u d l g n W
  have hx := (cx_two w v u d l g)
  generalize chC takeC ⟨v, u, d, l, g⟩ n = r at *
  obtain ⟨⟨x0, x1, x2, x3, x4⟩, x5⟩ := r
  replace hk := Lib.hid hk
  go_enter Try.func39, Try.ntmps39
  go_wp2_with (first
    | (go_at_call 55; refine (hk.out _).mono ?_; rintro e w1 ⟨rfl, hb1⟩; have hy1 := hx.2.later hb1)
    | (refine store_cx rfl _ _ rfl (w.heap.size + 1) rfl rfl hy1.blk ?_; intro w5 hs5; have hy5 := hy1.self hs5 (by omega); obtain ⟨d0, d1, d2, d3, d4⟩ := hy5.cells))
  exact bodyPost_ret (v := rV (⟨x0, x1, x2, x3, x4⟩, x5)) (by simp [results, Try.results39, go_sem, d0, d1, d2, d3, d4]) rfl ⟨rfl, hy5.bel⟩
set_option maxHeartbeats 4000000 in
theorem change_give (v u d l g n : Int) (w : World) :
    Calls Try.prog 55 #[cA v u d l g, .int .i64 n, .func (.func 58) #[] #[]] w fun e w' => e = .returned (rV (chC giveC ⟨v, u, d, l, g⟩ n)) ∧ Below w.heap.size w w' := by
  have hk := fun W => check_any v u d l g W
  have hN := fun W => numCheck_any n W
  have hx := (cx_two w v u d l g)
  have hch : chC giveC ⟨v, u, d, l, g⟩ n = if okC ⟨v, u, d, l, g⟩ && okB n then (if 0 ≤ n then giveC ⟨v, u, d, l, g⟩ n else (mirC (giveC ⟨-v, d, u, -g, -l⟩ (-n)).1, (giveC ⟨-v, d, u, -g, -l⟩ (-n)).2)) else (zero, 2) := rfl
  unfold ckE at *
  by_cases hc : OkC ⟨v, u, d, l, g⟩
  · rw [okC_t hc] at hk hch
    simp only [if_true, Bool.true_and] at hk hch
    replace hk := Lib.hid hk
    by_cases hn : Ok n
    · rw [okB_t hn] at hN hch
      simp only [if_true] at hN hch
      replace hN := Lib.hid hN
      by_cases h0 : 0 ≤ n
      · have hf := fun W => give_any v u d l g n W hc hn h0
        rw [if_pos h0] at hch
        rw [hch]
        clear hch
        generalize giveC ⟨v, u, d, l, g⟩ n = r at *
        obtain ⟨⟨x0, x1, x2, x3, x4⟩, x5⟩ := r
        replace hf := Lib.hid hf
        clear hc hn
        go_enter Try.func55, Try.ntmps55
        go_wp2_with (first
          | (go_at_call 26; refine (hk.out _).mono ?_; rintro e w1 ⟨rfl, hb1⟩; have hx1 := hx.1.later hb1; have hy1 := hx.2.later hb1; obtain ⟨c0, c1, c2, c3, c4⟩ := hx1.cells)
          | (go_at_call 44; refine (hN.out _).mono ?_; rintro e w' ⟨rfl, rfl⟩)
          | (go_at_call 58; refine (hf.out _).mono ?_; rintro e w2 ⟨rfl, hb2⟩; have hy2 := hy1.later hb2)
          | (refine store_cx rfl _ _ rfl (w.heap.size + 1) rfl rfl hy2.blk ?_; intro w3 hs3; have hy3 := hy2.self hs3 (by omega); obtain ⟨d0, d1, d2, d3, d4⟩ := hy3.cells))
        exact bodyPost_ret (v := rV (⟨x0, x1, x2, x3, x4⟩, x5)) (by simp [results, Try.results55, go_sem, d0, d1, d2, d3, d4]) rfl ⟨rfl, hy3.bel⟩
      · have hc2 := mir_ok hc
        have hn2 : Ok (-n) := by unfold Ok at *; omega
        have hf := fun W => give_any (-v) d u (-g) (-l) (-n) W hc2 hn2 (by omega)
        have hm := give_mir ⟨-v, d, u, -g, -l⟩ (-n) hc2 hn2 (by omega)
        have i1 := i64_ok hc.1
        have i2 := i64_ok hc.2.2.2.1
        have i3 := i64_ok hc.2.2.2.2.1
        have i4 := i64_ok hn
        have hM := fun W => mirror_any v u d l g W i1 i2 i3
        rw [if_neg h0] at hch
        rw [hch]
        clear hch
        generalize giveC ⟨-v, d, u, -g, -l⟩ (-n) = r at *
        obtain ⟨⟨x0, x1, x2, x3, x4⟩, x5⟩ := r
        obtain ⟨j1, j2, j3⟩ := hm
        have hM2 := fun W => mirror_any x0 x1 x2 x3 x4 W j1 j2 j3
        replace hf := Lib.hid hf
        replace hM := Lib.hid hM
        replace hM2 := Lib.hid hM2
        have b0 : decide (0 ≤ n) = false := by simpa using h0
        clear hc hn hc2 hn2 h0 i1 i2 i3 j1 j2 j3
        go_enter Try.func55, Try.ntmps55
        go_wp2_with (first
          | (go_at_call 26; refine (hk.out _).mono ?_; rintro e w1 ⟨rfl, hb1⟩; have hx1 := hx.1.later hb1; have hy1 := hx.2.later hb1; obtain ⟨c0, c1, c2, c3, c4⟩ := hx1.cells)
          | (go_at_call 44; refine (hN.out _).mono ?_; rintro e w' ⟨rfl, rfl⟩)
          | (go_at_call_of 68 (Value.agg #[.int .i64 v, .int .i64 u, .int .i64 d, .int .i64 l, .int .i64 g]); refine (hM.out _).mono ?_; rintro e w2 ⟨rfl, hb2⟩; have hx2 := hx1.later hb2; have hy2 := hy1.later hb2)
          | (go_at_call 58; refine (hf.out _).mono ?_; rintro e w3 ⟨rfl, hb3⟩; have hy3 := (hy2.later hb3).alloc (cRow x0 x1 x2 x3 x4))
          | (go_at_call_of 68 (Value.agg #[.int .i64 x0, .int .i64 x1, .int .i64 x2, .int .i64 x3, .int .i64 x4]); refine (hM2.out _).mono ?_; rintro e w4 ⟨rfl, hb4⟩; have hy4 := hy3.later hb4)
          | (refine store_cx rfl _ _ rfl (w.heap.size + 1) rfl rfl hy4.blk ?_; intro w5 hs5; have hy5 := hy4.self hs5 (by omega); obtain ⟨d0, d1, d2, d3, d4⟩ := hy5.cells))
        exact bodyPost_ret (v := rV (⟨-x0, x2, x1, -x4, -x3⟩, x5)) (by simp [results, Try.results55, go_sem, d0, d1, d2, d3, d4]) rfl ⟨rfl, hy5.bel⟩
    · rw [okB_f hn] at hN hch
      rw [hch]
      replace hN := Lib.hid (show ∀ W, Calls Try.prog 44 #[.int .i64 n] W (fun e w' => e = .returned (.int .i64 7) ∧ W = w') from hN)
      clear hc hn hch
      go_enter Try.func55, Try.ntmps55
      go_wp2_with (first
        | (go_at_call 26; refine (hk.out _).mono ?_; rintro e w1 ⟨rfl, hb1⟩; have hy1 := hx.2.later hb1)
        | (go_at_call 44; refine (hN.out _).mono ?_; rintro e w' ⟨rfl, rfl⟩)
        | (refine store_cx rfl _ _ rfl (w.heap.size + 1) rfl rfl hy1.blk ?_; intro w5 hs5; have hy5 := hy1.self hs5 (by omega); obtain ⟨d0, d1, d2, d3, d4⟩ := hy5.cells))
      exact bodyPost_ret (v := rV (⟨0, 0, 0, 0, 0⟩, 2)) (by simp [results, Try.results55, go_sem, d0, d1, d2, d3, d4]) rfl ⟨rfl, hy5.bel⟩
  · rw [okC_f hc] at hk hch
    rw [hch]
    replace hk := Lib.hid (show ∀ W, Calls Try.prog 26 #[cA v u d l g] W (fun e w' => e = .returned (.int .i64 2) ∧ Below W.heap.size W w') from hk)
    clear hc hch hN
    go_enter Try.func55, Try.ntmps55
    go_wp2_with (first
      | (go_at_call 26; refine (hk.out _).mono ?_; rintro e w1 ⟨rfl, hb1⟩; have hy1 := hx.2.later hb1)
      | (refine store_cx rfl _ _ rfl (w.heap.size + 1) rfl rfl hy1.blk ?_; intro w5 hs5; have hy5 := hy1.self hs5 (by omega); obtain ⟨d0, d1, d2, d3, d4⟩ := hy5.cells))
    exact bodyPost_ret (v := rV (⟨0, 0, 0, 0, 0⟩, 2)) (by simp [results, Try.results55, go_sem, d0, d1, d2, d3, d4]) rfl ⟨rfl, hy5.bel⟩
theorem free_any (v u d l g n : Int) (w : World) :
    Calls Try.prog 40 #[cA v u d l g, .int .i64 n] w fun e w' => e = .returned (rV (chC giveC ⟨v, u, d, l, g⟩ n)) ∧ Below w.heap.size w w' := by
  have hk := fun W => change_give v u d l g n W
  have hx := (cx_two w v u d l g)
  generalize chC giveC ⟨v, u, d, l, g⟩ n = r at *
  obtain ⟨⟨x0, x1, x2, x3, x4⟩, x5⟩ := r
  replace hk := Lib.hid hk
  go_enter Try.func40, Try.ntmps40
  go_wp2_with (first
    | (go_at_call 55; refine (hk.out _).mono ?_; rintro e w1 ⟨rfl, hb1⟩; have hy1 := hx.2.later hb1)
    | (refine store_cx rfl _ _ rfl (w.heap.size + 1) rfl rfl hy1.blk ?_; intro w5 hs5; have hy5 := hy1.self hs5 (by omega); obtain ⟨d0, d1, d2, d3, d4⟩ := hy5.cells))
  exact bodyPost_ret (v := rV (⟨x0, x1, x2, x3, x4⟩, x5)) (by simp [results, Try.results40, go_sem, d0, d1, d2, d3, d4]) rfl ⟨rfl, hy5.bel⟩
end Go.Proofs.Ytiahjacjpakkdaa.Cnt
