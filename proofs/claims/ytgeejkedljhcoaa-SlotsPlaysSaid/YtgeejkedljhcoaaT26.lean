/- few; shows: a log beside the document's; the pair that goes on and the pair that was copied. -/
import Derived.Test.YtgeejkedljhcoaaT25
import Derived.Test.YtgeejkedljhcoaaT10
namespace Go.Proofs.Ytgeejkedljhcoaa.Slt
open Go.RowKit Go.Maps Go.Lib
set_option linter.unusedVariables false
set_option linter.unusedSimpArgs false
set_option maxRecDepth 20000

theorem few_any (a : Option Addr) (len cap : Nat) (S : Nat → Sp) (w : World) (h : IsSt w a len cap S) :
    Calls Try.prog 11 #[.slice a len cap] w fun e w' => ∃ B : Bool, e = .returned (.bool B) ∧ Below w.heap.size w w' := by
  have hfit := h.fit
  have H := Lib.hid h
  clear h
  go_enter Try.func11, Try.ntmps11
  go_wp2
  go_loopw [3, 8] (fun s i wr => ∃ (k : Nat) (z : Int), k ≤ len ∧ i = .int .i64 k ∧ s = .int .i64 z ∧ Below w.heap.size w wr) (fun _ i _ => len - nOf i)
  case atStart => exact ⟨0, 0, Nat.zero_le _, rfl, rfl, Below.refl _ _⟩
  case round =>
    obtain ⟨k, z, hk, rfl, rfl, hB⟩ := hrel
    by_cases hlt : k < len
    · obtain ⟨b, off, rfl, hbl, hc⟩ := H.out.at hB hlt
      obtain ⟨c0, c1, c2⟩ := hc
      generalize S k = s at *
      obtain ⟨sd, sk, sv⟩ := s
      simp only at c0 c1 c2
      have i1 : 0 ≤ (k : Int) := by omega
      have i2 : (k : Int) < (len : Int) := by omega
      have i3 : decide ((k : Int) < (len : Int)) = true := by simpa using i2
      have i4 : IntKind.i64.wrap ((k : Int) + 1) = ((k + 1 : Nat) : Int) := by rw [IntKind.wrap_i64]; omega
      have hx := heap_alloc_new wr (.cells #[.int .i64 sd, .int .i64 sk, .string sv] TP)
      have d0 := cell_of_row _ _ 0 _ TP _ hx
      have d1 := cell_of_row _ _ 1 _ TP _ hx
      have d2 := cell_of_row _ _ 2 _ TP _ hx
      have hB2 := Lib.hid (hB.alloc hB.size (.cells #[.int .i64 sd, .int .i64 sk, .string sv] TP))
      clear hx hB
      by_cases h0 : sd = 0
      · subst h0
        by_cases h1 : 300 ≤ sk
        · have b1 : decide (300 ≤ sk) = true := decide_eq_true h1
          by_cases h2 : sk < 4095
          · have b2 : decide (sk < 4095) = true := decide_eq_true h2
            clear h1 h2
            go_wp2
            go_ret
            exact ⟨_, rfl, hB2.out⟩
          · have b2 : decide (sk < 4095) = false := decide_eq_false h2
            clear h1 h2
            go_wp2
            go_roundw
            case rel => exact ⟨k + 1, _, by omega, by go_num, rfl, hB2.out⟩
            case measure => simp [nOf]; omega
        · have b1 : decide (300 ≤ sk) = false := decide_eq_false h1
          clear h1
          go_wp2
          go_roundw
          case rel => exact ⟨k + 1, _, by omega, by go_num, rfl, hB2.out⟩
          case measure => simp [nOf]; omega
      · have g0 : (sd == 0) = false := by simpa using h0
        have g0' : (sd = 0) = False := by simpa using h0
        clear h0
        go_wp2
        go_roundw
        case rel => exact ⟨k + 1, _, by omega, by go_num, rfl, hB2.out⟩
        case measure => simp [nOf]; omega
    · have hkl : k = len := by omega
      subst hkl
      have i3 : decide ((k : Int) < (k : Int)) = false := by simp
      by_cases h1 : k ≤ 40
      · have b1 : decide ((k : Int) ≤ 40) = true := by simp; omega
        obtain ⟨q, hq⟩ : ∃ q, decide (z ≤ 100000) = q := ⟨_, rfl⟩
        cases q <;> go_wp2 <;> go_ret <;> exact ⟨_, rfl, hB⟩
      · have b1 : decide ((k : Int) ≤ 40) = false := by simp; omega
        go_wp2
        go_ret
        exact ⟨_, rfl, hB⟩

/-! shows. -/
structure Bo (w : World) (sb mb rb : Nat) (s : St) (L : List Et) (vl : Value) (W : World) : Prop where
  ax : Ax W sb mb s
  rx : Rx W rb s L vl
  bel : Below w.heap.size w W
theorem Bo.later {w W W' : World} {sb mb rb : Nat} {s : St} {L : List Et} {vl : Value} (h : Bo w sb mb rb s L vl W) (hb : Below W.heap.size W W') : Bo w sb mb rb s L vl W' :=
  ⟨h.ax.later hb, h.rx.later hb, h.bel.trans (hb.mono h.bel.size)⟩
set_option maxHeartbeats 4000000 in
theorem shows_any {sb mb rb : Nat} {s : St} {L : List Et} {vl : Value} (k : Int) (w : World) (x : Ax w sb mb s) (y : Rx w rb s L vl) (hk : (Lit.int .i64 k).wf = true) :
    Calls Try.prog 15 #[.pointer (some ⟨sb, 0, none⟩), .pointer (some ⟨rb, 0, none⟩), .int .i64 k] w (Yes w) := by
  have B0 : Bo w sb mb rb s L vl w := ⟨x, y, Below.refl _ _⟩
  have hl1 : (preV s).length ≤ 4096 := by have := pre_len x.ok; have := upto_le x.ok; have := x.ok.hb; omega
  have hl2 := gap_len4 x.ok
  have H1 := Lib.hid (fun W (h : Ax W sb mb s) => get_any k W h hk rfl)
  have H2 := Lib.hid (fun W (h : Rx W rb s L vl) => rget_any k W h rfl)
  have H3 := Lib.hid (fun W (h : Ax W sb mb s) => upto_any W h)
  have H4 := Lib.hid (fun W (h : Rx W rb s L vl) => rupto_any W h)
  have H5 := Lib.hid (fun W (h : Ax W sb mb s) => base_any W h)
  have H6 := Lib.hid (fun W (h : Rx W rb s L vl) => rbase_any W h)
  have H7 := Lib.hid (fun W (h : Ax W sb mb s) => prefix_any W h)
  have H8 := Lib.hid (fun W (h : Rx W rb s L vl) => rprefix_any W h)
  have H9 := Lib.hid (fun W (h : Ax W sb mb s) => gaps_any W h)
  have H10 := Lib.hid (fun W (h : Rx W rb s L vl) => rgaps_any W h)
  generalize gK (getM s.M k) = q at *
  generalize (getM s.M k).isSome = p at *
  generalize uptoV s = up at *
  generalize preV s = PV at *
  generalize gapV s = GV at *
  have H11 := Lib.hid (fun v1 v2 W (h1 : IsS W v1 PV) (h2 : IsS W v2 PV) => by have := equalS_any v1 v2 PV PV W h1 h2 (by omega) (by omega); rw [eqTs_t] at this; exact this)
  have H12 := Lib.hid (fun v1 v2 W (h1 : IsI W v1 GV) (h2 : IsI W v2 GV) => by have := equal_any v1 v2 GV GV W h1 h2 (by omega) (by omega); rw [eqLs_t] at this; exact this)
  have htl : (q.toList == q.toList) = true := by rw [tl_eq]; exact eqT_t _
  have hbb : (p == p) = true := by simp
  have hup : (up == up) = true := by simp
  have hub : (s.b == s.b) = true := by simp
  clear x y hk hl1 hl2
  replace B0 := Lib.hid B0
  go_enter Try.func15, Try.ntmps15
  go_wp2_with (first
    | (go_at_call 24; refine (H1.out _ B0.out.ax).mono ?_; rintro e w1 ⟨rfl, rfl⟩)
    | (go_at_call 36; refine (H2.out _ B0.out.rx).mono ?_; rintro e w1 ⟨rfl, rfl⟩)
    | (go_at_call 25; refine (H3.out _ B0.out.ax).mono ?_; rintro e w1 ⟨rfl, rfl⟩)
    | (go_at_call 37; refine (H4.out _ B0.out.rx).mono ?_; rintro e w1 ⟨rfl, rfl⟩)
    | (go_at_call 26; refine (H5.out _ B0.out.ax).mono ?_; rintro e w1 ⟨rfl, rfl⟩)
    | (go_at_call 38; refine (H6.out _ B0.out.rx).mono ?_; rintro e w1 ⟨rfl, rfl⟩)
    | (go_at_call 27; refine (H7.out _ B0.out.ax).mono ?_; rintro e w7 ⟨v7, rfl, hO7, hb7⟩; have B7 := Lib.hid (B0.out.later hb7); have O7 := Lib.hid hO7)
    | (go_at_call 39; refine (H8.out _ B7.out.rx).mono ?_; rintro e w8 ⟨v8, rfl, hO8, hb8⟩; have B8 := Lib.hid (B7.out.later hb8); have I7 := Lib.hid (O7.out.later hb8).is; have I8 := Lib.hid hO8.is)
    | (go_at_call 34; refine (H11.out _ _ _ I7.out I8.out).mono ?_; rintro e w9 ⟨rfl, hb9⟩; have B9 := Lib.hid (B8.out.later hb9))
    | (go_at_call 28; refine (H9.out _ B9.out.ax).mono ?_; rintro e w10 ⟨v10, rfl, hO10, hb10⟩; have B10 := Lib.hid (B9.out.later hb10); have O10 := Lib.hid hO10)
    | (go_at_call 40; refine (H10.out _ B10.out.rx).mono ?_; rintro e w11 ⟨v11, rfl, hO11, hb11⟩; have B11 := Lib.hid (B10.out.later hb11); have I10 := Lib.hid (O10.out.later hb11).is; have I11 := Lib.hid hO11.is)
    | (go_at_call 31; refine (H12.out _ _ _ I10.out I11.out).mono ?_; rintro e w12 ⟨rfl, hb12⟩; have B12 := Lib.hid (B11.out.later hb12)))
  go_ret
  exact ⟨rfl, B12.out.bel⟩

/-! The pair that goes on, the pair that was copied, and the step. -/
theorem ap_rb {W : World} {rb g : Nat} {s : St} {L : List Et} {vl : Value} {c : Array Value} {t : TypeId} (x : Rx W rb s L vl) (hg : W.heap[g]? = some (.cells c t (0, 0))) (ht : t ≠ TRL) : g ≠ rb := by
  rintro rfl
  rw [x.box] at hg
  injection hg with hg
  injection hg with _ hg
  exact ht hg.symm
theorem row_at {W : World} {rb i : Nat} {s : St} {L : List Et} {vl : Value} (x : Rx W rb s L vl) (hi : vl.ownBlock = some i) : i < W.heap.size ∧ ∃ c, W.heap[i]? = some (.cells c TRK (0, 0)) := by
  rcases x.row.2 with ⟨rfl, _⟩ | ⟨g, cap, cur, rfl, _, hg, _⟩
  · cases hi
  · injection hi with hi
    subst hi
    exact ⟨(Array.getElem?_eq_some_iff.1 hg).1, cur, hg⟩
theorem row_ax {W : World} {sb mb rb : Nat} {s s' : St} {L : List Et} {vl : Value} (a : Ax W sb mb s) (x : Rx W rb s' L vl) : ∀ i, vl.ownBlock = some i → ¬ (i = sb ∨ i = mb) := by
  intro i hi
  obtain ⟨_, c, hc⟩ := row_at x hi
  exact a.apart hc (by decide)
structure OldP (base sb mb rb : Nat) (s : St) (L : List Et) (vl : Value) (W : World) : Prop where
  ax : Ax W sb mb s
  rx : Rx W rb s L vl
  l1 : sb < base
  l2 : mb < base
  l3 : rb < base
  l4 : ∀ i, vl.ownBlock = some i → i < base
theorem OldP.kept {F : Nat → Prop} {base sb mb rb : Nat} {s : St} {L : List Et} {vl : Value} {W W' : World} (h : OldP base sb mb rb s L vl W) (k : Keeps F W W') (hF : ∀ i, F i → base ≤ i) : OldP base sb mb rb s L vl W' := by
  have q : ∀ i, i < base → ¬ F i := fun i hi hf => by have := hF i hf; omega
  exact ⟨h.ax.kept k (q _ h.l1) (q _ h.l2), h.rx.kept k (q _ h.l3) fun i hi => q _ (h.l4 i hi), h.l1, h.l2, h.l3, h.l4⟩
def Past (base : Nat) (old was : Value) (W : World) : Prop :=
  (old = .pointer none ∧ was = .pointer none) ∨ ∃ sb mb rb s L vl, old = .pointer (some ⟨sb, 0, none⟩) ∧ was = .pointer (some ⟨rb, 0, none⟩) ∧ OldP base sb mb rb s L vl W
theorem Past.kept {F : Nat → Prop} {base : Nat} {old was : Value} {W W' : World} (h : Past base old was W) (k : Keeps F W W') (hF : ∀ i, F i → base ≤ i) : Past base old was W' := by
  rcases h with h | ⟨sb, mb, rb, s, L, vl, h1, h2, h3⟩
  · exact .inl h
  · exact .inr ⟨sb, mb, rb, s, L, vl, h1, h2, h3.kept k hF⟩
structure Duo (w : World) (base sb mb rb : Nat) (old was : Value) (s t : St) (W : World) : Prop where
  ax : Ax W sb mb s
  rx : ∃ L vl, Rx W rb t L vl ∧ Up base vl
  bel : Below w.heap.size w W
  b0 : w.heap.size ≤ base
  b1 : base ≤ sb
  b2 : base ≤ mb
  b3 : base ≤ rb
  past : Past base old was W
structure Two (w : World) (base sb mb rb : Nat) (old was : Value) (bx : Nat) (p : Sp) (s t : St) (W : World) : Prop where
  d : Duo w base sb mb rb old was s t W
  blk : W.heap[bx]? = some (.cells #[.int .i64 p.d, .int .i64 p.k, .string p.v] TP (0, 0))
section
variable {w W W' : World} {base sb mb rb bx : Nat} {old was : Value} {p : Sp} {s t s' t' : St}
theorem Duo.later (h : Duo w base sb mb rb old was s t W) (hb : Below W.heap.size W W') : Duo w base sb mb rb old was s t W' := by
  obtain ⟨L, vl, hx, hu⟩ := h.rx
  exact ⟨h.ax.later hb, ⟨L, vl, hx.later hb, hu⟩, h.bel.trans (hb.mono h.bel.size), h.b0, h.b1, h.b2, h.b3, h.past.kept (F := fun _ => False) (Keeps.of_below hb) fun _ hf => hf.elim⟩
theorem Duo.prog (h : Duo w base sb mb rb old was s t W) (hA : Ax W' sb mb s') (k : Keeps (KL sb mb) W W') : Duo w base sb mb rb old was s' t W' := by
  obtain ⟨L, vl, hx, hu⟩ := h.rx
  have h1 := h.b0
  have h2 := h.b1
  have h3 := h.b2
  exact ⟨hA, ⟨L, vl, hx.kept k (h.ax.apart hx.box (by decide)) (row_ax h.ax hx), hu⟩, h.bel.trans (k.below h.bel.size fun i hi => by rcases hi with rfl | rfl <;> omega), h.b0, h.b1, h.b2, h.b3, h.past.kept k fun i hi => by rcases hi with rfl | rfl <;> omega⟩
theorem Duo.ref {L : List Et} {vl : Value} (h : Duo w base sb mb rb old was s t W) (hx : Rx W rb t L vl) (hu : Up base vl) (hR : ∃ L' v', Rx W' rb t' L' v' ∧ Keeps (fun i => i = rb ∨ vl.ownBlock = some i) W W' ∧ Up base v') : Duo w base sb mb rb old was s t' W' := by
  obtain ⟨L', v', hR, k, hu'⟩ := hR
  have h1 := h.b0
  have h2 := h.b3
  have hne := h.ax.apart hx.box (by decide)
  have hrow := row_ax h.ax hx
  have hlo : ∀ i, (i = rb ∨ vl.ownBlock = some i) → base ≤ i := fun i hi => by
    rcases hi with rfl | hi
    · exact h2
    · exact hu i hi
  exact ⟨h.ax.kept k (fun e => e.elim (fun e => hne (.inl e.symm)) fun e => hrow _ e (.inl rfl)) (fun e => e.elim (fun e => hne (.inr e.symm)) fun e => hrow _ e (.inr rfl)), ⟨L', v', hR, hu'⟩, h.bel.trans (k.below h.bel.size fun i hi => Nat.le_trans h1 (hlo i hi)), h.b0, h.b1, h.b2, h.b3, h.past.kept k hlo⟩
theorem Two.later (h : Two w base sb mb rb old was bx p s t W) (hb : Below W.heap.size W W') : Two w base sb mb rb old was bx p s t W' :=
  ⟨h.d.later hb, (hb.block _ (Array.getElem?_eq_some_iff.1 h.blk).1).trans h.blk⟩
theorem Two.drew (h : Two w base sb mb rb old was bx p s t W) : Two w base sb mb rb old was bx p s t W.drew := h.later (Below.refl _ _).drew
theorem two_new (h : Duo w base sb mb rb old was s t W) (p : Sp) : Two w base sb mb rb old was W.heap.size p s t (W.alloc (.cells #[.int .i64 p.d, .int .i64 p.k, .string p.v] TP)) :=
  ⟨h.later (alloc_b _ _), heap_alloc_new _ _⟩
theorem Two.prog (h : Two w base sb mb rb old was bx p s t W) (hA : Ax W' sb mb s') (k : Keeps (KL sb mb) W W') : Two w base sb mb rb old was bx p s' t W' :=
  ⟨h.d.prog hA k, (k.block _ (Array.getElem?_eq_some_iff.1 h.blk).1 (h.d.ax.apart h.blk (by decide))).trans h.blk⟩
theorem Two.ref {L : List Et} {vl : Value} (h : Two w base sb mb rb old was bx p s t W) (hx : Rx W rb t L vl) (hu : Up base vl) (hR : ∃ L' v', Rx W' rb t' L' v' ∧ Keeps (fun i => i = rb ∨ vl.ownBlock = some i) W W' ∧ Up base v') : Two w base sb mb rb old was bx p s t' W' := by
  obtain ⟨L', v', hR', k, _⟩ := id hR
  refine ⟨h.d.ref hx hu hR, (k.block _ (Array.getElem?_eq_some_iff.1 h.blk).1 fun e => ?_).trans h.blk⟩
  rcases e with e | e
  · exact ap_rb hx h.blk (by decide) e
  · obtain ⟨_, c, hc⟩ := row_at hx e
    have := h.blk
    rw [hc] at this
    injection this with this
    injection this with _ this
    exact absurd this (by decide)
theorem Two.cells (h : Two w base sb mb rb old was bx p s t W) : W.cell? ⟨bx, 0, none⟩ = some (.int .i64 p.d) ∧ W.cell? ⟨bx, 1, none⟩ = some (.int .i64 p.k) ∧ W.cell? ⟨bx, 2, none⟩ = some (.string p.v) :=
  ⟨cell_of_row _ _ 0 _ TP _ h.blk, cell_of_row _ _ 1 _ TP _ h.blk, cell_of_row _ _ 2 _ TP _ h.blk⟩
theorem Two.pput (h : Two w base sb mb rb old was bx p s t W) (k : Int) (v : ByteArray) :
    Calls Try.prog 16 #[.pointer (some ⟨sb, 0, none⟩), .int .i64 k, .string v] W fun e W' =>
      e = .returned (.int .i64 (putE s k v)) ∧ Two w base sb mb rb old was bx p (putS s k v) t W' :=
  (put_any k v W h.d.ax).mono fun e W' ⟨he, hA, hK⟩ => ⟨he, h.prog hA (hK.wide fun k h => .inr h)⟩
theorem Two.rput (h : Two w base sb mb rb old was bx p s t W) (k : Int) (v : ByteArray) :
    Calls Try.prog 17 #[.pointer (some ⟨rb, 0, none⟩), .int .i64 k, .string v] W fun e W' =>
      e = .returned (.int .i64 (putE t k v)) ∧ Two w base sb mb rb old was bx p s (putS t k v) W' := by
  obtain ⟨L, vl, hx, hu⟩ := h.d.rx
  exact (rput_any k v W hx (Nat.le_trans h.d.b3 (Nat.le_of_lt hx.lt)) hu).mono fun e W' ⟨he, hR⟩ => ⟨he, h.ref hx hu hR⟩
theorem mov_row {c : Int} {e : Ending} {L : List Et} {vl : Value} (h : Two w base sb mb rb old was bx p s t W) (hx : Rx W rb t L vl) (hu : Up base vl) (hR : RMov W rb vl c t' e W') : e = .returned (.int .i64 c) ∧ Two w base sb mb rb old was bx p s t' W' := by
  obtain ⟨he, L', v', h1, h2, h3⟩ := hR
  exact ⟨he, h.ref hx hu ⟨L', v', h1, h2.wide fun i hi => .inl hi, h3 base (Nat.le_trans h.d.b3 (Nat.le_of_lt hx.lt)) hu⟩⟩
theorem Two.pfor (h : Two w base sb mb rb old was bx p s t W) (u : Int) :
    Calls Try.prog 18 #[.pointer (some ⟨sb, 0, none⟩), .int .i64 u] W fun e W' =>
      e = .returned (.int .i64 (forE s u)) ∧ Two w base sb mb rb old was bx p (forS s u) t W' :=
  (forget_any u W h.d.ax).mono fun e W' ⟨he, hA, hK⟩ => ⟨he, h.prog hA hK⟩
theorem Two.rfor (h : Two w base sb mb rb old was bx p s t W) (u : Int) :
    Calls Try.prog 19 #[.pointer (some ⟨rb, 0, none⟩), .int .i64 u] W fun e W' =>
      e = .returned (.int .i64 (forE t u)) ∧ Two w base sb mb rb old was bx p s (forS t u) W' := by
  obtain ⟨L, vl, hx, hu⟩ := h.d.rx
  exact (rforget_any u W hx).mono fun e W' hR => mov_row h hx hu hR
theorem Two.pjmp (h : Two w base sb mb rb old was bx p s t W) (u : Int) :
    Calls Try.prog 20 #[.pointer (some ⟨sb, 0, none⟩), .int .i64 u] W fun e W' =>
      e = .returned (.int .i64 (jmpE s u)) ∧ Two w base sb mb rb old was bx p (jmpS s u) t W' :=
  (jump_any u W h.d.ax).mono fun e W' ⟨he, hA, hK⟩ => ⟨he, h.prog hA hK⟩
theorem Two.rjmp (h : Two w base sb mb rb old was bx p s t W) (u : Int) :
    Calls Try.prog 21 #[.pointer (some ⟨rb, 0, none⟩), .int .i64 u] W fun e W' =>
      e = .returned (.int .i64 (jmpE t u)) ∧ Two w base sb mb rb old was bx p s (jmpS t u) W' := by
  obtain ⟨L, vl, hx, hu⟩ := h.d.rx
  exact (rjump_any u W hx).mono fun e W' hR => mov_row h hx hu hR
theorem Two.show (h : Two w base sb mb rb old was bx p s s W) (k : Int) (hk : (Lit.int .i64 k).wf = true) :
    Calls Try.prog 15 #[.pointer (some ⟨sb, 0, none⟩), .pointer (some ⟨rb, 0, none⟩), .int .i64 k] W fun e W' => e = .returned (.bool true) ∧ Two w base sb mb rb old was bx p s s W' := by
  obtain ⟨L, vl, hx, _⟩ := h.d.rx
  exact (shows_any k W h.d.ax hx hk).mono fun e W' ⟨he, hb⟩ => ⟨he, h.later hb⟩
theorem Two.show0 {sb0 rb0 : Nat} (h : Two w base sb mb rb (.pointer (some ⟨sb0, 0, none⟩)) (.pointer (some ⟨rb0, 0, none⟩)) bx p s t W) (k : Int) (hk : (Lit.int .i64 k).wf = true) :
    Calls Try.prog 15 #[.pointer (some ⟨sb0, 0, none⟩), .pointer (some ⟨rb0, 0, none⟩), .int .i64 k] W fun e W' => e = .returned (.bool true) ∧ Two w base sb mb rb (.pointer (some ⟨sb0, 0, none⟩)) (.pointer (some ⟨rb0, 0, none⟩)) bx p s t W' := by
  rcases h.d.past with ⟨h1, _⟩ | ⟨sb1, mb1, rb1, s1, L1, vl1, h1, h2, h3⟩
  · cases h1
  · injection h1 with h1
    injection h1 with h1
    injection h1 with h1
    injection h2 with h2
    injection h2 with h2
    injection h2 with h2
    subst h1 h2
    exact (shows_any k W h3.ax h3.rx hk).mono fun e W' ⟨he, hb⟩ => ⟨he, h.later hb⟩
/-- After both copies. -/
theorem Two.cp1 (h : Two w base sb mb rb old was bx p s s W) :
    Calls Try.prog 22 #[.pointer (some ⟨sb, 0, none⟩)] W fun e W' => ∃ sb' mb', e = .returned (.pointer (some ⟨sb', 0, none⟩)) ∧ Ax W' sb' mb' s ∧ W.heap.size ≤ sb' ∧ W.heap.size ≤ mb' ∧ Below W.heap.size W W' :=
  (copy_any W h.d.ax).mono fun e W' ⟨sb', mb', he, h1, h2, hA, hb⟩ => ⟨sb', mb', he, hA, h1, h2, hb⟩
theorem Two.cp2 (h : Two w base sb mb rb old was bx p s s W) {sb' mb' : Nat} (hA : Ax W' sb' mb' s) (h1 : W.heap.size ≤ sb') (h2 : W.heap.size ≤ mb') (hb : Below W.heap.size W W') :
    Calls Try.prog 23 #[.pointer (some ⟨rb, 0, none⟩)] W' fun e W2 => ∃ rb', e = .returned (.pointer (some ⟨rb', 0, none⟩)) ∧
      Two w W.heap.size sb' mb' rb' (.pointer (some ⟨sb, 0, none⟩)) (.pointer (some ⟨rb, 0, none⟩)) bx p s s W2 := by
  obtain ⟨L, vl, hx, hu⟩ := h.d.rx
  refine (rcopy_any W' (hx.later hb)).mono ?_
  rintro e W2 ⟨rb', L', v', rfl, hR, h3, hb2, hu2⟩
  have hb3 : Below W.heap.size W W2 := hb.trans (hb2.mono hb.size)
  have hs := hb.size
  refine ⟨rb', rfl, ⟨hA.later hb2, ⟨L', v', hR, fun i hi => Nat.le_trans hs (hu2 i hi)⟩, h.d.bel.trans (hb3.mono h.d.bel.size), h.d.bel.size, h1, h2, by omega, .inr ⟨sb, mb, rb, s, L, vl, rfl, rfl, h.d.ax.later hb3, hx.later hb3, h.d.ax.lt.1, h.d.ax.lt.2, hx.lt, fun i hi => (row_at hx hi).1⟩⟩, (h.later hb3).blk⟩
end
end Go.Proofs.Ytgeejkedljhcoaa.Slt
