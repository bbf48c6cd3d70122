/- Texts are read as they were written: plain facts; a range as it comes in; the walk of RangesBack. -/
import Derived.Test.YtocencmdfppkaaaR18
import Derived.ProofKit
import Derived.OpenShut
import Derived.SizedLaws
import Derived.Stop.Joined
import Derived.ShutString
namespace Go.Proofs.Ytocencmdfppkaaa.Rng
open Go.RowKit Go.Lib Go.ChangeShapes Go.WideShapes
set_option linter.unusedVariables false
set_option linter.unusedSimpArgs false
set_option maxRecDepth 20000

theorem cutB_at : ∀ (f t : List UInt8) (c : UInt8), (∀ x ∈ f, x ≠ c) → cutB (f ++ c :: t) c = (f, t, true)
  | [], t, c, _ => by simp [cutB]
  | b :: f, t, c, h => by
    have hb : b ≠ c := h b List.mem_cons_self
    show cutB (b :: (f ++ c :: t)) c = _
    rw [cutB, if_neg hb, cutB_at f t c (fun x hx => h x (List.mem_cons_of_mem _ hx))]
theorem cutB_back : ∀ (l : List UInt8) (c : UInt8), (cutB l c).2.2 = true → l = (cutB l c).1 ++ c :: (cutB l c).2.1
  | [], c, h => by cases h
  | b :: l, c, h => by
    by_cases hb : b = c
    · subst hb; simp [cutB]
    · rw [cutB, if_neg hb] at h ⊢
      show b :: l = b :: ((cutB l c).1 ++ c :: (cutB l c).2.1)
      rw [← cutB_back l c h]
theorem name_bytes {x : List UInt8} (h : endOk x = true) (c : UInt8) (hc : goodB c = false) : ∀ y ∈ x, y ≠ c := by
  intro y hy e
  subst e
  unfold endOk nameOk at h
  rw [Bool.or_eq_true] at h
  rcases h with h | h
  · have : x = [] := by simpa using h
    rw [this] at hy; cases hy
  · rw [Bool.and_eq_true] at h
    have := List.all_eq_true.1 h.2 y hy
    rw [hc] at this; cases this
theorem pre_cons (c : UInt8) (l : List UInt8) : hasPrefix (c :: l) [c] = true ∧ trimPrefix (c :: l) [c] = l := by
  have h : hasPrefix (c :: l) [c] = true := by unfold hasPrefix; simp
  exact ⟨h, by unfold trimPrefix; rw [if_pos h]; rfl⟩
theorem pre_back {l : List UInt8} {c : UInt8} (h : hasPrefix l [c] = true) : l = c :: trimPrefix l [c] := by
  unfold trimPrefix
  rw [if_pos h]
  obtain ⟨t, rfl⟩ := List.isPrefixOf_iff_prefix.1 h
  rfl
theorem suf_app (c : UInt8) (l : List UInt8) : hasSuffix (l ++ [c]) [c] = true ∧ trimSuffix (l ++ [c]) [c] = l := by
  have h : hasSuffix (l ++ [c]) [c] = true := List.isSuffixOf_iff_suffix.2 ⟨l, rfl⟩
  refine ⟨h, ?_⟩
  unfold trimSuffix
  rw [if_pos h]
  simp
theorem suf_back {l : List UInt8} {c : UInt8} (h : hasSuffix l [c] = true) : l = trimSuffix l [c] ++ [c] := by
  unfold trimSuffix
  rw [if_pos h]
  obtain ⟨t, rfl⟩ := List.isSuffixOf_iff_suffix.1 h
  simp
def txt (r : Rg) : List UInt8 := 91 :: (r.f ++ 44 :: (r.t ++ [41]))
theorem textR_yes {r : Rg} (h : okR r = true) : textR r = (txt r, 0) := by unfold textR; rw [h]; rfl
theorem textR_no {r : Rg} (h : okR r = false) : textR r = ([], 2) := by unfold textR; rw [h]; rfl
theorem txt_len {r : Rg} (h : okR r = true) : (txt r).length ≤ 1000 := by
  obtain ⟨h1, h2, _⟩ := (okR_iff r).1 h
  have := endOk_len h1
  have := endOk_len h2
  unfold txt
  simp
  omega
theorem parse_text {r : Rg} (h : okR r = true) : parseR (txt r) = (r, 0) := by
  obtain ⟨h1, h2, _⟩ := (okR_iff r).1 h
  have e : txt r = 91 :: ((r.f ++ 44 :: r.t) ++ [41]) := by unfold txt; simp
  unfold parseR
  rw [e]
  obtain ⟨p1, p2⟩ := pre_cons 91 ((r.f ++ 44 :: r.t) ++ [41])
  obtain ⟨s1, s2⟩ := suf_app 41 (r.f ++ 44 :: r.t)
  have hc := cutB_at r.f r.t 44 (name_bytes h1 44 (by decide))
  simp only [p1, p2, s1, s2, hc, Bool.true_and, Bool.and_self]
  rw [if_pos h]
theorem text_parse {s : List UInt8} (h : (parseR s).2 = 0) : okR (parseR s).1 = true ∧ txt (parseR s).1 = s := by
  unfold parseR at h ⊢
  simp only at h ⊢
  split at h
  · rename_i hh
    rw [if_pos hh]
    simp only [Bool.and_eq_true] at hh
    obtain ⟨⟨⟨p, q⟩, c⟩, ho⟩ := hh
    refine ⟨ho, ?_⟩
    have e1 := pre_back p
    have e2 := suf_back q
    have e3 := cutB_back _ _ c
    unfold txt
    show 91 :: ((cutB (trimSuffix (trimPrefix s [91]) [41]) 44).1 ++ 44 :: ((cutB (trimSuffix (trimPrefix s [91]) [41]) 44).2.1 ++ [41])) = s
    conv => rhs; rw [e1, e2, e3]
    simp
  · cases h
theorem parse_err (s : List UInt8) : ((parseR s).2 = 0) ∨ (parseR s = (⟨[], []⟩, 10)) := by
  unfold parseR
  simp only
  split
  · left; rfl
  · right; rfl

theorem tr_struct : ∃ f0 f1, Try.prog.underlying TR = some (.struct #[f0, f1]) ∧ f0.type = 9 ∧ f1.type = 9 ∧ f0.offset = 0 ∧ f1.offset = 1 := ⟨_, _, Try.underlying23, rfl, rfl, rfl, rfl⟩
theorem tr_cells : Try.prog.cellsOf TR = 2 := by kernel_rfl
section
variable {H : Type} {enc : TypeId × Value → H} {w : World} {base : Nat} {spare : Nat → Bool} {held : Bool}
theorem rng_parts {fuel : Nat} {c0 c1 : Value} {x : DataW H × List MemPlace} (h : DataW.trod enc Try.prog w base spare held fuel TR [c0, c1] = some x) :
    ∃ r : Rg, c0 = .string (tx r.f) ∧ c1 = .string (tx r.t) := by
  obtain ⟨f0, f1, hu, t0, t1, o0, o1⟩ := tr_struct
  obtain ⟨ys, m, _, rfl, _, hl, hf⟩ := DataW.trod_struct hu h
  have h0 := hf 0 f0 rfl
  have h1 := hf 1 f1 rfl
  have k0 : Try.prog.cellsOf 9 = 1 := by kernel_rfl
  rw [t0, o0, k0] at h0
  rw [t1, o1, k0] at h1
  have hl3 : ys.length = 2 := hl
  match ys, hl3 with
  | [y0, y1], _ =>
    have g0 : DataW.trod enc Try.prog w base spare held m 9 [c0] = some y0 := h0
    have g1 : DataW.trod enc Try.prog w base spare held m 9 [c1] = some y1 := h1
    obtain ⟨n0, e0, _⟩ := DataW.trod_string Try.underlying9 g0
    obtain ⟨n1, e1, _⟩ := DataW.trod_string Try.underlying9 g1
    cases e0; cases e1
    exact ⟨⟨n0.data.toList, n1.data.toList⟩, by rw [tx_of], by rw [tx_of]⟩
theorem rng_open {r : Reach} {b0 : Nat} {v : Value} {d : DataW H} {p : List MemPlace} (hv : Value.okWide Try.prog w r b0 TR v) (h : DataW.Trod enc Try.prog w base spare held TR v d p) :
    ∃ r : Rg, v = .agg #[.string (tx r.f), .string (tx r.t)] := by
  obtain ⟨cs, rfl, hsz⟩ := okWide_struct Try.underlying23 hv
  obtain ⟨c0, c1, rfl⟩ : ∃ c0 c1, cs = #[c0, c1] := by
    have hs : cs.size = 2 := hsz.trans tr_cells
    obtain ⟨l⟩ := cs
    have hl : l.length = 2 := hs
    match l, hl with
    | [c0, c1], _ => exact ⟨c0, c1, rfl⟩
  obtain ⟨fuel, hf⟩ := h
  obtain ⟨r, rfl, rfl⟩ := rng_parts (show DataW.trod enc Try.prog w base spare held fuel TR [c0, c1] = some (d, _) from hf)
  exact ⟨r, rfl⟩
end
theorem empty_lit : (⟨#[]⟩ : ByteArray) = tx [] := rfl
set_option maxHeartbeats 1000000 in
/-- Where what came in is too long, the examples alone count. -/
theorem back_long (r : Rg) (l : List UInt8) (h : (!shortR r || decide (100 < l.length)) = true) (w : World) :
    Calls Try.prog 9 #[.agg #[.string (tx r.f), .string (tx r.t)], .string (tx l)] w fun e w' => e = .returned (.bool true) ∧ Below w.heap.size w w' := by
  have hS := Lib.hid (fun W => short_any r W)
  have hW := Lib.hid (fun W => works_any W)
  have hx := bx_new w (tx r.f) (tx r.t)
  have hz := tx_size l
  rw [← hz] at h
  clear hz
  obtain ⟨c0, c1⟩ := hx.cells
  generalize shortR r = z at *
  generalize tx r.f = s at *
  generalize tx r.t = t at *
  generalize tx l = y at *
  cases z with
  | false =>
    clear h
    go_enter Try.func9, Try.ntmps9
    go_wp2_with (first
      | (go_at_call 11; refine (hS.out _).mono ?_; rintro e w1 ⟨rfl, hb1⟩; have hx1 := hx.later hb1)
      | (go_at_call 12; refine (hW.out _).mono ?_; rintro e w2 ⟨rfl, hb2⟩; have hx2 := hx1.later hb2))
    go_ret
    exact ⟨rfl, hx2.bel⟩
  | true =>
    have h2 : 100 < y.size := by simpa using h
    have b1 : decide (100 < (y.size : Int)) = true := decide_eq_true (by omega)
    have b2 : decide (100 < y.size) = true := decide_eq_true h2
    clear h h2
    go_enter Try.func9, Try.ntmps9
    go_wp2_with (first
      | (go_at_call 11; refine (hS.out _).mono ?_; rintro e w1 ⟨rfl, hb1⟩; have hx1 := hx.later hb1)
      | (go_at_call 12; refine (hW.out _).mono ?_; rintro e w2 ⟨rfl, hb2⟩; have hx2 := hx1.later hb2))
    go_ret
    exact ⟨rfl, hx2.bel⟩
set_option maxHeartbeats 2000000 in
theorem back_ok (r : Rg) (l : List UInt8) (h1 : shortR r = true) (h2 : l.length ≤ 100) (w : World) :
    Calls Try.prog 9 #[.agg #[.string (tx r.f), .string (tx r.t)], .string (tx l)] w fun e w' => e = .returned (.bool true) ∧ Below w.heap.size w w' := by
  have hS := fun W => short_any r W
  rw [h1] at hS
  replace hS := Lib.hid hS
  have hW := Lib.hid (fun W => works_any W)
  have hT := fun W => text_any r W
  have hK := fun W => check_any r W
  have hP := fun W => parse_any l (by omega) W
  have hx := bx_new w (tx r.f) (tx r.t)
  have b0 : decide (100 < ((tx l).size : Int)) = false := decide_eq_false (by rw [tx_size]; omega)
  have b0' : decide (100 < (tx l).size) = false := decide_eq_false (by rw [tx_size]; omega)
  unfold okE at hK
  -- the second half: what the text is read as
  have hB : (∃ y : Rg, (∀ W, Calls Try.prog 15 #[.string (tx l)] W fun e w' => e = .returned (.tuple #[.agg #[.string (tx y.f), .string (tx y.t)], .int .i64 0]) ∧ Below W.heap.size W w') ∧ (∀ W, Calls Try.prog 13 #[.agg #[.string (tx y.f), .string (tx y.t)]] W fun e w' => e = .returned (.tuple #[.string (tx l), .int .i64 0]) ∧ Below W.heap.size W w')) ∨
      (∀ W, Calls Try.prog 15 #[.string (tx l)] W fun e w' => e = .returned (.tuple #[.agg #[.string ⟨#[]⟩, .string ⟨#[]⟩], .int .i64 10]) ∧ Below W.heap.size W w') := by
    rcases parse_err l with h | h
    · left
      obtain ⟨o1, o2⟩ := text_parse h
      refine ⟨(parseR l).1, fun W => ?_, fun W => ?_⟩
      · have := hP W
        rwa [h] at this
      · have := text_any (parseR l).1 W
        rwa [textR_yes o1, o2] at this
    · right
      intro W
      have := hP W
      rwa [h] at this
  replace hB := Lib.hid hB
  clear hP h1 h2
  obtain ⟨c0, c1⟩ := hx.cells
  cases ho : okR r with
  | false =>
    rw [textR_no ho] at hT
    rw [ho] at hK
    replace hK := Lib.hid (show ∀ W, Calls Try.prog 17 #[.agg #[.string (tx r.f), .string (tx r.t)]] W (fun e w' => e = .returned (.int .i64 2) ∧ Below W.heap.size W w') from hK)
    replace hT := Lib.hid hT
    clear ho
    generalize tx r.f = s at *
    generalize tx r.t = t at *
    rcases hB.out with ⟨y, q1, q2⟩ | q1
    · generalize tx y.f = yf at *
      generalize tx y.t = yt at *
      generalize tx l = z at *
      replace q1 := Lib.hid q1
      replace q2 := Lib.hid q2
      clear hB
      go_enter Try.func9, Try.ntmps9
      go_wp2_with (first
        | (go_at_call 11; refine (hS.out _).mono ?_; rintro e w1 ⟨rfl, hb1⟩; have hx1 := hx.later hb1; obtain ⟨d0, d1⟩ := hx1.cells)
        | (go_at_call_of 13 (Value.agg #[Value.string s, Value.string t]); refine (hT.out _).mono ?_; rintro e w2 ⟨rfl, hb2⟩; have hx2 := hx1.later hb2; obtain ⟨e0, e1⟩ := hx2.cells)
        | (go_at_call 17; refine (hK.out _).mono ?_; rintro e w3 ⟨rfl, hb3⟩; have hx3 := hx2.later hb3)
        | (go_at_call 15; refine (q1.out _).mono ?_; rintro e w4 ⟨rfl, hb4⟩; have hx4 := (hx3.later hb4).later (alloc_b w4 (.cells #[.string yf, .string yt] TR)))
        | (go_at_call_of 13 (Value.agg #[Value.string yf, Value.string yt]); refine (q2.out _).mono ?_; rintro e w5 ⟨rfl, hb5⟩; have hx5 := hx4.later hb5)
        | (go_at_call 12; refine (hW.out _).mono ?_; rintro e w6 ⟨rfl, hb6⟩; have hx6 := hx5.later hb6))
      go_ret
      exact ⟨rfl, hx6.bel⟩
    · generalize tx l = z at *
      replace q1 := Lib.hid q1
      clear hB
      go_enter Try.func9, Try.ntmps9
      go_wp2_with (first
        | (go_at_call 11; refine (hS.out _).mono ?_; rintro e w1 ⟨rfl, hb1⟩; have hx1 := hx.later hb1; obtain ⟨d0, d1⟩ := hx1.cells)
        | (go_at_call_of 13 (Value.agg #[Value.string s, Value.string t]); refine (hT.out _).mono ?_; rintro e w2 ⟨rfl, hb2⟩; have hx2 := hx1.later hb2; obtain ⟨e0, e1⟩ := hx2.cells)
        | (go_at_call 17; refine (hK.out _).mono ?_; rintro e w3 ⟨rfl, hb3⟩; have hx3 := hx2.later hb3)
        | (go_at_call 15; refine (q1.out _).mono ?_; rintro e w4 ⟨rfl, hb4⟩; have hx4 := (hx3.later hb4).later (alloc_b w4 (.cells #[.string ⟨#[]⟩, .string ⟨#[]⟩] TR)))
        | (go_at_call 12; refine (hW.out _).mono ?_; rintro e w6 ⟨rfl, hb6⟩; have hx6 := hx4.later hb6))
      go_ret
      exact ⟨rfl, hx6.bel⟩
  | true =>
    have hQ : ∀ W, Calls Try.prog 15 #[.string (tx (txt r))] W fun e w' => e = .returned (.tuple #[.agg #[.string (tx r.f), .string (tx r.t)], .int .i64 0]) ∧ Below W.heap.size W w' := fun W => by
      have := parse_any (txt r) (txt_len ho) W
      rwa [parse_text ho] at this
    rw [textR_yes ho] at hT
    rw [ho] at hK
    replace hK := Lib.hid (show ∀ W, Calls Try.prog 17 #[.agg #[.string (tx r.f), .string (tx r.t)]] W (fun e w' => e = .returned (.int .i64 0) ∧ Below W.heap.size W w') from hK)
    replace hT := Lib.hid (show ∀ W, Calls Try.prog 13 #[.agg #[.string (tx r.f), .string (tx r.t)]] W (fun e w' => e = .returned (.tuple #[.string (tx (txt r)), .int .i64 0]) ∧ Below W.heap.size W w') from hT)
    replace hQ := Lib.hid hQ
    clear ho
    generalize tx (txt r) = v at *
    generalize tx r.f = s at *
    generalize tx r.t = t at *
    rcases hB.out with ⟨y, q1, q2⟩ | q1
    · generalize tx y.f = yf at *
      generalize tx y.t = yt at *
      generalize tx l = z at *
      replace q1 := Lib.hid q1
      replace q2 := Lib.hid q2
      clear hB
      go_enter Try.func9, Try.ntmps9
      go_wp2_with (first
        | (go_at_call 11; refine (hS.out _).mono ?_; rintro e w1 ⟨rfl, hb1⟩; have hx1 := hx.later hb1; obtain ⟨d0, d1⟩ := hx1.cells)
        | (go_at_call_of 13 (Value.agg #[Value.string s, Value.string t]); refine (hT.out _).mono ?_; rintro e w2 ⟨rfl, hb2⟩; have hx2 := hx1.later hb2; obtain ⟨e0, e1⟩ := hx2.cells)
        | (go_at_call 17; refine (hK.out _).mono ?_; rintro e w3 ⟨rfl, hb3⟩; have hx3 := hx2.later hb3)
        | (go_at_call_of 15 (Value.string v); refine (hQ.out _).mono ?_; rintro e w7 ⟨rfl, hb7⟩; have hx7 := (hx3.later hb7).later (alloc_b w7 (.cells #[.string s, .string t] TR)); obtain ⟨g0, g1⟩ := hx7.cells)
        | (go_at_call_of 15 (Value.string z); refine (q1.out _).mono ?_; rintro e w4 ⟨rfl, hb4⟩; have hx4 := (hx7.later hb4).later (alloc_b w4 (.cells #[.string yf, .string yt] TR)))
        | (go_at_call_of 13 (Value.agg #[Value.string yf, Value.string yt]); refine (q2.out _).mono ?_; rintro e w5 ⟨rfl, hb5⟩; have hx5 := hx4.later hb5)
        | (go_at_call 12; refine (hW.out _).mono ?_; rintro e w6 ⟨rfl, hb6⟩; have hx6 := hx5.later hb6))
      go_ret
      exact ⟨rfl, hx6.bel⟩
    · generalize tx l = z at *
      replace q1 := Lib.hid q1
      clear hB
      go_enter Try.func9, Try.ntmps9
      go_wp2_with (first
        | (go_at_call 11; refine (hS.out _).mono ?_; rintro e w1 ⟨rfl, hb1⟩; have hx1 := hx.later hb1; obtain ⟨d0, d1⟩ := hx1.cells)
        | (go_at_call_of 13 (Value.agg #[Value.string s, Value.string t]); refine (hT.out _).mono ?_; rintro e w2 ⟨rfl, hb2⟩; have hx2 := hx1.later hb2; obtain ⟨e0, e1⟩ := hx2.cells)
        | (go_at_call 17; refine (hK.out _).mono ?_; rintro e w3 ⟨rfl, hb3⟩; have hx3 := hx2.later hb3)
        | (go_at_call_of 15 (Value.string v); refine (hQ.out _).mono ?_; rintro e w7 ⟨rfl, hb7⟩; have hx7 := (hx3.later hb7).later (alloc_b w7 (.cells #[.string s, .string t] TR)); obtain ⟨g0, g1⟩ := hx7.cells)
        | (go_at_call_of 15 (Value.string z); refine (q1.out _).mono ?_; rintro e w4 ⟨rfl, hb4⟩; have hx4 := (hx7.later hb4).later (alloc_b w4 (.cells #[.string ⟨#[]⟩, .string ⟨#[]⟩] TR)))
        | (go_at_call 12; refine (hW.out _).mono ?_; rintro e w6 ⟨rfl, hb6⟩; have hx6 := hx4.later hb6))
      go_ret
      exact ⟨rfl, hx6.bel⟩
theorem w_rangesBack (r : Rg) (s : ByteArray) (w : World) (w0 : True) (w1 : s.size ≤ maxLen) :
    Calls Try.prog 9 #[.agg #[.string (tx r.f), .string (tx r.t)], .string s] w fun e w' => e = .returned (.bool true) ∧ Below w.heap.size w w' := by
  have e := tx_of s
  generalize s.data.toList = l at *
  subst e
  by_cases h : (!shortR r || decide (100 < l.length)) = true
  · exact back_long r l h w
  · have h1 : shortR r = true := by
      cases hs : shortR r with
      | true => rfl
      | false => exact absurd (by rw [hs]; rfl) h
    have h2 : l.length ≤ 100 := by
      rcases Nat.lt_or_ge 100 l.length with h' | h'
      · exact absurd (by rw [decide_eq_true h', Bool.or_true]) h
      · exact h'
    exact back_ok r l h1 h2 w
end Go.Proofs.Ytocencmdfppkaaa.Rng
