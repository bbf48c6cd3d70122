/- The walk of RangesKeys. -/
import Derived.Test.YtabiafhkhahgeaaR19
namespace Go.Proofs.Ytabiafhkhahgeaa.Rng
open Go.RowKit Go.Lib
set_option linter.unusedVariables false
set_option linter.unusedSimpArgs false
set_option maxRecDepth 100000

set_option maxHeartbeats 2000000 in
theorem keys_long (a b : Rg) (l : List UInt8) (h : (!shortR a || !shortR b || decide (100 < l.length)) = true) (w : World) :
    Calls Try.prog 5 #[.agg #[.string (tx a.f), .string (tx a.t)], .agg #[.string (tx b.f), .string (tx b.t)], .string (tx l)] w fun e w' => e = .returned (.bool true) ∧ Below w.heap.size w w' := by
  have hS := Lib.hid (fun W => short_any a W)
  have hQ := Lib.hid (fun W => short_any b W)
  have hW := Lib.hid (fun W => works_any W)
  have hx := tw_new w (tx a.f) (tx a.t) (tx b.f) (tx b.t)
  have hz := tx_size l
  rw [← hz] at h
  clear hz
  obtain ⟨c0, c1, c2, c3, _⟩ := hx.cells
  generalize shortR a = z at *
  generalize shortR b = z2 at *
  generalize tx a.f = s at *
  generalize tx a.t = t at *
  generalize tx b.f = u at *
  generalize tx b.t = v at *
  generalize tx l = y at *
  have b1 : (z && z2) = true → decide (100 < (y.size : Int)) = true ∧ decide (100 < y.size) = true := by
    intro hh
    rw [Bool.and_eq_true] at hh
    rw [hh.1, hh.2] at h
    have h2 : 100 < y.size := by simpa using h
    exact ⟨decide_eq_true (by omega), decide_eq_true h2⟩
  clear h
  cases z <;> cases z2
  case true.true =>
    obtain ⟨b2, b3⟩ := b1 rfl
    clear b1
    go_enter Try.func5, Try.ntmps5
    go_wp2_with (first
      | (go_at_call_of 11 (Value.agg #[Value.string s, Value.string t]); refine (hS.out _).mono ?_; rintro e w1 ⟨rfl, hb1⟩; have hx1 := hx.later hb1; obtain ⟨d0, d1, d2, d3, _⟩ := hx1.cells)
      | (go_at_call_of 11 (Value.agg #[Value.string u, Value.string v]); refine (hQ.out _).mono ?_; rintro e w3 ⟨rfl, hb3⟩; have hx3 := hx1.later hb3)
      | (go_at_call 12; refine (hW.out _).mono ?_; rintro e w2 ⟨rfl, hb2⟩; have hx2 := hx3.later hb2))
    go_ret
    exact ⟨rfl, hx2.bel⟩
  case true.false =>
    clear b1
    go_enter Try.func5, Try.ntmps5
    go_wp2_with (first
      | (go_at_call_of 11 (Value.agg #[Value.string s, Value.string t]); refine (hS.out _).mono ?_; rintro e w1 ⟨rfl, hb1⟩; have hx1 := hx.later hb1; obtain ⟨d0, d1, d2, d3, _⟩ := hx1.cells)
      | (go_at_call_of 11 (Value.agg #[Value.string u, Value.string v]); refine (hQ.out _).mono ?_; rintro e w3 ⟨rfl, hb3⟩; have hx3 := hx1.later hb3)
      | (go_at_call 12; refine (hW.out _).mono ?_; rintro e w2 ⟨rfl, hb2⟩; have hx2 := hx3.later hb2))
    go_ret
    exact ⟨rfl, hx2.bel⟩
  all_goals
    clear b1
    go_enter Try.func5, Try.ntmps5
    go_wp2_with (first
      | (go_at_call_of 11 (Value.agg #[Value.string s, Value.string t]); refine (hS.out _).mono ?_; rintro e w1 ⟨rfl, hb1⟩; have hx1 := hx.later hb1)
      | (go_at_call 12; refine (hW.out _).mono ?_; rintro e w2 ⟨rfl, hb2⟩; have hx2 := hx1.later hb2))
    go_ret
    exact ⟨rfl, hx2.bel⟩
theorem shut_two {n : Nat} {v : Value} {w : World} (h : Rs w v []) : ∃ a cap, v = .slice a 0 cap := by
  obtain ⟨a, cap, rfl, _⟩ := h
  exact ⟨a, cap, rfl⟩
set_option maxHeartbeats 2000000 in
theorem keys_bad (a b : Rg) (l : List UInt8) (h1 : shortR a = true) (h2 : shortR b = true) (h3 : l.length ≤ 100) (ho : (okR a && okR b) = false) (w : World) :
    Calls Try.prog 5 #[.agg #[.string (tx a.f), .string (tx a.t)], .agg #[.string (tx b.f), .string (tx b.t)], .string (tx l)] w fun e w' => e = .returned (.bool true) ∧ Below w.heap.size w w' := by
  have hS := fun W => short_any a W
  have hQ := fun W => short_any b W
  rw [h1] at hS
  rw [h2] at hQ
  replace hS := Lib.hid hS
  replace hQ := Lib.hid hQ
  have hW := Lib.hid (fun W => works_any W)
  have hx := tw_new w (tx a.f) (tx a.t) (tx b.f) (tx b.t)
  have b2 : decide (100 < ((tx l).size : Int)) = false := decide_eq_false (by rw [tx_size]; omega)
  have b3 : decide (100 < (tx l).size) = false := decide_eq_false (by rw [tx_size]; omega)
  have hM := fun W => meet_any a b W
  have hN := fun W => without_any a b W
  rw [meetR_no ho] at hM
  rw [withR_no ho] at hN
  replace hM := Lib.hid (show ∀ W, Calls Try.prog 21 #[.agg #[.string (tx a.f), .string (tx a.t)], .agg #[.string (tx b.f), .string (tx b.t)]] W (fun e w' => e = .returned (.tuple #[.agg #[.string ⟨#[]⟩, .string ⟨#[]⟩], .bool false, .int .i64 2]) ∧ Below W.heap.size W w') from hM)
  replace hN := Lib.hid (show ∀ W, Calls Try.prog 23 #[.agg #[.string (tx a.f), .string (tx a.t)], .agg #[.string (tx b.f), .string (tx b.t)]] W (Gives W [] 2) from hN)
  have hA := fun W => check_any a W
  have hB := fun W => check_any b W
  unfold okE at hA hB
  obtain ⟨c0, c1, c2, c3, _⟩ := hx.cells
  clear h1 h2 h3
  generalize okR a = z at *
  generalize okR b = z2 at *
  replace hA := Lib.hid hA
  replace hB := Lib.hid hB
  generalize tx a.f = s at *
  generalize tx a.t = t at *
  generalize tx b.f = u at *
  generalize tx b.t = v at *
  generalize tx l = y at *
  cases z <;> cases z2
  case true.true => cases ho
  all_goals
    clear ho
    replace hA := Lib.hid (show ∀ W, Calls Try.prog 17 #[.agg #[.string s, .string t]] W (fun e w' => e = .returned (.int .i64 _) ∧ Below W.heap.size W w') from hA.out)
    go_enter Try.func5, Try.ntmps5
    go_wp2_with (first
      | (go_at_call_of 11 (Value.agg #[Value.string s, Value.string t]); refine (hS.out _).mono ?_; rintro e w1 ⟨rfl, hb1⟩; have hx1 := hx.later hb1; obtain ⟨d0, d1, d2, d3, _⟩ := hx1.cells)
      | (go_at_call_of 11 (Value.agg #[Value.string u, Value.string v]); refine (hQ.out _).mono ?_; rintro e w3 ⟨rfl, hb3⟩; have hx3 := hx1.later hb3; obtain ⟨e0, e1, e2, e3, _⟩ := hx3.cells)
      | (go_at_call 21; refine (hM.out _).mono ?_; rintro e w4 ⟨rfl, hb4⟩; have hx4 := (hx3.later hb4).later (alloc_b w4 (.cells #[.string ⟨#[]⟩, .string ⟨#[]⟩] TR)); obtain ⟨g0, g1, g2, g3, _⟩ := hx4.cells; have hr4 := B2.new w4 ⟨#[]⟩ ⟨#[]⟩)
      | (go_at_call 23; refine (hN.out _).mono ?_; rintro e w5 ⟨vv, rfl, ho5, hb5⟩; obtain ⟨aa, cap, rfl⟩ := ho5.form; have hx5 := hx4.later hb5; obtain ⟨i0, i1, i2, i3, _⟩ := hx5.cells; obtain ⟨r0, r1, _, _⟩ := (hr4.later hb5).cells)
      | (go_at_call_of 17 (Value.agg #[Value.string s, Value.string t]); refine (hA.out _).mono ?_; rintro e w6 ⟨rfl, hb6⟩; have hx6 := hx5.later hb6; obtain ⟨j0, j1, j2, j3, _⟩ := hx6.cells)
      | (go_at_call_of 17 (Value.agg #[Value.string u, Value.string v]); refine (hB.out _).mono ?_; rintro e w7 ⟨rfl, hb7⟩; have hx6 := hx6.later hb7)
      | (go_at_call 12; refine (hW.out _).mono ?_; rintro e w2 ⟨rfl, hb2⟩; have hx2 := hx6.later hb2))
    go_ret
    exact ⟨rfl, hx2.bel⟩
/-- What lies in memory while the parts are looked at: the two ranges, the list, what both have. -/
structure KAt (w : World) (s t u v : ByteArray) (q : Nat) (x y : ByteArray) (U : Value) (L : List Rg) (W : World) : Prop where
  tw : Tw w s t u v W
  rb : B2 W q x y
  rs : Rs W U L
theorem KAt.later {w W W' : World} {s t u v x y : ByteArray} {q : Nat} {U : Value} {L : List Rg} (h : KAt w s t u v q x y U L W) (hb : Below W.heap.size W W') : KAt w s t u v q x y U L W' := ⟨h.tw.later hb, h.rb.later hb, h.rs.later hb⟩
theorem Rs.at_ {w : World} {A : Option Addr} {n c : Nat} {L : List Rg} (h : Rs w (.slice A n c) L) : n = L.length ∧ (∀ k (hk : k < L.length), ∃ b off, A = some ⟨b, off, none⟩ ∧ w.cell? ⟨b, off + k * 2, none⟩ = some (.string (tx L[k].f)) ∧ w.cell? ⟨b, off + k * 2 + 1, none⟩ = some (.string (tx L[k].t))) := by
  obtain ⟨a, cap, he, hc⟩ := h
  injection he with e1 e2 e3
  subst e1 e2 e3
  refine ⟨rfl, fun k hk => ?_⟩
  obtain ⟨b, off, rfl, hd⟩ := hc (by omega)
  obtain ⟨p0, p1⟩ := hd k L[k] (List.getElem?_eq_getElem hk)
  exact ⟨b, off, rfl, p0, p1⟩
set_option maxHeartbeats 4000000 in
theorem keys_ok (a b : Rg) (l : List UInt8) (h1 : shortR a = true) (h2 : shortR b = true) (h3 : l.length ≤ 100) (ha : okR a = true) (hb : okR b = true) (w : World) :
    Calls Try.prog 5 #[.agg #[.string (tx a.f), .string (tx a.t)], .agg #[.string (tx b.f), .string (tx b.t)], .string (tx l)] w fun e w' => e = .returned (.bool true) ∧ Below w.heap.size w w' := by
  have hS := fun W => short_any a W
  have hQ := fun W => short_any b W
  rw [h1] at hS
  rw [h2] at hQ
  replace hS := Lib.hid hS
  replace hQ := Lib.hid hQ
  have hW := Lib.hid (fun W => works_any W)
  have hx := tw_new w (tx a.f) (tx a.t) (tx b.f) (tx b.t)
  have b2 : decide (100 < ((tx l).size : Int)) = false := decide_eq_false (by rw [tx_size]; omega)
  have b3 : decide (100 < (tx l).size) = false := decide_eq_false (by rw [tx_size]; omega)
  have hM := fun W => meet_any a b W
  have hN := fun W => without_any a b W
  have hab : (okR a && okR b) = true := by rw [ha, hb]; rfl
  have hN2 : (withR a b).2 = 0 := by rw [withR_ok ha hb]
  have hM2 : (meetR a b).2.2 = 0 := by rw [meetR_err, hab]; rfl
  have hall : (withR a b).1.all okR = true := with_ok
  have hlen := with_len a b
  have hkey := meet_keys ha hb l
  have hcnt := with_keys ha hb l
  rw [hN2] at hN
  rw [hM2] at hM
  clear hN2 hM2 hab h1 h2 h3 ha hb
  have hHa := fun W => has_rng a l W
  have hHb := fun W => has_rng b l W
  have hHr := fun W => has_rng (meetR a b).1 l W
  generalize hasR a l = ia at *
  generalize hasR b l = ib at *
  generalize hasR (meetR a b).1 l = ir at *
  generalize (meetR a b).2.1 = mo at *
  generalize (withR a b).1 = L at *
  generalize (meetR a b).1 = R at *
  have hC : ∀ k (hk : k < L.length) W, Calls Try.prog 17 #[.agg #[.string (tx L[k].f), .string (tx L[k].t)]] W fun e w' => e = .returned (.int .i64 0) ∧ Below W.heap.size W w' := fun k hk W => by
    have := check_any L[k] W
    unfold okE at this
    rwa [List.all_eq_true.1 hall L[k] (List.getElem_mem hk)] at this
  have hH : ∀ k (hk : k < L.length) W, Calls Try.prog 19 #[.agg #[.string (tx L[k].f), .string (tx L[k].t)], .string (tx l)] W fun e w' => e = .returned (.bool (hasR L[k] l)) ∧ Below W.heap.size W w' := fun k hk W => has_rng L[k] l W
  have hstep : ∀ k (hk : k < L.length), cnt (L.take (k + 1)) l = cnt (L.take k) l + if hasR L[k] l then 1 else 0 := fun k hk => by
    rw [List.take_succ_eq_append_getElem hk, cnt_app, cnt_one]
  have hcl : ∀ k, cnt (L.take k) l ≤ 2 := fun k => by
    have h1 : cnt (L.take k) l ≤ (L.take k).length := List.length_filter_le _ _
    have h2 : (L.take k).length ≤ L.length := by rw [List.length_take]; omega
    omega
  have hfull : cnt (L.take L.length) l = if ia && !ib then 1 else 0 := by rw [List.take_length]; exact hcnt
  replace hM := Lib.hid hM
  replace hN := Lib.hid hN
  replace hHa := Lib.hid hHa
  replace hHb := Lib.hid hHb
  replace hHr := Lib.hid hHr
  replace hC := Lib.hid hC
  replace hH := Lib.hid hH
  replace hstep := Lib.hid hstep
  replace hcl := Lib.hid hcl
  replace hfull := Lib.hid hfull
  replace hkey := Lib.hid hkey
  replace hlen := Lib.hid hlen
  clear hall hcnt
  obtain ⟨c0, c1, c2, c3, _⟩ := hx.cells
  generalize tx a.f = s at *
  generalize tx a.t = t at *
  generalize tx b.f = u at *
  generalize tx b.t = v at *
  generalize tx R.f = rf at *
  generalize tx R.t = rt at *
  generalize tx l = y at *
  go_enter Try.func5, Try.ntmps5
  go_wp2_with (first
    | (go_at_call_of 11 (Value.agg #[Value.string s, Value.string t]); refine (hS.out _).mono ?_; rintro e w1 ⟨rfl, hb1⟩; have hx1 := hx.later hb1; obtain ⟨d0, d1, d2, d3, _⟩ := hx1.cells)
    | (go_at_call_of 11 (Value.agg #[Value.string u, Value.string v]); refine (hQ.out _).mono ?_; rintro e w3 ⟨rfl, hb3⟩; have hx3 := hx1.later hb3; obtain ⟨e0, e1, e2, e3, _⟩ := hx3.cells)
    | (go_at_call 21; refine (hM.out _).mono ?_; rintro e w4 ⟨rfl, hb4⟩; have hx4 := (hx3.later hb4).later (alloc_b w4 (.cells #[.string rf, .string rt] TR)); obtain ⟨g0, g1, g2, g3, _⟩ := hx4.cells; have hr4 := B2.new w4 rf rt)
    | (go_at_call 23; refine (hN.out _).mono ?_; rintro e w5 ⟨vv, rfl, ho5, hb5⟩; obtain ⟨aa, cap, rfl⟩ := ho5.form; have hK := (show KAt w s t u v w4.heap.size rf rt (.slice aa L.length cap) L w5 from ⟨hx4.later hb5, hr4.later hb5, ho5.rs⟩)))
  clear c0 c1 c2 c3 d0 d1 d2 d3 e0 e1 e2 e3 g0 g1 g2 g3 hx hx1 hx3 hx4 hr4 hb1 hb3 hb4 hb5 ho5 hS hQ hM hN
  generalize w4.heap.size = q at *
  go_loopw [12, 13] (fun n i wr => ∃ k : Nat, k ≤ L.length ∧ i = .int .i64 k ∧ n = .int .i64 (cnt (L.take k) l : Nat) ∧ KAt w s t u v q rf rt (.slice aa L.length cap) L wr) (fun _ i _ => L.length - (intOf i).toNat)
  case atStart => exact ⟨0, Nat.zero_le _, rfl, rfl, hK⟩
  case round =>
    obtain ⟨k, hk, rfl, rfl, hKr⟩ := hrel
    by_cases hlt : k < L.length
    · obtain ⟨_, hat⟩ := hKr.rs.at_
      obtain ⟨b0, off, rfl, p0, p1⟩ := hat k hlt
      have hlw : b0 < wr.heap.size := World.block_lt_of_cell? wr _ p0
      have hCk := Lib.hid (hC.out k hlt)
      have hHk := hH.out k hlt
      have hst := hstep.out k hlt
      have hbd := hcl.out k
      have hl2 := hlen.out
      generalize hasR L[k] l = z at *
      generalize tx L[k].f = xf at *
      generalize tx L[k].t = xt at *
      replace hHk := Lib.hid hHk
      clear hat
      generalize hc : cnt (L.take k) l = c at *
      cases z
      · replace hst := Lib.hid (show cnt (L.take (k + 1)) l = c from hst)
        clear hc
        go_wp2_with (first
          | (go_at_call 17; refine (hCk.out _).mono ?_; rintro e w6 ⟨rfl, hb6⟩; have hK6 := hKr.later hb6; have p2 := (hb6.cell (p := ⟨b0, off + k * 2, none⟩) hlw).trans p0; have p3 := (hb6.cell (p := ⟨b0, off + k * 2 + 1, none⟩) hlw).trans p1)
          | (go_at_call 19; refine (hHk.out _).mono ?_; rintro e w7 ⟨rfl, hb7⟩; have hK7 := hK6.later hb7))
        go_roundw
        case rel => exact ⟨k + 1, by omega, by go_num, by rw [hst.out], hK7⟩
        case measure => simp [intOf]; omega
      · replace hst := Lib.hid (show cnt (L.take (k + 1)) l = c + 1 from hst)
        clear hc
        go_wp2_with (first
          | (go_at_call 17; refine (hCk.out _).mono ?_; rintro e w6 ⟨rfl, hb6⟩; have hK6 := hKr.later hb6; have p2 := (hb6.cell (p := ⟨b0, off + k * 2, none⟩) hlw).trans p0; have p3 := (hb6.cell (p := ⟨b0, off + k * 2 + 1, none⟩) hlw).trans p1)
          | (go_at_call 19; refine (hHk.out _).mono ?_; rintro e w7 ⟨rfl, hb7⟩; have hK7 := hK6.later hb7))
        go_roundw
        case rel => exact ⟨k + 1, by omega, by go_num, by rw [hst.out]; go_num, hK7⟩
        case measure => simp [intOf]; omega
    · obtain rfl : k = L.length := by omega
      clear hlt
      have hfu := hfull.out
      have hke := hkey.out
      have hl2 : decide ((L.length : Int) ≤ 2) = true := decide_eq_true (by have := hlen.out; omega)
      have hl3 : decide (L.length ≤ 2) = true := decide_eq_true hlen.out
      generalize hc : cnt (L.take L.length) l = c at *
      obtain ⟨t0, t1, t2, t3, _⟩ := hKr.tw.cells
      clear hc hfull hkey hstep hcl hlen hC hH hK hk
      generalize L.length = n at *
      cases mo <;> cases ia <;> cases ib <;> cases ir
      all_goals first
        | (cases hke; done)
        | (obtain rfl := hfu
           clear hke
           go_wp2_with (first
             | (go_at_call_of 19 (Value.agg #[Value.string s, Value.string t]); refine (hHa.out _).mono ?_; rintro e w6 ⟨rfl, hb6⟩; have hK6 := hKr.later hb6; obtain ⟨j0, j1, j2, j3, _⟩ := hK6.tw.cells)
             | (go_at_call_of 19 (Value.agg #[Value.string u, Value.string v]); refine (hHb.out _).mono ?_; rintro e w7 ⟨rfl, hb7⟩; have hK7 := hK6.later hb7; obtain ⟨m0, m1, _, _⟩ := hK7.rb.cells)
             | (go_at_call_of 19 (Value.agg #[Value.string rf, Value.string rt]); refine (hHr.out _).mono ?_; rintro e w8 ⟨rfl, hb8⟩; have hK7 := hK7.later hb8)
             | (go_at_call 12; refine (hW.out _).mono ?_; rintro e w2 ⟨rfl, hb2⟩; have hx2 := hK7.tw.later hb2))
           go_ret
           exact ⟨rfl, hx2.bel⟩)
theorem w_rangesKeys (a b : Rg) (s : ByteArray) (w : World) (w0 : True) (w1 : True) (w2 : s.size ≤ maxLen) :
    Calls Try.prog 5 #[.agg #[.string (tx a.f), .string (tx a.t)], .agg #[.string (tx b.f), .string (tx b.t)], .string s] w fun e w' => e = .returned (.bool true) ∧ Below w.heap.size w w' := by
  have e := tx_of s
  generalize s.data.toList = l at *
  subst e
  cases h1 : shortR a with
  | false => exact keys_long a b l (by rw [h1]; rfl) w
  | true =>
    cases h2 : shortR b with
    | false => exact keys_long a b l (by rw [h1, h2]; rfl) w
    | true =>
      rcases Nat.lt_or_ge 100 l.length with h' | h'
      · exact keys_long a b l (by rw [decide_eq_true h', Bool.or_true]) w
      · cases ha : okR a with
        | false => exact keys_bad a b l h1 h2 h' (by rw [ha]; rfl) w
        | true =>
          cases hb : okR b with
          | false => exact keys_bad a b l h1 h2 h' (by rw [ha, hb]; rfl) w
          | true => exact keys_ok a b l h1 h2 h' ha hb w
end Go.Proofs.Ytabiafhkhahgeaa.Rng
