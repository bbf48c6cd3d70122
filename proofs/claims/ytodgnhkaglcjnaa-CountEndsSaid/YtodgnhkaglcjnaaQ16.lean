/- The walk of CountEnds. -/
import Derived.Test.YtodgnhkaglcjnaaQ11
namespace Go.Proofs.Ytodgnhkaglcjnaa.Cnt
open Go.RowKit
set_option linter.unusedVariables false
set_option linter.unusedSimpArgs false
set_option maxRecDepth 20000

/-- A box with a counter, and a row of cells. -/
structure Nx (w : World) (qc : Nat) (c : Ct) (qs : Nat) (D : Array Value) (T : TypeId) (W : World) : Prop where
  bx : Bxs w [(qc, c)] W
  row : W.heap[qs]? = some (.cells D T (0, 0))
theorem Nx.later {w W W2 : World} {qc qs : Nat} {c : Ct} {D : Array Value} {T : TypeId} (x : Nx w qc c qs D T W) (hb : Below W.heap.size W W2) : Nx w qc c qs D T W2 :=
  ⟨x.bx.later hb, (hb.block _ (Array.getElem?_eq_some_iff.1 x.row).1).trans x.row⟩
theorem Nx.alloc {w W : World} {qc qs : Nat} {c : Ct} {D : Array Value} {T : TypeId} (x : Nx w qc c qs D T W) (o : Obj) : Nx w qc c qs D T (W.alloc o) := x.later (alloc_b _ _)
/-- The counters that are not valid. -/
def badC : Nat → Ct
  | 0 => ⟨1152921504606846977, 0, 0, 0, 1152921504606846977⟩
  | 1 => ⟨-1, 0, 0, 0, 5⟩
  | 2 => ⟨6, 0, 0, 0, 5⟩
  | 3 => ⟨0, 1, 0, 0, 5⟩
  | 4 => ⟨0, 0, 6, 0, 5⟩
  | 5 => ⟨0, -1, 0, -5, 0⟩
  | 6 => ⟨0, 0, -1, 0, 5⟩
  | 7 => ⟨0, 0, 0, -1152921504606846977, 0⟩
  | 8 => ⟨0, 0, 0, 0, 1152921504606846977⟩
  | _ => ⟨-9223372036854775808, 9223372036854775807, 9223372036854775807, -9223372036854775808, 9223372036854775807⟩
theorem badC_no (k : Nat) : ¬ OkC (badC k) := by
  unfold badC
  split <;> decide +kernel
abbrev five (c : Ct) : List Value := [.int .i64 c.v, .int .i64 c.u, .int .i64 c.d, .int .i64 c.l, .int .i64 c.h]
def badRow : Array Value := (five (badC 0) ++ five (badC 1) ++ five (badC 2) ++ five (badC 3) ++ five (badC 4) ++ five (badC 5) ++ five (badC 6) ++ five (badC 7) ++ five (badC 8) ++ five (badC 9)).toArray
theorem badRow_at (k : Nat) (hk : k < 10) : badRow[k * 5]? = some (.int .i64 (badC k).v) ∧ badRow[k * 5 + 1]? = some (.int .i64 (badC k).u) ∧ badRow[k * 5 + 2]? = some (.int .i64 (badC k).d) ∧ badRow[k * 5 + 3]? = some (.int .i64 (badC k).l) ∧ badRow[k * 5 + 4]? = some (.int .i64 (badC k).h) := by
  match k, hk with
  | 0, _ => exact ⟨rfl, rfl, rfl, rfl, rfl⟩
  | 1, _ => exact ⟨rfl, rfl, rfl, rfl, rfl⟩
  | 2, _ => exact ⟨rfl, rfl, rfl, rfl, rfl⟩
  | 3, _ => exact ⟨rfl, rfl, rfl, rfl, rfl⟩
  | 4, _ => exact ⟨rfl, rfl, rfl, rfl, rfl⟩
  | 5, _ => exact ⟨rfl, rfl, rfl, rfl, rfl⟩
  | 6, _ => exact ⟨rfl, rfl, rfl, rfl, rfl⟩
  | 7, _ => exact ⟨rfl, rfl, rfl, rfl, rfl⟩
  | 8, _ => exact ⟨rfl, rfl, rfl, rfl, rfl⟩
  | 9, _ => exact ⟨rfl, rfl, rfl, rfl, rfl⟩
def badD : Nat → Int
  | 0 => 1152921504606846977
  | 1 => -1152921504606846977
  | 2 => 9223372036854775807
  | _ => -9223372036854775808
theorem badD_no (k : Nat) : ¬ Ok (badD k) := by
  unfold badD
  split <;> decide +kernel
def badDs : Array Value := #[.int .i64 (badD 0), .int .i64 (badD 1), .int .i64 (badD 2), .int .i64 (badD 3)]
theorem badDs_at (k : Nat) (hk : k < 4) : badDs[k]? = some (.int .i64 (badD k)) := by
  match k, hk with
  | 0, _ => rfl
  | 1, _ => rfl
  | 2, _ => rfl
  | 3, _ => rfl
theorem room_bad {v u d l g : Int} (hc : ¬ OkC ⟨v, u, d, l, g⟩) (W : World) : Calls Try.prog 21 #[cA v u d l g] W fun x w' => x = .returned (.tuple #[.int .i64 0, .int .i64 0, .int .i64 2]) ∧ Below W.heap.size W w' := by
  have := room3_any v u d l g W
  unfold roomV at this
  rwa [okC_f hc] at this
theorem app_is {v u d l g p n : Int} (hp : p < 1 ∨ 3 < p) (W : World) : Calls Try.prog 18 #[cA v u d l g, .int .i64 p, .int .i64 n] W fun x w' => x = .returned (P2 0 0 0 0 0 2) ∧ Below W.heap.size W w' := app_no v u d l g p n W hp
set_option maxHeartbeats 8000000 in
theorem w_countEnds (w : World) :
    Calls Try.prog 11 #[] w fun e w' => e = .returned (.bool true) ∧ Below w.heap.size w w' := by
  have hw := Lib.hid (fun W => works_any W)
  have h1 := Lib.hid (fun W => do_is (show chC addC ⟨0, 0, 0, -1152921504606846976, 1152921504606846976⟩ 1152921504606846976 = (⟨1152921504606846976, 1152921504606846976, 0, -1152921504606846976, 1152921504606846976⟩, 0) by decide +kernel) W)
  have h2 := Lib.hid (fun W => do_is (show chC addC ⟨1152921504606846976, 1152921504606846976, 0, -1152921504606846976, 1152921504606846976⟩ (-1152921504606846976) = (⟨0, 1152921504606846976, 1152921504606846976, -1152921504606846976, 1152921504606846976⟩, 0) by decide +kernel) W)
  have h3 := Lib.hid (fun W => free_is (show chC giveC ⟨1152921504606846976, 1152921504606846976, 0, -1152921504606846976, 1152921504606846976⟩ 1152921504606846976 = (⟨1152921504606846976, 0, 0, -1152921504606846976, 1152921504606846976⟩, 0) by decide +kernel) W)
  have h4 := Lib.hid (fun W => do_is (show chC addC ⟨1152921504606846976, 0, 0, -1152921504606846976, 1152921504606846976⟩ (-1152921504606846976) = (⟨0, 0, 1152921504606846976, -1152921504606846976, 1152921504606846976⟩, 0) by decide +kernel) W)
  have h5 := Lib.hid (fun W => do_is (show chC addC ⟨0, 0, 1152921504606846976, -1152921504606846976, 1152921504606846976⟩ (-1) = (⟨0, 0, 0, 0, 0⟩, 7) by decide +kernel) W)
  have h6 := Lib.hid (fun W => room_is (show roomV ⟨0, 0, 1152921504606846976, -1152921504606846976, 1152921504606846976⟩ = .tuple #[.int .i64 0, .int .i64 0, .int .i64 0] by
    unfold roomV
    rw [if_pos (show okC ⟨0, 0, 1152921504606846976, -1152921504606846976, 1152921504606846976⟩ = true by decide +kernel), show roomN ⟨0, 0, 1152921504606846976, -1152921504606846976, 1152921504606846976⟩ = 0 by decide +kernel, show roomN (mirC ⟨0, 0, 1152921504606846976, -1152921504606846976, 1152921504606846976⟩) = 0 by decide +kernel]) W)
  have n1 := Lib.hid (fun W => new_is (show newC 5 6 10 = (⟨0, 0, 0, 0, 0⟩, 2) by decide +kernel) W)
  have n2 := Lib.hid (fun W => new_is (show newC 0 0 1152921504606846977 = (⟨0, 0, 0, 0, 0⟩, 2) by decide +kernel) W)
  have a0 := Lib.hid (fun W => app_is (v := 0) (u := 0) (d := 0) (l := -1152921504606846976) (g := 1152921504606846976) (p := 0) (n := 1) (Or.inl (by decide)) W)
  have a4 := Lib.hid (fun W => app_is (v := 0) (u := 0) (d := 0) (l := -1152921504606846976) (g := 1152921504606846976) (p := 4) (n := 1) (Or.inr (by decide)) W)
  have hz := Bxs.nil (Below.refl w.heap.size w)
  have hB := hz.add 0 0 0 (-1152921504606846976) 1152921504606846976
  clear hz
  go_enter Try.func11, Try.ntmps11
  go_wp2_with fail
  refine (h1.out _).mono ?_
  rintro e w1 ⟨rfl, hb1⟩
  replace hB := (hB.later hb1).add 1152921504606846976 1152921504606846976 0 (-1152921504606846976) 1152921504606846976
  obtain ⟨c0, c1, c2, c3, c4, clt⟩ := hB.cells 0 rfl
  go_wp2_with fail
  refine (h2.out _).mono ?_
  rintro e w2 ⟨rfl, hb2⟩
  clear c0 c1 c2 c3 c4 clt
  replace hB := (hB.later hb2).add 0 1152921504606846976 1152921504606846976 (-1152921504606846976) 1152921504606846976
  obtain ⟨c0, c1, c2, c3, c4, clt⟩ := hB.cells 1 rfl
  go_wp2_with fail
  refine (h3.out _).mono ?_
  rintro e w3 ⟨rfl, hb3⟩
  clear c0 c1 c2 c3 c4 clt
  replace hB := (hB.later hb3).add 1152921504606846976 0 0 (-1152921504606846976) 1152921504606846976
  obtain ⟨c0, c1, c2, c3, c4, clt⟩ := hB.cells 0 rfl
  go_wp2_with fail
  refine (h4.out _).mono ?_
  rintro e w4 ⟨rfl, hb4⟩
  clear c0 c1 c2 c3 c4 clt
  replace hB := (hB.later hb4).add 0 0 1152921504606846976 (-1152921504606846976) 1152921504606846976
  obtain ⟨c0, c1, c2, c3, c4, clt⟩ := hB.cells 0 rfl
  go_wp2_with fail
  refine (h5.out _).mono ?_
  rintro e w5 ⟨rfl, hb5⟩
  clear c0 c1 c2 c3 c4 clt
  replace hB := (hB.later hb5).add 0 0 0 0 0
  obtain ⟨c0, c1, c2, c3, c4, clt⟩ := hB.cells 1 rfl
  go_wp2_with fail
  refine (h6.out _).mono ?_
  rintro e w6 ⟨rfl, hb6⟩
  clear c0 c1 c2 c3 c4 clt
  replace hB := hB.later hb6
  obtain ⟨c0, c1, c2, c3, c4, clt⟩ := hB.cells 1 rfl
  go_wp2_with fail
  clear c0 c1 c2 c3 c4 clt
  have hN : Nx w w.heap.size ⟨0, 0, 0, -1152921504606846976, 1152921504606846976⟩ w6.heap.size badRow TC (w6.alloc (.cells badRow TC)) := ⟨⟨(hB.alloc _).bel, fun p hp => (hB.alloc _).all p (List.mem_of_getElem? (i := 5) (by rw [List.mem_singleton.1 hp]; rfl))⟩, rw_new w6 _⟩
  clear hB hb1 hb2 hb3 hb4 hb5 hb6 h1 h2 h3 h4 h5 h6
  generalize w6.heap.size = qs at *
  generalize w1.heap.size = g1 at *
  generalize w2.heap.size = g2 at *
  generalize w3.heap.size = g3 at *
  generalize w4.heap.size = g4 at *
  generalize w5.heap.size = g5 at *
  go_loopw [134] (fun i wr => ∃ k : Nat, k ≤ 10 ∧ i = .int .i64 k ∧ Nx w w.heap.size ⟨0, 0, 0, -1152921504606846976, 1152921504606846976⟩ qs badRow TC wr) (fun i _ => 10 - (intOf i).toNat)
  case atStart => exact ⟨0, Nat.zero_le _, rfl, hN⟩
  case round =>
    obtain ⟨k, hk, rfl, hKr⟩ := hrel
    by_cases hlt : k < 10
    · obtain ⟨r0, r1, r2, r3, r4⟩ := badRow_at k hlt
      have hbad := badC_no k
      have p0 := (cell_of_row wr qs (k * 5) _ _ _ hKr.row).trans r0
      have p1 := (cell_of_row wr qs (k * 5 + 1) _ _ _ hKr.row).trans r1
      have p2 := (cell_of_row wr qs (k * 5 + 2) _ _ _ hKr.row).trans r2
      have p3 := (cell_of_row wr qs (k * 5 + 3) _ _ _ hKr.row).trans r3
      have p4 := (cell_of_row wr qs (k * 5 + 4) _ _ _ hKr.row).trans r4
      clear r0 r1 r2 r3 r4
      generalize badC k = bc at *
      obtain ⟨x0, x1, x2, x3, x4⟩ := bc
      have q1 := Lib.hid (fun W => do_is (ch_bad addC ⟨x0, x1, x2, x3, x4⟩ 0 (fun h => hbad h.1)) W)
      have q2 := Lib.hid (fun W => undo_is (ch_bad takeC ⟨x0, x1, x2, x3, x4⟩ 0 (fun h => hbad h.1)) W)
      have q3 := Lib.hid (fun W => app_is (v := x0) (u := x1) (d := x2) (l := x3) (g := x4) (p := 9) (n := 1152921504606846977) (Or.inr (by decide)) W)
      have q4 := Lib.hid (fun W => room_bad hbad W)
      have q5 := Lib.hid (fun W => chk_no hbad W)
      clear hbad
      go_wp2_with (first
        | (go_at_call 12; refine (q1.out _).mono ?_; rintro e v1 ⟨rfl, hb1⟩; have hN1 := ((hKr.alloc (cRow x0 x1 x2 x3 x4)).later hb1).alloc (cRow 0 0 0 0 0); have hx1 := ((Bxs.add (Bxs.nil hKr.bx.bel) x0 x1 x2 x3 x4).later hb1).alloc (cRow 0 0 0 0 0); obtain ⟨c0, c1, c2, c3, c4, clt⟩ := hx1.cells 0 rfl)
        | (go_at_call 13; refine (q2.out _).mono ?_; rintro e v2 ⟨rfl, hb2⟩; have hN2 := (hN1.later hb2).alloc (cRow 0 0 0 0 0); have hx2 := (hx1.later hb2).alloc (cRow 0 0 0 0 0); obtain ⟨c0, c1, c2, c3, c4, clt⟩ := hx2.cells 0 rfl)
        | (go_at_call 18; refine (q3.out _).mono ?_; rintro e v3 ⟨rfl, hb3⟩; have hN3 := (hN2.later hb3).alloc (cRow 0 0 0 0 0); have hx3 := (hx2.later hb3).alloc (cRow 0 0 0 0 0); obtain ⟨c0, c1, c2, c3, c4, clt⟩ := hx3.cells 0 rfl)
        | (go_at_call 21; refine (q4.out _).mono ?_; rintro e v4 ⟨rfl, hb4⟩; have hN4 := hN3.later hb4; have hx4 := hx3.later hb4; obtain ⟨c0, c1, c2, c3, c4, clt⟩ := hx4.cells 0 rfl)
        | (go_at_call 27; refine (q5.out _).mono ?_; rintro e v5 ⟨rfl, hb5⟩; have hN5 := hN4.later hb5))
      refine ⟨⟨k + 1, by omega, by go_num, hN5⟩, ?_⟩
      simp [intOf]; omega
    · obtain rfl : k = 10 := by omega
      clear hlt hk
      go_wp2_with fail
      have hM : Nx w w.heap.size ⟨0, 0, 0, -1152921504606846976, 1152921504606846976⟩ wr.heap.size badDs 2 (wr.alloc (.cells badDs 2)) := ⟨hKr.bx.alloc _, rw_new wr _⟩
      clear hKr hN
      generalize wr.heap.size = qd at *
      go_loopw [181] (fun i ws => ∃ k : Nat, k ≤ 4 ∧ i = .int .i64 k ∧ Nx w w.heap.size ⟨0, 0, 0, -1152921504606846976, 1152921504606846976⟩ qd badDs 2 ws) (fun i _ => 4 - (intOf i).toNat)
      case atStart => exact ⟨0, Nat.zero_le _, rfl, hM⟩
      case round =>
        obtain ⟨k, hk, rfl, hKr⟩ := hrel
        by_cases hlt : k < 4
        · have r0 := badDs_at k hlt
          have hbad := badD_no k
          have p0 := (cell_of_row _ qd k _ _ _ hKr.row).trans r0
          clear r0
          generalize badD k = D at *
          have q1 := Lib.hid (fun W => do_is (ch_bad addC ⟨0, 0, 0, -1152921504606846976, 1152921504606846976⟩ D (fun h => hbad h.2)) W)
          have q2 := Lib.hid (fun W => undo_is (ch_bad takeC ⟨0, 0, 0, -1152921504606846976, 1152921504606846976⟩ D (fun h => hbad h.2)) W)
          have q3 := Lib.hid (fun W => free_is (ch_bad giveC ⟨0, 0, 0, -1152921504606846976, 1152921504606846976⟩ D (fun h => hbad h.2)) W)
          obtain ⟨c0, c1, c2, c3, c4, clt⟩ := hKr.bx.cells 0 rfl
          clear hbad
          go_wp2_with (first
            | (go_at_call 12; refine (q1.out _).mono ?_; rintro e v1 ⟨rfl, hb1⟩; have hN1 := (hKr.later hb1).alloc (cRow 0 0 0 0 0); obtain ⟨c0, c1, c2, c3, c4, clt⟩ := hN1.bx.cells 0 rfl)
            | (go_at_call 13; refine (q2.out _).mono ?_; rintro e v2 ⟨rfl, hb2⟩; have hN2 := (hN1.later hb2).alloc (cRow 0 0 0 0 0); obtain ⟨c0, c1, c2, c3, c4, clt⟩ := hN2.bx.cells 0 rfl)
            | (go_at_call 14; refine (q3.out _).mono ?_; rintro e v3 ⟨rfl, hb3⟩; have hN3 := (hN2.later hb3).alloc (cRow 0 0 0 0 0)))
          go_roundw
          case rel =>
            repeat apply Exists.intro
            refine ⟨?_, rfl⟩
            exact ⟨k + 1, by omega, by go_num, hN3⟩
          case measure => simp [intOf]; omega
        · obtain rfl : k = 4 := by omega
          clear hlt hk
          have hB := hKr.bx
          go_wp2_with fail
          refine (n1.out _).mono ?_
          rintro e v1 ⟨rfl, hb1⟩
          replace hB := (hB.later hb1).add 0 0 0 0 0
          go_wp2_with fail
          refine (n2.out _).mono ?_
          rintro e v2 ⟨rfl, hb2⟩
          replace hB := (hB.later hb2).add 0 0 0 0 0
          obtain ⟨c0, c1, c2, c3, c4, clt⟩ := hB.cells 2 rfl
          go_wp2_with fail
          refine (a0.out _).mono ?_
          rintro e v3 ⟨rfl, hb3⟩
          clear c0 c1 c2 c3 c4 clt
          replace hB := (hB.later hb3).add 0 0 0 0 0
          obtain ⟨c0, c1, c2, c3, c4, clt⟩ := hB.cells 3 rfl
          go_wp2_with fail
          refine (a4.out _).mono ?_
          rintro e v4 ⟨rfl, hb4⟩
          clear c0 c1 c2 c3 c4 clt
          replace hB := (hB.later hb4).add 0 0 0 0 0
          go_wp2_with (go_at_call 20; refine (hw.out _).mono ?_; rintro e v5 ⟨rfl, hb5⟩; have hB5 := hB.later hb5)
          go_ret
          exact ⟨rfl, hB5.bel⟩
end Go.Proofs.Ytodgnhkaglcjnaa.Cnt
