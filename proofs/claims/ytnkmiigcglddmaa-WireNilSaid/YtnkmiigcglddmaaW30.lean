/- The walk of WireNil. -/
import Derived.Test.YtnkmiigcglddmaaW25
import Derived.Test.YtnkmiigcglddmaaW23
namespace Go.Proofs.Ytnkmiigcglddmaa.Wire
open Go.RowKit Go.ChangeShapes
set_option linter.unusedVariables false
set_option linter.unusedSimpArgs false

/-- One of the two: none, or one that nobody returned. -/
def Two (B : Nat) (x : Option Addr) : Prop := x = none ∨ x = some ⟨B, 0, none⟩
theorem two_at {w0 W : World} {L : List Asrt} {Bs Bw : Nat} {t : TypeId} (h : Has w0 W (Bk Bs #[.pointer none, .pointer (some ⟨Bw, 0, none⟩)] t :: L)) {j : Nat} (hj : j < 2) : ∃ x, W.cell? ⟨Bs, j, none⟩ = some (.pointer x) ∧ Two Bw x := by
  match j, hj with
  | 0, _ => exact ⟨none, blk_cell h.blk 0 _ rfl, .inl rfl⟩
  | 1, _ => exact ⟨_, blk_cell h.blk 1 _ rfl, .inr rfl⟩
theorem Two.bad {w0 W : World} {L : List Asrt} {Bw : Nat} {t : TypeId} {cs : Array Value} {x : Option Addr} (h2 : Two Bw x) (h : Has w0 W (Bk Bw cs t :: L)) (hc : cs[0]? = some (.bool false)) : Bad W x := by
  rcases h2 with h2 | h2
  · exact .inl h2
  · exact .inr ⟨Bw, h2, blk_cell h.blk 0 _ hc⟩
set_option maxRecDepth 100000 in
set_option maxHeartbeats 4000000 in
theorem nil_go (k n : Nat) (s : ByteArray) (w : World) (hk : k < 256) (hn : n < 18446744073709551616) (hs : s.size ≤ 1000) :
    Calls Try.prog 5 #[.agg #[.int .u8 (k : Nat), .int .u64 (n : Nat), .string s]] w fun e w' => e = .returned (.bool true) ∧ Below w.heap.size w w' := by
  have hd : decide (1000 < (s.size : Int)) = false := decide_eq_false (by omega)
  have cv := conv_i64 hn
  have HI := Lib.hid (i64_in hn)
  have h1 := (Has.start w).box #[.int .u8 (k : Nat), .int .u64 (n : Nat), .string s] TV
  have h2 := h1.box #[.bool false, .slice none 0 0] TW
  have h3 := h2.box #[.pointer none, .pointer (some ⟨w.heap.size + 1, 0, none⟩)] 25
  rw [World.size_alloc, World.size_alloc] at h3
  have H := Lib.hid h3
  clear h1 h2 h3
  go_enter Try.func5, Try.ntmps5
  go_wp2
  generalize w.heap.size + 1 + 1 = B2 at H ⊢
  generalize w.heap.size + 1 = B1 at H ⊢
  have H0 := H
  go_loopw [19] (fun i wr => ∃ (j : Nat), j ≤ 2 ∧ i = .int .i64 j ∧ Has w wr [Bk B2 #[.pointer none, .pointer (some ⟨B1, 0, none⟩)] 25, Bk B1 #[.bool false, .slice none 0 0] TW, Bk w.heap.size #[.int .u8 (k : Nat), .int .u64 (n : Nat), .string s] TV]) (fun i _ => 2 - (intOf i).toNat)
  case atStart => exact ⟨0, Nat.zero_le _, rfl, H.out⟩
  case round =>
    obtain ⟨j, hj, rfl, h⟩ := hrel
    have H := Lib.hid h
    by_cases hlt : j < 2
    · obtain ⟨x, cx, h2⟩ := two_at h hlt
      have b1 := blk_cell h.up3.blk 1 _ rfl
      have b2 := blk_cell h.up3.blk 2 _ rfl
      have hx := Lib.hid (h2.bad h.swap rfl)
      have H2 := Lib.hid h2
      clear h H0
      go_wp2_with fail
      refine (uint_bad x n _ hx.out).mono ?_
      rintro e w1 ⟨rfl, hb⟩
      have H := Lib.hid (H.out.below hb)
      have b1 := blk_cell H.out.up3.blk 1 _ rfl
      have b2 := blk_cell H.out.up3.blk 2 _ rfl
      have hx := Lib.hid (H2.out.bad H.out.swap rfl)
      clear hb
      go_wp2_with fail
      refine (int_bad x (i64 n) HI.out _ hx.out).mono ?_
      rintro e w1 ⟨rfl, hb⟩
      have H := Lib.hid (H.out.below hb)
      have b1 := blk_cell H.out.up3.blk 1 _ rfl
      have b2 := blk_cell H.out.up3.blk 2 _ rfl
      have hx := Lib.hid (H2.out.bad H.out.swap rfl)
      clear hb
      go_wp2_with fail
      refine (text_bad x s _ hx.out).mono ?_
      rintro e w1 ⟨rfl, hb⟩
      have H := Lib.hid (H.out.below hb)
      have b1 := blk_cell H.out.up3.blk 1 _ rfl
      have b2 := blk_cell H.out.up3.blk 2 _ rfl
      have hx := Lib.hid (H2.out.bad H.out.swap rfl)
      clear hb
      go_wp2_with fail
      refine (bool_bad x _ hx.out).mono ?_
      rintro e w1 ⟨rfl, hb⟩
      have H := Lib.hid (H.out.below hb)
      have b1 := blk_cell H.out.up3.blk 1 _ rfl
      have b2 := blk_cell H.out.up3.blk 2 _ rfl
      have hx := Lib.hid (H2.out.bad H.out.swap rfl)
      clear hb
      go_wp2_with fail
      refine (bytes_bad x _ hx.out).mono ?_
      rintro e w1 ⟨rfl, hb⟩
      have H := Lib.hid (H.out.below hb)
      have b1 := blk_cell H.out.up3.blk 1 _ rfl
      have b2 := blk_cell H.out.up3.blk 2 _ rfl
      have hx := Lib.hid (H2.out.bad H.out.swap rfl)
      clear hb
      go_wp2_with fail
      refine (len_bad x _ hx.out).mono ?_
      rintro e w1 ⟨rfl, hb⟩
      have H := Lib.hid (H.out.below hb)
      have b1 := blk_cell H.out.up3.blk 1 _ rfl
      have b2 := blk_cell H.out.up3.blk 2 _ rfl
      have hx := Lib.hid (H2.out.bad H.out.swap rfl)
      clear hb
      go_wp2
      go_roundw
      case rel => exact ⟨j + 1, by omega, by go_num, H.out⟩
      case measure => simp [intOf]; omega
    · obtain rfl : j = 2 := by omega
      clear h H0
      have h4 := (H.out.box #[.bool false, .bool false, .slice none 0 0] TR).box #[.pointer none, .pointer (some ⟨wr.heap.size, 0, none⟩)] 38
      rw [World.size_alloc] at h4
      have H := Lib.hid h4
      clear h4
      go_wp2
      generalize wr.heap.size + 1 = C2 at H ⊢
      generalize wr.heap.size = C1 at H ⊢
      have H0 := H
      go_loopw [53] (fun i wr => ∃ (j : Nat), j ≤ 2 ∧ i = .int .i64 j ∧ Has w wr [Bk C2 #[.pointer none, .pointer (some ⟨C1, 0, none⟩)] 38, Bk C1 #[.bool false, .bool false, .slice none 0 0] TR]) (fun i _ => 2 - (intOf i).toNat)
      case atStart => exact ⟨0, Nat.zero_le _, rfl, H.out.up3.drop.up3.drop.up3.drop⟩
      case round =>
        obtain ⟨j2, hj2, rfl, h⟩ := hrel
        have H := Lib.hid h
        by_cases hlt2 : j2 < 2
        · obtain ⟨x, cx, h2⟩ := two_at h hlt2
          have hx := Lib.hid (h2.bad h.swap rfl)
          clear h H0 h2
          go_wp2_with fail
          refine (rfail_bad x _ hx.out).mono ?_
          rintro e w1 ⟨rfl, rfl⟩
          go_wp2_with fail
          refine (ruint_bad x _ hx.out).mono ?_
          rintro e w1 ⟨rfl, rfl⟩
          go_wp2_with fail
          refine (rint_bad x _ hx.out).mono ?_
          rintro e w1 ⟨rfl, rfl⟩
          go_wp2_with fail
          refine (rtext_bad x _ hx.out).mono ?_
          rintro e w1 ⟨rfl, rfl⟩
          go_wp2_with fail
          refine (rbool_bad x _ hx.out).mono ?_
          rintro e w1 ⟨rfl, rfl⟩
          go_wp2_with fail
          refine (rleft_bad x _ hx.out).mono ?_
          rintro e w1 ⟨rfl, rfl⟩
          go_wp2_with fail
          refine (rend_bad x _ hx.out).mono ?_
          rintro e w1 ⟨rfl, rfl⟩
          go_wp2
          go_roundw
          case rel =>
            repeat apply Exists.intro
            refine ⟨?_, rfl⟩
            exact ⟨j2 + 1, by omega, by go_num, H.out⟩
          case measure => simp [intOf]; omega
        · obtain rfl : j2 = 2 := by omega
          clear h H0
          go_wp2_with fail
          refine (works_any _).mono ?_
          rintro e w2 ⟨rfl, hb⟩
          have H := Lib.hid (H.out.below hb)
          clear hb
          go_wp2
          go_ret
          exact ⟨rfl, H.out.bel⟩
theorem nil_long (k n : Nat) (s : ByteArray) (w : World) (hs : 1000 < s.size) :
    Calls Try.prog 5 #[.agg #[.int .u8 (k : Nat), .int .u64 (n : Nat), .string s]] w fun e w' => e = .returned (.bool true) ∧ Below w.heap.size w w' := by
  have hd : decide (1000 < (s.size : Int)) = true := decide_eq_true (by omega)
  have H := Lib.hid ((Has.start w).alloc (.cells #[.int .u8 (k : Nat), .int .u64 (n : Nat), .string s] TV))
  go_enter Try.func5, Try.ntmps5
  go_wp2_with fail
  refine (works_any _).mono ?_
  rintro e w2 ⟨rfl, hb⟩
  have H := Lib.hid (H.out.below hb)
  clear hb
  go_wp2
  go_ret
  exact ⟨rfl, H.out.bel⟩
theorem w_wireNil (k0 n0 : Nat) (s0 : ByteArray) (w : World) (w0 : k0 < 256 ∧ n0 < 18446744073709551616 ∧ s0.size ≤ 140737488355328) :
    Calls Try.prog 5 #[.agg #[.int .u8 (k0 : Nat), .int .u64 (n0 : Nat), .string s0]] w fun e w' => e = .returned (.bool true) ∧ Below w.heap.size w w' := by
  by_cases h : 1000 < s0.size
  · exact nil_long k0 n0 s0 w h
  · exact nil_go k0 n0 s0 w w0.1 w0.2.1 (by omega)
end Go.Proofs.Ytnkmiigcglddmaa.Wire
