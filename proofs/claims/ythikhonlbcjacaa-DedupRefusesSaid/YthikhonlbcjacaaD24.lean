/- The walk of DedupRefuses. -/
import Derived.Test.YthikhonlbcjacaaD21
import Derived.Test.YthikhonlbcjacaaD15
namespace Go.Proofs.Ythikhonlbcjacaa.Ded
open Go.RowKit Go.Lib Go.Shelf
open Rng (tx tx_of okR)
open Eff (TE effOk)
set_option linter.unusedVariables false
set_option linter.unusedSimpArgs false
set_option maxRecDepth 100000

/-- What is refused. -/
def XS (n : Int) : List En := [⟨0, 0, [], ⟨-n, 0, 1⟩, [97]⟩, ⟨0, 0, [], ⟨10000 + n, 0, 1⟩, [97]⟩, ⟨0, 0, [], ⟨1, 8 + n, 1⟩, [97]⟩, ⟨0, 0, [], ⟨1, 0, 4 + n⟩, [97]⟩, ⟨0, 0, [], ⟨9, 1, 1⟩, []⟩,
  ⟨0, 0, [], ⟨9, 1, 1⟩, List.replicate (17 + n % 9).toNat 97⟩, ⟨0, 0, [], ⟨9, 1, 1⟩, [65]⟩, ⟨19 + n, 0, [], ⟨9, 1, 1⟩, [97]⟩, ⟨-1 - n, 0, [], ⟨9, 1, 1⟩, [97]⟩, ⟨0, 1152921504606846977 + n, [], ⟨9, 1, 1⟩, [97]⟩, ⟨0, -1152921504606846977 - n, [], ⟨9, 1, 1⟩, [97]⟩]
theorem xs_bad (n : Int) (h0 : 0 ≤ n) : ∀ x ∈ XS n, ¬ OkN x := by
  intro x hx
  simp only [XS, List.mem_cons, List.not_mem_nil, or_false] at hx
  have e1 : ∀ {x : En}, ¬ effOk x.ef.s x.ef.t x.ef.p → ¬ OkN x := fun h c => h c.1
  have e2 : ∀ {x : En}, Rng.nameOk x.ky = false → ¬ OkN x := fun h c => by have := c.2.1; rw [h] at this; cases this
  have e3 : ∀ {x : En}, ¬ (0 ≤ x.er ∧ x.er ≤ 18 ∧ -1152921504606846976 ≤ x.nm ∧ x.nm ≤ 1152921504606846976 ∧ x.da.length ≤ 65536) → ¬ OkN x := fun h c => h (of_decide_eq_true c.2.2)
  rcases hx with rfl | rfl | rfl | rfl | rfl | rfl | rfl | rfl | rfl | rfl | rfl
  · exact e1 (by unfold effOk; simp only; omega)
  · exact e1 (by unfold effOk; simp only; omega)
  · exact e1 (by unfold effOk; simp only; omega)
  · exact e1 (by unfold effOk; simp only; omega)
  · exact e2 (by decide)
  · refine e2 ?_
    have hl : (List.replicate (17 + n % 9).toNat (97 : UInt8)).length = (17 + n % 9).toNat := List.length_replicate
    show (decide (1 ≤ (List.replicate (17 + n % 9).toNat (97 : UInt8)).length ∧ (List.replicate (17 + n % 9).toNat (97 : UInt8)).length ≤ 16) && _) = false
    rw [decide_eq_false (by omega)]
    rfl
  · exact e2 (by decide)
  · exact e3 (by simp only; omega)
  · exact e3 (by simp only; omega)
  · exact e3 (by simp only; omega)
  · exact e3 (by simp only; omega)
abbrev rc (x : En) : List Value := [.int .i64 x.ef.s, .int .i64 x.ef.t, .int .i64 x.ef.p, .string (tx x.ky), .int .i64 x.er, .int .i64 x.nm, .string (tx x.da)]
def flatX (l : List En) : List Value := l.flatMap rc
theorem flatX_get {L : List En} {i : Nat} {x : En} (h : L[i]? = some x) {j : Nat} (hj : j < 7) : (flatX L)[i * 7 + j]? = (rc x)[j]? := by
  induction L generalizing i with
  | nil => cases h
  | cons y r ih =>
    rw [show flatX (y :: r) = rc y ++ flatX r from rfl]
    cases i with
    | zero =>
      simp only [List.getElem?_cons_zero, Option.some.injEq] at h
      subst h
      rw [Nat.zero_mul, Nat.zero_add, List.getElem?_append_left (by simpa using hj)]
    | succ i =>
      rw [List.getElem?_append_right (by simp; omega)]
      have e : (i + 1) * 7 + j - (rc y).length = i * 7 + j := by simp; omega
      rw [e]
      exact ih h
abbrev TX : TypeId := 75
def GS : List Rng.Rg := [⟨[98], [97]⟩, ⟨[97], [97]⟩, ⟨[65], []⟩, ⟨List.replicate 17 97, []⟩, ⟨[], [45]⟩, ⟨[98], List.replicate 17 99⟩]
theorem gs_bad : ∀ r ∈ GS, okR r = false := by
  intro r hr
  simp only [GS, List.mem_cons, List.not_mem_nil, or_false] at hr
  rcases hr with rfl | rfl | rfl | rfl | rfl | rfl <;> decide
abbrev gc (r : Rng.Rg) : List Value := [.string (tx r.f), .string (tx r.t)]
def flatG (l : List Rng.Rg) : List Value := l.flatMap gc
theorem flatG_get {L : List Rng.Rg} {i : Nat} {x : Rng.Rg} (h : L[i]? = some x) {j : Nat} (hj : j < 2) : (flatG L)[i * 2 + j]? = (gc x)[j]? := by
  induction L generalizing i with
  | nil => cases h
  | cons y r ih =>
    rw [show flatG (y :: r) = gc y ++ flatG r from rfl]
    cases i with
    | zero =>
      simp only [List.getElem?_cons_zero, Option.some.injEq] at h
      subst h
      rw [Nat.zero_mul, Nat.zero_add, List.getElem?_append_left (by simpa using hj)]
    | succ i =>
      rw [List.getElem?_append_right (by simp; omega)]
      have e : (i + 1) * 2 + j - (gc y).length = i * 2 + j := by simp; omega
      rw [e]
      exact ih h
/-- What stays on the way: the table, the list of its effects, a row. -/
structure RF (w : World) (b : Nat) (n : Int) (L : List En) (vA : Value) (q : Nat) (o : Obj) (W : World) : Prop where
  k : Wk w.heap.size w b n L W
  a : Fs W vA (effs L)
  row : W.heap[q]? = some o
variable {w W : World} {b : Nat} {n : Int} {L : List En} {vA : Value} {q : Nat} {o : Obj}
theorem RF.later {W' : World} (h : RF w b n L vA q o W) (hb : Below W.heap.size W W') : RF w b n L vA q o W' :=
  ⟨h.k.later hb, h.a.later hb, (hb.block _ (Array.getElem?_eq_some_iff.1 h.row).1).trans h.row⟩
abbrev S24 (w : World) (b : Nat) (n : Int) (L : List En) (vA : Value) (q : Nat) (W : World) : Prop :=
  W.cell? ⟨q, 0, none⟩ = some (.int .i64 9) ∧ W.cell? ⟨q, 1, none⟩ = some (.int .i64 1) ∧ W.cell? ⟨q, 2, none⟩ = some (.int .i64 1) ∧ RF w b n L vA q (eBx ⟨9, 1, 1⟩) W
theorem RF.s24 (h : RF w b n L vA q (eBx ⟨9, 1, 1⟩) W) : S24 w b n L vA q W := ⟨cell_of_row W _ 0 _ TE _ h.row, cell_of_row W _ 1 _ TE _ h.row, cell_of_row W _ 2 _ TE _ h.row, h⟩
theorem eqF_self (l : List Ef) : eqF l l = true := decide_eq_true rfl
theorem flatX_at {W : World} {q : Nat} {L : List En} (h : W.heap[q]? = some (.cells (flatX L).toArray TX (0, 0))) {k : Nat} {x : En} (hk : L[k]? = some x) :
    W.cell? ⟨q, k * 7, none⟩ = some (.int .i64 x.ef.s) ∧ W.cell? ⟨q, k * 7 + 1, none⟩ = some (.int .i64 x.ef.t) ∧ W.cell? ⟨q, k * 7 + 2, none⟩ = some (.int .i64 x.ef.p) ∧ W.cell? ⟨q, k * 7 + 3, none⟩ = some (.string (tx x.ky)) ∧
    W.cell? ⟨q, k * 7 + 4, none⟩ = some (.int .i64 x.er) ∧ W.cell? ⟨q, k * 7 + 5, none⟩ = some (.int .i64 x.nm) ∧ W.cell? ⟨q, k * 7 + 6, none⟩ = some (.string (tx x.da)) := by
  have H : ∀ j (hj : j < 7), W.cell? ⟨q, k * 7 + j, none⟩ = (rc x)[j]? := fun j hj => by
    rw [cell_of_row W q _ _ TX _ h, ← flatX_get hk hj]
    simp
  exact ⟨H 0 (by omega), H 1 (by omega), H 2 (by omega), H 3 (by omega), H 4 (by omega), H 5 (by omega), H 6 (by omega)⟩
theorem flatG_at {W : World} {q : Nat} {L : List Rng.Rg} (h : W.heap[q]? = some (.cells (flatG L).toArray TRg (0, 0))) {k : Nat} {x : Rng.Rg} (hk : L[k]? = some x) :
    W.cell? ⟨q, k * 2, none⟩ = some (.string (tx x.f)) ∧ W.cell? ⟨q, k * 2 + 1, none⟩ = some (.string (tx x.t)) := by
  have H : ∀ j (hj : j < 2), W.cell? ⟨q, k * 2 + j, none⟩ = (gc x)[j]? := fun j hj => by
    rw [cell_of_row W q _ _ TRg _ h, ← flatG_get hk hj]
    simp
  exact ⟨H 0 (by omega), H 1 (by omega)⟩
set_option maxHeartbeats 8000000 in
theorem refuses_any (s : Int) (a : Option Addr) (len cap : Nat) (S : Nat → Mm) (f : Int) (w : World) (hs0 : 0 ≤ s) (hs1 : s ≤ 255) (hf0 : 0 ≤ f) (hf1 : f ≤ 65535) (h : IsMm w a len cap S) :
    Calls Try.prog 8 #[.int .u8 s, .slice a len cap, .int .u16 f] w fun r w' => r = .returned (.bool true) ∧ Below w.heap.size w w' := by
  obtain ⟨n, hn⟩ : ∃ n : Nat, s % 64 = (n : Int) := ⟨(s % 64).toNat, by omega⟩
  have hn2 : n ≤ 2048 := by omega
  have HFi := Lib.hid (filled_any n hn2 a len cap S w h)
  have HN := Lib.hid hn
  have HW := Lib.hid works_any
  have hrp : 17 + f % 9 = ((17 + f % 9).toNat : Int) := by omega
  have hrl : (17 + f % 9).toNat ≤ 1000000 := by omega
  have HR := Lib.hid (fun W => rep_any 97 (17 + f % 9).toNat W hrl)
  rw [← hrp] at HR
  have HR17 := Lib.hid (fun W => rep_any 97 17 W (by omega))
  have HR99 := Lib.hid (fun W => rep_any 99 17 W (by omega))
  have hbad := Lib.hid (xs_bad f hf0)
  clear h hn hrp hrl
  go_enter Try.func8, Try.ntmps8
  go_wp2_with fail
  rw [HN.out]
  refine HFi.out.mono ?_
  rintro r W1 ⟨L, M, mb, rfl, F0⟩
  have F1 := Lib.hid F0.k
  clear F0 HFi
  go_wp2_with fail
  refine F1.out.all.mono ?_
  rintro r W2 ⟨vA, rfl, hF, hb, h2⟩
  have X2 := Lib.hid (RF.mk (h2.later (alloc_b W2 (.cells #[.int .i64 9, .int .i64 1, .int .i64 1] TE))) (hF.fs.later (alloc_b W2 (.cells #[.int .i64 9, .int .i64 1, .int .i64 1] TE))) (heap_alloc_new W2 (.cells #[.int .i64 9, .int .i64 1, .int .i64 1] TE)))
  have hLl : Hid (L.length ≤ 2048) := Lib.hid (by obtain ⟨v, hd⟩ := h2.ex; exact hd.small)
  clear hF hb h2 F1
  go_wp2
  have HK := Lib.hid (fun (W : World) (h : RF w w.heap.size n L vA W2.heap.size (eBx ⟨9, 1, 1⟩) W) => h.s24)
  have t0 : IntKind.i64.wrap (-f) = -f := by rw [IntKind.wrap_i64]; omega
  have t1 : IntKind.i64.wrap (10000 + f) = 10000 + f := by rw [IntKind.wrap_i64]; omega
  have t2 : IntKind.i64.wrap (8 + f) = 8 + f := by rw [IntKind.wrap_i64]; omega
  have t3 : IntKind.i64.wrap (4 + f) = 4 + f := by rw [IntKind.wrap_i64]; omega
  have t4 : f.tmod 9 = f % 9 := Int.tmod_eq_emod_of_nonneg hf0
  have t5 : IntKind.i64.wrap (17 + f % 9) = 17 + f % 9 := by rw [IntKind.wrap_i64]; omega
  have t6 : IntKind.i64.wrap (19 + f) = 19 + f := by rw [IntKind.wrap_i64]; omega
  have t7 : IntKind.i64.wrap (-1 - f) = -1 - f := by rw [IntKind.wrap_i64]; omega
  have t8 : IntKind.i64.wrap (1152921504606846977 + f) = 1152921504606846977 + f := by rw [IntKind.wrap_i64]; omega
  have t9 : IntKind.i64.wrap (-1152921504606846977 - f) = -1152921504606846977 - f := by rw [IntKind.wrap_i64]; omega
  go_region_held3 (S24 w w.heap.size n L vA W2.heap.size) (first | exact HK.out _ (X2.out.later (Below.refl _ _).drew) | exact HK.out _ (by assumption) | assumption | exact HK.out _ (RF.later (by assumption) (alloc_b _ _)))
    ((go_at_call 35; refine (HR.out _).mono ?_; rintro r w2 ⟨rfl, hbel⟩; have hn := RF.later (by assumption : S24 w w.heap.size n L vA W2.heap.size _).2.2.2 hbel))
  clear t0 t1 t2 t3 t4 t5 t6 t7 t8 t9
  rename S24 w w.heap.size n L vA W2.heap.size _ => hs24
  clear hs24
  have X3 : Hid (RF w w.heap.size n L vA w2.heap.size (.cells (flatX (XS f)).toArray TX) (w2.alloc (.cells (flatX (XS f)).toArray TX))) := Lib.hid ⟨hn.k.later (alloc_b _ _), hn.a.later (alloc_b _ _), heap_alloc_new _ _⟩
  clear hn hbel HK X2 HR
  change Exit.then _ _ _ _ (w2.alloc (Obj.cells (flatX (XS f)).toArray TX))
  generalize hW3 : w2.alloc (Obj.cells (flatX (XS f)).toArray TX) = W3 at X3 ⊢
  clear hW3
  have hlen : Hid ((XS f).length = 11) := Lib.hid rfl
  go_wp2
  go_loopw [90] (fun s90 wr => ∃ k : Nat, s90 = .int .i64 k ∧ k ≤ 11 ∧ Hid (RF w w.heap.size n L vA w2.heap.size (.cells (flatX (XS f)).toArray TX) wr)) (fun s90 _ => 11 - (intOf s90).toNat)
  case atStart => exact ⟨0, rfl, Nat.zero_le _, X3⟩
  case round =>
    obtain ⟨k, rfl, hkl, X4⟩ := hrel
    clear X3
    by_cases hlt : k < 11
    · obtain ⟨x, hx⟩ : ∃ x, (XS f)[k]? = some x := ⟨_, List.getElem?_eq_getElem (by rw [hlen.out]; exact hlt)⟩
      obtain ⟨c0, c1, c2, c3, c4, c5, c6⟩ := flatX_at X4.out.row hx
      have hal := alloc_b wr (.cells #[.int .i64 x.ef.s, .int .i64 x.ef.t, .int .i64 x.ef.p, .string (tx x.ky), .int .i64 x.er, .int .i64 x.nm, .string (tx x.da)] TX)
      have X5 := Lib.hid (X4.out.later hal)
      have HP : Hid (Calls Try.prog 19 #[.pointer (some ⟨w.heap.size, 0, none⟩), efA x.ef, .string (tx x.ky), rpA x] (wr.alloc (.cells #[.int .i64 x.ef.s, .int .i64 x.ef.t, .int .i64 x.ef.p, .string (tx x.ky), .int .i64 x.er, .int .i64 x.nm, .string (tx x.da)] TX)) (Ref 2 _)) := Lib.hid (by
        obtain ⟨v, hd⟩ := X5.out.k.ex
        exact put_bad x hd (hbad.out x (List.mem_of_getElem? hx)))
      clear hx hal X4
      go_wp2_with fail
      refine HP.out.mono ?_
      rintro r V1 ⟨rfl, hb⟩
      have X6 := Lib.hid (X5.out.later hb)
      clear hb HP X5 c0 c1 c2 c3 c4 c5 c6
      go_wp2
      go_roundw
      case rel => exact ⟨k + 1, by go_num, by omega, X6⟩
      case measure => simp [intOf]; omega
    · obtain rfl : k = 11 := by omega
      clear hbad hlen
      go_wp2_with fail
      refine (HR17.out _).mono ?_
      rintro r V1 ⟨rfl, hb⟩
      have X5 := Lib.hid (X4.out.later hb)
      clear hb X4
      go_wp2_with fail
      refine (HR99.out _).mono ?_
      rintro r V2 ⟨rfl, hb⟩
      have X6 := Lib.hid (X5.out.later hb)
      clear hb X5 HR17 HR99
      go_wp2
      have X7 : Hid (RF w w.heap.size n L vA V2.heap.size (.cells (flatG GS).toArray TRg) (V2.alloc (.cells (flatG GS).toArray TRg))) := Lib.hid ⟨X6.out.k.later (alloc_b _ _), X6.out.a.later (alloc_b _ _), heap_alloc_new _ _⟩
      clear X6
      change Code.wp _ _ _ _ (V2.alloc (Obj.cells (flatG GS).toArray TRg))
      generalize hW4 : V2.alloc (Obj.cells (flatG GS).toArray TRg) = W4 at X7 ⊢
      clear hW4
      go_loopw [114] (fun s114 wr => ∃ k : Nat, s114 = .int .i64 k ∧ k ≤ 6 ∧ Hid (RF w w.heap.size n L vA V2.heap.size (.cells (flatG GS).toArray TRg) wr)) (fun s114 _ => 6 - (intOf s114).toNat)
      case atStart => exact ⟨0, rfl, Nat.zero_le _, X7⟩
      case round =>
        obtain ⟨k, rfl, hkl, X8⟩ := hrel
        clear X7
        by_cases hlt : k < 6
        · obtain ⟨x, hx⟩ : ∃ x, GS[k]? = some x := ⟨_, List.getElem?_eq_getElem (show k < 6 from hlt)⟩
          obtain ⟨c0, c1⟩ := flatG_at X8.out.row hx
          have hal := alloc_b wr (.cells #[.string (tx x.f), .string (tx x.t)] TRg)
          have X9 := Lib.hid (X8.out.later hal)
          have HP := Lib.hid (X9.out.k.takeno x (gs_bad x (List.mem_of_getElem? hx)))
          clear hx hal X8
          go_wp2_with fail
          refine HP.out.mono ?_
          rintro r V3 ⟨rfl, hb, _⟩
          have XA := Lib.hid (X9.out.later hb)
          clear hb HP X9 c0 c1
          go_wp2
          go_roundw
          case rel => exact ⟨k + 1, by go_num, by omega, XA⟩
          case measure => simp [intOf]; omega
        · obtain rfl : k = 6 := by omega
          have HAl := Lib.hid X8.out.k.all
          go_wp2_with fail
          refine HAl.out.mono ?_
          rintro r V3 ⟨vB, rfl, hF, hb, hk⟩
          have HE := Lib.hid (equal_any vB vA (effs L) (effs L) V3 hF.fs (X8.out.a.later hb) (by rw [List.length_map]; have := hLl.out; omega) (by rw [List.length_map]; have := hLl.out; omega))
          rw [eqF_self] at HE
          have HK3 := Lib.hid hk
          clear hF hb hk HAl X8
          go_wp2_with fail
          refine HE.out.mono ?_
          rintro r V4 ⟨rfl, hb⟩
          have HK4 := Lib.hid (HK3.out.later hb)
          clear hb HE HK3
          go_wp2_with fail
          refine (HW.out _).mono ?_
          rintro r V5 ⟨rfl, hb⟩
          have hB := Lib.hid (HK4.out.later hb).bel
          go_wp2
          go_ret
          exact ⟨rfl, hB.out⟩
theorem refuses_law (s : Int) (a : Option Addr) (len cap : Nat) (S : Nat → Mm) (f : Int) (w : World) (h0 : (Lit.int .u8 s).wf = true) (h : IsMm w a len cap S) (h2 : (Lit.int .u16 f).wf = true) :
    Calls Try.prog 8 #[.int .u8 s, .slice a len cap, .int .u16 f] w fun r w' => r = .returned (.bool true) ∧ Below w.heap.size w w' :=
  refuses_any s a len cap S f w (bounds_u8 h0).1 (bounds_u8 h0).2 (bounds_u16 h2).1 (bounds_u16 h2).2 h
end Go.Proofs.Ythikhonlbcjacaa.Ded
