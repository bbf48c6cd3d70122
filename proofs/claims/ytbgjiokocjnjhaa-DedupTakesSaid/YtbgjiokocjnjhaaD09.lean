/- isReply; Put where it refuses. -/
import Derived.Test.YtbgjiokocjnjhaaD08
namespace Go.Proofs.Ytbgjiokocjnjhaa.Ded
open Go.RowKit Go.Lib Go.Shelf
open Rng (tx nameOk tx_size)
open Eff (TE effOk)
set_option linter.unusedVariables false
set_option linter.unusedSimpArgs false
set_option maxRecDepth 100000
variable {base : Nat} {w : World} {b : Nat} {v : Value} {n : Int} {L : List En}

def repB (er nm : Int) (k : Nat) : Bool := decide (0 ≤ er ∧ er ≤ 18 ∧ -1152921504606846976 ≤ nm ∧ nm ≤ 1152921504606846976 ∧ k ≤ 65536)
theorem rep_eq (er nm : Int) (d : List UInt8) : repOk er nm d = repB er nm (tx d).size := by rw [tx_size]; rfl
theorem reply_val (er nm : Int) (s : ByteArray) (m : Bool) (hm : repB er nm s.size = m) (w : World) :
    Calls Try.prog 52 #[.agg #[.int .i64 er, .int .i64 nm, .string s]] w fun e w' => e = .returned (.bool m) ∧ Below w.heap.size w w' := by
  have hb : Below w.heap.size w (w.alloc (.cells #[.int .i64 er, .int .i64 nm, .string s] TRp)) := alloc_b _ _
  replace hb := Lib.hid hb
  by_cases h1 : 0 ≤ er
  · by_cases h2 : er ≤ 18
    · by_cases h3 : -1152921504606846976 ≤ nm
      · by_cases h4 : nm ≤ 1152921504606846976
        · by_cases h5 : s.size ≤ 65536
          · obtain rfl : m = true := by rw [← hm]; exact decide_eq_true ⟨h1, h2, h3, h4, h5⟩
            have d5 : decide ((s.size : Int) ≤ 65536) = true := decide_eq_true (by omega)
            clear hm
            go_enter Try.func52, Try.ntmps52
            go_wp2
            go_ret
            exact ⟨rfl, hb.out⟩
          · obtain rfl : m = false := by rw [← hm]; exact decide_eq_false (by omega)
            have d5 : decide ((s.size : Int) ≤ 65536) = false := decide_eq_false (by omega)
            clear hm
            go_enter Try.func52, Try.ntmps52
            go_wp2
            go_ret
            exact ⟨rfl, hb.out⟩
        · obtain rfl : m = false := by rw [← hm]; exact decide_eq_false (by omega)
          clear hm
          go_enter Try.func52, Try.ntmps52
          go_wp2
          go_ret
          exact ⟨rfl, hb.out⟩
      · obtain rfl : m = false := by rw [← hm]; exact decide_eq_false (by omega)
        clear hm
        go_enter Try.func52, Try.ntmps52
        go_wp2
        go_ret
        exact ⟨rfl, hb.out⟩
    · obtain rfl : m = false := by rw [← hm]; exact decide_eq_false (by omega)
      clear hm
      go_enter Try.func52, Try.ntmps52
      go_wp2
      go_ret
      exact ⟨rfl, hb.out⟩
  · obtain rfl : m = false := by rw [← hm]; exact decide_eq_false (by omega)
    clear hm
    go_enter Try.func52, Try.ntmps52
    go_wp2
    go_ret
    exact ⟨rfl, hb.out⟩
theorem reply_any (er nm : Int) (d : List UInt8) (w : World) :
    Calls Try.prog 52 #[.agg #[.int .i64 er, .int .i64 nm, .string (tx d)]] w fun e w' => e = .returned (.bool (repOk er nm d)) ∧ Below w.heap.size w w' :=
  reply_val er nm (tx d) _ (rep_eq er nm d).symm w

/-! Put. -/
def Ref (c : Int) (w : World) (r : Ending) (w' : World) : Prop := r = .returned (.int .i64 c) ∧ Below w.heap.size w w'
/-- The boxes of Put. -/
structure QAt (w0 : World) (x : En) (W : World) : Prop where
  box : W.heap[w0.heap.size]? = some (eBx x.ef)
  rep : W.heap[w0.heap.size + 1]? = some (.cells #[.int .i64 x.er, .int .i64 x.nm, .string (tx x.da)] TRp (0, 0))
  bel : Below w0.heap.size w0 W
theorem QAt.later {w0 W W' : World} {x : En} (h : QAt w0 x W) (hb : Below W.heap.size W W') : QAt w0 x W' :=
  ⟨(hb.block _ (Array.getElem?_eq_some_iff.1 h.box).1).trans h.box, (hb.block _ (Array.getElem?_eq_some_iff.1 h.rep).1).trans h.rep, h.bel.trans (hb.mono h.bel.size)⟩
theorem QAt.new (w : World) (x : En) : QAt w x ((w.alloc (.cells #[.int .i64 x.ef.s, .int .i64 x.ef.t, .int .i64 x.ef.p] TE)).alloc (.cells #[.int .i64 x.er, .int .i64 x.nm, .string (tx x.da)] TRp)) := by
  have hb : Below w.heap.size w ((w.alloc (.cells #[.int .i64 x.ef.s, .int .i64 x.ef.t, .int .i64 x.ef.p] TE)).alloc (.cells #[.int .i64 x.er, .int .i64 x.nm, .string (tx x.da)] TRp)) := (alloc_b _ _).alloc (by simp) _
  have h2 := heap_alloc_new (w.alloc (.cells #[.int .i64 x.ef.s, .int .i64 x.ef.t, .int .i64 x.ef.p] TE)) (.cells #[.int .i64 x.er, .int .i64 x.nm, .string (tx x.da)] TRp)
  rw [World.size_alloc] at h2
  refine ⟨?_, h2, hb⟩
  rw [Below.heap_alloc _ _ _ (by simp)]
  exact heap_alloc_new _ _
theorem QAt.cells {w0 W : World} {x : En} (h : QAt w0 x W) : W.cell? ⟨w0.heap.size, 0, none⟩ = some (.int .i64 x.ef.s) ∧ W.cell? ⟨w0.heap.size, 1, none⟩ = some (.int .i64 x.ef.t) ∧ W.cell? ⟨w0.heap.size, 2, none⟩ = some (.int .i64 x.ef.p) ∧
    W.cell? ⟨w0.heap.size + 1, 0, none⟩ = some (.int .i64 x.er) ∧ W.cell? ⟨w0.heap.size + 1, 1, none⟩ = some (.int .i64 x.nm) ∧ W.cell? ⟨w0.heap.size + 1, 2, none⟩ = some (.string (tx x.da)) :=
  ⟨cell_of_row W _ 0 _ TE _ h.box, cell_of_row W _ 1 _ TE _ h.box, cell_of_row W _ 2 _ TE _ h.box, cell_of_row W _ 0 _ TRp _ h.rep, cell_of_row W _ 1 _ TRp _ h.rep, cell_of_row W _ 2 _ TRp _ h.rep⟩
theorem put_nv {p : Value} (x : En) (h : Nv p w) : Calls Try.prog 19 #[p, efA x.ef, .string (tx x.ky), rpA x] w (Ref 1 w) := by
  have Q0 := QAt.new w x
  have HV := Lib.hid (h.later Q0.bel).valid
  replace Q0 := Lib.hid Q0
  clear h
  go_enter Try.func19, Try.ntmps19
  go_wp2_with (go_at_call 37; refine HV.out.mono ?_; rintro r w2 ⟨rfl, rfl⟩)
  go_ret
  exact ⟨rfl, Q0.out.bel⟩
/-- Arguments that are refused. -/
theorem put_bad (x : En) (h : Dx base w b v n L) (hx : ¬ OkN x) : Calls Try.prog 19 #[.pointer (some ⟨b, 0, none⟩), efA x.ef, .string (tx x.ky), rpA x] w (Ref 2 w) := by
  have Q0 := QAt.new w x
  have HV := Lib.hid (h.later Q0.bel).valid
  have HE := Lib.hid (fun W => Eff.check_any x.ef.s x.ef.t x.ef.p W)
  have HN := Lib.hid (fun W => Rng.name_any x.ky W)
  have HR := Lib.hid (fun W => reply_any x.er x.nm x.da W)
  replace Q0 := Lib.hid Q0
  clear h
  obtain ⟨z, hz⟩ : ∃ z, z = Eff.okE x.ef.s x.ef.t x.ef.p := ⟨_, rfl⟩
  rw [← hz] at HE
  by_cases h1 : effOk x.ef.s x.ef.t x.ef.p
  · obtain rfl : z = 0 := by rw [hz]; exact if_pos h1
    clear hz
    cases h2 : nameOk x.ky with
    | true =>
      cases h3 : repOk x.er x.nm x.da with
      | true => exact absurd ⟨h1, h2, h3⟩ hx
      | false =>
        rw [h2] at HN
        rw [h3] at HR
        clear hx h1 h2 h3
        go_enter Try.func19, Try.ntmps19
        go_wp2_with (first
          | (go_at_call 37; refine HV.out.mono ?_; rintro r w2 ⟨rfl, rfl⟩)
          | (go_at_call 50; refine (HE.out _).mono ?_; rintro r w2 ⟨rfl, hb2⟩; have Q1 := Lib.hid (Q0.out.later hb2); clear hb2; obtain ⟨c0, c1, c2, c3, c4, c5⟩ := Q1.out.cells)
          | (go_at_call 51; refine (HN.out _).mono ?_; rintro r w3 ⟨rfl, hb2⟩; have Q2 := Lib.hid (Q1.out.later hb2); clear hb2; obtain ⟨d0, d1, d2, d3, d4, d5⟩ := Q2.out.cells)
          | (go_at_call 52; refine (HR.out _).mono ?_; rintro r w4 ⟨rfl, hb2⟩; have Q3 := Lib.hid (Q2.out.later hb2); clear hb2))
        go_ret
        exact ⟨rfl, Q3.out.bel⟩
    | false =>
      rw [h2] at HN
      clear hx h1 h2
      go_enter Try.func19, Try.ntmps19
      go_wp2_with (first
        | (go_at_call 37; refine HV.out.mono ?_; rintro r w2 ⟨rfl, rfl⟩)
        | (go_at_call 50; refine (HE.out _).mono ?_; rintro r w2 ⟨rfl, hb2⟩; have Q1 := Lib.hid (Q0.out.later hb2); clear hb2; obtain ⟨c0, c1, c2, c3, c4, c5⟩ := Q1.out.cells)
        | (go_at_call 51; refine (HN.out _).mono ?_; rintro r w3 ⟨rfl, hb2⟩; have Q2 := Lib.hid (Q1.out.later hb2); clear hb2))
      go_ret
      exact ⟨rfl, Q2.out.bel⟩
  · obtain rfl : z = 2 := by rw [hz]; exact if_neg h1
    clear hz hx h1
    go_enter Try.func19, Try.ntmps19
    go_wp2_with (first
      | (go_at_call 37; refine HV.out.mono ?_; rintro r w2 ⟨rfl, rfl⟩)
      | (go_at_call 50; refine (HE.out _).mono ?_; rintro r w2 ⟨rfl, hb2⟩; have Q1 := Lib.hid (Q0.out.later hb2); clear hb2))
    go_ret
    exact ⟨rfl, Q1.out.bel⟩
end Go.Proofs.Ytbgjiokocjnjhaa.Ded
