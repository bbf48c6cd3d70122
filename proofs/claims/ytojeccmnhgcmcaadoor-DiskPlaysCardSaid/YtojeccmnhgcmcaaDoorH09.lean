/- Steps as they come in; short; contents; equal; filled. -/
import Derived.Test.YtojeccmnhgcmcaaDoorH08
import Derived.ProofKit
import Derived.OpenShut
import Derived.SizedLaws
import Derived.Stop.Joined
import Derived.ShutString
import Derived.Deep.Slices
import Derived.Deep.Fields
import Derived.ChangeArms
import Derived.ChangeSame
import Derived.Lib.SmallJoins
import Derived.Deep.CutBlock
import Derived.Deep.CutRange
import Derived.Deep.WholeRow
namespace Go.Proofs.YtojeccmnhgcmcaaDoor.Dsk
open Go.RowKit Go.ChangeShapes Go.WideShapes _root_.Go.Proofs.YtojeccmnhgcmcaaDoor.Frame
open _root_.Go.Proofs.YtojeccmnhgcmcaaDoor.Crc (Hv more more_lt ret_u32)
set_option linter.unusedVariables false
set_option linter.unusedSimpArgs false
set_option maxRecDepth 100000

abbrev TP : TypeId := 31
abbrev TPs : TypeId := 22
theorem tp_slice : Tryd.prog.underlying TPs = some (.slice TP) := Tryd.underlying22
theorem tp_cells : Tryd.prog.cellsOf TP = 3 := by kernel_rfl
theorem tp_struct : ∃ f0 f1 f2 : Field, Tryd.prog.underlying TP = some (.struct #[f0, f1, f2]) ∧ f0.type = 3 ∧ f1.type = TSl ∧ f2.type = 3 ∧ f0.offset = 0 ∧ f1.offset = 1 ∧ f2.offset = 2 := ⟨_, _, _, Tryd.underlying31, rfl, rfl, rfl, rfl, rfl, rfl⟩
/-- A step: what to do, the content, how many bytes are left; and the slice that holds the content. -/
structure Sq where
  k : Int
  c : List Nat
  x : Int
  v : Value
def SqW (w : World) (t : Sq) : Prop := (Lit.int .i64 t.k).wf = true ∧ (Lit.int .i64 t.x).wf = true ∧ Bs w (Old w) t.v t.c ∧ t.c.length ≤ 9223372036854775807
theorem SqW.form {w : World} {t : Sq} (h : SqW w t) : ∃ a c, t.v = .slice a t.c.length c := by
  obtain ⟨_, a, cap, e, _⟩ := h.2.2.1
  exact ⟨a, cap, e⟩
abbrev sqA (t : Sq) : Value := .agg #[.int .i64 t.k, t.v, .int .i64 t.x]
structure IsSq (w : World) (a : Option Addr) (len cap : Nat) (S : Nat → Sq) : Prop where
  fit : len ≤ cap ∧ cap ≤ 9223372036854775807
  none : a = none → len = 0 ∧ cap = 0
  cell : 0 < len → ∃ b off, a = some ⟨b, off, Option.none⟩ ∧ b < w.heap.size ∧ ∀ i, i < len → w.cell? ⟨b, off + i * 3, Option.none⟩ = some (.int .i64 (S i).k) ∧ w.cell? ⟨b, off + i * 3 + 1, Option.none⟩ = some (S i).v ∧ w.cell? ⟨b, off + i * 3 + 2, Option.none⟩ = some (.int .i64 (S i).x)
  wf : ∀ i, SqW w (S i)
theorem IsSq.at_ {w W : World} {a : Option Addr} {len cap : Nat} {S : Nat → Sq} (h : IsSq w a len cap S) (hb : Below w.heap.size w W) (i : Nat) (hi : i < len) :
    ∃ b off a' c', a = some ⟨b, off, Option.none⟩ ∧ W.cell? ⟨b, off + i * 3, Option.none⟩ = some (.int .i64 (S i).k) ∧ W.cell? ⟨b, off + i * 3 + 1, Option.none⟩ = some (.slice a' (S i).c.length c') ∧ W.cell? ⟨b, off + i * 3 + 2, Option.none⟩ = some (.int .i64 (S i).x) ∧
      Bs W (Old w) (.slice a' (S i).c.length c') (S i).c ∧ (S i).c.length ≤ 9223372036854775807 := by
  obtain ⟨b, off, e, hlt, hc⟩ := h.cell (by omega)
  obtain ⟨c0, c1, c2⟩ := hc i hi
  obtain ⟨_, _, h2, h3⟩ := h.wf i
  obtain ⟨a', c', ev⟩ := (h.wf i).form
  rw [ev] at c1 h2
  exact ⟨b, off, a', c', e, (hb.cell (p := ⟨b, _, Option.none⟩) hlt).trans c0, (hb.cell (p := ⟨b, _, Option.none⟩) hlt).trans c1, (hb.cell (p := ⟨b, _, Option.none⟩) hlt).trans c2, h2.late hb, h3⟩
theorem old_lt {w W : World} (hb : Below w.heap.size w W) : ∀ k, Old w k → k < W.heap.size := fun k hk => Nat.lt_of_lt_of_le hk hb.size
section
variable {H : Type} {enc : TypeId × Value → H} {w : World} {base : Nat} {spare : Nat → Bool} {held : Bool}
theorem bytes_open2 {fuel : Nat} {v : Value} {x : DataW H × List MemPlace} (h : DataW.trod enc Tryd.prog w base spare held fuel TSl [v] = some x) : ∃ l, Bs w (Old w) v l ∧ l.length ≤ 9223372036854775807 := by
  obtain ⟨l, hb⟩ := bytes_open h
  refine ⟨l, hb, ?_⟩
  obtain ⟨_, a, cap, hv, hcap, _⟩ := hb
  rcases Go.Deep.open_slice1 Tryd.underlying29 (by kernel_rfl) h with ⟨e, _⟩ | ⟨_, len, cap', m, n, V, D, Pl, e, _, hl, hm, _⟩
  · injection e with e
    rw [e] at hv
    injection hv with _ e2 _
    omega
  · injection e with e
    rw [e] at hv
    injection hv with _ e2 e3
    have hmx : cap' ≤ 9223372036854775807 := hm
    omega
theorem sq_parts {fuel : Nat} {c0 c1 c2 : Value} {x : DataW H × List MemPlace} (h : DataW.trod enc Tryd.prog w base spare held fuel TP [c0, c1, c2] = some x) :
    ∃ t : Sq, SqW w t ∧ c0 = .int .i64 t.k ∧ c1 = t.v ∧ c2 = .int .i64 t.x := by
  obtain ⟨f0, f1, f2, hu, t0, t1, t2, o0, o1, o2⟩ := tp_struct
  obtain ⟨ys, m, _, rfl, _, hl, hf⟩ := DataW.trod_struct hu h
  have h0 := hf 0 f0 rfl
  have h1 := hf 1 f1 rfl
  have h2 := hf 2 f2 rfl
  have k0 : Tryd.prog.cellsOf 3 = 1 := by kernel_rfl
  have k1 : Tryd.prog.cellsOf TSl = 1 := by kernel_rfl
  rw [t0, o0, k0] at h0
  rw [t1, o1, k1] at h1
  rw [t2, o2, k0] at h2
  have hl4 : ys.length = 3 := hl
  match ys, hl4 with
  | [y0, y1, y2], _ =>
    have g0 : DataW.trod enc Tryd.prog w base spare held m 3 [c0] = some y0 := h0
    have g1 : DataW.trod enc Tryd.prog w base spare held m TSl [c1] = some y1 := h1
    have g2 : DataW.trod enc Tryd.prog w base spare held m 3 [c2] = some y2 := h2
    obtain ⟨n0, e0, rfl, w0⟩ := DataW.trod_int Tryd.underlying3 g0
    obtain ⟨n2, e2, rfl, w2⟩ := DataW.trod_int Tryd.underlying3 g2
    obtain ⟨l, hb, hl⟩ := bytes_open2 g1
    cases e0; cases e2
    exact ⟨⟨n0, l, n2, c1⟩, ⟨w0, w2, hb, hl⟩, rfl, rfl, rfl⟩
theorem sq_open {r : Reach} {b0 : Nat} {v : Value} {d : DataW H} {p : List MemPlace} (hv : Value.okWide Tryd.prog w r b0 TP v) (h : DataW.Trod enc Tryd.prog w base spare held TP v d p) : ∃ t : Sq, v = sqA t ∧ SqW w t := by
  obtain ⟨cs, rfl, hsz⟩ := okWide_struct Tryd.underlying31 hv
  obtain ⟨c0, c1, c2, rfl⟩ : ∃ c0 c1 c2, cs = #[c0, c1, c2] := by
    have hs : cs.size = 3 := hsz.trans tp_cells
    obtain ⟨l⟩ := cs
    have hl : l.length = 3 := hs
    match l, hl with
    | [c0, c1, c2], _ => exact ⟨c0, c1, c2, rfl⟩
  obtain ⟨fuel, hf⟩ := h
  obtain ⟨t, hw, rfl, rfl, rfl⟩ := sq_parts (show DataW.trod enc Tryd.prog w base spare held fuel TP [c0, c1, c2] = some (d, _) from hf)
  exact ⟨t, rfl, hw⟩
theorem sqs_open {fuel : Nat} {cs : List Value} {x : DataW H × List MemPlace} (h : DataW.trod enc Tryd.prog w base spare held fuel TPs cs = some x) :
    ∃ a len cap S, cs = [.slice a len cap] ∧ IsSq w a len cap S := by
  have z : SqW w ⟨0, [], 0, .slice none 0 0⟩ := ⟨by decide, by decide, Bs.nil _ _ _ _, Nat.zero_le _⟩
  rcases Go.Deep.open_slice tp_slice h with ⟨rfl, _⟩ | ⟨⟨b, off, spot⟩, len, cap, m, n, DD, Pl, rfl, _, hl, hm, hmm, rfl, hi⟩
  · exact ⟨none, 0, 0, fun _ => ⟨0, [], 0, .slice none 0 0⟩, rfl, ⟨Nat.le_refl _, Nat.zero_le _⟩, (fun _ => ⟨rfl, rfl⟩), (fun h0 => absurd h0 (by omega)), fun i => z⟩
  · have hlm : len ≤ m := by rw [hmm]; split <;> omega
    have hspot : 0 < len → spot = none := by
      intro h0
      obtain ⟨cs', hc, _⟩ := hi 0 (by omega)
      rw [tp_cells] at hc
      obtain ⟨_, hl3, hat⟩ := World.cells?_some hc
      have a0 := hat 0 (by omega)
      rw [List.getElem?_eq_getElem (by omega)] at a0
      simpa [Addr.add] using World.cell?_spot a0
    have hall : ∀ i, ∃ t : Sq, SqW w t ∧ (i < len → spot = none ∧ b < w.heap.size ∧ w.cell? ⟨b, off + i * 3, none⟩ = some (.int .i64 t.k) ∧ w.cell? ⟨b, off + i * 3 + 1, none⟩ = some t.v ∧ w.cell? ⟨b, off + i * 3 + 2, none⟩ = some (.int .i64 t.x)) := by
      intro i
      by_cases hlt : i < len
      · obtain ⟨cs', hc, ht⟩ := hi i (by omega)
        rw [tp_cells] at hc
        obtain ⟨_, hl3, hat⟩ := World.cells?_some hc
        match cs', hl3 with
        | [c0, c1, c2], _ =>
          have a0 := hat 0 (by omega)
          have a1 := hat 1 (by omega)
          have a2 := hat 2 (by omega)
          obtain rfl := hspot (by omega)
          rw [addr_add, addr_add] at a0 a1 a2
          obtain ⟨t, he, rfl, rfl, rfl⟩ := sq_parts ht
          exact ⟨t, he, fun _ => ⟨rfl, World.block_lt_of_cell? w _ a0, a0, a1, a2⟩⟩
      · exact ⟨_, z, fun h => absurd h hlt⟩
    obtain ⟨f, hf⟩ := Classical.axiomOfChoice hall
    have hmx : cap ≤ 9223372036854775807 := hm
    refine ⟨some ⟨b, off, spot⟩, len, cap, f, rfl, ⟨hl, hmx⟩, (fun h => by cases h), fun h0 => ?_, fun i => (hf i).1⟩
    obtain ⟨rfl, hb, _⟩ := (hf 0).2 h0
    exact ⟨b, off, rfl, hb, fun i hi => ((hf i).2 hi).2.2⟩
end

/-! short. -/
def okC (c : List Nat) : Prop := c.length ≤ 100 ∨ 65536 < c.length
theorem short_any {w W : World} {a : Option Addr} {len cap : Nat} {S : Nat → Sq} (h : IsSq w a len cap S) (hb : Below w.heap.size w W) :
    Calls Tryd.prog 11 #[.slice a len cap] W fun e W' => ∃ b, e = .returned (.bool b) ∧ (b = true → len ≤ 80 ∧ ∀ i, i < len → okC (S i).c) ∧ W = W' := by
  have hfit := h.fit
  have HA := Lib.hid (fun i hi => h.at_ hb i hi)
  clear h
  by_cases hl : 80 < len
  · have b1 : decide ((80 : Int) < (len : Int)) = true := by simp; omega
    have hl := Lib.hid hl
    go_enter Tryd.func11, Tryd.ntmps11
    go_wp2
    go_ret
    exact ⟨false, rfl, (fun e => by cases e), rfl⟩
  · have b1 : decide ((80 : Int) < (len : Int)) = false := by simp; omega
    have hl' := Lib.hid (show len ≤ 80 by omega)
    go_enter Tryd.func11, Tryd.ntmps11
    go_wp2
    go_loopw [3] (fun i wr => ∃ k : Nat, k ≤ len ∧ i = .int .i64 k ∧ (∀ j, j < k → okC (S j).c) ∧ W = wr) (fun i _ => len - nOf i)
    case atStart => exact ⟨0, Nat.zero_le _, rfl, fun j h => by omega, rfl⟩
    case round =>
      obtain ⟨k, hk, rfl, hall, rfl⟩ := hrel
      replace hall := Lib.hid hall
      by_cases hlt : k < len
      · obtain ⟨b, off, a', c', rfl, c0, c1, c2, _, _⟩ := HA.out k hlt
        have hS := Lib.hid (show okC (S k).c ↔ ((S k).c.length ≤ 100 ∨ 65536 < (S k).c.length) from Iff.rfl)
        generalize (S k).c.length = n at *
        have i1 : decide ((k : Int) < (len : Int)) = true := by simp; omega
        by_cases h1 : n ≤ 100
        · have d1 : decide ((100 : Int) < (n : Int)) = false := by simp; omega
          have hok := Lib.hid (hS.out.2 (.inl h1))
          go_wp2
          go_roundw
          case rel => exact ⟨k + 1, by omega, by go_num, fun j hj => by
            by_cases e : j = k
            · rw [e]; exact hok.out
            · exact hall.out j (by omega), (by trivial)⟩
          case measure => simp [nOf]; omega
        · by_cases h2 : 65536 < n
          · have d1 : decide ((100 : Int) < (n : Int)) = true := by simp; omega
            have d2 : decide ((n : Int) ≤ (65536 : Int)) = false := by simp; omega
            have hok := Lib.hid (hS.out.2 (.inr h2))
            go_wp2
            go_roundw
            case rel => exact ⟨k + 1, by omega, by go_num, fun j hj => by
              by_cases e : j = k
              · rw [e]; exact hok.out
              · exact hall.out j (by omega), (by trivial)⟩
            case measure => simp [nOf]; omega
          · have d1 : decide ((100 : Int) < (n : Int)) = true := by simp; omega
            have d2 : decide ((n : Int) ≤ (65536 : Int)) = true := by simp; omega
            go_wp2
            go_ret
            exact ⟨false, rfl, (fun e => by cases e), rfl⟩
      · have hkn : k = len := by omega
        have i1 : decide ((k : Int) < (len : Int)) = false := by simp; omega
        have hfin := Lib.hid (show ∀ i, i < len → okC (S i).c from fun i hi => hall.out i (by omega))
        go_wp2
        go_ret
        exact ⟨true, rfl, fun _ => ⟨hl'.out, hfin.out⟩, rfl⟩

/-! contents, equal. -/
theorem OwnL.bss {base : Nat} {L : List (List Nat)} {v : Value} {W : World} (h : OwnL base L v W) : Bss W (From base W) v L := by
  obtain ⟨xs, h1, h2⟩ := h.ex
  exact own_bss h1 ⟨h2.1, fun i s hs => (h2.2 i s hs).bs⟩ fun k hk => World.ownsRow.lt h1 k hk
theorem Bss.form {W : World} {F : Nat → Prop} {v : Value} {L : List (List Nat)} (h : Bss W F v L) : ∃ a cap, v = .slice a L.length cap := by
  obtain ⟨a, cap, e, _⟩ := h
  exact ⟨a, cap, e⟩
set_option maxHeartbeats 1000000 in
theorem contents_same {W : World} {F G : Nat → Prop} {v1 v2 : Value} {L : List (List Nat)} (h1 : Bss W F v1 L) (h2 : Bss W G v2 L) (hF : ∀ k, F k → k < W.heap.size) (hG : ∀ k, G k → k < W.heap.size) (hL : L.length ≤ 100000000) :
    Calls Tryd.prog 36 #[v1, v2] W (Yes W) := by
  obtain ⟨a1, cap1, rfl⟩ := Bss.form h1
  obtain ⟨a2, cap2, rfl⟩ := Bss.form h2
  have H1 := Lib.hid (fun W' (hb : Below W.heap.size W W') => h1.later hF hb)
  have H2 := Lib.hid (fun W' (hb : Below W.heap.size W W') => h2.later hG hb)
  clear h1 h2
  go_enter Tryd.func36, Tryd.ntmps36
  go_wp2
  go_loopw [5] (fun i wr => ∃ j : Nat, j ≤ L.length ∧ i = .int .i64 j ∧ Below W.heap.size W wr) (fun i _ => L.length - nOf i)
  case atStart => exact ⟨0, Nat.zero_le _, rfl, Below.refl _ _⟩
  case round =>
    obtain ⟨j, hj, rfl, hbj⟩ := hrel
    by_cases hlt : j < L.length
    · obtain ⟨b1, o1, s1, rfl, _, e1, m1⟩ := (H1.out _ hbj).at_ j hlt
      obtain ⟨b2, o2, s2, rfl, _, e2, m2⟩ := (H2.out _ hbj).at_ j hlt
      generalize L.getD j [] = d' at *
      obtain ⟨_, a6, cap6, rfl, _⟩ := (show Bs wr F s1 d' from m1)
      obtain ⟨_, a7, cap7, rfl, _⟩ := (show Bs wr G s2 d' from m2)
      have cv1 : ∀ q, (convert 29 9 (.slice a6 d'.length cap6)).run Tryd.prog (wr.drewN q) = .ok (.string (str d')) (wr.drewN q) := fun q => bs_str (show Bs (wr.drewN q) _ _ _ from m1)
      have cv2 : ∀ q, (convert 29 9 (.slice a7 d'.length cap7)).run Tryd.prog (wr.drewN q) = .ok (.string (str d')) (wr.drewN q) := fun q => bs_str (show Bs (wr.drewN q) _ _ _ from m2)
      go_wp2
      go_quiet (fail)
      go_wp2
      go_roundw
      case rel => exact ⟨j + 1, by omega, by go_num, drewN_b hbj _⟩
      case measure => simp [nOf]; omega
    · obtain rfl : j = L.length := by omega
      go_wp2
      go_ret
      exact ⟨rfl, hbj⟩
theorem len_le {m : St} (h : OkS m) : m.L.length ≤ 16777216 := by
  have h6 : m.L.length ≤ tot m.L := by
    generalize m.L = L
    induction L with
    | nil => exact Nat.zero_le _
    | cons c L ih => show L.length + 1 ≤ 8 + c.length + tot L; omega
  have := h.le
  omega
set_option maxHeartbeats 1000000 in
theorem equal_same {w W : World} {d1 d2 : Nat} {F G : Nat → Prop} {m : St} (h1 : Dk w d1 F m W) (h2 : Dk w d2 G m W) :
    Calls Tryd.prog 38 #[.pointer (some ⟨d1, 0, none⟩), .pointer (some ⟨d2, 0, none⟩)] W (Yes W) := by
  have hl := len_le h1.ok
  replace h1 := Lib.hid h1
  replace h2 := Lib.hid h2
  have hB0 := Lib.hid (Below.refl W.heap.size W)
  go_enter Tryd.func38, Tryd.ntmps38
  go_wp2_with fail
  refine h1.out.snap.mono ?_
  rintro e W1 ⟨v1, rfl, m1, hb1⟩
  have g1 := Lib.hid (h1.out.later hb1)
  have g2 := Lib.hid (h2.out.later hb1)
  obtain ⟨a1, cap1, rfl⟩ := m1.form
  replace m1 := Lib.hid m1
  go_wp2_with fail
  refine g2.out.snap.mono ?_
  rintro e W2 ⟨v2, rfl, m2, hb2⟩
  have k1 := Lib.hid (g1.out.later hb2)
  have k2 := Lib.hid (g2.out.later hb2)
  obtain ⟨a2, cap2, rfl⟩ := m2.form
  have s1 := bs_str (m1.out.later hb2).bs
  have s2 := bs_str m2.bs
  have hb2' := Lib.hid (hb1.trans (hb2.mono hb1.size))
  clear m1 m2 g1 g2 hb1 hb2
  go_wp2_with fail
  refine (k1.out.len rfl).mono ?_
  rintro e W3 ⟨rfl, rfl⟩
  go_wp2_with fail
  refine (k2.out.len rfl).mono ?_
  rintro e W3 ⟨rfl, rfl⟩
  go_wp2_with fail
  refine (k1.out.safes rfl).mono ?_
  rintro e W3 ⟨rfl, rfl⟩
  go_wp2_with fail
  refine (k2.out.safes rfl).mono ?_
  rintro e W3 ⟨rfl, rfl⟩
  go_wp2_with fail
  refine (k1.out.records rfl).mono ?_
  rintro e W3 ⟨v3, rfl, hL3, hb3⟩
  obtain ⟨a3, cap3, rfl⟩ := hL3.form
  have n2 := Lib.hid (k2.out.later hb3)
  have hb3' := Lib.hid (hb2'.out.trans (hb3.mono hb2'.out.size))
  replace hL3 := Lib.hid hL3
  clear k1 k2 hb3
  go_wp2_with fail
  refine (n2.out.records rfl).mono ?_
  rintro e W4 ⟨v4, rfl, hL4, hb4⟩
  obtain ⟨a4, cap4, rfl⟩ := hL4.form
  have hL3' := hL3.out.later hb4
  have hb4' := Lib.hid (hb3'.out.trans (hb4.mono hb3'.out.size))
  have HC := Lib.hid (contents_same hL3'.bss hL4.bss (fun k hk => hk.2) (fun k hk => hk.2) (by omega))
  clear hL3 hL3' hL4 n2 hb4
  go_wp2_with fail
  refine HC.out.mono ?_
  rintro e W5 ⟨rfl, hb5⟩
  have hb5' := Lib.hid (hb4'.out.trans (hb5.mono hb4'.out.size))
  clear hb5 HC
  go_wp2
  go_ret
  exact ⟨rfl, hb5'.out⟩
end Go.Proofs.YtojeccmnhgcmcaaDoor.Dsk
