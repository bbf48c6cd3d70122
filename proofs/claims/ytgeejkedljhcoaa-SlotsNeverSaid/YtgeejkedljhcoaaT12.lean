/- SlotsNever. -/
import Derived.Test.YtgeejkedljhcoaaT11
import Derived.Deep.CutBlock
import Derived.Deep.CutRange
import Derived.Deep.WholeRow
namespace Go.Proofs.Ytgeejkedljhcoaa.Slt
open Go.RowKit Go.Maps Go.Lib
set_option linter.unusedVariables false
set_option linter.unusedSimpArgs false
set_option maxRecDepth 100000

/-- What was ever put, beside what is there. -/
structure Nv (s : St) (ev : Nat → ByteArray) : Prop where
  ok : OkS s
  yes : ∀ (i : Nat) e, i < 32 → getM s.M i = some e → e.k = ev i
  no : ∀ i : Nat, i < 32 → getM s.M i = none → ev i = ⟨#[]⟩ ∨ (i : Int) < s.b
theorem nv_new : Nv newS (fun _ => ⟨#[]⟩) := ⟨ok_new, fun i e _ h => (by cases h), fun i _ _ => .inl rfl⟩
theorem nv_put {s : St} {ev : Nat → ByteArray} (h : Nv s ev) (k : Nat) {v : ByteArray} (h0 : putE s k v = 0) : Nv (putS s k v) (upd ev k v) := by
  refine ⟨ok_puts h.ok k v, fun i e hi he => ?_, fun i hi he => ?_⟩
  · rw [put_get h.ok h0] at he
    unfold upd
    by_cases e1 : i = k
    · subst e1
      rw [if_pos rfl] at he ⊢
      cases he
      rfl
    · rw [if_neg (by omega)] at he
      rw [if_neg e1]
      exact h.yes i e hi he
  · rw [put_get h.ok h0] at he
    unfold upd
    by_cases e1 : i = k
    · subst e1
      rw [if_pos rfl] at he
      cases he
    · rw [if_neg (by omega)] at he
      rw [if_neg e1, put_b]
      exact h.no i hi he
theorem nv_rs {s : St} {ev : Nat → ByteArray} (h : Nv s ev) {u : Int} (hu : u ≤ 4096) : Nv (rsS s u) ev := by
  refine ⟨ok_rs h.ok hu, fun i e hi he => ?_, fun i hi he => ?_⟩
  · rw [rs_get h.ok] at he
    split at he
    · exact h.yes i e hi he
    · cases he
  · rw [rs_get h.ok] at he
    show _ ∨ (i : Int) < max s.b u
    split at he
    · rcases h.no i hi he with h1 | h1
      · exact .inl h1
      · exact .inr (by omega)
    · exact .inr (by omega)
/-- The log, the row of what was ever put, the box of the move. -/
structure NB (w : World) (sb mb eb bb : Nat) (s : St) (ev : Nat → ByteArray) (m : Mt) (W : World) : Prop where
  at' : WAt w sb mb s W
  ev : W.heap[eb]? = some (.cells (evC ev) T32 (0, 0))
  bx : W.heap[bb]? = some (.cells (mA m) TV (0, 0))
  he : w.heap.size ≤ eb
  hb : w.heap.size ≤ bb
section
variable {w W W' : World} {sb mb eb bb : Nat} {s s' : St} {ev : Nat → ByteArray} {m : Mt}
theorem NB.later (h : NB w sb mb eb bb s ev m W) (hb : Below W.heap.size W W') : NB w sb mb eb bb s ev m W' :=
  ⟨h.at'.later hb, (hb.block _ (Array.getElem?_eq_some_iff.1 h.ev).1).trans h.ev, (hb.block _ (Array.getElem?_eq_some_iff.1 h.bx).1).trans h.bx, h.he, h.hb⟩
theorem NB.step (h : NB w sb mb eb bb s ev m W) (hA : WAt w sb mb s' W') (hk : Keeps (KL sb mb) W W') : NB w sb mb eb bb s' ev m W' :=
  ⟨hA, (hk.block _ (Array.getElem?_eq_some_iff.1 h.ev).1 (h.at'.ax.apart h.ev (by decide))).trans h.ev, (hk.block _ (Array.getElem?_eq_some_iff.1 h.bx).1 (h.at'.ax.apart h.bx (by decide))).trans h.bx, h.he, h.hb⟩
theorem NB.cells (h : NB w sb mb eb bb s ev m W) : W.cell? ⟨bb, 0, none⟩ = some (.int .u8 (m.k : Nat)) ∧ W.cell? ⟨bb, 1, none⟩ = some (.int .u8 (m.s : Nat)) ∧ W.cell? ⟨bb, 2, none⟩ = some (.int .u8 (m.v : Nat)) :=
  ⟨cell_of_row _ _ 0 _ TV _ h.bx, cell_of_row _ _ 1 _ TV _ h.bx, cell_of_row _ _ 2 _ TV _ h.bx⟩
theorem NB.store (h : NB w sb mb eb bb s ev m W) (k : Nat) (hk : k < 32) (v : ByteArray) : NB w sb mb eb bb s (upd ev k v) m (W.setCell ⟨eb, k, none⟩ (.string v)) := by
  have hne : bb ≠ eb := fun e => by
    have h1 := h.bx
    rw [e, h.ev] at h1
    injection h1 with h1
    injection h1 with _ h1
    exact absurd h1 (by decide)
  have hK : Keeps (fun i => i = eb) W (W.setCell ⟨eb, k, none⟩ (.string v)) := (Keeps.refl (fun i => i = eb) W).setCell (p := ⟨eb, k, none⟩) (.inl rfl) _
  have hap := h.at'.ax.apart h.ev (by decide)
  refine ⟨⟨h.at'.ax.kept hK (fun e => hap (.inl e.symm)) (fun e => hap (.inr e.symm)), h.at'.bel.setCell (p := ⟨eb, k, none⟩) h.he _, h.at'.hs, h.at'.hm⟩, ?_, (Below.heap_setCell _ _ _ _ hne).trans h.bx, h.he, h.hb⟩
  have := heap_setCell_same W eb k _ T32 (.string v) h.ev
  rwa [ev_set ev k v hk] at this
theorem NB.evFree (h : NB w sb mb eb bb s ev m W) (k : Nat) : W.frozen? ⟨eb, k, none⟩ = false := frozen_of_row W eb k _ T32 h.ev
theorem NB.evCell (h : NB w sb mb eb bb s ev m W) (k : Nat) (hk : k < 32) : W.cell? ⟨eb, k, none⟩ = some (.string (ev k)) := by
  rw [cell_of_row W eb k _ T32 _ h.ev]
  exact ev_get ev k hk
end
/-- Between two moves. -/
structure NA (w : World) (sb mb eb : Nat) (s : St) (ev : Nat → ByteArray) (W : World) : Prop where
  at' : WAt w sb mb s W
  ev : W.heap[eb]? = some (.cells (evC ev) T32 (0, 0))
  he : w.heap.size ≤ eb
theorem NB.na {w W : World} {sb mb eb bb : Nat} {s : St} {ev : Nat → ByteArray} {m : Mt} (h : NB w sb mb eb bb s ev m W) : NA w sb mb eb s ev W := ⟨h.at', h.ev, h.he⟩
theorem NA.nb {w W : World} {sb mb eb : Nat} {s : St} {ev : Nat → ByteArray} (h : NA w sb mb eb s ev W) (m : Mt) : NB w sb mb eb W.heap.size s ev m (W.alloc (.cells (mA m) TV)) :=
  ⟨h.at'.alloc _, (Below.heap_alloc _ _ _ (Array.getElem?_eq_some_iff.1 h.ev).1).trans h.ev, heap_alloc_new _ _, h.he, h.at'.bel.size⟩
theorem min_n (k a n : Nat) (h : min a k = n) (ts : Array TypeId) (t : TypeId) (w : World) :
    (Builtin.min_ ts t #[.int .i64 a, .int .i64 k]).run Try.prog w = .ok (.int .i64 n) w := by
  have e : (if (k : Int) < (a : Int) then (k : Int) else (a : Int)) = (n : Int) := by split <;> omega
  have h3 := run_min_int2 (P := Try.prog) w ts t .i64 .i64 a k
  rw [h3, e]
theorem max_n (a b x : Int) (h : max a b = x) (ts : Array TypeId) (t : TypeId) (w : World) :
    (Builtin.max_ ts t #[.int .i64 a, .int .i64 b]).run Try.prog w = .ok (.int .i64 x) w := by
  have h3 := run_max_int2 (P := Try.prog) w ts t .i64 .i64 a b
  rw [h3]
  congr 2
  split <;> omega
set_option maxHeartbeats 16000000 in
theorem never_law (a1 : Option Addr) (len1 cap1 : Nat) (S : Nat → Mt) (w : World) (h1 : IsMt w a1 len1 cap1 S) :
    Calls Try.prog 5 #[.slice a1 len1 cap1] w (Yes w) := by
  obtain ⟨l, hl2⟩ : ∃ l, min len1 100 = l := ⟨_, rfl⟩
  have hmin : ∀ (ts : Array TypeId) (t : TypeId) (w : World), (Builtin.min_ ts t #[.int .i64 len1, .int .i64 100]).run Try.prog w = .ok (.int .i64 l) w := min_n 100 _ _ hl2
  have hll : l ≤ len1 := by omega
  have q0 : (l : Int) ≤ (cap1 : Int) := by have := h1.fit.1; omega
  have hcap := h1.fit.2
  have hlc := h1.fit.1
  have HU := Lib.hid h1
  have HN := Lib.hid (new_w w w (Below.refl _ _))
  have hev0 : Hid (evC (fun _ => ⟨#[]⟩) = #[.string ⟨#[]⟩, .string ⟨#[]⟩, .string ⟨#[]⟩, .string ⟨#[]⟩, .string ⟨#[]⟩, .string ⟨#[]⟩, .string ⟨#[]⟩, .string ⟨#[]⟩, .string ⟨#[]⟩, .string ⟨#[]⟩, .string ⟨#[]⟩, .string ⟨#[]⟩, .string ⟨#[]⟩, .string ⟨#[]⟩, .string ⟨#[]⟩, .string ⟨#[]⟩, .string ⟨#[]⟩, .string ⟨#[]⟩, .string ⟨#[]⟩, .string ⟨#[]⟩, .string ⟨#[]⟩, .string ⟨#[]⟩, .string ⟨#[]⟩, .string ⟨#[]⟩, .string ⟨#[]⟩, .string ⟨#[]⟩, .string ⟨#[]⟩, .string ⟨#[]⟩, .string ⟨#[]⟩, .string ⟨#[]⟩, .string ⟨#[]⟩, .string ⟨#[]⟩]) := Lib.hid (by rfl)
  clear h1 hl2
  go_enter Try.func5, Try.ntmps5
  go_wp2_with (go_at_call 13; refine HN.out.mono ?_; rintro e W1 ⟨sb, mb, rfl, hN1, _⟩)
  have hA0 : NA w sb mb W1.heap.size newS (fun _ => ⟨#[]⟩) (W1.alloc (.cells (evC (fun _ => ⟨#[]⟩)) T32)) := ⟨hN1.alloc _, heap_alloc_new _ _, hN1.bel.size⟩
  rw [hev0.out] at hA0
  replace hA0 := Lib.hid hA0
  generalize W1.heap.size = eb at *
  clear hN1 HN hev0
  go_loopw [5, 6, 26] (fun bv uv iv wr => ∃ (j : Nat) (s : St) (ev : Nat → ByteArray), j ≤ l ∧ iv = .int .i64 j ∧ bv = .int .i64 s.b ∧ uv = .int .i64 (uptoV s) ∧ Nv s ev ∧ NA w sb mb eb s ev wr) (fun _ _ iv _ => l - nOf iv)
  case atStart => exact ⟨0, newS, _, Nat.zero_le _, rfl, rfl, rfl, nv_new, hA0.out⟩
  case round =>
    clear hA0
    obtain ⟨j, s, ev, hj, rfl, rfl, rfl, hNv, hA⟩ := hrel
    by_cases hlt : j < l
    · obtain ⟨b, off, rfl, hbl, hmc⟩ := HU.out.at hA.at'.bel (show j < len1 by omega)
      have hwf := HU.out.wf j
      generalize S j = m at *
      obtain ⟨hc0, hc1, hc2⟩ := hmc
      have i1 : 0 ≤ (j : Int) := by omega
      have i2 : (j : Int) < (l : Int) := by omega
      have i4 : decide ((j : Int) < (l : Int)) = true := by simp; omega
      have hB := hA.nb m
      obtain ⟨d0, d1, d2⟩ := hB.cells
      replace hB := Lib.hid hB
      have k1 : (m.s : Int).tmod 32 = ((m.s % 32 : Nat) : Int) := (Int.ofNat_tmod m.s 32).symm
      have k2 : IntKind.u8.wrap ((m.s % 32 : Nat) : Int) = ((m.s % 32 : Nat) : Int) := by rw [IntKind.wrap_u8]; omega
      have k3 : IntKind.i64.wrap ((m.s % 32 : Nat) : Int) = ((m.s % 32 : Nat) : Int) := by rw [IntKind.wrap_i64]; omega
      have k4 : (m.k : Int).tmod 8 = ((m.k % 8 : Nat) : Int) := (Int.ofNat_tmod m.k 8).symm
      have k5 : IntKind.u8.wrap ((m.k % 8 : Nat) : Int) = ((m.k % 8 : Nat) : Int) := by rw [IntKind.wrap_u8]; omega
      have hsl : m.s % 32 < 32 := Nat.mod_lt _ (by decide)
      generalize m.s % 32 = sl at *
      generalize m.k % 8 = kd at *
      have hok := hNv.ok
      have hle := upto_le hok
      obtain ⟨U, hU⟩ : ∃ U, uptoV s = U := ⟨_, rfl⟩
      obtain ⟨r, hr⟩ : ∃ r, getM s.M (sl : Int) = r := ⟨_, rfl⟩
      have HG := Lib.hid (hB.out.at'.get sl (wf64 (by omega) (by omega)) hr)
      replace hr := Lib.hid hr
      rw [hU] at hle ⊢
      have hNv' := Lib.hid hNv
      replace hU := Lib.hid hU
      have HV := Lib.hid (fun W => value_any m hwf W)
      have hval := Lib.hid (fun (v : ByteArray) (hv : v.size ≤ 65536) => put_val (s := s) (k := sl) (v := v) (by omega) hv)
      have hvs := Lib.hid (val_size m)
      clear hA hNv hbl
      replace hok := Lib.hid hok
      go_wp2_with fail
      generalize wr.alloc (.cells (mA m) TV) = W2 at *
      generalize wr.heap.size = bb at *
      go_at_call 24
      refine HG.out.mono ?_
      rintro e W3 ⟨rfl, rfl⟩
      clear hc0 hc1 hc2 HG
      go_upto_block 2 with fail
      go_cut [] from 43 to 110 (fun W => ∃ s' ev', Nv s' ev' ∧ s.b ≤ s'.b ∧ U ≤ uptoV s' ∧ NB w sb mb eb bb s' ev' m W)
      case first =>
        by_cases hk0 : kd = 0
        · subst hk0
          by_cases hf : (sl : Int) ≤ U
          · have hE : forE s sl = 0 := by unfold forE; rw [if_pos ⟨by omega, by omega⟩, if_neg (by rw [hU.out]; omega)]
            have hS : forS s sl = rsS s sl := by unfold forS; rw [if_pos hE]
            have HF := Lib.hid (hB.out.at'.forget sl hE hS)
            obtain ⟨X, hX⟩ : ∃ X, max s.b (sl : Int) = X := ⟨_, rfl⟩
            have HBs := Lib.hid (fun W (h : WAt w sb mb (rsS s sl) W) => h.base (u := X) hX)
            have hmx := max_n _ _ _ hX
            replace hX := Lib.hid hX
            have f1 : decide ((sl : Int) ≤ U) = true := decide_eq_true hf
            have hrel : Hid (∀ W, WAt w sb mb (rsS s sl) W → Keeps (KL sb mb) W2 W → ∃ s' ev', Nv s' ev' ∧ s.b ≤ s'.b ∧ U ≤ uptoV s' ∧ NB w sb mb eb bb s' ev' m W) := Lib.hid fun W hW hK =>
              ⟨_, _, nv_rs hNv'.out (by omega), by show s.b ≤ max s.b _; omega, by rw [rs_upto hok.out (by rw [hU.out]; exact hf), hU.out]; exact Int.le_refl _, hB.out.step hW hK⟩
            clear hE hS hf
            go_wp2_with (first
              | (go_at_call 18; refine HF.out.mono ?_; rintro e W4 ⟨rfl, hW4, hK4⟩)
              | (go_at_call 26; refine (HBs.out _ hW4).mono ?_; rintro e W5 ⟨rfl, rfl⟩))
            go_meet
            case rel => exact hrel.out _ hW4 hK4
          · have hE : forE s sl = 3 := by unfold forE; rw [if_pos ⟨by omega, by omega⟩, if_pos (by rw [hU.out]; omega)]
            have hS : forS s sl = s := by unfold forS; rw [if_neg (by rw [hE]; decide)]
            have HF := Lib.hid (hB.out.at'.forget sl hE hS)
            have f1 : decide ((sl : Int) ≤ U) = false := decide_eq_false hf
            have hrel : Hid (∀ W, WAt w sb mb s W → Keeps (KL sb mb) W2 W → ∃ s' ev', Nv s' ev' ∧ s.b ≤ s'.b ∧ U ≤ uptoV s' ∧ NB w sb mb eb bb s' ev' m W) := Lib.hid fun W hW hK =>
              ⟨_, _, hNv'.out, Int.le_refl _, by rw [hU.out]; exact Int.le_refl _, hB.out.step hW hK⟩
            clear hE hS hf
            go_wp2_with (first
              | (go_at_call 18; refine HF.out.mono ?_; rintro e W4 ⟨rfl, hW4, hK4⟩))
            go_meet
            case rel => exact hrel.out _ hW4 hK4
        · have hk0b : ((kd : Int) == 0) = false := by simp; omega
          have hk0c : (kd == 0) = false := by simp; omega
          have hk0d : ((kd : Int) = 0) = False := by simp; omega
          by_cases hk1 : kd = 1
          · subst hk1
            by_cases hf : U ≤ (sl : Int)
            · have hE : jmpE s sl = 0 := by unfold jmpE; rw [if_pos ⟨by omega, by omega⟩, if_neg (by rw [hU.out]; omega)]
              have hS : jmpS s sl = rsS s sl := by unfold jmpS; rw [if_pos hE]
              have HF := Lib.hid (hB.out.at'.jump sl hE hS)
              have HBs := Lib.hid (fun W (h : WAt w sb mb (rsS s sl) W) => h.base (u := (sl : Int)) (by show max s.b (sl : Int) = _; omega))
              have f1 : decide (U ≤ (sl : Int)) = true := decide_eq_true hf
              have hrel : Hid (∀ W, WAt w sb mb (rsS s sl) W → Keeps (KL sb mb) W2 W → ∃ s' ev', Nv s' ev' ∧ s.b ≤ s'.b ∧ U ≤ uptoV s' ∧ NB w sb mb eb bb s' ev' m W) := Lib.hid fun W hW hK => by
                have hN := nv_rs hNv'.out (show (sl : Int) ≤ 4096 by omega)
                have h3 := (upto_le hN.ok).1
                change max s.b (sl : Int) ≤ _ at h3
                exact ⟨_, _, hN, by show s.b ≤ max s.b _; omega, by omega, hB.out.step hW hK⟩
              clear hE hS hf
              go_wp2_with (first
                | (go_at_call 20; refine HF.out.mono ?_; rintro e W4 ⟨rfl, hW4, hK4⟩)
                | (go_at_call 26; refine (HBs.out _ hW4).mono ?_; rintro e W5 ⟨rfl, rfl⟩))
              go_meet
              case rel => exact hrel.out _ hW4 hK4
            · have hE : jmpE s sl = 8 := by unfold jmpE; rw [if_pos ⟨by omega, by omega⟩, if_pos (by rw [hU.out]; omega)]
              have hS : jmpS s sl = s := by unfold jmpS; rw [if_neg (by rw [hE]; decide)]
              have HF := Lib.hid (hB.out.at'.jump sl hE hS)
              have f1 : decide (U ≤ (sl : Int)) = false := decide_eq_false hf
              have hrel : Hid (∀ W, WAt w sb mb s W → Keeps (KL sb mb) W2 W → ∃ s' ev', Nv s' ev' ∧ s.b ≤ s'.b ∧ U ≤ uptoV s' ∧ NB w sb mb eb bb s' ev' m W) := Lib.hid fun W hW hK =>
                ⟨_, _, hNv'.out, Int.le_refl _, by rw [hU.out]; exact Int.le_refl _, hB.out.step hW hK⟩
              clear hE hS hf
              go_wp2_with (first
                | (go_at_call 20; refine HF.out.mono ?_; rintro e W4 ⟨rfl, hW4, hK4⟩))
              go_meet
              case rel => exact hrel.out _ hW4 hK4
          · have hk1b : ((kd : Int) == 1) = false := by simp; omega
            have hk1c : (kd == 1) = false := by simp; omega
            have hk1d : ((kd : Int) = 1) = False := by simp; omega
            have hpv := Lib.hid (hval.out (valM m) hvs.out)
            clear hval hvs
            by_cases hsb : (sl : Int) < s.b
            · have f1 : decide ((sl : Int) < s.b) = true := decide_eq_true hsb
              have hE : putE s sl (valM m) = 8 := by rw [hpv.out, if_pos hsb]
              have hS : putS s sl (valM m) = s := put_no (by rw [hE]; decide)
              replace hE := Lib.hid hE
              replace hS := Lib.hid hS
              clear hsb hpv
              go_wp2_with fail
              go_at_call 29
              refine (HV.out _).mono ?_
              rintro e W5 ⟨rfl, hb5⟩
              have hB5 := Lib.hid (hB.out.later hb5)
              clear hb5 hB d0 d1 d2
              go_wp2_with fail
              go_at_call 16
              refine (hB5.out.at'.put sl (valM m) hE.out hS.out).mono ?_
              rintro e W6 ⟨rfl, hW6, hK6⟩
              have hB6 := hB5.out.step hW6 hK6
              clear hW6 hK6 hB5
              replace hB6 := Lib.hid hB6
              go_wp2
              go_meet
              case rel => exact ⟨_, _, hNv'.out, Int.le_refl _, by rw [hU.out]; exact Int.le_refl _, hB6.out⟩
            · have f1 : decide ((sl : Int) < s.b) = false := decide_eq_false hsb
              rw [if_neg hsb, hr.out] at hpv
              clear hsb hr
              cases r with
              | none =>
                have hE : Hid (putE s sl (valM m) = 0) := hpv
                clear hpv
                simp only [Option.isSome_none, gK]
                go_wp2_with fail
                go_at_call 29
                refine (HV.out _).mono ?_
                rintro e W5 ⟨rfl, hb5⟩
                have hB5 := Lib.hid (hB.out.later hb5)
                clear hb5 hB d0 d1 d2
                go_wp2_with fail
                go_at_call 16
                refine (hB5.out.at'.put sl (valM m) hE.out rfl).mono ?_
                rintro e W6 ⟨rfl, hW6, hK6⟩
                have hB6 := hB5.out.step hW6 hK6
                clear hW6 hK6 hB5
                obtain ⟨g0, g1, g2⟩ := hB6.cells
                replace hB6 := Lib.hid hB6
                go_wp2_with fail
                go_at_call 29
                refine (HV.out _).mono ?_
                rintro e W7 ⟨rfl, hb7⟩
                have hB7 := hB6.out.later hb7
                have fr7 := hB7.evFree sl
                have ce7 := hB7.evCell sl hsl
                have hB8 := Lib.hid (hB7.store sl hsl (valM m))
                clear hB7 hb7 hB6 g0 g1 g2
                go_wp2
                go_meet
                case rel => exact ⟨_, _, nv_put hNv'.out sl hE.out, by rw [put_b]; exact Int.le_refl _, by rw [← hU.out]; exact put_upto hok.out _ _, hB8.out⟩
              | some q =>
                obtain ⟨qs, qv⟩ := q
                simp only [Option.isSome_some, gK]
                have ht := tl_eq qv (valM m)
                have hpv2 : Hid (putE s sl (valM m) = if (!eqT qv (valM m)) = true then 9 else 0) := hpv
                clear hpv
                generalize eqT qv (valM m) = z at *
                cases z with
                | true =>
                  have hE : Hid (putE s sl (valM m) = 0) := hpv2
                  clear hpv2
                  go_wp2_with fail
                  go_at_call 29
                  refine (HV.out _).mono ?_
                  rintro e W4 ⟨rfl, hb4⟩
                  have hB4 := hB.out.later hb4
                  obtain ⟨g0, g1, g2⟩ := hB4.cells
                  clear hb4 hB d0 d1 d2
                  replace hB4 := Lib.hid hB4
                  go_wp2_with fail
                  go_at_call 29
                  refine (HV.out _).mono ?_
                  rintro e W5 ⟨rfl, hb5⟩
                  have hB5 := Lib.hid (hB4.out.later hb5)
                  clear hb5 hB4 g0 g1 g2
                  go_wp2_with fail
                  go_at_call 16
                  refine (hB5.out.at'.put sl (valM m) hE.out rfl).mono ?_
                  rintro e W6 ⟨rfl, hW6, hK6⟩
                  have hB6 := hB5.out.step hW6 hK6
                  clear hW6 hK6 hB5
                  obtain ⟨g0, g1, g2⟩ := hB6.cells
                  replace hB6 := Lib.hid hB6
                  go_wp2_with fail
                  go_at_call 29
                  refine (HV.out _).mono ?_
                  rintro e W7 ⟨rfl, hb7⟩
                  have hB7 := hB6.out.later hb7
                  have fr7 := hB7.evFree sl
                  have ce7 := hB7.evCell sl hsl
                  have hB8 := Lib.hid (hB7.store sl hsl (valM m))
                  clear hB7 hb7 hB6 g0 g1 g2
                  go_wp2
                  go_meet
                  case rel => exact ⟨_, _, nv_put hNv'.out sl hE.out, by rw [put_b]; exact Int.le_refl _, by rw [← hU.out]; exact put_upto hok.out _ _, hB8.out⟩
                | false =>
                  have hE : Hid (putE s sl (valM m) = 9) := hpv2
                  have hS := Lib.hid (put_no (s := s) (k := sl) (v := valM m) (by rw [hE.out]; decide))
                  clear hpv2
                  go_wp2_with fail
                  go_at_call 29
                  refine (HV.out _).mono ?_
                  rintro e W4 ⟨rfl, hb4⟩
                  have hB4 := hB.out.later hb4
                  obtain ⟨g0, g1, g2⟩ := hB4.cells
                  clear hb4 hB d0 d1 d2
                  replace hB4 := Lib.hid hB4
                  go_wp2_with fail
                  go_at_call 29
                  refine (HV.out _).mono ?_
                  rintro e W5 ⟨rfl, hb5⟩
                  have hB5 := Lib.hid (hB4.out.later hb5)
                  clear hb5 hB4 g0 g1 g2
                  go_wp2_with fail
                  go_at_call 16
                  refine (hB5.out.at'.put sl (valM m) hE.out hS.out).mono ?_
                  rintro e W6 ⟨rfl, hW6, hK6⟩
                  have hB6 := hB5.out.step hW6 hK6
                  clear hW6 hK6 hB5
                  replace hB6 := Lib.hid hB6
                  go_wp2
                  go_meet
                  case rel => exact ⟨_, _, hNv'.out, Int.le_refl _, by rw [hU.out]; exact Int.le_refl _, hB6.out⟩
      case rest =>
        clear hB d0 d1 d2 HV hval hvs hr hok hNv'
        obtain ⟨s', ev', hNv2, hsb, hsu, hB⟩ := hcut
        have hA2 := hB.na
        have hle2 := upto_le hNv2.ok
        obtain ⟨U2, hU2⟩ : ∃ U2, uptoV s' = U2 := ⟨_, rfl⟩
        rw [hU2] at hle2 hsu
        have HBs := Lib.hid (hA2.at'.base rfl)
        have HUp := Lib.hid (hA2.at'.upto hU2)
        have f1 : decide (s'.b < s.b) = false := decide_eq_false (by omega)
        have f2 : decide (U2 < U) = false := decide_eq_false (by omega)
        have f3 : decide (U2 < s'.b) = false := decide_eq_false (by omega)
        have hEv := Lib.hid hA2.ev
        have hHi := Lib.hid (ev_hi ev')
        have hix := Lib.hid (fun k hk W => ev_index ev' k hk W)
        generalize evC ev' = A at *
        have hrelO : Hid (∃ (j' : Nat) (s : St) (ev : Nat → ByteArray), j' ≤ l ∧ Value.int .i64 ((j : Int) + 1) = .int .i64 j' ∧ Value.int .i64 s'.b = .int .i64 s.b ∧ Value.int .i64 U2 = .int .i64 (uptoV s) ∧ Nv s ev ∧ NA w sb mb eb s ev wc) := Lib.hid ⟨j + 1, s', ev', by omega, by go_num, rfl, by rw [hU2], hNv2, hB.na⟩
        have hGt := Lib.hid (fun (k : Nat) (hk : k < 32) => hA2.at'.get (k : Int) (wf64 (by omega) (by omega)) rfl)
        have hyes := Lib.hid hNv2.yes
        have hno := Lib.hid hNv2.no
        have hbas : Hid (∀ k : Nat, (getM s'.M k).isSome = true → s'.b ≤ (k : Int)) := Lib.hid fun k h => (hNv2.ok.has h).1
        clear hA2 hB hNv2 hU2 hsb hsu hle hle2 hU
        generalize s'.b = B2 at *
        generalize s'.M = M2 at *
        go_wp2_with (first
          | (go_at_call 26; refine HBs.out.mono ?_; rintro e W5 ⟨rfl, rfl⟩)
          | (go_at_call 25; refine HUp.out.mono ?_; rintro e W5 ⟨rfl, rfl⟩)
          | (refine wpList_load_row rfl T32 _ rfl eb rfl T32 _ (0, 0) _ hEv.out Try.underlying49 rfl hHi.out ?_))
        go_loop [132] (fun i => ∃ k : Nat, k ≤ 32 ∧ i = .int .i64 k) (fun i => 32 - nOf i)
        case atStart => exact ⟨0, Nat.zero_le _, rfl⟩
        case round =>
          obtain ⟨k, hk, rfl⟩ := hrel
          by_cases hk2 : k < 32
          · have p1 : decide ((k : Int) < 32) = true := by simp; omega
            have hw : IntKind.i64.wrap ((k : Int) + 1) = (k : Int) + 1 := by rw [IntKind.wrap_i64]; omega
            have hixk := hix.out k hk2
            have HG := Lib.hid (hGt.out k hk2)
            have hy := hyes.out k
            have hn := hno.out k hk2
            have hbk := hbas.out k
            generalize getM M2 (k : Int) = r at *
            cases r with
            | none =>
              have hn2 := hn rfl
              simp only [Option.isSome_none, gK] at HG
              have ht := tl_eq (ev' k) ⟨#[]⟩
              cases hz : eqT (ev' k) ⟨#[]⟩ with
              | true =>
                rw [hz] at ht
                have ht2 : ((ev' k).toList = []) = True := by simpa using ht
                clear ht
                clear hy hn hn2 hbk hGt hyes hno hbas hix hz
                go_wp2_with (go_at_call 24; refine HG.out.mono ?_; rintro e W5 ⟨rfl, rfl⟩)
                go_round
                case rel => exact ⟨k + 1, by omega, by go_num⟩
                case measure => simp [nOf]; omega
              | false =>
                rw [hz] at ht
                have p2 : decide (B2 ≤ (k : Int)) = false := decide_eq_false (by
                  rcases hn2 with h | h
                  · rw [h, eqT_t] at hz; cases hz
                  · omega)
                have ht2 : ((ev' k).toList = []) = False := by simpa using ht
                clear ht
                clear hy hn hn2 hbk hGt hyes hno hbas hix hz
                go_wp2_with (go_at_call 24; refine HG.out.mono ?_; rintro e W5 ⟨rfl, rfl⟩)
                go_round
                case rel => exact ⟨k + 1, by omega, by go_num⟩
                case measure => simp [nOf]; omega
            | some e =>
              have hey := hy e hk2 rfl
              have p2 : decide ((k : Int) < B2) = false := decide_eq_false (by have := hbk rfl; omega)
              simp only [Option.isSome_some, gK] at HG
              obtain ⟨es, ek⟩ := e
              simp only at hey HG
              have ht := tl_eq ek (ev' k)
              rw [hey, eqT_t] at ht
              rw [hey] at HG
              clear hy hn hbk hGt hyes hno hbas hix hey
              go_wp2_with (go_at_call 24; refine HG.out.mono ?_; rintro e W5 ⟨rfl, rfl⟩)
              go_round
              case rel => exact ⟨k + 1, by omega, by go_num⟩
              case measure => simp [nOf]; omega
          · have hk3 : k = 32 := by omega
            subst hk3
            have p1 : decide (((32 : Nat) : Int) < 32) = false := by decide
            have hw : IntKind.i64.wrap ((j : Int) + 1) = (j : Int) + 1 := by rw [IntKind.wrap_i64]; omega
            clear hGt hyes hno hbas hix
            go_wp2
            go_roundw
            case rel => exact hrelO.out
            case measure => simp [nOf]; omega
    · have hjl : l = j := by omega
      subst hjl
      have i4 : decide ((l : Int) < (l : Int)) = false := by simp
      have hb := Lib.hid hA.at'.bel
      have hWk := Lib.hid (works_any wr)
      clear hNv hA hlt
      go_wp2_with (go_at_call 12; refine hWk.out.mono ?_; rintro e W9 ⟨rfl, hb9⟩)
      go_ret
      exact ⟨rfl, hb.out.trans (hb9.mono hb.out.size)⟩
end Go.Proofs.Ytgeejkedljhcoaa.Slt
