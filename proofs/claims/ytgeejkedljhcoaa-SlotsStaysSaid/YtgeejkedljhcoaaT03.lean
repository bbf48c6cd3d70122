/- What the calls do to a state; Upto, Put. -/
import Derived.Test.YtgeejkedljhcoaaT02
namespace Go.Proofs.Ytgeejkedljhcoaa.Slt
open Go.RowKit Go.Maps Go.Lib
set_option linter.unusedVariables false
set_option linter.unusedSimpArgs false
set_option maxRecDepth 20000

theorem ba_list {a b : ByteArray} (h : a.toList = b.toList) : a = b := by
  rw [ByteArray.toList_eq, ByteArray.toList_eq] at h
  obtain ⟨⟨a⟩⟩ := a
  obtain ⟨⟨b⟩⟩ := b
  simp only at h
  rw [h]
def eqT (a b : ByteArray) : Bool := decide (a = b)
theorem eqT_t (a : ByteArray) : eqT a a = true := decide_eq_true rfl
theorem eqT_f {a b : ByteArray} (h : a ≠ b) : eqT a b = false := decide_eq_false h
theorem tl_eq (a b : ByteArray) : (a.toList == b.toList) = eqT a b := by
  by_cases h : a = b
  · subst h; rw [eqT_t]; simp
  · rw [eqT_f h, Bool.eq_false_iff]
    intro hh
    exact h (ba_list (by simpa using hh))

/-! What the calls do to a state. -/
def ckV (b k : Int) (v : ByteArray) : Int := if 0 ≤ k ∧ k < 4096 then (if 65536 < v.size then 11 else if k < b then 8 else 0) else 2
def refV (r : Option Et) (v : ByteArray) : Bool := match r with | some e => !eqT e.k v | none => false
def putE (s : St) (k : Int) (v : ByteArray) : Int := if ckV s.b k v = 0 then (if refV (getM s.M k) v then 9 else 0) else ckV s.b k v
def putS (s : St) (k : Int) (v : ByteArray) : St := if putE s k v = 0 then ⟨s.b, putM s.M ⟨k, v⟩⟩ else s
/-- The first slot from i on that has no value, if there is one among the next j. -/
def upTo (M : List Et) (i : Int) : Nat → Int
  | 0 => i
  | j + 1 => if (getM M i).isSome then upTo M (i + 1) j else i
def uptoV (s : St) : Int := upTo s.M s.b (4096 - s.b).toNat
def forE (s : St) (u : Int) : Int := if 0 ≤ u ∧ u ≤ 4096 then (if uptoV s < u then 3 else 0) else 2
def jmpE (s : St) (u : Int) : Int := if 0 ≤ u ∧ u ≤ 4096 then (if u < uptoV s then 8 else 0) else 2
def rsS (s : St) (u : Int) : St := ⟨max s.b u, frM s.M u⟩
def forS (s : St) (u : Int) : St := if forE s u = 0 then rsS s u else s
def jmpS (s : St) (u : Int) : St := if jmpE s u = 0 then rsS s u else s
theorem ck_in {b k : Int} {v : ByteArray} (h : ckV b k v = 0) : 0 ≤ k ∧ k < 4096 ∧ v.size ≤ 65536 ∧ b ≤ k := by
  unfold ckV at h
  split at h
  · rename_i h1
    split at h
    · exact absurd h (by decide)
    · split at h
      · exact absurd h (by decide)
      · omega
  · exact absurd h (by decide)
theorem upTo_le (M : List Et) : ∀ (j : Nat) (i : Int), i ≤ upTo M i j ∧ upTo M i j ≤ i + j
  | 0, i => by show i ≤ i ∧ i ≤ i + (0 : Nat); omega
  | j + 1, i => by
    show i ≤ (if _ then _ else _) ∧ (if _ then _ else _) ≤ _
    split
    · have := upTo_le M j (i + 1); omega
    · omega
theorem upto_le {s : St} (h : OkS s) : s.b ≤ uptoV s ∧ uptoV s ≤ 4096 := by
  have := upTo_le s.M (4096 - s.b).toNat s.b
  have := h.hb
  unfold uptoV
  omega
theorem ok_put {s : St} (h : OkS s) {k : Int} {q : ByteArray} (hk : s.b ≤ k ∧ k < 4096) (hq : q.size ≤ 65536) : OkS ⟨s.b, putM s.M ⟨k, q⟩⟩ :=
  ⟨h.hb, srt_put h.srt _, fun e he => by
    rcases mem_put.1 he with rfl | ⟨h1, _⟩
    · exact ⟨hk.1, hk.2, hq⟩
    · exact h.ent e h1⟩
theorem putE_ck {s : St} {k : Int} {v : ByteArray} (h : putE s k v = 0) : ckV s.b k v = 0 := by
  unfold putE at h
  split at h
  · assumption
  · exact h
theorem ok_puts {s : St} (h : OkS s) (k : Int) (v : ByteArray) : OkS (putS s k v) := by
  unfold putS
  split
  · rename_i h0
    obtain ⟨h1, h2, h3, h4⟩ := ck_in (putE_ck h0)
    exact ok_put h ⟨h4, h2⟩ h3
  · exact h
theorem ok_rs {s : St} (h : OkS s) {u : Int} (hu : u ≤ 4096) : OkS (rsS s u) :=
  ⟨⟨by show 0 ≤ max s.b u; have := h.hb.1; omega, by show max s.b u ≤ 4096; have := h.hb.2; omega⟩, srt_fr h.srt u, fun e he => by
    obtain ⟨h1, h2⟩ := mem_fr.1 he
    obtain ⟨a, b, c⟩ := h.ent e h1
    exact ⟨by show max s.b u ≤ e.s; omega, b, c⟩⟩
theorem forE_in {s : St} {u : Int} (h : forE s u = 0) : 0 ≤ u ∧ u ≤ 4096 ∧ u ≤ uptoV s := by
  unfold forE at h
  split at h
  · rename_i h1
    split at h
    · exact absurd h (by decide)
    · omega
  · exact absurd h (by decide)
theorem jmpE_in {s : St} {u : Int} (h : jmpE s u = 0) : 0 ≤ u ∧ u ≤ 4096 ∧ uptoV s ≤ u := by
  unfold jmpE at h
  split at h
  · rename_i h1
    split at h
    · exact absurd h (by decide)
    · omega
  · exact absurd h (by decide)
theorem ok_for {s : St} (h : OkS s) (u : Int) : OkS (forS s u) := by
  unfold forS
  split
  · rename_i h0
    exact ok_rs h (forE_in h0).2.1
  · exact h
theorem ok_jmp {s : St} (h : OkS s) (u : Int) : OkS (jmpS s u) := by
  unfold jmpS
  split
  · rename_i h0
    exact ok_rs h (jmpE_in h0).2.1
  · exact h

/-! A put. -/
theorem put_run {w : World} {sb mb : Nat} {s : St} (x : Ax w sb mb s) (k : Int) (q : ByteArray) (hok : OkS ⟨s.b, putM s.M ⟨k, q⟩⟩) (hk : (Lit.int .i64 k).wf = true) :
    ∃ w', (Instr.mapUpdate TM (.map (some mb)) (.int .i64 k) (vK q)).run Try.prog w = .ok () w' ∧ Ax w' sb mb ⟨s.b, putM s.M ⟨k, q⟩⟩ ∧ w.grownBy w' (some mb) := by
  have hlen := x.ok.len
  obtain ⟨w', hrun, r1, r2⟩ := x.own.update (t := TM) keyI Try.underlying36 (by unfold maxLen; omega) (key_of hk) (rdK_mk q)
  rw [put_DM s.M ⟨k, q⟩] at r1
  refine ⟨w', hrun, ⟨?_, own_tight r1, hok⟩, r2⟩
  exact (r2.block sb x.lt.1 (fun h => by injection h with h; exact x.ne h)).trans x.box
theorem below_drewN {B : Nat} {a w : World} (h : Below B a w) (n : Nat) : Below B a (w.drewN n) := h.trans ⟨rfl, rfl, rfl, Nat.le_refl _, fun _ _ => rfl⟩

/-! Upto. -/
theorem upTo_yes (M : List Et) (i : Int) (j : Nat) (h : (getM M i).isSome = true) : upTo M i (j + 1) = upTo M (i + 1) j := by
  show (if _ then _ else _) = _
  rw [if_pos h]
theorem upTo_no (M : List Et) (i : Int) (j : Nat) (h : (getM M i).isSome = false) : upTo M i j = i := by
  cases j with
  | zero => rfl
  | succ j =>
    show (if _ then _ else _) = _
    rw [if_neg (by rw [h]; decide)]
set_option maxHeartbeats 1000000 in
theorem upto_any {sb mb : Nat} {s : St} (w : World) (x : Ax w sb mb s) :
    Calls Try.prog 25 #[.pointer (some ⟨sb, 0, none⟩)] w fun e w' => e = .returned (.int .i64 (uptoV s)) ∧ w = w' := by
  have hV := Lib.hid x.valid
  have hb := x.ok.hb
  have hlt : Hid (∀ k, (getM s.M k).isSome = true → k < 4096) := Lib.hid fun k hk => by
    cases hg : getM s.M k with
    | none => rw [hg] at hk; cases hk
    | some e =>
      obtain ⟨h1, h2⟩ := (get_iff x.ok.srt _ _).1 hg
      have := (x.ok.ent e h1).2.1
      omega
  have hH := Lib.hid (fun (k : Int) (hk : (Lit.int .i64 k).wf = true) => has_any k w x hk rfl)
  have hu : Hid (uptoV s = upTo s.M s.b (4096 - s.b).toNat) := Lib.hid rfl
  obtain ⟨c0, c1⟩ := x.cells
  clear x
  generalize s.b = b at *
  generalize uptoV s = U at *
  go_enter Try.func25, Try.ntmps25
  go_wp2_with (go_at_call 41; refine hV.out.mono ?_; rintro e w' ⟨rfl, rfl⟩)
  go_loop [3] (fun i => ∃ k : Int, b ≤ k ∧ k ≤ 4096 ∧ i = .int .i64 k ∧ U = upTo s.M k (4096 - k).toNat) (fun i => 4096 - nOf i)
  case atStart => exact ⟨b, Int.le_refl _, hb.2, rfl, hu.out⟩
  case round =>
    obtain ⟨k, hk0, hk1, rfl, hU⟩ := hrel
    have hl := Lib.hid (hH.out k (wf64 (by omega) (by omega)))
    have hck := hlt.out k
    have htrue := fun (j : Nat) (h : (getM s.M k).isSome = true) => upTo_yes s.M k j h
    have hfalse := fun (j : Nat) (h : (getM s.M k).isSome = false) => upTo_no s.M k j h
    have hw : IntKind.i64.wrap (k + 1) = k + 1 := by rw [IntKind.wrap_i64]; omega
    generalize (getM s.M k).isSome = c at *
    cases c with
    | true =>
      have hk2 : k < 4096 := hck rfl
      have hU2 : U = upTo s.M (k + 1) (4096 - (k + 1)).toNat := by
        rw [hU, show (4096 - k).toNat = (4096 - (k + 1)).toNat + 1 by omega]
        exact htrue _ rfl
      replace hU2 := Lib.hid hU2
      clear hU hck htrue hfalse
      go_wp2_with (go_at_call 48; refine hl.out.mono ?_; rintro e w' ⟨rfl, rfl⟩)
      go_round
      case rel => exact ⟨k + 1, by omega, by omega, rfl, hU2.out⟩
      case measure => simp [nOf]; omega
    | false =>
      have hU2 : U = k := by rw [hU]; exact hfalse _ rfl
      replace hU2 := Lib.hid hU2
      clear hU hck htrue hfalse
      go_wp2_with (go_at_call 48; refine hl.out.mono ?_; rintro e w' ⟨rfl, rfl⟩)
      go_ret
      exact ⟨by rw [hU2.out]; rfl, rfl⟩

/-! Put. -/
def PutIs (w : World) (sb mb : Nat) (s : St) (k : Int) (v : ByteArray) (e : Ending) (w' : World) : Prop :=
  e = .returned (.int .i64 (putE s k v)) ∧ Ax w' sb mb (putS s k v) ∧ Keeps (fun i => i = mb) w w'
set_option maxHeartbeats 1000000 in
theorem put_any {sb mb : Nat} {s : St} (k : Int) (v : ByteArray) (w : World) (x : Ax w sb mb s) :
    Calls Try.prog 16 #[.pointer (some ⟨sb, 0, none⟩), .int .i64 k, .string v] w (PutIs w sb mb s k v) := by
  have HV := Lib.hid x.valid
  have hno : Hid (putE s k v ≠ 0 → ∀ W, Below w.heap.size w W → PutIs w sb mb s k v (.returned (.int .i64 (putE s k v))) W) := Lib.hid fun h0 W hW =>
    ⟨rfl, by unfold putS; rw [if_neg h0]; exact x.later hW, Keeps.of_below hW⟩
  have hok := ok_puts x.ok k v
  obtain ⟨c0, c1⟩ := x.cells
  by_cases h0 : k < 0
  · have b0 : decide (k < 0) = true := decide_eq_true h0
    have e : putE s k v = 2 := by
      have : ckV s.b k v = 2 := if_neg (by omega)
      unfold putE; rw [this, if_neg (by decide)]
    rw [e] at hno
    clear h0 x hok
    go_enter Try.func16, Try.ntmps16
    go_wp2_with (go_at_call 41; refine HV.out.mono ?_; rintro e w' ⟨rfl, rfl⟩)
    go_ret
    exact hno.out (by decide) _ (Below.refl _ _)
  · have b0 : decide (k < 0) = false := decide_eq_false h0
    by_cases h1 : 4096 ≤ k
    · have b1 : decide (4096 ≤ k) = true := decide_eq_true h1
      have e : putE s k v = 2 := by
        have : ckV s.b k v = 2 := if_neg (by omega)
        unfold putE; rw [this, if_neg (by decide)]
      rw [e] at hno
      clear h0 h1 x hok
      go_enter Try.func16, Try.ntmps16
      go_wp2_with (go_at_call 41; refine HV.out.mono ?_; rintro e w' ⟨rfl, rfl⟩)
      go_ret
      exact hno.out (by decide) _ (Below.refl _ _)
    · have b1 : decide (4096 ≤ k) = false := decide_eq_false h1
      by_cases hv : 65536 < v.size
      · have b2 : decide (65536 < v.size) = true := decide_eq_true hv
        have b3 : decide ((65536 : Int) < (v.size : Int)) = true := decide_eq_true (by omega)
        have e : putE s k v = 11 := by
          have : ckV s.b k v = 11 := by unfold ckV; rw [if_pos (by omega), if_pos hv]
          unfold putE; rw [this, if_neg (by decide)]
        rw [e] at hno
        clear h0 h1 hv x hok
        go_enter Try.func16, Try.ntmps16
        go_wp2_with (go_at_call 41; refine HV.out.mono ?_; rintro e w' ⟨rfl, rfl⟩)
        go_ret
        exact hno.out (by decide) _ (Below.refl _ _)
      · have b2 : decide (65536 < v.size) = false := decide_eq_false hv
        have b3 : decide ((65536 : Int) < (v.size : Int)) = false := decide_eq_false (by omega)
        by_cases hk : k < s.b
        · have b4 : decide (k < s.b) = true := decide_eq_true hk
          have e : putE s k v = 8 := by
            have : ckV s.b k v = 8 := by unfold ckV; rw [if_pos (by omega), if_neg hv, if_pos hk]
            unfold putE; rw [this, if_neg (by decide)]
          rw [e] at hno
          clear h0 h1 hv hk x hok
          generalize s.b = b at *
          go_enter Try.func16, Try.ntmps16
          go_wp2_with (go_at_call 41; refine HV.out.mono ?_; rintro e w' ⟨rfl, rfl⟩)
          go_ret
          exact hno.out (by decide) _ (Below.refl _ _)
        · have b4 : decide (k < s.b) = false := decide_eq_false hk
          have hc : ckV s.b k v = 0 := by unfold ckV; rw [if_pos (by omega), if_neg hv, if_neg hk]
          have hwf : (Lit.int .i64 k).wf = true := wf64 (by omega) (by omega)
          have hlook := look_at x.own hwf rfl
          have he : putE s k v = if refV (getM s.M k) v then 9 else 0 := by unfold putE; rw [if_pos hc]
          have hs : putE s k v = 0 → putS s k v = ⟨s.b, putM s.M ⟨k, v⟩⟩ := fun h => by unfold putS; rw [if_pos h]
          have hP := Lib.hid (fun (h : OkS ⟨s.b, putM s.M ⟨k, v⟩⟩) => put_run x k v h hwf)
          have hyes : Hid (putE s k v = 0 → ∀ W', Ax W' sb mb ⟨s.b, putM s.M ⟨k, v⟩⟩ → w.grownBy W' (some mb) → PutIs w sb mb s k v (.returned (.int .i64 0)) W') := Lib.hid fun h0 W' hA hgr =>
            ⟨by rw [h0], by rw [hs h0]; exact hA, (Keeps.refl (fun i => i = mb) w).grown hgr fun g hg => by injection hg with hg; exact .inl hg.symm⟩
          have hok2 : Hid (putE s k v = 0 → OkS ⟨s.b, putM s.M ⟨k, v⟩⟩) := Lib.hid fun h0 => by rw [← hs h0]; exact hok
          clear hs hok x hc h0 h1 hv hk hwf
          generalize s.b = b at *
          generalize getM s.M k = r at *
          cases r with
          | none =>
            have e0 : putE s k v = 0 := he
            obtain ⟨W2, hrun, hA, hgr⟩ := hP.out (hok2.out e0)
            have hfin := Lib.hid (hyes.out e0 W2 hA hgr)
            simp only [Option.isSome_none, gK] at hlook
            clear he e0 hyes hok2 hA hgr
            go_enter Try.func16, Try.ntmps16
            go_wp2_with (go_at_call 41; refine HV.out.mono ?_; rintro e w' ⟨rfl, rfl⟩)
            go_ret
            exact hfin.out
          | some q =>
            obtain ⟨qs, qv⟩ := q
            have ht := tl_eq qv v
            have hr : refV (some ⟨qs, qv⟩) v = !eqT qv v := rfl
            rw [hr] at he
            simp only [Option.isSome_some, gK] at hlook
            generalize eqT qv v = z at *
            cases z with
            | true =>
              have e0 : putE s k v = 0 := he
              obtain ⟨W2, hrun, hA, hgr⟩ := hP.out (hok2.out e0)
              have hfin := Lib.hid (hyes.out e0 W2 hA hgr)
              clear he e0 hyes hok2 hA hgr hr
              go_enter Try.func16, Try.ntmps16
              go_wp2_with (go_at_call 41; refine HV.out.mono ?_; rintro e w' ⟨rfl, rfl⟩)
              go_ret
              exact hfin.out
            | false =>
              have e0 : putE s k v = 9 := he
              rw [e0] at hno
              clear he e0 hyes hok2 hr hP
              go_enter Try.func16, Try.ntmps16
              go_wp2_with (go_at_call 41; refine HV.out.mono ?_; rintro e w' ⟨rfl, rfl⟩)
              go_ret
              exact hno.out (by decide) _ (Below.refl _ _)
end Go.Proofs.Ytgeejkedljhcoaa.Slt
