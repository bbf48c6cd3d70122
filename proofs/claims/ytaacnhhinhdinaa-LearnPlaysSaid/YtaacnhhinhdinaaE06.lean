/- What the calls do to a state; a lookup, a put; Chosen, Learn, Upto, Votes. -/
import Derived.Test.YtaacnhhinhdinaaE05
import Derived.StillTailTactics
namespace Go.Proofs.Ytaacnhhinhdinaa.Lrn
open Go.RowKit Go.Maps Go.Lib
open Bal (TB bOk ckB ordV eqB eqB_t eqB_f eq_b alloc_b)
set_option linter.unusedVariables false
set_option linter.unusedSimpArgs false
set_option maxRecDepth 20000

/-! What the calls do to a state. -/
abbrev at' (s : St) (k : Int) : Kn := gK (getM s.M k)
def addBad (q : Kn) (r m : Int) (v : ByteArray) : Bool := (eqB r m q.r q.m && !eqT v q.t) || refV q v
def addN (q : Kn) (n : Int) : Bool := Quo.isV n q.x && !q.c
def addW (q : Kn) (nd r m : Int) (v : ByteArray) (n : Int) : Kn :=
  if addN (withK q nd r m v n) n then ⟨true, v, (withK q nd r m v n).r, (withK q nd r m v n).m, (withK q nd r m v n).t, (withK q nd r m v n).x⟩ else withK q nd r m v n
def isVote (n nd r m : Int) : Prop := (0 ≤ nd ∧ nd < n) ∧ Gd n r m
instance (n nd r m : Int) : Decidable (isVote n nd r m) := by unfold isVote; exact inferInstance
def addOn (s : St) (nd r m k : Int) (v : ByteArray) : Prop := isVote s.n nd r m ∧ ckV s.b k v = 0 ∧ ¬ ordV r m (at' s k).r (at' s k).m < 0 ∧ addBad (at' s k) r m v = false
instance (s : St) (nd r m k : Int) (v : ByteArray) : Decidable (addOn s nd r m k v) := by unfold addOn; exact inferInstance
def addE (s : St) (nd r m k : Int) (v : ByteArray) : Int :=
  if isVote s.n nd r m then (if ckV s.b k v = 0 then (if ordV r m (at' s k).r (at' s k).m < 0 then 0 else if addBad (at' s k) r m v then 9 else 0) else ckV s.b k v) else 2
def addS (s : St) (nd r m k : Int) (v : ByteArray) : St := if addOn s nd r m k v then ⟨s.n, s.b, putM s.M ⟨k, addW (at' s k) nd r m v s.n⟩⟩ else s
def addB (s : St) (nd r m k : Int) (v : ByteArray) : Bool := decide (addOn s nd r m k v) && addN (withK (at' s k) nd r m v s.n) s.n
def lrnE (s : St) (k : Int) (v : ByteArray) : Int := if ckV s.b k v = 0 then (if refV (at' s k) v then 9 else 0) else ckV s.b k v
def lrnK (q : Kn) (v : ByteArray) : Kn := ⟨true, v, q.r, q.m, q.t, q.x⟩
def lrnS (s : St) (k : Int) (v : ByteArray) : St := if lrnE s k v = 0 then ⟨s.n, s.b, putM s.M ⟨k, lrnK (at' s k) v⟩⟩ else s
def forE (u : Int) : Int := if 0 ≤ u ∧ u ≤ 4096 then 0 else 3
def forS (s : St) (u : Int) : St := if 0 ≤ u ∧ u ≤ 4096 then ⟨s.n, max s.b u, frM s.M u⟩ else s
def opnL (s : St) : List Int := keysM (s.M.filter fun e => !e.k.c)
/-- The first slot from i on that is not chosen, if there is one among the next j. -/
def upTo (M : List Et) (i : Int) : Nat → Int
  | 0 => i
  | j + 1 => if (gK (getM M i)).c then upTo M (i + 1) j else i
def uptoV (s : St) : Int := upTo s.M s.b (4096 - s.b).toNat
theorem ck_in {b k : Int} {v : ByteArray} (h : ckV b k v = 0) : 0 ≤ k ∧ k < 4096 ∧ v.size ≤ 65536 ∧ b ≤ k := by
  unfold ckV at h
  split at h
  · rename_i h1
    split at h
    · exact absurd h (by decide)
    · split at h
      · exact absurd h (by decide)
      · omega
  · exact absurd h (by decide)
theorem ck_le {b k : Int} {v : ByteArray} : ckV b k v = 0 ∨ ckV b k v = 2 ∨ ckV b k v = 8 ∨ ckV b k v = 11 := by
  unfold ckV
  split
  · split
    · exact .inr (.inr (.inr rfl))
    · split
      · exact .inr (.inr (.inl rfl))
      · exact .inl rfl
  · exact .inr (.inl rfl)
theorem or_in : ∀ n, n < 8 → ∀ j, j < n → ∀ x, x ≤ Quo.all1 n → x ||| 2 ^ j ≤ Quo.all1 n := by decide +kernel
theorem wi_in {x : Nat} {k n : Int} (hn : 1 ≤ n ∧ n ≤ 7) (hx : x ≤ Quo.all1 n.toNat) : Quo.wiV x k n ≤ Quo.all1 n.toNat := by
  unfold Quo.wiV
  split
  · rename_i h
    obtain ⟨_, h1, h2⟩ := h
    exact or_in n.toNat (by omega) k.toNat (by omega) x hx
  · exact Nat.zero_le _
theorem ok_with {q : Kn} {nd r m n : Int} {v : ByteArray} (h : OkK n q) (hn : 1 ≤ n ∧ n ≤ 7) (hv : v.size ≤ 65536) : OkK n (withK q nd r m v n) := by
  unfold withK withP
  split
  · exact ⟨wi_in hn h.x, h.v, h.t⟩
  · exact ⟨wi_in hn (Nat.zero_le _), h.v, hv⟩
theorem ok_addW {q : Kn} {nd r m n : Int} {v : ByteArray} (h : OkK n q) (hn : 1 ≤ n ∧ n ≤ 7) (hv : v.size ≤ 65536) : OkK n (addW q nd r m v n) := by
  have := ok_with (nd := nd) (r := r) (m := m) h hn hv
  unfold addW
  split
  · exact ⟨this.x, hv, this.t⟩
  · exact this
theorem ok_put {s : St} (h : OkS s) {k : Int} {q : Kn} (hk : s.b ≤ k ∧ k < 4096) (hq : OkK s.n q) : OkS ⟨s.n, s.b, putM s.M ⟨k, q⟩⟩ :=
  ⟨h.hn, h.hb, srt_put h.srt _, fun e he => by
    rcases mem_put.1 he with rfl | ⟨h1, _⟩
    · exact ⟨hk.1, hk.2, hq⟩
    · exact h.ent e h1⟩
theorem ok_add {s : St} (h : OkS s) (nd r m k : Int) (v : ByteArray) : OkS (addS s nd r m k v) := by
  unfold addS
  split
  · rename_i h0
    obtain ⟨h1, h2, h3, h4⟩ := ck_in h0.2.1
    exact ok_put h ⟨h4, h2⟩ (ok_addW (h.get k) h.hn h3)
  · exact h
theorem ok_lrn {s : St} (h : OkS s) (k : Int) (v : ByteArray) : OkS (lrnS s k v) := by
  unfold lrnS
  split
  · rename_i h0
    have hc : ckV s.b k v = 0 := by
      unfold lrnE at h0
      split at h0
      · assumption
      · exact h0
    obtain ⟨h1, h2, h3, h4⟩ := ck_in hc
    have := h.get k
    exact ok_put h ⟨h4, h2⟩ ⟨this.x, h3, this.t⟩
  · exact h
theorem ok_for {s : St} (h : OkS s) (u : Int) : OkS (forS s u) := by
  unfold forS
  split
  · rename_i hu
    refine ⟨h.hn, ⟨by show 0 ≤ max s.b u; omega, by show max s.b u ≤ 4096; have := h.hb.2; omega⟩, srt_fr h.srt u, fun e he => ?_⟩
    obtain ⟨h1, h2⟩ := mem_fr.1 he
    obtain ⟨a, b, c⟩ := h.ent e h1
    exact ⟨by show max s.b u ≤ e.s; omega, b, c⟩
  · exact h
theorem all1_in {n : Int} (hn : 1 ≤ n ∧ n ≤ 7) : Quo.all1 n.toNat ≤ 127 := Quo.all1_7 (by omega)
theorem OkK.x64 {n : Int} {q : Kn} (h : OkK n q) (hn : 1 ≤ n ∧ n ≤ 7) : q.x < 18446744073709551616 := by
  have := h.x
  have := all1_in hn
  omega

/-! A lookup, a put. -/
theorem look_k {w : World} {mb n : Nat} {M : List Et} (h : w.ownsMap Try.prog TI rdK mb n (DM M)) {k : Int} (hk : (Lit.int .i64 k).wf = true) :
    (Instr.lookup TM (.map (some mb)) (.int .i64 k) false).run Try.prog w = .ok (vK (gK (getM M k))) w := by
  obtain ⟨v, ps, hrun, hv⟩ := h.lookup (t := TM) keyI Try.underlying67 (zero_k w) (zd := kD zK) (rdK_mk zK) (key_of hk)
  rw [at_DM] at hv
  rw [hrun]
  cases hr : getM M k with
  | none => rw [hr] at hv; rw [rdK_inv hv]
  | some e => rw [hr] at hv; rw [rdK_inv hv]
theorem put_run {w : World} {sb mb : Nat} {s : St} (x : Ax w sb mb s) (k : Int) (q : Kn) (hok : OkS ⟨s.n, s.b, putM s.M ⟨k, q⟩⟩) (hk : (Lit.int .i64 k).wf = true) :
    ∃ w', (Instr.mapUpdate TM (.map (some mb)) (.int .i64 k) (vK q)).run Try.prog w = .ok () w' ∧ Ax w' sb mb ⟨s.n, s.b, putM s.M ⟨k, q⟩⟩ ∧ w.grownBy w' (some mb) := by
  have hlen := x.ok.len
  obtain ⟨w', hrun, r1, r2⟩ := x.own.update (t := TM) keyI Try.underlying67 (by unfold maxLen; omega) (key_of hk) (rdK_mk q)
  rw [put_DM s.M ⟨k, q⟩] at r1
  refine ⟨w', hrun, ⟨?_, own_tight r1, hok⟩, r2⟩
  exact (r2.block sb x.lt.1 (fun h => by injection h with h; exact x.ne h)).trans x.box

theorem below_drewN {B : Nat} {a w : World} (h : Below B a w) (n : Nat) : Below B a (w.drewN n) := h.trans ⟨rfl, rfl, rfl, Nat.le_refl _, fun _ _ => rfl⟩
theorem look_s {w : World} {sb mb : Nat} {s : St} (x : Ax w sb mb s) {k : Int} (hk : (Lit.int .i64 k).wf = true) :
    (Instr.lookup TM (.map (some mb)) (.int .i64 k) false).run Try.prog w = .ok (vK (at' s k)) w := look_k x.own hk

/-! Chosen, Votes. -/
set_option maxHeartbeats 1000000 in
theorem chosen_any {sb mb : Nat} {s : St} (k : Int) (w : World) (x : Ax w sb mb s) (hk : (Lit.int .i64 k).wf = true) :
    Calls Try.prog 23 #[.pointer (some ⟨sb, 0, none⟩), .int .i64 k] w fun e w' =>
      e = .returned (.tuple #[.string (at' s k).v, .bool (at' s k).c]) ∧ Below w.heap.size w w' := by
  have hV := Lib.hid x.valid
  have hlook := look_s x hk
  obtain ⟨_, _, c2⟩ := x.cells
  have hb := Lib.hid (fun q => (kbx_new w q).bel)
  clear x
  generalize at' s k = q at *
  obtain ⟨c, qv, qr, qm, t, u⟩ := q
  have hK := kbx_new w ⟨c, qv, qr, qm, t, u⟩
  obtain ⟨d0, d1, _⟩ := hK.cells
  replace hb := Lib.hid (fun n => (hK.bel.trans ⟨rfl, rfl, rfl, Nat.le_refl _, fun _ _ => rfl⟩ : Below w.heap.size w ((w.alloc (.cells (kC ⟨c, qv, qr, qm, t, u⟩) TK)).drewN n)))
  clear hK
  go_enter Try.func23, Try.ntmps23
  go_wp2_with (go_at_call 29; refine hV.out.mono ?_; rintro e w' ⟨rfl, rfl⟩)
  go_quiet (fail)
  go_wp2
  go_ret2
  exact ⟨rfl, hb.out _⟩

set_option maxHeartbeats 1000000 in
theorem votes_any {sb mb : Nat} {s : St} (k : Int) (w : World) (x : Ax w sb mb s) (hk : (Lit.int .i64 k).wf = true) :
    Calls Try.prog 24 #[.pointer (some ⟨sb, 0, none⟩), .int .i64 k] w fun e w' =>
      e = .returned (.tuple #[.agg #[.int .i64 (at' s k).r, .int .i64 (at' s k).m], .int .u64 (at' s k).x]) ∧ Below w.heap.size w w' := by
  have x1 := x.alloc (.cells #[.int .i64 0, .int .i64 0] TB)
  have hV := Lib.hid x1.valid
  have hlook := look_s x1 hk
  obtain ⟨_, _, c2⟩ := x1.cells
  clear x x1
  generalize at' s k = q at *
  obtain ⟨c, qv, qr, qm, t, u⟩ := q
  have hb0 := alloc_b w (.cells #[.int .i64 qr, .int .i64 qm] TB)
  have hB := Lib.hid (Bal.Bx.drew (Bal.Bx.alloc (Bal.bx_new w qr qm) (.cells (kC ⟨c, qv, qr, qm, t, u⟩) TK)))
  go_enter Try.func24, Try.ntmps24
  go_wp2_with (go_at_call 29; refine hV.out.mono ?_; rintro e w' ⟨rfl, rfl⟩)
  go_region
  go_wp2
  have h := hB.out
  refine bodyPost_ret (v := .tuple #[.agg #[.int .i64 qr, .int .i64 qm], .int .u64 u]) ?_ rfl ⟨rfl, h.bel⟩
  exact Bal.res2e Try.results24 _ rfl h

/-! Learn. -/
/-- The known thing in a box of the call's own, beside the learner. -/
structure LAt (w : World) (sb mb : Nat) (s : St) (b : Nat) (q : Kn) (W : World) : Prop where
  blk : W.heap[b]? = some (.cells (kC q) TK (0, 0))
  ax : Ax W sb mb s
  own : w.heap.size ≤ b
  bel : Below w.heap.size w W
  hs : sb < w.heap.size ∧ mb < w.heap.size
theorem LAt.later {w W W' : World} {sb mb b : Nat} {s : St} {q : Kn} (h : LAt w sb mb s b q W) (hb : Below W.heap.size W W') : LAt w sb mb s b q W' :=
  ⟨(hb.block _ (Array.getElem?_eq_some_iff.1 h.blk).1).trans h.blk, h.ax.later hb, h.own, h.bel.trans (hb.mono h.bel.size), h.hs⟩
theorem LAt.drew {w W : World} {sb mb b : Nat} {s : St} {q : Kn} (h : LAt w sb mb s b q W) : LAt w sb mb s b q W.drew := h.later (Below.refl _ _).drew
theorem LAt.k {w W : World} {sb mb b : Nat} {s : St} {q : Kn} (h : LAt w sb mb s b q W) : KBx w b q W := ⟨h.blk, h.bel⟩
theorem lat_new {w w1 : World} {sb mb : Nat} {s : St} (x : Ax w1 sb mb s) (hb : Below w.heap.size w w1) (hs : sb < w.heap.size ∧ mb < w.heap.size) (q : Kn) : LAt w sb mb s w1.heap.size q (w1.alloc (.cells (kC q) TK)) :=
  ⟨heap_alloc_new _ _, x.alloc _, hb.size, hb.alloc hb.size _, hs⟩
theorem LAt.set {w W : World} {sb mb b : Nat} {s : St} {q : Kn} (h : LAt w sb mb s b q W) (v : ByteArray) : LAt w sb mb s b ⟨true, v, q.r, q.m, q.t, q.x⟩ ((W.setCell ⟨b, 0, none⟩ (.bool true)).setCell ⟨b, 1, none⟩ (.string v)) := by
  have e1 := heap_setCell_same W b 0 _ TK (.bool true) h.blk
  have e2 := heap_setCell_same _ b 1 _ TK (.string v) e1
  have o := h.own
  have k : Keeps (fun i => i = b) W ((W.setCell ⟨b, 0, none⟩ (.bool true)).setCell ⟨b, 1, none⟩ (.string v)) := ((Keeps.refl (fun i => i = b) W).setCell (p := ⟨b, 0, none⟩) (.inl rfl) _).setCell (p := ⟨b, 1, none⟩) (.inl rfl) _
  exact ⟨e2, h.ax.kept k (by have := h.hs.1; omega) (by have := h.hs.2; omega), o, (h.bel.setCell o _).setCell o _, h.hs⟩
def LrnIs (w : World) (sb mb : Nat) (s : St) (k : Int) (v : ByteArray) (e : Ending) (w' : World) : Prop :=
  e = .returned (.int .i64 (lrnE s k v)) ∧ Ax w' sb mb (lrnS s k v) ∧ Keeps (fun i => i = mb) w w'
set_option maxHeartbeats 1000000 in
theorem learn_any {sb mb : Nat} {s : St} (k : Int) (v : ByteArray) (w : World) (x : Ax w sb mb s) :
    Calls Try.prog 16 #[.pointer (some ⟨sb, 0, none⟩), .int .i64 k, .string v] w (LrnIs w sb mb s k v) := by
  have HV := Lib.hid x.valid
  have HC := Lib.hid (chk_any k v w x)
  have hno : Hid (lrnE s k v ≠ 0 → ∀ W, Below w.heap.size w W → LrnIs w sb mb s k v (.returned (.int .i64 (lrnE s k v))) W) := Lib.hid fun h0 W hW =>
    ⟨rfl, by unfold lrnS; rw [if_neg h0]; exact x.later hW, Keeps.of_below hW⟩
  have hok := ok_lrn x.ok k v
  by_cases hc : ckV s.b k v = 0
  · obtain ⟨i0, i1, _, _⟩ := ck_in hc
    have hwf : (Lit.int .i64 k).wf = true := wf64 (by omega) (by omega)
    have hlook := look_s x hwf
    obtain ⟨_, _, c2⟩ := x.cells
    rw [hc] at HC
    cases hr : refV (at' s k) v with
    | true =>
      have he : lrnE s k v = 9 := by unfold lrnE; rw [if_pos hc, if_pos hr]
      rw [he] at hno
      have HR := Lib.hid (fun W => refuses_any (at' s k) v W)
      rw [hr] at HR
      have hL := lat_new x (Below.refl _ _) x.lt (at' s k)
      clear hc hr he hok x i0 i1 hwf
      generalize at' s k = q at *
      obtain ⟨c, qv, qr, qm, t, u⟩ := q
      obtain ⟨d0, d1, d2, d3, d4, d5⟩ := hL.k.cells
      replace hL := Lib.hid hL
      go_enter Try.func16, Try.ntmps16
      go_wp2_with (first
        | (go_at_call 29; refine HV.out.mono ?_; rintro e w' ⟨rfl, rfl⟩)
        | (go_at_call 32; refine HC.out.mono ?_; rintro e w' ⟨rfl, rfl⟩)
        | (go_at_call 34; refine (HR.out _).mono ?_; rintro e w1 ⟨rfl, hb1⟩))
      go_ret
      exact hno.out (by decide) _ (hL.out.later hb1).bel
    | false =>
      have he : lrnE s k v = 0 := by unfold lrnE; rw [if_pos hc, if_neg (by rw [hr]; decide)]
      have hs : lrnS s k v = ⟨s.n, s.b, putM s.M ⟨k, lrnK (at' s k) v⟩⟩ := by unfold lrnS; rw [if_pos he]
      rw [hs] at hok
      have HR := Lib.hid (fun W => refuses_any (at' s k) v W)
      rw [hr] at HR
      have hL := lat_new x (Below.refl _ _) x.lt (at' s k)
      have HP := Lib.hid (fun W (hW : Ax W sb mb s) => put_run hW k (lrnK (at' s k) v) hok hwf)
      have hfin : Hid (∀ W W', Below w.heap.size w W → Ax W' sb mb ⟨s.n, s.b, putM s.M ⟨k, lrnK (at' s k) v⟩⟩ → W.grownBy W' (some mb) → LrnIs w sb mb s k v (.returned (.int .i64 0)) W') := Lib.hid fun W W' hK hA hgr =>
        ⟨by rw [he], by rw [hs]; exact hA, (Keeps.of_below (F := fun i => i = mb) hK).grown hgr fun g hg => by injection hg with hg; exact .inl hg.symm⟩
      clear hc hr he hok i0 i1 hwf hs hno x
      generalize at' s k = q at *
      obtain ⟨c, qv, qr, qm, t, u⟩ := q
      obtain ⟨d0, d1, d2, d3, d4, d5⟩ := hL.k.cells
      replace hL := Lib.hid hL
      go_enter Try.func16, Try.ntmps16
      go_wp2_with (first
        | (go_at_call 29; refine HV.out.mono ?_; rintro e w' ⟨rfl, rfl⟩)
        | (go_at_call 32; refine HC.out.mono ?_; rintro e w' ⟨rfl, rfl⟩)
        | (go_at_call 34; refine (HR.out _).mono ?_; rintro e w1 ⟨rfl, hb1⟩; have L1 := hL.out.later hb1; have f0 := L1.k.frozen 0; have f1 := L1.k.frozen 1; obtain ⟨g0, g1, _, _, _, _⟩ := L1.k.cells; replace L1 := Lib.hid L1))
      have L2 := L1.out.set v
      obtain ⟨w5, hrun, hA5, hg5⟩ := HP.out _ L2.drew.ax
      change (Instr.mapUpdate TM (.map (some mb)) (.int .i64 k) (vK ⟨true, v, qr, qm, t, u⟩)).run _ _ = _ at hrun
      have hF := Lib.hid (hfin.out _ w5 L2.drew.bel hA5 hg5)
      obtain ⟨_, _, m2⟩ := L2.ax.cells
      obtain ⟨k0, k1, k2, k3, k4, k5⟩ := L2.k.cells
      clear hA5 hg5 L2 L1 hb1 d0 d1 d2 d3 d4 d5 g0 g1 f0 f1
      generalize (w1.setCell ⟨w.heap.size, 0, none⟩ (.bool true)).setCell ⟨w.heap.size, 1, none⟩ (.string v) = W at *
      go_region
      all_goals
        go_wp2
        go_ret
        exact hF.out
  · have he : lrnE s k v = ckV s.b k v := by unfold lrnE; rw [if_neg hc]
    rw [he] at hno
    generalize hz : ckV s.b k v = z at *
    have hz1 : (z == 0) = false := by simpa using hc
    have hz2 : (z = 0) = False := by simpa using hc
    have hc' := Lib.hid hc
    clear hz he hok x hc
    go_enter Try.func16, Try.ntmps16
    go_wp2_with (first
      | (go_at_call 29; refine HV.out.mono ?_; rintro e w' ⟨rfl, rfl⟩)
      | (go_at_call 32; refine HC.out.mono ?_; rintro e w' ⟨rfl, rfl⟩))
    go_ret
    exact hno.out hc'.out _ (Below.refl _ _)
end Go.Proofs.Ytaacnhhinhdinaa.Lrn
