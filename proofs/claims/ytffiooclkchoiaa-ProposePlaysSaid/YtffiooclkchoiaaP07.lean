/- Add. -/
import Derived.Test.YtffiooclkchoiaaP06
namespace Go.Proofs.Ytffiooclkchoiaa.Prp
open Go.RowKit Go.Lib
open Bal (TB bOk ckB ordV eqB eqB_t eqB_f eq_b alloc_b check_any order_any)
set_option linter.unusedVariables false
set_option linter.unusedSimpArgs false
set_option maxRecDepth 20000

def addB (s : St) (k : Int) (l : List Et) (u : Int) : Bool := if addE s k l u = 0 then rdy (addS s k l u) else false
variable {base : Nat} {w : World} {b : Nat} {vs : Nat → Value} {s : St}
theorem IsE.keep {w w' : World} {v : Value} {L : List Et} (h : IsE w v L) (hb : Below w.heap.size w w') : IsE w' v L := h.later hb
/-- A promise that is refused. -/
def Refd (w : World) (c : Int) (e : Ending) (w' : World) : Prop := e = .returned (.tuple #[.bool false, .int .i64 c]) ∧ Below w.heap.size w w'
theorem add_node (x : Px base w b vs s) (k : Int) (v : Value) (u : Int) (hk : ¬ (0 ≤ k ∧ k < s.n)) :
    Calls Try.prog 27 #[.pointer (some ⟨b, 0, none⟩), .int .i64 k, v, .int .i64 u] w (Refd w 2) := by
  have hV := Lib.hid x.valid
  have c0 := x.cells.1
  clear x
  generalize s.n = n at *
  have hI : Hid (Refd w 2 (.returned (.tuple #[.bool false, .int .i64 2])) w) := Lib.hid ⟨rfl, Below.refl _ _⟩
  by_cases h0 : k < 0
  · have b1 : decide (k < 0) = true := by simpa using h0
    clear hk
    go_enter Try.func27, Try.ntmps27
    go_wp2_with (go_at_call 33; refine hV.out.mono ?_; rintro e w' ⟨rfl, rfl⟩)
    go_ret2
    exact hI.out
  · have b1 : decide (k < 0) = false := by simpa using h0
    have b2 : decide (n ≤ k) = true := by simp; omega
    clear hk
    go_enter Try.func27, Try.ntmps27
    go_wp2_with (go_at_call 33; refine hV.out.mono ?_; rintro e w' ⟨rfl, rfl⟩)
    go_ret2
    exact hI.out
theorem add_list (x : Px base w b vs s) (k : Int) (v : Value) (u : Int) (L : List Et) (hl : IsE w v L) (hlen : L.length ≤ 100000) (hk : 0 ≤ k ∧ k < s.n) (h : (okL s.n s.f L && decide (0 ≤ u ∧ u ≤ 4096)) = false) :
    Calls Try.prog 27 #[.pointer (some ⟨b, 0, none⟩), .int .i64 k, v, .int .i64 u] w (Refd w 2) := by
  have hV := Lib.hid x.valid
  have c0 := x.cells.1
  have hL := Lib.hid (list_any x v L hl hlen)
  have hS := Lib.hid (fun W => start_any u W)
  clear x hl
  generalize s.n = n at *
  generalize okL n s.f L = B1 at *
  generalize decide (0 ≤ u ∧ u ≤ 4096) = B2 at *
  have b1 : decide (k < 0) = false := by simp; omega
  have b2 : decide (n ≤ k) = false := by simp; omega
  clear hk
  cases B1 with
  | false =>
    clear h
    go_enter Try.func27, Try.ntmps27
    go_wp2_with (first
      | (go_at_call 33; refine hV.out.mono ?_; rintro e w' ⟨rfl, rfl⟩)
      | (go_at_call 41; refine hL.out.mono ?_; rintro e w2 ⟨rfl, hb2⟩))
    go_ret2
    exact ⟨rfl, hb2⟩
  | true =>
    cases B2 with
    | true => cases h
    | false =>
      clear h
      go_enter Try.func27, Try.ntmps27
      go_wp2_with (first
        | (go_at_call 33; refine hV.out.mono ?_; rintro e w' ⟨rfl, rfl⟩)
        | (go_at_call 41; refine hL.out.mono ?_; rintro e w2 ⟨rfl, hb2⟩)
        | (go_at_call 31; refine (hS.out _).mono ?_; rintro e w' ⟨rfl, rfl⟩))
      go_ret2
      exact ⟨rfl, hb2⟩
theorem add_long (x : Px base w b vs s) (k : Int) (v : Value) (u : Int) (L : List Et) (hl : IsE w v L) (hlen : L.length ≤ 100000) (hk : 0 ≤ k ∧ k < s.n) (h : (okL s.n s.f L && decide (0 ≤ u ∧ u ≤ 4096)) = true) (hf : fitL L = false) :
    Calls Try.prog 27 #[.pointer (some ⟨b, 0, none⟩), .int .i64 k, v, .int .i64 u] w (Refd w 11) := by
  have hV := Lib.hid x.valid
  have c0 := x.cells.1
  have hL := list_any x v L hl hlen
  have hS := fun W => start_any u W
  have hC := Lib.hid (fun W (hb : Below w.heap.size w W) => contains_any v L W (hl.later hb) hlen)
  rw [Bool.and_eq_true] at h
  rw [h.1] at hL
  rw [h.2] at hS
  rw [hf] at hC
  replace hL := Lib.hid hL
  replace hS := Lib.hid hS
  clear x hl h hf
  generalize s.n = n at *
  have b1 : decide (k < 0) = false := by simp; omega
  have b2 : decide (n ≤ k) = false := by simp; omega
  clear hk
  go_enter Try.func27, Try.ntmps27
  go_wp2_with (first
    | (go_at_call 33; refine hV.out.mono ?_; rintro e w' ⟨rfl, rfl⟩)
    | (go_at_call 41; refine hL.out.mono ?_; rintro e w2 ⟨rfl, hb2⟩)
    | (go_at_call 31; refine (hS.out _).mono ?_; rintro e w' ⟨rfl, rfl⟩)
    | (go_at_call 42; refine (hC.out _ hb2).mono ?_; rintro e w3 ⟨rfl, hb3⟩))
  go_ret2
  exact ⟨rfl, below2 hb2 hb3⟩
/-- What Add reads and writes at a node's place. -/
theorem Px.place (x : Px base w b vs s) (k : Nat) (h : k < 7) : w.cell? ⟨b, 4 + k * 3, none⟩ = some (.bool (s.P k).a) ∧ w.cell? ⟨b, 4 + k * 3 + 1, none⟩ = some (vs k) ∧ w.cell? ⟨b, 4 + k * 3 + 2, none⟩ = some (.int .i64 (s.P k).u) := by
  obtain ⟨h0, h1, h2⟩ := box_at s vs k h
  exact ⟨(x.at' _).trans h0, (x.at' _).trans h1, (x.at' _).trans h2⟩
theorem add_have (x : Px base w b vs s) (k : Nat) (v : Value) (u : Int) (L : List Et) (hl : IsE w v L) (hlen : L.length ≤ 100000) (hk : (k : Int) < s.n) (h : (okL s.n s.f L && decide (0 ≤ u ∧ u ≤ 4096)) = true) (hf : fitL L = true) (ha : (s.P k).a = true) :
    Calls Try.prog 27 #[.pointer (some ⟨b, 0, none⟩), .int .i64 (k : Nat), v, .int .i64 u] w (Refd w 6) := by
  have hV := Lib.hid x.valid
  have c0 := x.cells.1
  have hL := list_any x v L hl hlen
  have hS := fun W => start_any u W
  have hC := Lib.hid (fun W (hb : Below w.heap.size w W) => contains_any v L W (hl.later hb) hlen)
  rw [Bool.and_eq_true] at h
  rw [h.1] at hL
  rw [h.2] at hS
  rw [hf] at hC
  have h7 := x.ok.n7
  have hk7 : k < 7 := by omega
  have hP := Lib.hid (fun W (hb : Below w.heap.size w W) => show W.cell? ⟨b, 4 + k * 3, none⟩ = some (.bool true) from ((hb.cell (p := ⟨b, _, none⟩) x.lt).trans (x.place k hk7).1).trans (by rw [ha]))
  replace hL := Lib.hid hL
  replace hS := Lib.hid hS
  clear x hl h hf ha
  generalize s.n = n at *
  have b1 : decide ((k : Int) < 0) = false := by simp
  have b2 : decide (n ≤ (k : Int)) = false := by simp; omega
  have b3 : ¬ (k : Int) < 0 := by omega
  have b4 : (k : Int) < 7 := by omega
  have b5 : (0 : Int) ≤ (k : Int) := by omega
  clear hk h7
  go_enter Try.func27, Try.ntmps27
  go_wp2_with (first
    | (go_at_call 33; refine hV.out.mono ?_; rintro e w' ⟨rfl, rfl⟩)
    | (go_at_call 41; refine hL.out.mono ?_; rintro e w2 ⟨rfl, hb2⟩)
    | (go_at_call 31; refine (hS.out _).mono ?_; rintro e w' ⟨rfl, rfl⟩)
    | (go_at_call 42; refine (hC.out _ hb2).mono ?_; rintro e w3 ⟨rfl, hb3⟩; have hp3 := hP.out _ (below2 hb2 hb3)))
  go_ret2
  exact ⟨rfl, below2 hb2 hb3⟩
/-! Where it succeeds. -/
def updV (vs : Nat → Value) (k : Nat) (v : Value) : Nat → Value := fun i => if i = k then v else vs i
theorem box_set (s : St) (vs : Nat → Value) (k : Nat) (h : k < 7) (v : Value) (L : List Et) (u : Int) :
    (((boxC s vs).setIfInBounds (4 + k * 3) (.bool true)).setIfInBounds (4 + k * 3 + 1) v).setIfInBounds (4 + k * 3 + 2) (.int .i64 u) = boxC ⟨s.n, s.r, s.m, s.f, updP s.P k ⟨true, L, u⟩⟩ (updV vs k v) := by
  match k, h with
  | 0, _ => simp [boxC, updP, updV]
  | 1, _ => simp [boxC, updP, updV]
  | 2, _ => simp [boxC, updP, updV]
  | 3, _ => simp [boxC, updP, updV]
  | 4, _ => simp [boxC, updP, updV]
  | 5, _ => simp [boxC, updP, updV]
  | 6, _ => simp [boxC, updP, updV]
  | n + 7, h => omega
theorem row_te {W : World} {base : Nat} {L : List Et} {v : Value} {b : Nat} {cs : Array Value} (h : OwE base L v W) (x : W.heap[b]? = some (.cells cs TP (0, 0))) : v.ownBlock ≠ some b := by
  intro e
  rcases h.2 with ⟨rfl, _⟩ | ⟨g, cap, cur, rfl, _, hg, _⟩
  · cases e
  · injection e with e
    subst e
    rw [x] at hg
    injection hg with hg
    injection hg with _ hg
    exact absurd hg (by decide)
theorem Px.put (x : Px base w b vs s) (k : Nat) (h : k < 7) (v : Value) (L : List Et) (u : Int) (hO : OwE base L v w) (hok : OkS ⟨s.n, s.r, s.m, s.f, updP s.P k ⟨true, L, u⟩⟩) :
    Px base (((w.setCell ⟨b, 4 + k * 3, none⟩ (.bool true)).setCell ⟨b, 4 + k * 3 + 1, none⟩ v).setCell ⟨b, 4 + k * 3 + 2, none⟩ (.int .i64 u)) b (updV vs k v) ⟨s.n, s.r, s.m, s.f, updP s.P k ⟨true, L, u⟩⟩ ∧
    Keeps (fun j => j = b) w (((w.setCell ⟨b, 4 + k * 3, none⟩ (.bool true)).setCell ⟨b, 4 + k * 3 + 1, none⟩ v).setCell ⟨b, 4 + k * 3 + 2, none⟩ (.int .i64 u)) := by
  have hK : Keeps (fun j => j = b) w (((w.setCell ⟨b, 4 + k * 3, none⟩ (.bool true)).setCell ⟨b, 4 + k * 3 + 1, none⟩ v).setCell ⟨b, 4 + k * 3 + 2, none⟩ (.int .i64 u)) :=
    (((Keeps.refl (fun j => j = b) w).setCell (p := ⟨b, _, none⟩) (.inl rfl) _).setCell (p := ⟨b, _, none⟩) (.inl rfl) _).setCell (p := ⟨b, _, none⟩) (.inl rfl) _
  refine ⟨⟨?_, fun i hi => ?_, hok⟩, hK⟩
  · rw [← box_set s vs k h v L u]
    exact heap_setCell_same _ b _ _ _ _ (heap_setCell_same _ b _ _ _ _ (heap_setCell_same w b _ _ _ _ x.box))
  · by_cases e : i = k
    · subst e
      simp only [updP_same, updV, if_pos]
      exact rows_kept hO fun g hg => hK.block g (World.ownsRow.lt hO g hg).2 (fun e => row_te hO x.box (by rw [hg, e]))
    · simp only [updP_other _ _ e, updV, if_neg e]
      have hr := x.lst i hi
      exact rows_kept hr fun g hg => hK.block g (World.ownsRow.lt hr g hg).2 (fun e => row_te hr x.box (by rw [hg, e]))
/-- What Add tells. -/
structure Added (base : Nat) (w : World) (b : Nat) (vs : Nat → Value) (s : St) (k : Int) (L : List Et) (u : Int) (w' : World) : Prop where
  px : ∃ vs', Px base w' b vs' (addS s k L u) ∧ ∀ i, i < 7 → vs' i = vs i ∨ ∀ g, (vs' i).ownBlock = some g → w.heap.size ≤ g
  kp : Keeps (fun j => j = b) w w'
set_option maxHeartbeats 2000000 in
theorem add_done (x : Px base w b vs s) (k : Nat) (v : Value) (u : Int) (L : List Et) (hl : IsE w v L) (hlen : L.length ≤ 100000) (hbase : base ≤ w.heap.size) (hk : (k : Int) < s.n) (h : (okL s.n s.f L && decide (0 ≤ u ∧ u ≤ 4096)) = true) (hf : fitL L = true) (ha : (s.P k).a = false)
    (hok : OkS ⟨s.n, s.r, s.m, s.f, updP s.P k ⟨true, L, u⟩⟩) :
    Calls Try.prog 27 #[.pointer (some ⟨b, 0, none⟩), .int .i64 (k : Nat), v, .int .i64 u] w fun e w' => e = .returned (.tuple #[.bool (rdy ⟨s.n, s.r, s.m, s.f, updP s.P k ⟨true, L, u⟩⟩), .int .i64 0]) ∧
      ∃ v', (∀ g, v'.ownBlock = some g → w.heap.size ≤ g) ∧ Px base w' b (updV vs k v') ⟨s.n, s.r, s.m, s.f, updP s.P k ⟨true, L, u⟩⟩ ∧ Keeps (fun j => j = b) w w' := by
  have hV := Lib.hid x.valid
  have c0 := x.cells.1
  have hL := list_any x v L hl hlen
  have hS := fun W => start_any u W
  have hC := Lib.hid (fun W (hb : Below w.heap.size w W) => contains_any v L W (hl.later hb) hlen)
  have hCl := Lib.hid (fun W (hb : Below w.heap.size w W) => clone_any v L W (hl.later hb) hlen)
  rw [Bool.and_eq_true] at h
  rw [h.1] at hL
  rw [h.2] at hS
  rw [hf] at hC
  have h7 := x.ok.n7
  have hk7 : k < 7 := by omega
  have hP := Lib.hid (fun W (hb : Below w.heap.size w W) => show W.cell? ⟨b, 4 + k * 3, none⟩ = some (.bool false) from ((hb.cell (p := ⟨b, _, none⟩) x.lt).trans (x.place k hk7).1).trans (by rw [ha]))
  have hPut : Hid (∀ W v', Below w.heap.size w W → OwE base L v' W → W.cell? ⟨b, 4 + k * 3, none⟩ = some (.bool false) ∧ W.cell? ⟨b, 4 + k * 3 + 1, none⟩ = some (vs k) ∧ W.cell? ⟨b, 4 + k * 3 + 2, none⟩ = some (.int .i64 (s.P k).u) ∧ (∀ i, W.frozen? ⟨b, i, none⟩ = false) ∧
      Px base (((W.setCell ⟨b, 4 + k * 3, none⟩ (.bool true)).setCell ⟨b, 4 + k * 3 + 1, none⟩ v').setCell ⟨b, 4 + k * 3 + 2, none⟩ (.int .i64 u)) b (updV vs k v') ⟨s.n, s.r, s.m, s.f, updP s.P k ⟨true, L, u⟩⟩ ∧
      Keeps (fun j => j = b) W (((W.setCell ⟨b, 4 + k * 3, none⟩ (.bool true)).setCell ⟨b, 4 + k * 3 + 1, none⟩ v').setCell ⟨b, 4 + k * 3 + 2, none⟩ (.int .i64 u))) := Lib.hid fun W v' hb hO => by
    obtain ⟨p0, p1, p2⟩ := (x.later hb).place k hk7
    have h3 := (x.later hb).put k hk7 v' L u hO hok
    exact ⟨by rw [← ha]; exact p0, p1, p2, fun i => frozen_of_row W b i _ TP (x.later hb).box, h3.1, h3.2⟩
  have hR := Lib.hid (fun (W : World) (vs' : Nat → Value) (h : Px base W b vs' ⟨s.n, s.r, s.m, s.f, updP s.P k ⟨true, L, u⟩⟩) => ready_any h)
  replace hL := Lib.hid hL
  replace hS := Lib.hid hS
  clear x hl h hf ha hok
  generalize hs' : (⟨s.n, s.r, s.m, s.f, updP s.P k ⟨true, L, u⟩⟩ : St) = s' at *
  clear hs'
  generalize s.n = n at *
  have b1 : decide ((k : Int) < 0) = false := by simp
  have b2 : decide (n ≤ (k : Int)) = false := by simp; omega
  have b3 : ¬ (k : Int) < 0 := by omega
  have b4 : (k : Int) < 7 := by omega
  have b5 : (0 : Int) ≤ (k : Int) := by omega
  replace hlen := Lib.hid hlen
  clear hk h7
  go_enter Try.func27, Try.ntmps27
  go_wp2_with (first
    | (go_at_call 33; refine hV.out.mono ?_; rintro e w' ⟨rfl, rfl⟩)
    | (go_at_call 41; refine hL.out.mono ?_; rintro e w2 ⟨rfl, hb2⟩)
    | (go_at_call 31; refine (hS.out _).mono ?_; rintro e w' ⟨rfl, rfl⟩)
    | (go_at_call 42; refine (hC.out _ hb2).mono ?_; rintro e w3 ⟨rfl, hb3⟩; have hp3 := hP.out _ (below2 hb2 hb3)))
  have hb3' := below2 hb2 hb3
  have hb4 := hb3'.trans ((Below.refl w3.heap.size w3).drew.mono hb3'.size)
  have HC := Lib.hid (hCl.out _ hb4)
  go_region_with ((go_at_call 34; refine HC.out.mono ?_; rintro e w5 ⟨v5, rfl, hO5, hb5⟩; obtain ⟨a5, c5, rfl⟩ := rows_form hO5; have hb5' := hb4.trans (hb5.mono hb4.size); obtain ⟨p0, p1, p2, fz, hpx, hkp⟩ := hPut.out _ _ hb5' (rows_base hO5 (Nat.le_trans hbase hb4.size))))
  obtain ⟨W6, hW6⟩ : ∃ W, W = (((w5.setCell ⟨b, 4 + k * 3, none⟩ (.bool true)).setCell ⟨b, 4 + k * 3 + 1, none⟩ (.slice a5 L.length c5)).setCell ⟨b, 4 + k * 3 + 2, none⟩ (.int .i64 u)) := ⟨_, rfl⟩
  rw [← hW6] at hpx hkp ⊢
  clear hW6 p0 p1 p2 fz
  have hK6 : Keeps (fun j => j = b) w W6 := (Keeps.of_below hb5').trans hkp fun i hi _ => hi
  have hR6 := Lib.hid (hR.out _ _ hpx)
  have hE : Hid (∀ W, Below W6.heap.size W6 W → ∃ v', (∀ g, v'.ownBlock = some g → w.heap.size ≤ g) ∧ Px base W b (updV vs k v') s' ∧ Keeps (fun j => j = b) w W) := Lib.hid fun W hb =>
    ⟨_, fun g hg => Nat.le_trans hb4.size (World.ownsRow.lt hO5 g hg).1, hpx.later hb, hK6.later hb⟩
  clear hpx hkp hK6 hO5 hb5 hb5' hb4 hb3' hb3 hb2 hp3
  go_wp2_with (go_at_call 19; refine hR6.out.mono ?_; rintro e w7 ⟨rfl, hb7⟩)
  go_ret2
  exact ⟨rfl, hE.out _ hb7⟩
theorem add_any (x : Px base w b vs s) (k : Int) (v : Value) (u : Int) (L : List Et) (hl : IsE w v L) (hlen : L.length ≤ 100000) (hbase : base ≤ w.heap.size) :
    Calls Try.prog 27 #[.pointer (some ⟨b, 0, none⟩), .int .i64 k, v, .int .i64 u] w fun e w' => e = .returned (.tuple #[.bool (addB s k L u), .int .i64 (addE s k L u)]) ∧ Added base w b vs s k L u w' := by
  have hbad : ∀ c, c ≠ 0 → addE s k L u = c → ∀ e w', Refd w c e w' → e = .returned (.tuple #[.bool (addB s k L u), .int .i64 (addE s k L u)]) ∧ Added base w b vs s k L u w' := by
    rintro c hc hE e w' ⟨rfl, hb⟩
    have e1 : addS s k L u = s := if_neg (by rw [hE]; exact hc)
    have e2 : addB s k L u = false := if_neg (by rw [hE]; exact hc)
    refine ⟨by rw [hE, e2], ⟨vs, ?_, fun i _ => .inl rfl⟩, Keeps.of_below hb⟩
    rw [e1]
    exact x.later hb
  by_cases hk : 0 ≤ k ∧ k < s.n
  · cases h : (okL s.n s.f L && decide (0 ≤ u ∧ u ≤ 4096)) with
    | false =>
      refine (add_list x k v u L hl hlen hk h).mono (hbad 2 (by decide) ?_)
      unfold addE argOk
      rw [Bool.and_assoc, h, Bool.and_false]
      rfl
    | true =>
      have hA : argOk s k L u = true := by
        unfold argOk
        rw [Bool.and_assoc, h, Bool.and_true]
        exact decide_eq_true hk
      cases hf : fitL L with
      | false =>
        refine (add_long x k v u L hl hlen hk h hf).mono (hbad 11 (by decide) ?_)
        unfold addE
        rw [hA, hf]
        rfl
      | true =>
        obtain ⟨m, rfl⟩ := Int.eq_ofNat_of_zero_le hk.1
        cases ha : (s.P m).a with
        | true =>
          refine (add_have x m v u L hl hlen hk.2 h hf ha).mono (hbad 6 (by decide) ?_)
          unfold addE
          rw [hA, hf, Int.toNat_natCast, ha]
          rfl
        | false =>
          have hE : addE s m L u = 0 := by
            unfold addE
            rw [hA, hf, Int.toNat_natCast, ha]
            rfl
          have hS : addS s m L u = ⟨s.n, s.r, s.m, s.f, updP s.P m ⟨true, L, u⟩⟩ := by
            unfold addS
            rw [if_pos hE, Int.toNat_natCast]
          have hB : addB s m L u = rdy (addS s m L u) := if_pos hE
          have hok := x.ok.add m L u
          rw [hS] at hok
          refine (add_done x m v u L hl hlen hbase hk.2 h hf ha hok).mono ?_
          rintro e w' ⟨rfl, v', hv', hpx, hkp⟩
          refine ⟨by rw [hE, hB, hS], ⟨_, by rw [hS]; exact hpx, fun i hi => ?_⟩, hkp⟩
          by_cases e : i = m
          · subst e
            exact .inr fun g hg => hv' g (by simpa [updV] using hg)
          · exact .inl (by simp [updV, e])
  · refine (add_node x k v u hk).mono (hbad 2 (by decide) ?_)
    unfold addE argOk
    rw [decide_eq_false hk, Bool.false_and, Bool.false_and]
    rfl
end Go.Proofs.Ytffiooclkchoiaa.Prp
