/- look at any place; own; Next. -/
import Derived.Test.YtojeccmnhgcmcaaDoorF05
namespace Go.Proofs.YtojeccmnhgcmcaaDoor.Frame
open Go.RowKit Go.ChangeShapes
open Crc (Hv more more_lt ret_u32)
set_option linter.unusedVariables false
set_option linter.unusedSimpArgs false

def lkE (b : List Nat) (x : Int) : Nat := if x < 0 ∨ (b.length : Int) < x then 3 else restE (b.drop x.toNat)
theorem lkE_out {b : List Nat} {x : Int} (h : x < 0 ∨ (b.length : Int) < x) : lkE b x = 3 := by unfold lkE; rw [if_pos h]
theorem lkE_in {b : List Nat} {k : Nat} (h : k ≤ b.length) : lkE b (k : Nat) = restE (b.drop k) := by unfold lkE; rw [if_neg (by omega), Int.toNat_natCast]
/-- What look gives back at any place. -/
def LookA (F : Nat → Prop) (w : World) (b : List Nat) (x : Int) : Ending → World → Prop := LookE F w x.toNat (lkE b x) (restC (b.drop x.toNat))
theorem lookA_in {F : Nat → Prop} {w : World} {b : List Nat} {k : Nat} (h : k ≤ b.length) : LookA F w b (k : Nat) = LookK F w b k := by
  unfold LookA LookK
  rw [lkE_in h, Int.toNat_natCast]
theorem look_in (F : Nat → Prop) (v : Value) (b : List Nat) (k : Nat) (w : World) (hv : Bs w F v b) (hF : ∀ k, F k → k < w.heap.size) (hH : Hv w) (hlen : b.length ≤ 100000000) (hk : k ≤ b.length) :
    Calls Tryd.prog 63 #[v, .int .i64 (k : Nat)] w (LookK F w b k) := by
  have hv0 := hv
  obtain ⟨_, a, cap, rfl, _⟩ := hv0
  rcases Nat.lt_or_ge b.length (k + 8) with h | h
  · unfold LookK
    rcases Nat.lt_or_ge k b.length with h1 | h1
    · have e : restE (b.drop k) = 10 := by unfold restE; rw [List.length_drop, if_neg (by omega), if_pos (by omega)]
      rw [e, lookE_no _ _ _ _ _ (by omega)]
      exact look_short F a cap b k w hv hlen h1 (by omega)
    · obtain rfl : k = b.length := by omega
      have e : restE (b.drop b.length) = 5 := restE_nil.2 (by rw [List.length_drop]; omega)
      rw [e, lookE_no _ _ _ _ _ (by omega)]
      exact look_end F a cap b w hv hlen
  · exact look_more F a cap b k w hv hF hH hlen h
theorem look_at (F : Nat → Prop) (v : Value) (b : List Nat) (x : Int) (w : World) (hv : Bs w F v b) (hF : ∀ k, F k → k < w.heap.size) (hH : Hv w) (hlen : b.length ≤ 100000000) :
    Calls Tryd.prog 63 #[v, .int .i64 x] w (LookA F w b x) := by
  by_cases h : x < 0 ∨ (b.length : Int) < x
  · have hv0 := hv
    obtain ⟨_, a, cap, rfl, _⟩ := hv0
    unfold LookA
    rw [lkE_out h, lookE_no _ _ _ _ _ (by omega)]
    exact look_out F a cap b x w hv hlen h
  · obtain ⟨k, rfl⟩ := Int.eq_ofNat_of_zero_le (show 0 ≤ x by omega)
    rw [lookA_in (by omega)]
    exact look_in F v b k w hv hF hH hlen (by omega)

theorem own_base {w : World} {base base' n : Nat} {e : TypeId} {v : Value} {xs : List Value} (h : w.ownsRow base e 1 v n xs) (hb : base' ≤ base) : w.ownsRow base' e 1 v n xs := by
  refine ⟨h.1, ?_⟩
  rcases h.2 with h | ⟨g, cap, cur, rfl, hbg, rest⟩
  · exact .inl h
  · exact .inr ⟨g, cap, cur, rfl, Nat.le_trans hb hbg, rest⟩
/-- Bytes of one's own: they read as c, and lie in a block from base on. -/
structure Mine (w : World) (base : Nat) (v : Value) (c : List Nat) : Prop where
  own : w.ownsRow base 5 1 v c.length (bv c)
  h8 : Byt c
theorem Mine.later {w w' : World} {base : Nat} {v : Value} {c : List Nat} (h : Mine w base v c) (hb : Below w.heap.size w w') : Mine w' base v c :=
  ⟨own_kept h.own fun k hk => hb.block k (own_lt h.own k hk).2, h.h8⟩
theorem Mine.wide {w : World} {base base' : Nat} {v : Value} {c : List Nat} (h : Mine w base v c) (hb : base' ≤ base) : Mine w base' v c := ⟨own_base h.own hb, h.h8⟩
def From (base : Nat) (w : World) (k : Nat) : Prop := base ≤ k ∧ k < w.heap.size
theorem Mine.bs {w : World} {base : Nat} {v : Value} {c : List Nat} (h : Mine w base v c) : Bs w (From base w) v c := (own_bs h.own h.h8).wide fun k hk => own_lt h.own k hk
theorem Mine.form {w : World} {base : Nat} {v : Value} {c : List Nat} (h : Mine w base v c) : ∃ a cap, v = .slice a c.length cap := own_form h.own
theorem Mine.setOther {w : World} {base : Nat} {v : Value} {c : List Nat} (h : Mine w base v c) (p : Addr) (u : Value) (hp : p.block < base) : Mine (w.setCell p u) base v c :=
  ⟨own_kept h.own fun k hk => Below.heap_setCell w p u k (fun e => by have := (own_lt h.own k hk).1; omega), h.h8⟩

def OwnR (w : World) (x : Int) (c : List Nat) (e : Ending) (w' : World) : Prop := ∃ v, e = .returned (.agg #[.int .i64 x, v]) ∧ Mine w' w.heap.size v c ∧ Below w.heap.size w w'
theorem ownf_any (F : Nat → Prop) (v : Value) (x : Int) (c : List Nat) (w : World) (hv : Bs w F v c) (hF : ∀ k, F k → k < w.heap.size) (hlen : c.length ≤ 100000000) :
    Calls Tryd.prog 58 #[.agg #[.int .i64 x, v]] w (OwnR w x c) := by
  have h8 := hv.1
  have hb0 : Below w.heap.size w ((w.alloc (.cells #[.int .i64 x, v] 81)).alloc (.cells #[.int .i64 0, .slice none 0 0] 81)) := ((Below.refl _ _).alloc (Nat.le_refl _) _).alloc (by simp) _
  have hv1 := Lib.hid (hv.kept (Same.of_below hb0 hF))
  obtain ⟨_, a, cap, rfl, _, _⟩ := hv
  go_enter Tryd.func58, Tryd.ntmps58
  go_wp2_with fail
  refine (clone_any F _ c _ hv1.out (fun k hk => Nat.lt_of_lt_of_le (hF k hk) hb0.size) hlen).mono ?_
  rintro e w1 ⟨v', rfl, hown, hb1⟩
  have hb1 : Below ((w.alloc (.cells #[.int .i64 x, .slice a c.length cap] 81)).alloc (.cells #[.int .i64 0, .slice none 0 0] 81)).heap.size ((w.alloc (.cells #[.int .i64 x, .slice a c.length cap] 81)).alloc (.cells #[.int .i64 0, .slice none 0 0] 81)) w1 := hb1
  have B0 : Blk w1 w.heap.size [.int .i64 x, .slice a c.length cap] 81 := Blk.later (by
    show _ = _
    rw [Below.heap_alloc _ _ _ (by simp)]
    exact heap_alloc_new w _) hb1
  have B1 : Blk w1 (w.heap.size + 1) [.int .i64 0, .slice none 0 0] 81 := Blk.later (by
    have := heap_alloc_new (w.alloc (.cells #[.int .i64 x, .slice a c.length cap] 81)) (.cells #[.int .i64 0, .slice none 0 0] 81)
    rwa [World.size_alloc] at this) hb1
  have hm : Hid (Mine w1 (w.heap.size + 2) v' c) := ⟨by simpa using hown, h8⟩
  have bel := hb0.trans (hb1.mono (by simp; omega))
  have c1 := B0.cell 1 _ rfl
  have f1 := B0.free 1
  have c0 := B0.cell 0 _ rfl
  have d0 := B1.cell 0 _ rfl
  have d1 := B1.cell 1 _ rfl
  have g0 := B1.free 0
  have g1 := B1.free 1
  have b0 := B0.lt
  have b1 := B1.lt
  obtain ⟨a', cap', rfl⟩ := hm.out.form
  go_wp2
  refine bodyPost_ret (v := .agg #[.int .i64 x, .slice a' c.length cap']) (by simp [results, Tryd.results58, go_sem, c0, c1, d0, d1]) rfl ⟨_, rfl, ?_, ?_⟩
  · exact ((((hm.out.setOther _ _ (by simp)).setOther _ _ (by simp)).setOther _ _ (by simp)).wide (by omega))
  · exact ((bel.setCell (p := ⟨w.heap.size, 1, none⟩) (Nat.le_refl _) _).setCell (p := ⟨w.heap.size + 1, 0, none⟩) (Nat.le_succ _) _).setCell (p := ⟨w.heap.size + 1, 1, none⟩) (Nat.le_succ _) _

/-- What Next gives back. -/
def NextE (w : World) (k E : Nat) (c : List Nat) (e : Ending) (w' : World) : Prop :=
  ∃ v, e = .returned (.tuple #[.agg #[.int .i64 (lkX E k), v], .int .i64 (lkN E k c), .int .i64 (E : Nat)]) ∧ Mine w' w.heap.size v (lkC E c) ∧ Below w.heap.size w w'
def NextA (w : World) (b : List Nat) (x : Int) : Ending → World → Prop := NextE w x.toNat (lkE b x) (restC (b.drop x.toNat))
theorem lkC_len (E : Nat) (r : List Nat) : (lkC E (restC r)).length ≤ r.length := by
  unfold lkC
  split
  · unfold restC; rw [List.length_take, List.length_drop]; omega
  · exact Nat.zero_le _
end Go.Proofs.YtojeccmnhgcmcaaDoor.Frame
