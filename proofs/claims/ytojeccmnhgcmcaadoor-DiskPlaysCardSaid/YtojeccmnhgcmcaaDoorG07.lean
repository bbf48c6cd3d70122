/- Slices of slices of bytes; Join, Make. -/
import Derived.Test.YtojeccmnhgcmcaaDoorG06
namespace Go.Proofs.YtojeccmnhgcmcaaDoor.Frame
open Go.RowKit Go.ChangeShapes
open Crc (Hv more more_lt ret_u32)
set_option linter.unusedVariables false
set_option linter.unusedSimpArgs false

/-- A slice of slices of bytes that reads as L, in blocks of F. -/
def Bss (w : World) (F : Nat → Prop) (v : Value) (L : List (List Nat)) : Prop :=
  ∃ a cap, v = .slice a L.length cap ∧ L.length ≤ cap ∧ (0 < L.length → ∃ b off, a = some ⟨b, off, none⟩ ∧ F b ∧ ∀ i, i < L.length → ∃ s, w.cell? ⟨b, off + i, none⟩ = some s ∧ Bs w F s (L.getD i []))
theorem Bss.kept {w w' : World} {F : Nat → Prop} {v : Value} {L : List (List Nat)} (h : Bss w F v L) (hs : Same F w w') : Bss w' F v L := by
  obtain ⟨a, cap, hv, hcap, h⟩ := h
  refine ⟨a, cap, hv, hcap, fun hp => ?_⟩
  obtain ⟨b, off, ha, hF, hc⟩ := h hp
  refine ⟨b, off, ha, hF, fun i hi => ?_⟩
  obtain ⟨s, h1, h2⟩ := hc i hi
  exact ⟨s, (same_cell hs (p := ⟨b, off + i, none⟩) hF).trans h1, h2.kept hs⟩
theorem Bss.later {w w' : World} {F : Nat → Prop} {v : Value} {L : List (List Nat)} (h : Bss w F v L) (hF : ∀ k, F k → k < w.heap.size) (hb : Below w.heap.size w w') : Bss w' F v L := h.kept (Same.of_below hb hF)
theorem Bss.at_ {w : World} {F : Nat → Prop} {a : Option Addr} {n cap : Nat} {L : List (List Nat)} (h : Bss w F (.slice a n cap) L) (i : Nat) (hi : i < L.length) : ∃ b off s, a = some ⟨b, off, none⟩ ∧ F b ∧ w.cell? ⟨b, off + i, none⟩ = some s ∧ Bs w F s (L.getD i []) := by
  obtain ⟨a', cap', hv, _, h⟩ := h
  injection hv with e1 _ _
  subst e1
  obtain ⟨b, off, ha, hF, hc⟩ := h (by omega)
  obtain ⟨s, h1, h2⟩ := hc i hi
  exact ⟨b, off, s, ha, hF, h1, h2⟩
theorem Bss.nil (w : World) (F : Nat → Prop) : Bss w F (.slice none 0 0) [] := ⟨none, 0, rfl, Nat.le_refl _, fun hp => absurd hp (Nat.lt_irrefl 0)⟩
theorem Bss.byt {w : World} {F : Nat → Prop} {v : Value} {L : List (List Nat)} (h : Bss w F v L) : ∀ c ∈ L, Byt c := by
  intro c hc
  obtain ⟨i, hi, rfl⟩ := List.mem_iff_getElem.1 hc
  obtain ⟨a, cap, hv, hcap, h⟩ := h
  obtain ⟨b, off, ha, hF, hcell⟩ := h (by omega)
  obtain ⟨s, _, h2⟩ := hcell i hi
  have := h2.1
  rwa [List.getD_eq_getElem?_getD, List.getElem?_eq_getElem hi] at this

/-- A content that is too long, or too many. -/
def tooLong (L : List (List Nat)) : Prop := ∃ c ∈ L, 65536 < c.length
theorem rcs_take_succ (L : List (List Nat)) (k : Nat) (h : k < L.length) : rcs (L.take (k + 1)) = rcs (L.take k) ++ hd (L.getD k []) ++ L.getD k [] := by
  rw [List.take_succ_eq_append_getElem h, rcs_app, List.getD_eq_getElem?_getD, List.getElem?_eq_getElem h]
  show _ ++ (rc _ ++ []) = _
  rw [List.append_nil, List.append_assoc]
  rfl
theorem tot_le (L : List (List Nat)) (h : ∀ c ∈ L, c.length ≤ 65536) : tot L ≤ 65544 * L.length := by
  induction L with
  | nil => exact Nat.le_refl _
  | cons c L ih =>
    have h1 := h c (List.mem_cons_self ..)
    have h2 := ih fun d hd => h d (List.mem_cons_of_mem _ hd)
    show 8 + c.length + tot L ≤ 65544 * (L.length + 1)
    omega
theorem tot_take_le (L : List (List Nat)) (k : Nat) : tot (L.take k) ≤ tot L := by
  have h := tot_app (L.take k) (L.drop k)
  rw [List.take_append_drop] at h
  omega

def JoinR (w : World) (base : Nat) (l : List Nat) (er : Int) (e : Ending) (w' : World) : Prop := ∃ v, e = .returned (.tuple #[v, .int .i64 er]) ∧ Mine w' base v l ∧ Below w.heap.size w w'
theorem nil_mine (w : World) (base : Nat) : Mine w base (.slice none 0 0) [] := ⟨⟨rfl, .inl ⟨rfl, rfl⟩⟩, fun c hc => absurd hc List.not_mem_nil⟩
theorem join_many (F : Nat → Prop) (v : Value) (L : List (List Nat)) (w : World) (hv : Bss w F v L) (hL : 10000 < L.length) (hL2 : L.length ≤ 9223372036854775807) :
    Calls Tryd.prog 55 #[v] w (JoinR w w.heap.size [] 12) := by
  obtain ⟨a, cap, rfl, _⟩ := hv
  have hdm : decide ((10000 : Int) < (L.length : Int)) = true := by simp; omega
  have hL := Lib.hid hL
  go_enter Tryd.func55, Tryd.ntmps55
  go_wp2
  go_ret2
  exact ⟨_, rfl, nil_mine _ _, Below.refl _ _⟩

theorem getD_mem {L : List (List Nat)} {k : Nat} (h : k < L.length) : L.getD k [] ∈ L := by
  rw [List.getD_eq_getElem?_getD, List.getElem?_eq_getElem h]; exact List.getElem_mem h
theorem take_all {L : List (List Nat)} {k : Nat} (h : k < L.length) (P : List Nat → Prop) (h1 : ∀ c ∈ L.take k, P c) (h2 : P (L.getD k [])) : ∀ c ∈ L.take (k + 1), P c := by
  intro c hc
  rw [List.take_succ_eq_append_getElem h, List.mem_append] at hc
  rcases hc with hc | hc
  · exact h1 c hc
  · rw [List.mem_singleton] at hc
    subst hc
    rwa [List.getD_eq_getElem?_getD, List.getElem?_eq_getElem h] at h2
def Short (c : List Nat) : Prop := c.length ≤ 65536
set_option maxHeartbeats 1000000 in
theorem join_long (F : Nat → Prop) (v : Value) (L : List (List Nat)) (w : World) (hv : Bss w F v L) (hL : L.length ≤ 10000) (ht : ¬ ∀ c ∈ L, Short c) :
    Calls Tryd.prog 55 #[v] w (JoinR w w.heap.size [] 11) := by
  obtain ⟨a, cap, rfl, hcap, hc⟩ := hv
  have hdm : decide ((10000 : Int) < (L.length : Int)) = false := by simp; omega
  have HC := Lib.hid hc
  have HT := Lib.hid ht
  clear hc ht
  go_enter Tryd.func55, Tryd.ntmps55
  go_wp2
  go_loop [4, 16] (fun t i => ∃ k : Nat, k ≤ L.length ∧ i = .int .i64 k ∧ t = .int .i64 (tot (L.take k) : Nat) ∧ ∀ c ∈ L.take k, Short c) (fun _ i => L.length - (intOf i).toNat)
  case atStart => exact ⟨0, Nat.zero_le _, rfl, rfl, fun c hc => absurd hc List.not_mem_nil⟩
  case round =>
    obtain ⟨k, hk, rfl, rfl, hall⟩ := hrel
    by_cases hlt : k < L.length
    · obtain ⟨b, off, rfl, hFb, hcell⟩ := HC.out (by omega)
      obtain ⟨s, hs, hb⟩ := hcell k hlt
      have hn := tot_take_succ L k hlt
      have ha := fun h => take_all hlt Short hall h
      have hm := getD_mem hlt
      have ht1 : tot (L.take k) ≤ 65544 * k := by have := tot_le (L.take k) hall; rw [List.length_take] at this; omega
      generalize L.getD k [] = c at *
      obtain ⟨_, a', cap', rfl, _⟩ := (show Bs w F s c from hb)
      generalize tot (L.take k) = T at *
      have HN := Lib.hid hn
      have HA := Lib.hid ha
      have HALL := Lib.hid hall
      clear hn hcell ha hall
      by_cases hlong : c.length ≤ 65536
      · have hdl : decide ((65536 : Int) < (c.length : Int)) = false := by simp; omega
        have hT : T ≤ 655440000 := by omega
        go_wp2_with (go_at_call 37; refine (size_is _ F c _ hb (by omega)).mono ?_; rintro e w' ⟨rfl, rfl⟩)
        go_round
        case rel => exact ⟨k + 1, by omega, by go_num, by rw [HN.out]; go_num, HA.out hlong⟩
        case measure => simp [intOf]; omega
      · have hdl : decide ((65536 : Int) < (c.length : Int)) = true := by simp; omega
        have hlong := Lib.hid hlong
        go_wp2
        go_ret2
        exact ⟨_, rfl, nil_mine _ _, Below.refl _ _⟩
    · obtain rfl : k = L.length := by omega
      exact absurd (by rwa [List.take_length] at hall) HT.out

/-- The state between two rounds of the second loop. -/
structure JAt (w : World) (L : List (List Nat)) (k : Nat) (v : Value) (wr : World) : Prop where
  mine : Mine wr w.heap.size v (rcs (L.take k))
  bel : Below w.heap.size w wr
theorem Blk.bs {w : World} {g cap : Nat} {l : List Nat} {e : TypeId} (h : Blk w g (bv l) e) (h8 : Byt l) (hc : l.length ≤ cap) : Bs w (· = g) (.slice (some ⟨g, 0, none⟩) l.length cap) l :=
  ⟨h8, _, _, rfl, hc, fun _ => ⟨g, 0, rfl, rfl, fun i hi => by rw [Nat.zero_add]; exact h.cell i _ (bv_at l i hi)⟩⟩
theorem hd_byt (c : List Nat) : Byt (hd c) := Byt.app (be4_lt _) (be4_lt _)
theorem mine_app {w w' : World} {base n : Nat} {v v' : Value} {l m : List Nat} (h : Mine w base v l) (hm : Byt m) (ho : w'.ownsRow base 5 1 v' n (bv l ++ bv m)) : Mine w' base v' (l ++ m) := by
  have hn : n = (l ++ m).length := by have := ho.1; rw [bv_app, bv_len] at this; omega
  subst hn
  rw [bv_app] at ho
  exact ⟨ho, Byt.app h.h8 hm⟩
theorem grown_bel {B n : Nat} {w0 w w' : World} {e : TypeId} {v : Value} {xs : List Value} (hb : Below B w0 w) (hown : w.ownsRow B e 1 v n xs) (hg : w.grownBy w' v.ownBlock) (hB : B ≤ w.heap.size) : Below B w0 w' :=
  hb.grown hg hB (fun k hk => (own_lt hown k hk).1)
theorem hd_hi (c : List Nat) : (Tryd.prog.info? 90).map (·.size) = some (bv (hd c)).toArray.size := by kernel_rfl
theorem hd_one (c : List Nat) : (bv (hd c)).toArray.all (·.oneCell') = true := by kernel_rfl
theorem heap_setRow_new (w : World) (cs0 cs : Array Value) (T : TypeId) : ((w.alloc (.cells cs0 T)).setRow w.heap.size cs).heap[w.heap.size]? = some (.cells cs T (0, 0)) := setRow_heap _ _ cs0 _ _ _ (heap_alloc_new w _)
theorem below_newRow (w : World) (cs0 cs : Array Value) (T : TypeId) : Below w.heap.size w ((w.alloc (.cells cs0 T)).setRow w.heap.size cs) := below_setRow ((Below.refl _ _).alloc (Nat.le_refl _) _) (Nat.le_refl _) _

set_option maxRecDepth 100000 in
set_option maxHeartbeats 1000000 in
theorem join_ok (F : Nat → Prop) (v : Value) (L : List (List Nat)) (w : World) (hv : Bss w F v L) (hF : ∀ k, F k → k < w.heap.size) (hH : Hv w) (hL : L.length ≤ 10000) (ht : ∀ c ∈ L, Short c) :
    Calls Tryd.prog 55 #[v] w (JoinR w w.heap.size (rcs L) 0) := by
  obtain ⟨a, cap, rfl, hcap, hc⟩ := hv
  obtain ⟨i0, hi, hz0, hz1, hz2⟩ := info_parts info_u8
  have hdm : decide ((10000 : Int) < (L.length : Int)) = false := by simp; omega
  have htot := tot_le L ht
  have HC := Lib.hid hc
  have HT := Lib.hid ht
  clear hc ht
  go_enter Tryd.func55, Tryd.ntmps55
  go_wp2
  go_loop [4, 16] (fun t i => ∃ k : Nat, k ≤ L.length ∧ i = .int .i64 k ∧ t = .int .i64 (tot (L.take k) : Nat)) (fun _ i => L.length - (intOf i).toNat)
  case atStart => exact ⟨0, Nat.zero_le _, rfl, rfl⟩
  case round =>
    obtain ⟨k, hk, rfl, rfl⟩ := hrel
    by_cases hlt : k < L.length
    · obtain ⟨b, off, rfl, hFb, hcell⟩ := HC.out (by omega)
      obtain ⟨s, hs, hb⟩ := hcell k hlt
      have hn := tot_take_succ L k hlt
      have hm : (L.getD k []).length ≤ 65536 := HT.out _ (getD_mem hlt)
      have ht1 : tot (L.take k) ≤ 655440000 := by have := tot_take_le L k; omega
      generalize L.getD k [] = c at *
      obtain ⟨_, a', cap', rfl, _⟩ := (show Bs w F s c from hb)
      generalize tot (L.take k) = T at *
      have HN := Lib.hid hn
      clear hn hcell
      have hdl : decide ((65536 : Int) < (c.length : Int)) = false := by simp; omega
      go_wp2_with (go_at_call 37; refine (size_is _ F c _ hb (by omega)).mono ?_; rintro e w' ⟨rfl, rfl⟩)
      go_round
      case rel => exact ⟨k + 1, by omega, by go_num, by rw [HN.out]; go_num⟩
      case measure => simp [intOf]; omega
    · obtain rfl : k = L.length := by omega
      rw [List.take_length]
      have htot2 : tot L ≤ 655440000 := by omega
      obtain ⟨T, hT⟩ : ∃ T, tot L = T := ⟨_, rfl⟩
      rw [hT] at htot2
      rw [hT]
      have hT := Lib.hid hT
      clear htot
      go_wp2_with (first
        | (at_make; refine wpList_make_own _ rfl _ _ 29 rfl w.heap.size 5 i0 (.int .u8 0) 1 Tryd.underlying29 hi hz0 hz1 _ _ _ T rfl rfl rfl (by rw [hz2]; omega) (by unfold maxLen; omega) (Nat.le_refl _) ?_; intro w1 hown hg1))
      have hfirst : JAt w L 0 (.slice (some ⟨w.heap.size, 0, none⟩) 0 T) w1 := ⟨⟨hown, fun c hc => absurd hc List.not_mem_nil⟩, (Below.refl _ _).grown hg1 (Nat.le_refl _) (fun _ h => by cases h)⟩
      clear hown hg1
      go_loopw [7, 32] (fun u i wr => ∃ k : Nat, k ≤ L.length ∧ i = .int .i64 k ∧ JAt w L k u wr) (fun _ i _ => L.length - (intOf i).toNat)
      case atStart => exact ⟨0, Nat.zero_le _, rfl, hfirst⟩
      case round =>
        obtain ⟨k, hk, rfl, hJ⟩ := hrel
        by_cases hlt : k < L.length
        · obtain ⟨b, off, rfl, hFb, hcell⟩ := HC.out (by omega)
          obtain ⟨s, hs, hb⟩ := hcell k hlt
          have hb0 := Lib.hid hb
          have hs : wr.cell? ⟨b, off + k, none⟩ = some s := (hJ.bel.cell (p := ⟨b, off + k, none⟩) (hF _ hFb)).trans hs
          have hb := hb.kept (Same.of_below hJ.bel hF)
          have hFr : ∀ k, F k → k < wr.heap.size := fun k hk => Nat.lt_of_lt_of_le (hF k hk) hJ.bel.size
          have hHr := hv_later hH hJ.bel
          have hn := rcs_take_succ L k hlt
          have hm : (L.getD k []).length ≤ 65536 := HT.out _ (getD_mem hlt)
          have ht1 : (rcs (L.take k)).length ≤ 655440000 := by rw [rcs_len]; have := tot_take_le L k; have := hT.out; omega
          have hmine := hJ.mine
          have hbel := hJ.bel
          generalize L.getD k [] = c at *
          obtain ⟨_, a', cap', rfl, _⟩ := (show Bs wr F s c from hb)
          have HJ : ∀ v w', Mine w' w.heap.size v (rcs (L.take k) ++ hd c ++ c) → Below w.heap.size w w' → JAt w L (k + 1) v w' := fun v w' h1 h2 => ⟨by rw [hn]; exact h1, h2⟩
          generalize rcs (L.take k) = R at *
          obtain ⟨R2, hR2⟩ : ∃ R2, R ++ hd c = R2 := ⟨_, rfl⟩
          rw [hR2] at HJ
          have hR2l : R2.length ≤ 700000000 := by rw [← hR2, List.length_append, hd_len]; omega
          replace HJ := Lib.hid HJ
          replace hR2 := Lib.hid hR2
          have h8c := hb.1
          clear hn hcell hJ hfirst
          obtain ⟨a2, cap2, rfl⟩ := hmine.form
          have hmine := Lib.hid hmine
          go_wp2_with fail
          refine (headOf_any _ F c _ hb hFr hm hHr).mono ?_
          rintro e w1 ⟨rfl, hb1⟩
          have hb2 := hb1.trans ((below_newRow w1 z8 (bv (hd c)).toArray 90).mono hb1.size)
          have m2 := Lib.hid (hmine.out.later hb2)
          have bel2 := hbel.trans (hb2.mono hbel.size)
          have B2 : Blk ((w1.alloc (.cells z8 90)).setRow w1.heap.size (bv (hd c)).toArray) w1.heap.size (bv (hd c)) 90 := heap_setRow_new _ _ _ _
          have bs2 := Lib.hid (B2.bs (hd_byt c) (Nat.le_refl 8))
          clear B2
          go_wp2_with (first
            | (refine wpList_store_row rfl 90 _ _ rfl w1.heap.size (bv (hd c)).toArray rfl rfl 90 _ (heap_alloc_new w1 _) (hd_hi c) rfl (hd_one c) ?_)
            | (at_builtin; refine wpList_append_b rfl _ _ rfl w.heap.size _ R.length (bv R) rfl m2.out.own _ (some ⟨w1.heap.size, 0, none⟩) 8 8 (hd c) rfl bs2.out (by omega) bel2.size ?_; intro v3 w3 hown3 hg3 _; have m3 := mine_app m2.out (hd_byt c) hown3; rw [hR2.out] at m3; have bel3 := grown_bel bel2 m2.out.own hg3 bel2.size; clear hown3 hg3; obtain ⟨a3, cap3, rfl⟩ := m3.form; have m3 := Lib.hid m3)
            | (at_builtin; refine wpList_append_b rfl _ _ rfl w.heap.size _ R2.length (bv R2) rfl m3.out.own _ a' c.length cap' c rfl (hb0.out.kept (Same.of_below bel3 hF)) (by omega) bel3.size ?_; intro v4 w4 hown4 hg4 _; have m4 := mine_app m3.out h8c hown4; have bel4 := grown_bel bel3 m3.out.own hg4 bel3.size; clear hown4 hg4))
          go_roundw
          case rel => exact ⟨k + 1, by omega, by go_num, HJ.out _ _ m4 bel4⟩
          case measure => simp [intOf]; omega
        · obtain rfl : k = L.length := by omega
          have hm := hJ.mine
          have hbel := hJ.bel
          rw [List.take_length] at hm
          obtain ⟨a2, cap2, rfl⟩ := hm.form
          have hm := Lib.hid hm
          clear hJ
          go_wp2
          go_ret2
          exact ⟨_, rfl, hm.out, hbel⟩
end Go.Proofs.YtojeccmnhgcmcaaDoor.Frame
