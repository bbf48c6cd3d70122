/- The walk of NumMany. -/
import Derived.Test.YthippkbaehcfeaaC13
import Derived.Test.YthippkbaehcfeaaC10
import Derived.Lib.SliceRun
namespace Go.Proofs.Ythippkbaehcfeaa.Num
open Go.RowKit Go.ChangeShapes
set_option linter.unusedVariables false

/-! A block that is known whole, and stores into it. -/
def Blk (w : World) (g : Nat) (cur : List Value) (e : TypeId) : Prop := w.heap[g]? = some (.cells cur.toArray e (0, 0))
theorem Blk.cell {w : World} {g : Nat} {cur : List Value} {e : TypeId} (h : Blk w g cur e) (i : Nat) (v : Value) (hv : cur[i]? = some v) : w.cell? ⟨g, i, none⟩ = some v := blk_cell h i v hv
theorem Blk.free {w : World} {g : Nat} {cur : List Value} {e : TypeId} (h : Blk w g cur e) (i : Nat) : w.frozen? ⟨g, i, none⟩ = false := by
  unfold Blk at h
  simp [World.frozen?, h]
theorem Blk.set {w : World} {g : Nat} {cur : List Value} {e : TypeId} (h : Blk w g cur e) (i : Nat) (v : Value) : Blk (w.setCell ⟨g, i, none⟩ v) g (cur.set i v) e := by
  unfold Blk at *
  simp [World.setCell, Array.getElem?_modify, h]
theorem Blk.lt {w : World} {g : Nat} {cur : List Value} {e : TypeId} (h : Blk w g cur e) : g < w.heap.size := (Array.getElem?_eq_some_iff.1 h).1
theorem Blk.later {w w' : World} {g : Nat} {cur : List Value} {e : TypeId} (h : Blk w g cur e) (hb : Below w.heap.size w w') : Blk w' g cur e := by
  have hlt := h.lt
  unfold Blk at *
  rw [hb.block g hlt]; exact h
theorem Blk.setCells {g : Nat} {e : TypeId} : ∀ (vs : List Value) (o : Nat) (w : World) (cur : List Value), Blk w g cur e → o + vs.length ≤ cur.length → Blk (w.setCells g o vs) g (cur.take o ++ vs ++ cur.drop (o + vs.length)) e
  | [], o, w, cur, h, hl => by simpa [World.setCells] using h
  | v :: vs, o, w, cur, h, hl => by
    simp only [List.length_cons] at hl
    have := Blk.setCells vs (o + 1) _ _ (h.set o v) (by simp; omega)
    have e1 : (cur.set o v).take (o + 1) = cur.take o ++ [v] := by
      rw [List.take_succ_eq_append_getElem (by simp; omega), List.take_set_of_le (Nat.le_refl _)]
      simp
    have e2 : (cur.set o v).drop (o + 1 + vs.length) = cur.drop (o + (vs.length + 1)) := by
      rw [List.drop_set_of_lt (by omega)]; congr 1; omega
    rw [e1, e2] at this
    simpa [World.setCells] using this
theorem Blk.clear {w : World} {g : Nat} {e : TypeId} {cur : List Value} (h : Blk w g cur e) (v : Value) : Blk (w.setCells g 0 (List.replicate cur.length v)) g (List.replicate cur.length v) e := by
  have := Blk.setCells (List.replicate cur.length v) 0 w cur h (by simp)
  simpa using this
theorem Blk.list {w : World} {g n : Nat} {l : List Int} (h : Blk w g (ints l) 2) (hn : n = l.length) : IsList w (.slice (some ⟨g, 0, none⟩) n n) l := blk_list h hn
theorem below_setCells {B g : Nat} {w0 : World} (hB : B ≤ g) : ∀ (vs : List Value) (o : Nat) (w : World), Below B w0 w → Below B w0 (w.setCells g o vs)
  | [], _, _, h => h
  | v :: vs, o, w, h => below_setCells hB vs (o + 1) _ (h.setCell hB v)

/-! Plain: sums of lists. -/
theorem sum_set : ∀ (l : List Int) (i : Nat) (v : Int), i < l.length → (l.set i v).sum = l.sum + v - l.getD i 0
  | z :: l, 0, v, _ => by simp; omega
  | z :: l, i + 1, v, h => by
    have := sum_set l i v (by simpa using h)
    simp only [List.set_cons_succ, List.sum_cons, this, List.getD_cons_succ]
    omega
theorem sum_rep (N : Nat) (q : Int) : (List.replicate N q).sum = q * (N : Int) := by
  induction N with
  | zero => simp
  | succ N ih => rw [List.replicate_succ, List.sum_cons, ih, Int.natCast_succ, Int.mul_add]; omega
theorem rep_ok (N : Nat) (q : Int) (h : Ok q) : ∀ z ∈ List.replicate N q, Ok z := by intro z hz; rw [List.eq_of_mem_replicate hz]; exact h
theorem set_ok {l : List Int} (h : ∀ z ∈ l, Ok z) (i : Nat) {v : Int} (hv : Ok v) : ∀ z ∈ l.set i v, Ok z := by
  intro z hz
  rcases List.mem_or_eq_of_mem_set hz with h1 | rfl
  · exact h z h1
  · exact hv
theorem ok_get {l : List Int} (h : ∀ z ∈ l, Ok z) : ∀ i, i < l.length → I64 (l.getD i 0) := by
  intro i hi
  refine ok_i64 (h _ ?_)
  rw [List.getD_eq_getElem?_getD, List.getElem?_eq_getElem hi]
  exact List.getElem_mem _

/-- The sum of a list whose elements are allowed. -/
theorem sum_is (v : Value) (l : List Int) (x e : Int) (w : World) (h : IsList w v l) (hz : ∀ i, i < l.length → I64 (l.getD i 0)) (hx : sumV l = x) (he : sumE l = e) :
    Calls Try.prog 24 #[v] w fun r w' => r = .returned (.tuple #[.int .i64 x, .int .i64 e]) ∧ Below w.heap.size w w' := by
  rw [← hx, ← he]; exact sum_list v l w h hz
theorem sum_good {l : List Int} (hn : l.length ≤ 10000) (h : ∀ z ∈ l, Ok z) (hs : Ok l.sum) : sumV l = l.sum ∧ sumE l = 0 := by
  have e := sumB_good h
  rw [okB_t hs] at e
  refine ⟨?_, ?_⟩
  · unfold sumV; rw [if_neg (by omega), e]; rfl
  · unfold sumE; rw [if_neg (by omega), e]; rfl
theorem sum_over {l : List Int} (hn : l.length ≤ 10000) (h : ∀ z ∈ l, Ok z) (hs : ¬ Ok l.sum) : sumV l = 0 ∧ sumE l = 7 := by
  have e := sumB_good h
  rw [okB_f hs] at e
  refine ⟨?_, ?_⟩
  · unfold sumV; rw [if_neg (by omega), e]; rfl
  · unfold sumE; rw [if_neg (by omega), e]; rfl
theorem sum_long {l : List Int} (hn : 10000 < l.length) : sumV l = 0 ∧ sumE l = 12 := by
  refine ⟨?_, ?_⟩
  · unfold sumV; rw [if_pos hn]
  · unfold sumE; rw [if_pos hn]

/-- The lists of NumMany. -/
def mL2 (N : Nat) : List Int := ((List.replicate N 0).set 0 1152921504606846971).set (N - 1) 5
def mL3 (N : Nat) : List Int := (mL2 N).set 1 1
theorem mL2_len (N : Nat) : (mL2 N).length = N := by simp [mL2]
theorem mL3_len (N : Nat) : (mL3 N).length = N := by simp [mL3, mL2_len]
theorem mL2_ok (N : Nat) : ∀ z ∈ mL2 N, Ok z := set_ok (set_ok (rep_ok N 0 (by unfold Ok; omega)) 0 (by unfold Ok; omega)) _ (by unfold Ok; omega)
theorem mL3_ok (N : Nat) : ∀ z ∈ mL3 N, Ok z := set_ok (mL2_ok N) 1 (by unfold Ok; omega)
theorem mL2_sum (N : Nat) (h : 3 ≤ N) : (mL2 N).sum = 1152921504606846976 := by
  unfold mL2
  rw [sum_set _ _ _ (by simp; omega), sum_set _ _ _ (by simp; omega), sum_rep]
  have e1 : (List.replicate N (0 : Int)).getD 0 0 = 0 := by simp [List.getD_eq_getElem?_getD, List.getElem?_replicate]; split <;> rfl
  have e2 : ((List.replicate N (0 : Int)).set 0 1152921504606846971).getD (N - 1) 0 = 0 := by
    rw [List.getD_eq_getElem?_getD, List.getElem?_set_ne (by omega), List.getElem?_replicate]; split <;> rfl
  rw [e1, e2]; simp
theorem mL3_sum (N : Nat) (h : 3 ≤ N) : (mL3 N).sum = 1152921504606846977 := by
  unfold mL3
  rw [sum_set _ _ _ (by rw [mL2_len]; omega), mL2_sum N h]
  have e2 : (mL2 N).getD 1 0 = 0 := by
    unfold mL2
    rw [List.getD_eq_getElem?_getD, List.getElem?_set_ne (by omega), List.getElem?_set_ne (by omega), List.getElem?_replicate]; split <;> rfl
  rw [e2]; omega


structure ManyAt (w : World) (g N : Nat) (q : Int) (k : Nat) (wr : World) : Prop where
  blk : Blk wr g (ints (List.replicate k q ++ List.replicate (N - k) 0)) 2
  bel : Below w.heap.size w wr

theorem many_next {w wr : World} {g N : Nat} {q : Int} {k : Nat} (h : ManyAt w g N q k wr) (hk : k < N) (hg : w.heap.size ≤ g) : ManyAt w g N q (k + 1) (wr.setCell ⟨g, k, none⟩ (.int .i64 q)) := by
  refine ⟨?_, h.bel.setCell hg _⟩
  have := h.blk.set k (.int .i64 q)
  have e : (ints (List.replicate k q ++ List.replicate (N - k) 0)).set k (.int .i64 q) = ints (List.replicate (k + 1) q ++ List.replicate (N - (k + 1)) 0) := by
    unfold ints
    rw [← List.map_set, List.set_append_right _ _ (by simp)]
    have e1 : N - k = (N - (k + 1)) + 1 := by omega
    rw [List.length_replicate, Nat.sub_self, e1, List.replicate_succ, List.set_cons_zero, List.replicate_succ' , List.append_assoc]
    rfl
  rw [e] at this
  exact this

theorem made_rep (v : Value) (n : Nat) : (madeCells #[v] n).toList = List.replicate n v := by
  apply List.ext_getElem
  · simp [madeCells]
  · intro i h1 h2
    simp [madeCells, Nat.mod_one]

/-- The exit of the loop: all N numbers are q. -/
theorem many_full {w wr : World} {g N : Nat} {q : Int} (h : ManyAt w g N q N wr) : Blk wr g (ints (List.replicate N q)) 2 := by
  have := h.blk
  rwa [Nat.sub_self, List.replicate_zero, List.append_nil] at this

set_option maxRecDepth 100000 in
set_option maxHeartbeats 4000000 in
theorem many_go (a b C q : Int) (N : Nat) (w : World) (ib : Hid (I64 b)) (ec : Hid (cutV b = C)) (hq : C.tdiv 20000 = q) (hqb : -57646075230343 ≤ q ∧ q ≤ 57646075230343) (hN : 9998 ≤ N ∧ N ≤ 10001) (K : Int) (e1 : a % 4 - 2 = K) (e2 : 10000 + K = (N : Int)) (ha : 0 ≤ a ∧ a ≤ 255) (hC : -1152921504606846976 ≤ C ∧ C ≤ 1152921504606846976) :
    Calls Try.prog 12 #[.int .u8 a, .int .i64 b] w fun e w' => e = .returned (.bool true) ∧ Below w.heap.size w w' := by
  obtain ⟨i0, hi, hz0, hz1, hz2⟩ := info_parts info_i64
  go_enter Try.func12, Try.ntmps12
  go_wp2_with (first
    | (at_make; refine wpList_make_full _ rfl _ _ 28 rfl w.heap.size 2 i0 (.int .i64 0) 1 Try.underlying28 hi hz0 hz1 _ _ _ _ N rfl rfl rfl rfl (by rw [hz2]; omega) (by unfold maxLen; omega) (Nat.le_refl _) ?_; intro w1 hown hg1; obtain ⟨cur, hcl, hct, _, hblk⟩ := own_block hown; have hb1 : Below w.heap.size w w1 := (Below.refl _ _).grown hg1 (Nat.le_refl _) (fun _ h => by cases h); clear hown hg1))
  have hfirst : ManyAt w w.heap.size N q 0 w1 := by
    refine ⟨?_, hb1⟩
    rw [List.take_of_length_le (by omega)] at hct
    have e : cur = ints (List.replicate 0 q ++ List.replicate (N - 0) 0) := by
      rw [hct, Nat.mul_one]
      show (madeCells #[.int .i64 0] N).toList = _
      rw [made_rep]
      simp [ints]
    rw [← e]
    exact hblk.out
  clear hblk hb1 hct
  go_loopw [23] (fun i wr => ∃ k : Nat, k ≤ N ∧ i = .int .i64 k ∧ ManyAt w w.heap.size N q k wr) (fun i _ => N - (intOf i).toNat)
  case atStart => exact ⟨0, Nat.zero_le _, rfl, hfirst⟩
  case round =>
    obtain ⟨k, hk, rfl, hs⟩ := hrel
    by_cases hlt : k < N
    · have g1 : wr.cell? ⟨w.heap.size, k, none⟩ = some (.int .i64 0) := by
        refine hs.blk.cell k _ ?_
        simp [ints, List.getElem?_append_right, List.getElem?_replicate]
        omega
      have g2 : wr.frozen? ⟨w.heap.size, k, none⟩ = false := hs.blk.free k
      have hn := many_next hs hlt (Nat.le_refl _)
      go_wp2_with (first
        | (go_at_call 35; refine (cut_to b C _ ib.out ec.out).mono ?_; rintro e w' ⟨rfl, rfl⟩))
      go_roundw
      case rel => exact ⟨k + 1, by omega, by go_num, hn⟩
      case measure => simp [intOf]; omega
    · obtain rfl : k = N := by omega
      have hblk := many_full hs
      have hbel := hs.bel
      have hL := hblk.list (n := k) (by simp)
      have hok := rep_ok k q (by unfold Ok; omega)
      clear hs hk hfirst
      have hl0 : (List.replicate k q).length = k := by simp
      rcases (by omega : 0 < K ∧ 10000 < k ∨ K ≤ 0 ∧ k ≤ 10000) with ⟨hK1, hK2⟩ | ⟨hK1, hK2⟩
      all_goals have hk3 : 9998 ≤ k := hN.1
      all_goals clear e1 e2 hN
      · have hp : 0 < k := by omega
        have b12 := sum_long (l := List.replicate k q) (by simp; omega)
        have b12' := sum_long (l := (List.replicate k q).set 0 1152921504606846977) (by simp; omega)
        have hz := ok_get hok
        have hz2 : ∀ i, i < ((List.replicate k q).set 0 1152921504606846977).length → I64 (((List.replicate k q).set 0 1152921504606846977).getD i 0) := by
          intro i hi
          rw [List.getD_eq_getElem?_getD, List.getElem?_set]
          split
          · split
            · show I64 1152921504606846977; unfold I64; omega
            · show I64 0; unfold I64; omega
          · rw [← List.getD_eq_getElem?_getD]; exact hz i (by simpa using hi)
        have hz := Lib.hid hz
        have hz2 := Lib.hid hz2
        have B1 := Lib.hid b12
        have B2 := Lib.hid b12'
        have Hlen := Lib.hid hl0
        clear b12 b12' hl0
        generalize hR : List.replicate k q = R at *
        clear hR
        go_wp2_with fail
        refine (sum_is _ R 0 12 _ hL hz.out B1.out.1 B1.out.2).mono ?_
        rintro e w2 ⟨rfl, hb2⟩
        have blk2 := hblk.later hb2
        have bel2 := hbel.trans (hb2.mono hbel.size)
        have g1 : w2.cell? ⟨w.heap.size, 0, none⟩ = some (.int .i64 (R.getD 0 0)) := blk2.cell 0 _ (by have := Hlen.out; simp [ints, List.getD_eq_getElem?_getD, List.getElem?_eq_getElem (show 0 < R.length by omega)])
        have g2 : w2.frozen? ⟨w.heap.size, 0, none⟩ = false := blk2.free 0
        have blk3 := blk2.set 0 (.int .i64 1152921504606846977)
        have bel3 := bel2.setCell (p := ⟨w.heap.size, 0, none⟩) (Nat.le_refl _) (.int .i64 1152921504606846977)
        have hL3 : IsList (w2.setCell ⟨w.heap.size, 0, none⟩ (.int .i64 1152921504606846977)) (.slice (some ⟨w.heap.size, 0, none⟩) k k) (R.set 0 1152921504606846977) := by
          refine Blk.list ?_ (by have := Hlen.out; simp; omega)
          unfold ints
          rw [List.map_set]
          exact blk3
        go_wp2_with fail
        refine (sum_is _ (R.set 0 1152921504606846977) 0 12 _ hL3 hz2.out B2.out.1 B2.out.2).mono ?_
        rintro e w4 ⟨rfl, hb4⟩
        have bel4 := bel3.trans (hb4.mono bel3.size)
        go_wp2_with (first | (go_at_call 21; refine (works_any _).mono ?_; rintro e w5 ⟨rfl, hb5⟩; have bel5 := bel4.trans (hb5.mono bel4.size)))
        go_ret
        exact ⟨rfl, bel5⟩
      · have hp : 0 < k := by omega
        have hqk : Ok (q * (k : Int)) := by
          have h1 : q.natAbs ≤ 57646075230343 := by omega
          have h3 := Nat.mul_le_mul h1 hK2
          have h4 : (q * (k : Int)).natAbs = q.natAbs * k := by rw [Int.natAbs_mul]; simp
          rw [← h4] at h3
          unfold Ok
          generalize q * (k : Int) = P at *
          omega
        have nm : IntKind.i64.wrap (q * (k : Int)) = q * (k : Int) := IntWalk.i64_in _ (ok_i64 hqk)
        have b1 := sum_good (l := List.replicate k q) (by simp; omega) hok (by rw [sum_rep]; exact hqk)
        rw [sum_rep] at b1
        have b2 := sum_good (l := mL2 k) (by rw [mL2_len]; omega) (mL2_ok k) (by rw [mL2_sum k (by omega)]; unfold Ok; omega)
        rw [mL2_sum k (by omega)] at b2
        have b3 := sum_over (l := mL3 k) (by rw [mL3_len]; omega) (mL3_ok k) (by rw [mL3_sum k (by omega)]; unfold Ok; omega)
        have B1 := Lib.hid b1
        have B2 := Lib.hid b2
        have B3 := Lib.hid b3
        have hz := Lib.hid (ok_get hok)
        clear b1 b2 b3 hqk
        have hnat : ((k : Int) - 1).toNat = k - 1 := by omega
        generalize hR : List.replicate k q = R at *
        clear hR hok
        go_wp2_with fail
        refine (sum_is _ R (q * (k : Int)) 0 _ hL hz.out B1.out.1 B1.out.2).mono ?_
        rintro e w2 ⟨rfl, hb2⟩
        have blk2 := hblk.later hb2
        have bel2 := hbel.trans (hb2.mono hbel.size)
        have hlen2 : (ints R).length = k := by rw [ints_len]; exact hl0
        have hcl0 := fun ty => Lib.run_clear_slice (P := Try.prog) w2 28 2 ty (.int .i64 0) Try.underlying28 (fun w => by kernel_rfl) rfl rfl w.heap.size 0 k k hp
          (fun j hj => by rw [Nat.zero_add, blk2.cell j _ (List.getElem?_eq_getElem (show j < (ints R).length by rw [hlen2]; exact hj))]; rfl)
          (fun j hj => blk2.free _)
        have blk3 := blk2.clear (.int .i64 0)
        rw [hlen2] at blk3
        have bel3 := below_setCells (g := w.heap.size) (Nat.le_refl _) (List.replicate k (Value.int .i64 0)) 0 w2 bel2
        obtain ⟨w3, hw3⟩ : ∃ w3, w2.setCells w.heap.size 0 (List.replicate k (Value.int .i64 0)) = w3 := ⟨_, rfl⟩
        rw [hw3] at blk3 bel3 hcl0
        clear hw3
        have cz : ∀ j, j < k → w3.cell? ⟨w.heap.size, j, none⟩ = some (.int .i64 0) := fun j hj => blk3.cell j _ (by simp [hj])
        have g1 := cz 0 hp
        have g2 : w3.frozen? ⟨w.heap.size, 0, none⟩ = false := blk3.free 0
        have blk4 := blk3.set 0 (.int .i64 1152921504606846971)
        have g3 : (w3.setCell ⟨w.heap.size, 0, none⟩ (.int .i64 1152921504606846971)).cell? ⟨w.heap.size, k - 1, none⟩ = some (.int .i64 0) := blk4.cell _ _ (by
          rw [List.getElem?_set_ne (by omega)]; simp [List.getElem?_replicate]; omega)
        have g4 : (w3.setCell ⟨w.heap.size, 0, none⟩ (.int .i64 1152921504606846971)).frozen? ⟨w.heap.size, k - 1, none⟩ = false := blk4.free _
        have blk5 := blk4.set (k - 1) (.int .i64 5)
        have bel5 := (bel3.setCell (p := ⟨w.heap.size, 0, none⟩) (Nat.le_refl _) (.int .i64 1152921504606846971)).setCell (p := ⟨w.heap.size, k - 1, none⟩) (Nat.le_refl _) (.int .i64 5)
        have e5 : ((List.replicate k (Value.int .i64 0)).set 0 (.int .i64 1152921504606846971)).set (k - 1) (.int .i64 5) = ints (mL2 k) := by
          unfold mL2 ints
          rw [List.map_set, List.map_set, List.map_replicate]
        rw [e5] at blk5
        have hL5 := blk5.list (n := k) (mL2_len k).symm
        have G1 := Lib.hid bel5
        have G2 := Lib.hid hL5
        have G3 := Lib.hid blk5
        clear blk3 blk4 e5 cz bel3 bel2 blk2 bel5 hL5 blk5
        go_wp2_with (first
          | (go_at_call 35; refine (cut_to b C _ ib.out ec.out).mono ?_; rintro e w' ⟨rfl, rfl⟩))
        refine (sum_is _ (mL2 k) 1152921504606846976 0 _ G2.out (ok_get (mL2_ok k)) B2.out.1 B2.out.2).mono ?_
        rintro e w6 ⟨rfl, hb6⟩
        have blk6 := G3.out.later hb6
        have bel6 := G1.out.trans (hb6.mono G1.out.size)
        have g5 : w6.cell? ⟨w.heap.size, 1, none⟩ = some (.int .i64 ((mL2 k).getD 1 0)) := blk6.cell 1 _ (by
          have := mL2_len k
          simp [ints, List.getD_eq_getElem?_getD, List.getElem?_eq_getElem (show 1 < (mL2 k).length by omega)])
        have g6 : w6.frozen? ⟨w.heap.size, 1, none⟩ = false := blk6.free 1
        have blk7 := blk6.set 1 (.int .i64 1)
        have bel7 := bel6.setCell (p := ⟨w.heap.size, 1, none⟩) (Nat.le_refl _) (.int .i64 1)
        have hL7 : IsList (w6.setCell ⟨w.heap.size, 1, none⟩ (.int .i64 1)) (.slice (some ⟨w.heap.size, 0, none⟩) k k) (mL3 k) := by
          refine Blk.list ?_ (mL3_len k).symm
          unfold mL3 ints
          rw [List.map_set]
          exact blk7
        have G7 := Lib.hid bel7
        have G8 := Lib.hid hL7
        have hk1 : (1 : Int) < (k : Int) := by omega
        clear blk6 bel6 blk7 bel7 hL7 g1 g2 g3 g4 hcl0
        go_wp2_with fail
        refine (sum_is _ (mL3 k) 0 7 _ G8.out (ok_get (mL3_ok k)) B3.out.1 B3.out.2).mono ?_
        rintro e w8 ⟨rfl, hb8⟩
        have bel8 := G7.out.trans (hb8.mono G7.out.size)
        go_wp2_with (first | (go_at_call 21; refine (works_any _).mono ?_; rintro e w9 ⟨rfl, hb9⟩; have bel9 := bel8.trans (hb9.mono bel8.size)))
        go_ret
        exact ⟨rfl, bel9⟩

theorem w_numMany (a0 : Int) (a1 : Int) (w0 : (Lit.int .u8 a0).wf = true) (w1 : (Lit.int .i64 a1).wf = true) (w : World) :
    Calls Try.prog 12 #[.int .u8 a0, .int .i64 a1] w fun e w' => e = .returned (.bool true) ∧ Below w.heap.size w w' := by
  have hb := bounds_u8 w0
  have hC := cutV_ok a1
  unfold Ok at hC
  obtain ⟨N, hN⟩ : ∃ N : Nat, 10000 + (a0 % 4 - 2) = (N : Int) := ⟨(10000 + (a0 % 4 - 2)).toNat, by omega⟩
  have hqb : -57646075230343 ≤ (cutV a1).tdiv 20000 ∧ (cutV a1).tdiv 20000 ≤ 57646075230343 := by
    have hsg : Int.sign 20000 = 1 := by decide
    rw [Int.tdiv_eq_ediv, hsg]
    split <;> omega
  exact many_go a0 a1 (cutV a1) _ N w (wf_i64 w1) rfl rfl hqb (by omega) (a0 % 4 - 2) rfl hN hb hC

end Go.Proofs.Ythippkbaehcfeaa.Num
