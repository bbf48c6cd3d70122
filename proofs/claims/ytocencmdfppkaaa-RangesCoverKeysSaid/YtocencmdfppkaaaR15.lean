/- Parse and Text. -/
import Derived.Test.YtocencmdfppkaaaR14
import Derived.Shelf.Strings.Search2
import Derived.Shelf.Small.Wraps
import Derived.Laws.Concat
import Derived.RegionTactic
namespace Go.Proofs.Ytocencmdfppkaaa.Rng
open Go.RowKit Go.Lib
set_option linter.unusedVariables false
set_option linter.unusedSimpArgs false
set_option maxRecDepth 20000

def cutp_lays_ren : Go.Shelf.Ren := ⟨fun | 103 => 31 | 210 => 47 | 206 => 60 | n => n, fun | 9 => 9 | 4 => 4 | 24 => 48 | 3 => 3 | n => n, fun | n => n⟩
theorem cutp_lays : Go.Proofs.Lays.n103 Try.prog cutp_lays_ren := {
  mixed := by kernel_rfl
  f103 := Try.func31.trans (congrArg some (by kernel_rfl))
  f206 := Try.func60.trans (congrArg some (by kernel_rfl))
  f210 := Try.func47.trans (congrArg some (by kernel_rfl))
  t3 := Try.underlying3
  a3 := Try.isAgg3
  z3 := Try.sizeOf3
  v3 := Try.zeroValue3
  t4 := Try.underlying4
  a4 := Try.isAgg4
  z4 := Try.sizeOf4
  v4 := Try.zeroValue4
  t9 := Try.underlying9
  a9 := Try.isAgg9
  z9 := Try.sizeOf9
  v9 := Try.zeroValue9
  t24 := Try.underlying48
  a24 := Try.isAgg48
  z24 := Try.sizeOf48
  v24 := Try.zeroValue48 }

def cuts_lays_ren : Go.Shelf.Ren := ⟨fun | 104 => 32 | 211 => 48 | 207 => 61 | n => n, fun | 9 => 9 | 4 => 4 | 24 => 48 | 3 => 3 | n => n, fun | n => n⟩
theorem cuts_lays : Go.Proofs.Lays.n104 Try.prog cuts_lays_ren := {
  mixed := by kernel_rfl
  f104 := Try.func32.trans (congrArg some (by kernel_rfl))
  f207 := Try.func61.trans (congrArg some (by kernel_rfl))
  f211 := Try.func48.trans (congrArg some (by kernel_rfl))
  t3 := Try.underlying3
  a3 := Try.isAgg3
  z3 := Try.sizeOf3
  v3 := Try.zeroValue3
  t4 := Try.underlying4
  a4 := Try.isAgg4
  z4 := Try.sizeOf4
  v4 := Try.zeroValue4
  t9 := Try.underlying9
  a9 := Try.isAgg9
  z9 := Try.sizeOf9
  v9 := Try.zeroValue9
  t24 := Try.underlying48
  a24 := Try.isAgg48
  z24 := Try.sizeOf48
  v24 := Try.zeroValue48 }

def idx_lays_ren : Go.Shelf.Ren := ⟨fun | 219 => 62 | 217 => 69 | 225 => 70 | 224 => 71 | 267 => 72 | 266 => 84 | 314 => 85 | n => n, fun | 9 => 9 | 3 => 3 | 4 => 4 | 5 => 5 | 46 => 76 | 146 => 92 | 51 => 89 | n => n, fun | 1 => 0 | n => n⟩
theorem idx_lays : Go.Proofs.Lays.n219 Try.prog idx_lays_ren := {
  mixed := by kernel_rfl
  f217 := Try.func69.trans (congrArg some (by kernel_rfl))
  f219 := Try.func62.trans (congrArg some (by kernel_rfl))
  f224 := Try.func71.trans (congrArg some (by kernel_rfl))
  f225 := Try.func70.trans (congrArg some (by kernel_rfl))
  f266 := Try.func84.trans (congrArg some (by kernel_rfl))
  f267 := Try.func72.trans (congrArg some (by kernel_rfl))
  f314 := Try.func85.trans (congrArg some (by kernel_rfl))
  t3 := Try.underlying3
  a3 := Try.isAgg3
  z3 := Try.sizeOf3
  v3 := Try.zeroValue3
  t4 := Try.underlying4
  a4 := Try.isAgg4
  z4 := Try.sizeOf4
  v4 := Try.zeroValue4
  t5 := Try.underlying5
  a5 := Try.isAgg5
  z5 := Try.sizeOf5
  v5 := Try.zeroValue5
  t9 := Try.underlying9
  a9 := Try.isAgg9
  z9 := Try.sizeOf9
  v9 := Try.zeroValue9
  t46 := Try.underlying76
  a46 := Try.isAgg76
  z46 := Try.sizeOf76
  v46 := Try.zeroValue76
  t51 := Try.underlying89
  a51 := Try.isAgg89
  z51 := Try.sizeOf89
  v51 := Try.zeroValue89
  t146 := Try.underlying92
  a146 := Try.isAgg92
  z146 := Try.sizeOf92
  v146 := Try.zeroValue92
  g1 := by kernel_rfl }


theorem cutP_any (l p : List UInt8) (w : World) :
    Calls Try.prog 31 #[.string (tx l), .string (tx p)] w fun e w' => e = .returned (.tuple #[.string (tx (trimPrefix l p)), .bool (hasPrefix l p)]) ∧ w = w' := by
  refine (Any.strings_CutPrefix cutp_lays (tx l) (tx p) w).mono ?_
  rintro e w' ⟨rfl, rfl⟩
  rw [tx_list, tx_list]
  exact ⟨rfl, rfl⟩
theorem cutS_any (l p : List UInt8) (hl : l.length ≤ 1000) (w : World) :
    Calls Try.prog 32 #[.string (tx l), .string (tx p)] w fun e w' => e = .returned (.tuple #[.string (tx (trimSuffix l p)), .bool (hasSuffix l p)]) ∧ w = w' := by
  refine (Any.strings_CutSuffix cuts_lays (tx l) (tx p) w (by rw [tx_size]; omega)).mono ?_
  rintro e w' ⟨rfl, rfl⟩
  rw [tx_list, tx_list]
  exact ⟨rfl, rfl⟩
/-- What stands ahead of the first byte c, and behind it. -/
def cutB : List UInt8 → UInt8 → List UInt8 × List UInt8 × Bool
  | [], _ => ([], [], false)
  | b :: l, c => if b = c then ([], l, true) else (b :: (cutB l c).1, (cutB l c).2.1, (cutB l c).2.2)
theorem cutB_no : ∀ (l : List UInt8) (c : UInt8), indexByte l c = -1 → cutB l c = (l, [], false)
  | [], c, _ => rfl
  | b :: l, c, h => by
    unfold indexByte at h
    by_cases hb : b = c
    · rw [if_pos (by simp [hb])] at h; cases h
    · rw [if_neg (by simp [hb])] at h
      have hg := indexByte_ge l c
      by_cases hi : indexByte l c = -1
      · unfold cutB; rw [if_neg hb, cutB_no l c hi]
      · rw [if_neg (by simpa using hi)] at h; omega
theorem cutB_yes : ∀ (l : List UInt8) (c : UInt8) (i : Nat), indexByte l c = (i : Int) → i < l.length ∧ cutB l c = (l.take i, l.drop (i + 1), true)
  | [], c, i, h => by unfold indexByte at h; omega
  | b :: l, c, i, h => by
    unfold indexByte at h
    by_cases hb : b = c
    · rw [if_pos (by simp [hb])] at h
      obtain rfl : i = 0 := by omega
      exact ⟨by simp, by unfold cutB; rw [if_pos hb]; rfl⟩
    · rw [if_neg (by simp [hb])] at h
      have hg := indexByte_ge l c
      by_cases hi : indexByte l c = -1
      · rw [if_pos (by simpa using hi)] at h; omega
      · rw [if_neg (by simpa using hi)] at h
        obtain ⟨j, rfl⟩ : ∃ j, i = j + 1 := ⟨i - 1, by omega⟩
        obtain ⟨h1, h2⟩ := cutB_yes l c j (by omega)
        exact ⟨by simp; omega, by unfold cutB; rw [if_neg hb, h2]; rfl⟩
def cutV (x : List UInt8 × List UInt8 × Bool) : Value := .tuple #[.string (tx x.1), .string (tx x.2.1), .bool x.2.2]
set_option maxHeartbeats 1000000 in
theorem cutI_any (l : List UInt8) (c : UInt8) (hl : l.length ≤ 1000) (w : World) :
    Calls Try.prog 49 #[.string (tx l), .string ⟨#[c]⟩] w fun e w' => e = .returned (cutV (cutB l c)) ∧ ∃ n, w' = w.drewN n := by
  have hI := fun W => Any.stringslite_Index_one idx_lays (tx l) c W
  rw [tx_list] at hI
  have hg := indexByte_ge l c
  have hz := tx_size l
  by_cases h : indexByte l c = -1
  · rw [h] at hI
    have hr := Lib.hid (cutB_no l c h)
    have hI := Lib.hid (show ∀ W, Calls Try.prog 62 #[.string (tx l), .string ⟨#[c]⟩] W _ from hI)
    clear h hg
    go_enter Try.func49, Try.ntmps49
    go_wp2_with (go_at_call 62; refine (hI.out _).mono ?_; rintro e w' ⟨rfl, rfl⟩)
    go_ret3
    exact ⟨by rw [hr.out]; rfl, 0, rfl⟩
  · obtain ⟨i, hi⟩ : ∃ i : Nat, indexByte l c = (i : Int) := ⟨(indexByte l c).toNat, by omega⟩
    rw [hi] at hI
    obtain ⟨h1, h2⟩ := cutB_yes l c i hi
    have e1 : (tx l).extract 0 i = tx (l.take i) := by
      apply ByteArray.ext
      simp [tx, ByteArray.data_extract]
    have e2 : (tx l).extract (i + 1) (tx l).size = tx (l.drop (i + 1)) := by
      apply ByteArray.ext
      rw [tx_size]
      simp [tx, ByteArray.data_extract]
      exact List.take_of_length_le (by simp)
    have hr := Lib.hid h2
    have c1 : (0 : Int) ≤ (i : Int) := by omega
    have c2 : (i : Int) ≤ ((tx l).size : Int) := by rw [hz]; omega
    have c3 : (0 : Int) ≤ (i : Int) + 1 := by omega
    have c4 : (i : Int) + 1 ≤ ((tx l).size : Int) := by rw [hz]; omega
    have c5 : IntKind.i64.wrap ((i : Int) + 1) = (i : Int) + 1 := by rw [IntKind.wrap_i64] <;> omega
    have hI := Lib.hid (show ∀ W, Calls Try.prog 62 #[.string (tx l), .string ⟨#[c]⟩] W _ from hI)
    have hS : (⟨#[c]⟩ : ByteArray).size = 1 := rfl
    clear h hg hi h2 hz
    go_enter Try.func49, Try.ntmps49
    go_wp2_with (go_at_call 62; refine (hI.out _).mono ?_; rintro e w' ⟨rfl, rfl⟩)
    go_region
    go_wp2
    go_ret3
    exact ⟨by rw [hr.out]; rfl, 1, rfl⟩
theorem cut_any (l : List UInt8) (c : UInt8) (hl : l.length ≤ 1000) (w : World) :
    Calls Try.prog 33 #[.string (tx l), .string ⟨#[c]⟩] w fun e w' => e = .returned (cutV (cutB l c)) ∧ Below w.heap.size w w' := by
  have hI := Lib.hid (fun W => cutI_any l c hl W)
  have hV : Hid (cutV (cutB l c) = .tuple #[.string (tx (cutB l c).1), .string (tx (cutB l c).2.1), .bool (cutB l c).2.2]) := Lib.hid rfl
  go_enter Try.func33, Try.ntmps33
  go_wp2_with (go_at_call 49; refine (hI.out _).mono ?_; rintro e w' ⟨rfl, n, rfl⟩; unfold cutV)
  go_ret3
  exact ⟨by rw [hV.out]; rfl, ⟨rfl, rfl, rfl, Nat.le_refl _, fun _ _ => rfl⟩⟩

def parseR (s : List UInt8) : Rg × Int :=
  let s1 := trimPrefix s [91]
  let x := cutB (trimSuffix s1 [41]) 44
  if hasPrefix s [91] && hasSuffix s1 [41] && x.2.2 && okR ⟨x.1, x.2.1⟩ then (⟨x.1, x.2.1⟩, 0) else (⟨[], []⟩, 10)
theorem trimS_len (s p : List UInt8) : (trimSuffix s p).length ≤ s.length := by unfold trimSuffix; split <;> simp
theorem trimP_len (s p : List UInt8) : (trimPrefix s p).length ≤ s.length := by unfold trimPrefix; split <;> simp
set_option maxHeartbeats 2000000 in
theorem parse_any (l : List UInt8) (hl : l.length ≤ 1000) (w : World) :
    Calls Try.prog 15 #[.string (tx l)] w fun e w' => e = .returned (.tuple #[.agg #[.string (tx (parseR l).1.f), .string (tx (parseR l).1.t)], .int .i64 (parseR l).2]) ∧ Below w.heap.size w w' := by
  have h1 : (trimPrefix l [91]).length ≤ 1000 := Nat.le_trans (trimP_len _ _) hl
  have h2 : (trimSuffix (trimPrefix l [91]) [41]).length ≤ 1000 := Nat.le_trans (trimS_len _ _) h1
  have hP := Lib.hid (fun W => cutP_any l [91] W)
  have hS := Lib.hid (fun W => cutS_any (trimPrefix l [91]) [41] h1 W)
  have hC := fun W => cut_any (trimSuffix (trimPrefix l [91]) [41]) 44 h2 W
  unfold cutV at hC
  have hr : parseR l = if hasPrefix l [91] && hasSuffix (trimPrefix l [91]) [41] && (cutB (trimSuffix (trimPrefix l [91]) [41]) 44).2.2 && okR ⟨(cutB (trimSuffix (trimPrefix l [91]) [41]) 44).1, (cutB (trimSuffix (trimPrefix l [91]) [41]) 44).2.1⟩ then (⟨(cutB (trimSuffix (trimPrefix l [91]) [41]) 44).1, (cutB (trimSuffix (trimPrefix l [91]) [41]) 44).2.1⟩, 0) else (⟨[], []⟩, 10) := rfl
  generalize parseR l = res at *
  generalize hasPrefix l [91] = z1 at *
  generalize tx (trimSuffix (trimPrefix l [91]) [41]) = s2 at *
  generalize hasSuffix (trimPrefix l [91]) [41] = z2 at *
  generalize cutB (trimSuffix (trimPrefix l [91]) [41]) 44 = x at *
  generalize tx (trimPrefix l [91]) = s1 at *
  obtain ⟨f, t, z3⟩ := x
  simp only at hC hr
  have hK := fun W => check_any ⟨f, t⟩ W
  have hx := bx_new w ⟨#[]⟩ ⟨#[]⟩
  have HB : Hid (∀ W, Bx w w.heap.size ⟨#[]⟩ ⟨#[]⟩ W → B2 W w.heap.size ⟨#[]⟩ ⟨#[]⟩) := fun W h => h.blk
  replace hP := Lib.hid (show ∀ W, Calls Try.prog 31 #[.string (tx l), .string ⟨#[91]⟩] W _ from hP.out)
  replace hS := Lib.hid (show ∀ W, Calls Try.prog 32 #[.string s1, .string ⟨#[41]⟩] W _ from hS.out)
  replace hC := Lib.hid hC
  have HR : Hid (∀ W (x y : ByteArray), Bx w w.heap.size ⟨#[]⟩ ⟨#[]⟩ W → B2 ((W.setCell ⟨w.heap.size, 0, none⟩ (.string x)).setCell ⟨w.heap.size, 1, none⟩ (.string y)) w.heap.size x y ∧ Below w.heap.size w ((W.setCell ⟨w.heap.size, 0, none⟩ (.string x)).setCell ⟨w.heap.size, 1, none⟩ (.string y))) :=
    fun W x y h => ⟨box_set h.blk x y, (h.bel.setCell (by exact Nat.le_refl _) _).setCell (by exact Nat.le_refl _) _⟩
  clear h1 h2 hl
  unfold okE at hK
  cases hz : (z1 && z2 && z3) with
  | false =>
    rw [hz] at hr
    replace hr := Lib.hid hr
    clear hK
    generalize tx f = sf at *
    generalize tx t = st at *
    cases z1 <;> cases z2 <;> cases z3
    all_goals first
      | (cases hz; done)
      | (clear hz
         go_enter Try.func15, Try.ntmps15
         go_wp2_with (first
           | (go_at_call 31; refine (hP.out _).mono ?_; rintro e w' ⟨rfl, rfl⟩)
           | (go_at_call 32; refine (hS.out _).mono ?_; rintro e w' ⟨rfl, rfl⟩)
           | (go_at_call 33; refine (hC.out _).mono ?_; rintro e w1 ⟨rfl, hb1⟩; have hx1 := hx.later hb1; have hx2 := hx1.later (alloc_b w1 (.cells #[.string sf, .string st] TR)); obtain ⟨k0, k1, k2, k3⟩ := (HB.out _ hx2).cells; obtain ⟨m0, m1, m2, m3⟩ := (HB.out _ hx1).cells))
         obtain ⟨y, hy⟩ := HR.out _ ⟨#[]⟩ ⟨#[]⟩ hx2
         obtain ⟨y0, y1, _, _⟩ := y.cells
         refine bodyPost_ret (v := .tuple #[.agg #[.string ⟨#[]⟩, .string ⟨#[]⟩], .int .i64 10]) (by simp [results, Try.results15, go_sem, y0, y1]) rfl ⟨by rw [hr.out]; rfl, hy⟩)
  | true =>
    obtain ⟨rfl, rfl, rfl⟩ : z1 = true ∧ z2 = true ∧ z3 = true := by cases z1 <;> cases z2 <;> cases z3 <;> simp_all
    clear hz
    simp only [Bool.true_and] at hr
    cases ho : okR ⟨f, t⟩ with
    | false =>
      rw [ho] at hr hK
      replace hr := Lib.hid hr
      replace hK := Lib.hid (show ∀ W, Calls Try.prog 17 #[.agg #[.string (tx f), .string (tx t)]] W (fun e w' => e = .returned (.int .i64 2) ∧ Below W.heap.size W w') from hK)
      clear ho
      generalize tx f = sf at *
      generalize tx t = st at *
      have h0 : True := trivial
      go_enter Try.func15, Try.ntmps15
      go_wp2_with (first
        | (go_at_call 31; refine (hP.out _).mono ?_; rintro e w' ⟨rfl, rfl⟩)
        | (go_at_call 32; refine (hS.out _).mono ?_; rintro e w' ⟨rfl, rfl⟩)
        | (go_at_call 33; refine (hC.out _).mono ?_; rintro e w1 ⟨rfl, hb1⟩; have hx1 := hx.later hb1; have hx2 := hx1.later (alloc_b w1 (.cells #[.string sf, .string st] TR)); have hn := B2.new w1 sf st)
        | (go_at_call 17; refine (hK.out _).mono ?_; rintro e w3 ⟨rfl, hb3⟩; have hx3 := hx2.later hb3; obtain ⟨k0, k1, k2, k3⟩ := (HB.out _ hx3).cells))
      obtain ⟨y, hy⟩ := HR.out _ ⟨#[]⟩ ⟨#[]⟩ hx3
      obtain ⟨y0, y1, _, _⟩ := y.cells
      refine bodyPost_ret (v := .tuple #[.agg #[.string ⟨#[]⟩, .string ⟨#[]⟩], .int .i64 10]) (by simp [results, Try.results15, go_sem, y0, y1]) rfl ⟨by rw [hr.out]; rfl, hy⟩
    | true =>
      rw [ho] at hr hK
      replace hr := Lib.hid hr
      replace hK := Lib.hid (show ∀ W, Calls Try.prog 17 #[.agg #[.string (tx f), .string (tx t)]] W (fun e w' => e = .returned (.int .i64 0) ∧ Below W.heap.size W w') from hK)
      clear ho
      generalize hsf : tx f = sf at *
      generalize hst : tx t = st at *
      replace hsf := Lib.hid hsf
      replace hst := Lib.hid hst
      go_enter Try.func15, Try.ntmps15
      go_wp2_with (first
        | (go_at_call 31; refine (hP.out _).mono ?_; rintro e w' ⟨rfl, rfl⟩)
        | (go_at_call 32; refine (hS.out _).mono ?_; rintro e w' ⟨rfl, rfl⟩)
        | (go_at_call 33; refine (hC.out _).mono ?_; rintro e w1 ⟨rfl, hb1⟩; have hx1 := hx.later hb1; have hx2 := hx1.later (alloc_b w1 (.cells #[.string sf, .string st] TR)); have hn := B2.new w1 sf st)
        | (go_at_call 17; refine (hK.out _).mono ?_; rintro e w3 ⟨rfl, hb3⟩; have hx3 := hx2.later hb3; obtain ⟨k0, k1, k2, k3⟩ := (HB.out _ hx3).cells; obtain ⟨n0, n1, n2, n3⟩ := (B2.later hn hb3).cells))
      obtain ⟨y, hy⟩ := HR.out _ sf st hx3
      obtain ⟨y0, y1, _, _⟩ := y.cells
      refine bodyPost_ret (v := .tuple #[.agg #[.string sf, .string st], .int .i64 0]) (by simp [results, Try.results15, go_sem, y0, y1]) rfl ⟨by rw [hr.out]; simp only [if_true, hsf.out, hst.out], hy⟩

def textR (r : Rg) : List UInt8 × Int := if okR r then (91 :: (r.f ++ 44 :: (r.t ++ [41])), 0) else ([], 2)
set_option maxHeartbeats 1000000 in
theorem text_any (r : Rg) (w : World) :
    Calls Try.prog 13 #[.agg #[.string (tx r.f), .string (tx r.t)]] w fun e w' => e = .returned (.tuple #[.string (tx (textR r).1), .int .i64 (textR r).2]) ∧ Below w.heap.size w w' := by
  have hK := fun W => check_any r W
  have hr := Lib.hid (show textR r = if okR r then (91 :: (r.f ++ 44 :: (r.t ++ [41])), 0) else ([], 2) from rfl)
  have hx := bx_new w (tx r.f) (tx r.t)
  unfold okE at hK
  cases ho : okR r with
  | false =>
    rw [ho] at hK hr
    replace hK := Lib.hid (show ∀ W, Calls Try.prog 17 #[.agg #[.string (tx r.f), .string (tx r.t)]] W (fun e w' => e = .returned (.int .i64 2) ∧ Below W.heap.size W w') from hK)
    clear ho
    generalize textR r = x at *
    generalize tx r.f = s at *
    generalize tx r.t = t at *
    have hc := hx.cells
    obtain ⟨c0, c1⟩ := hc
    go_enter Try.func13, Try.ntmps13
    go_wp2_with (go_at_call 17; refine (hK.out _).mono ?_; rintro e w3 ⟨rfl, hb3⟩; have hx3 := hx.later hb3)
    go_ret2
    exact ⟨by rw [hr.out]; rfl, hx3.bel⟩
  | true =>
    obtain ⟨e1, e2, _⟩ := (okR_iff r).1 ho
    have l1 : (tx r.f).size ≤ 16 := by rw [tx_size]; exact endOk_len e1
    have l2 : (tx r.t).size ≤ 16 := by rw [tx_size]; exact endOk_len e2
    rw [ho] at hK hr
    replace hK := Lib.hid (show ∀ W, Calls Try.prog 17 #[.agg #[.string (tx r.f), .string (tx r.t)]] W (fun e w' => e = .returned (.int .i64 0) ∧ Below W.heap.size W w') from hK)
    have hT : (⟨#[91]⟩ : ByteArray) ++ tx r.f ++ ⟨#[44]⟩ ++ tx r.t ++ ⟨#[41]⟩ = tx (91 :: (r.f ++ 44 :: (r.t ++ [41]))) := by
      show tx [91] ++ tx r.f ++ tx [44] ++ tx r.t ++ tx [41] = _
      rw [tx_app, tx_app, tx_app, tx_app]
      simp [List.append_assoc]
    replace hT := Lib.hid hT
    replace hr := Lib.hid (show textR r = (91 :: (r.f ++ 44 :: (r.t ++ [41])), 0) from hr.out)
    clear ho e1 e2
    generalize hy : tx (91 :: (r.f ++ 44 :: (r.t ++ [41]))) = y at *
    replace hy := Lib.hid hy
    generalize tx r.f = s at *
    generalize tx r.t = t at *
    obtain ⟨c0, c1⟩ := hx.cells
    have m1 : ¬ 9223372036854775807 < 1 + s.size := by omega
    have m2 : ¬ 9223372036854775807 < 1 + s.size + 1 := by omega
    have m3 : ¬ 9223372036854775807 < 1 + s.size + 1 + t.size := by omega
    have m4 : ¬ 9223372036854775807 < 1 + s.size + 1 + t.size + 1 := by omega
    go_enter Try.func13, Try.ntmps13
    go_wp2_with (go_at_call 17; refine (hK.out _).mono ?_; rintro e w3 ⟨rfl, hb3⟩; have hx3 := hx.later hb3; obtain ⟨d0, d1⟩ := hx3.cells)
    go_ret2
    exact ⟨by rw [hr.out, hy.out]; exact congrArg (fun z => Ending.returned (.tuple #[.string z, .int .i64 0])) hT.out, hx3.bel⟩
end Go.Proofs.Ytocencmdfppkaaa.Rng
