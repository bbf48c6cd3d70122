/- slices.SortFunc and SortedFunc of ranges, by the beginnings of the ranges (the shelf's contract at this program). -/
import Derived.Test.YtocencmdfppkaaaR11
import Derived.Shelf.SlSortCmp.WholeK
import Derived.Shelf.SlLaysF0
import Derived.Lib.OwnBridge
namespace Go.Proofs.Ytocencmdfppkaaa.Rng
open Go.RowKit Go.Lib Go.Sort Go.Shelf
set_option linter.unusedVariables false
set_option linter.unusedSimpArgs false
set_option maxRecDepth 20000

def sortR_lays_ren : Go.Shelf.Ren := ⟨fun | 6 => 58 | 15 => 68 | 14 => 67 | 28 => 82 | 29 => 83 | 20 => 74 | 21 => 75 | 22 => 76 | 23 => 77 | 24 => 78 | 25 => 79 | 26 => 80 | 27 => 81 | 46 => 86 | 47 => 87 | 48 => 88 | 49 => 89 | 50 => 90 | 57 => 91 | n => n, fun | 22 => 36 | 24 => 23 | 25 => 62 | 3 => 3 | 39 => 76 | 0 => 0 | 53 => 89 | 55 => 91 | 4 => 4 | 46 => 82 | 45 => 81 | 50 => 86 | 5 => 5 | 9 => 9 | 66 => 94 | 70 => 98 | 76 => 100 | 77 => 101 | n => n, fun | n => n⟩
theorem sortR_lays : Go.Proofs.SlLaysF0.n6 Try.prog sortR_lays_ren := {
  mixed := by kernel_rfl
  f6 := ⟨"slices.SortFunc[[]skald/api.Range,skald/api.Range]", by decide, Try.func58.trans (congrArg some (by kernel_rfl))⟩
  f14 := ⟨"slices.pdqsortCmpFunc[skald/api.Range]", by decide, Try.func67.trans (congrArg some (by kernel_rfl))⟩
  f15 := Try.func68.trans (congrArg some (by kernel_rfl))
  f20 := ⟨"slices.insertionSortCmpFunc[skald/api.Range]", by decide, Try.func74.trans (congrArg some (by kernel_rfl))⟩
  f21 := ⟨"slices.heapSortCmpFunc[skald/api.Range]", by decide, Try.func75.trans (congrArg some (by kernel_rfl))⟩
  f22 := ⟨"slices.breakPatternsCmpFunc[skald/api.Range]", by decide, Try.func76.trans (congrArg some (by kernel_rfl))⟩
  f23 := ⟨"slices.choosePivotCmpFunc[skald/api.Range]", by decide, Try.func77.trans (congrArg some (by kernel_rfl))⟩
  f24 := ⟨"slices.reverseRangeCmpFunc[skald/api.Range]", by decide, Try.func78.trans (congrArg some (by kernel_rfl))⟩
  f25 := ⟨"slices.partialInsertionSortCmpFunc[skald/api.Range]", by decide, Try.func79.trans (congrArg some (by kernel_rfl))⟩
  f26 := ⟨"slices.partitionEqualCmpFunc[skald/api.Range]", by decide, Try.func80.trans (congrArg some (by kernel_rfl))⟩
  f27 := ⟨"slices.partitionCmpFunc[skald/api.Range]", by decide, Try.func81.trans (congrArg some (by kernel_rfl))⟩
  f28 := Try.func82.trans (congrArg some (by kernel_rfl))
  f29 := Try.func83.trans (congrArg some (by kernel_rfl))
  f46 := ⟨"slices.siftDownCmpFunc[skald/api.Range]", by decide, Try.func86.trans (congrArg some (by kernel_rfl))⟩
  f47 := Try.func87.trans (congrArg some (by kernel_rfl))
  f48 := Try.func88.trans (congrArg some (by kernel_rfl))
  f49 := ⟨"slices.medianAdjacentCmpFunc[skald/api.Range]", by decide, Try.func89.trans (congrArg some (by kernel_rfl))⟩
  f50 := ⟨"slices.medianCmpFunc[skald/api.Range]", by decide, Try.func90.trans (congrArg some (by kernel_rfl))⟩
  f57 := ⟨"slices.order2CmpFunc[skald/api.Range]", by decide, Try.func91.trans (congrArg some (by kernel_rfl))⟩
  t0 := Try.underlying0
  a0 := Try.isAgg0
  z0 := Try.sizeOf0
  v0 := Try.zeroValue0
  t3 := Try.underlying3
  a3 := Try.isAgg3
  z3 := Try.sizeOf3
  v3 := Try.zeroValue3
  t4 := Try.underlying4
  a4 := Try.isAgg4
  z4 := Try.sizeOf4
  v4 := Try.zeroValue4
  t5 := Try.underlying5
  a5 := Try.isAgg5
  z5 := Try.sizeOf5
  v5 := Try.zeroValue5
  t9 := Try.underlying9
  a9 := Try.isAgg9
  z9 := Try.sizeOf9
  v9 := Try.zeroValue9
  t22 := Try.underlying36
  a22 := Try.isAgg36
  z22 := Try.sizeOf36
  v22 := Try.zeroValue36
  t25 := Try.underlying62
  a25 := Try.isAgg62
  z25 := Try.sizeOf62
  v25 := Try.zeroValue62
  t39 := Try.underlying76
  a39 := Try.isAgg76
  z39 := Try.sizeOf76
  v39 := Try.zeroValue76
  t45 := Try.underlying81
  a45 := Try.isAgg81
  z45 := Try.sizeOf81
  v45 := Try.zeroValue81
  t46 := Try.underlying82
  a46 := Try.isAgg82
  z46 := Try.sizeOf82
  v46 := Try.zeroValue82
  t50 := Try.underlying86
  a50 := Try.isAgg86
  z50 := Try.sizeOf86
  v50 := Try.zeroValue86
  t53 := Try.underlying89
  a53 := Try.isAgg89
  z53 := Try.sizeOf89
  v53 := Try.zeroValue89
  t55 := Try.underlying91
  a55 := Try.isAgg91
  z55 := Try.sizeOf91
  v55 := Try.zeroValue91
  t66 := Try.underlying94
  a66 := Try.isAgg94
  z66 := Try.sizeOf94
  v66 := Try.zeroValue94
  t70 := Try.underlying98
  a70 := Try.isAgg98
  z70 := Try.sizeOf98
  v70 := Try.zeroValue98
  t76 := Try.underlying100
  a76 := Try.isAgg100
  z76 := Try.sizeOf100
  v76 := Try.zeroValue100
  t77 := Try.underlying101
  a77 := Try.isAgg101
  z77 := Try.sizeOf101
  v77 := Try.zeroValue101 }


def encK (r : Rg) : List Value := [.string (tx r.f), .string (tx r.t)]
def cfR (a b : Rg) : Int := cmpE (-1) a.f b.f
theorem cfR_lt (a b : Rg) : ltOf cfR a b = bl a.f b.f := by
  unfold ltOf cfR cmpE
  by_cases h1 : a.f = b.f
  · rw [if_pos h1, h1, bl_irrefl]; rfl
  · rw [if_neg h1]
    by_cases h2 : a.f = []
    · rw [if_pos h2, h2, nil_bl]
      have : b.f.isEmpty = false := by
        cases hb : b.f with
        | nil => exact absurd (h2.trans hb.symm) h1
        | cons => rfl
      rw [this]; rfl
    · rw [if_neg h2]
      by_cases h3 : b.f = []
      · rw [if_pos h3, h3, bl_nil]; rfl
      · rw [if_neg h3]
        unfold cmpS
        cases bl a.f b.f with
        | true => rfl
        | false => cases a.f == b.f <;> rfl
theorem cfR_swo : SWO (ltOf cfR) where
  irrefl x := by rw [cfR_lt]; exact bl_irrefl _
  trans x y z h1 h2 := by rw [cfR_lt] at *; exact bl_trans _ _ _ h1 h2
  ntrans x y z h1 h2 := by rw [cfR_lt] at *; exact bl_ntrans _ _ _ h1 h2
set_option maxHeartbeats 1000000 in
theorem closure_any (a b : Rg) (p q : Addr) (W : World) (hp : W.cell? p = some (.func (.func 53) #[] #[.pointer (some q)])) (hq : W.cell? q = some (.int .i64 (-1))) :
    Calls Try.prog 45 #[.agg #[.string (tx a.f), .string (tx a.t)], .agg #[.string (tx b.f), .string (tx b.t)], .pointer (some p)] W fun e w' => e = .returned (.int .i64 (cfR a b)) ∧ ∃ n os', w' = grow (W.drewN n) os' := by
  have hE := Lib.hid (fun p W h => end1_any (-1) a.f b.f p W (by decide) (by decide) h)
  have hpl : p.block < W.heap.size := World.block_lt_of_cell? W p hp
  have hql : q.block < W.heap.size := World.block_lt_of_cell? W q hq
  unfold cfR
  have hb : Below W.heap.size W ((W.alloc (.cells #[.string (tx a.f), .string (tx a.t)] TR)).alloc (.cells #[.string (tx b.f), .string (tx b.t)] TR)) := ((Below.refl _ _).alloc (Nat.le_refl _) _).alloc (by simp) _
  have hp2 := (hb.cell hpl).trans hp
  have hq2 := (hb.cell hql).trans hq
  have T := tw_new W (tx a.f) (tx a.t) (tx b.f) (tx b.t)
  obtain ⟨c0, c1, c2, c3, _⟩ := T.cells
  clear hb T hp hq hpl hql
  generalize cmpE (-1) a.f b.f = z at *
  generalize tx a.f = s at *
  generalize tx a.t = t at *
  generalize tx b.f = u at *
  generalize tx b.t = v at *
  go_enter Try.func45, Try.ntmps45
  go_wp2_with (go_at_call 53; refine (hE.out _ _ hq2).mono ?_; rintro e w' ⟨rfl, rfl⟩)
  go_ret
  exact ⟨rfl, 0, _, by rw [alloc_eq_grow, alloc_eq_grow, grow_grow]; rfl⟩
/-- A cell of another block in a world of the sort's. -/
theorem cell_sorted {W : World} {p : Addr} {v : Value} {blk : Nat} (hp : W.cell? p = some v) (hne : p.block ≠ blk) (m : Nat) (dk : Array Rg) (os : Array Obj) : (sortWorldK encK 2 W blk 0 m dk os).cell? p = some v := by
  have hl : p.block < W.heap.size := World.block_lt_of_cell? W p hp
  unfold sortWorldK putRowK
  rw [cell?_grow _ _ _ (by simpa [Sort.ahead] using hl), cell?_putRow_other _ _ _ _ _ _ (.inl hne)]
  exact hp
theorem cmpLays_any (p q : Addr) (blk size : Nat) (W : World) (hp : W.cell? p = some (.func (.func 53) #[] #[.pointer (some q)])) (hq : W.cell? q = some (.int .i64 (-1))) (h1 : p.block ≠ blk) (h2 : q.block ≠ blk) :
    CmpLays Try.prog 45 #[.pointer (some p)] encK 2 cfR blk 0 size W :=
  fun m os dk _ x y => closure_any x y p q _ (cell_sorted hp h1 m dk os) (cell_sorted hq h2 m dk os)

theorem holds_own {base : Nat} {L : List Rg} {g n cap : Nat} {W : World} (h : Ow base L (.slice (some ⟨g, 0, none⟩) n cap) W) (hn : 0 < L.length) : HoldsK encK 2 W g 0 L.toArray ∧ n = L.length := by
  obtain ⟨_, ⟨he, _⟩ | ⟨g', cap', cur, he, hb, hh, hle, _, hsz, hx⟩⟩ := h
  · cases he
  · injection he with e1 e2 e3
    injection e1 with e1
    injection e1 with e1
    subst e1 e2 e3
    refine ⟨fun j hj => ?_, rfl⟩
    have hj2 : j < L.length * 2 := by simpa using hj
    refine ⟨?_, by simp [World.frozen?, hh]⟩
    rw [Nat.zero_add]
    show W.cell? ⟨g, j, none⟩ = some (id (flatK encK 2 L.toArray)[j]!)
    rw [get_flatK _ _ _ _ (by simpa using hj2)]
    have hi : j / 2 < L.length := by omega
    obtain ⟨k0, k1⟩ := flat_get L (j / 2) L[j / 2] (List.getElem?_eq_getElem hi)
    rw [← hx, List.getElem?_take] at k0 k1
    rw [if_pos (by omega)] at k0 k1
    have e1 : (L.toArray)[j / 2]! = L[j / 2] := by rw [getElem!_pos L.toArray (j / 2) (by simpa using hi)]; simp
    rw [e1]
    refine (cell_of_row W g _ cur TR _ hh).trans ?_
    rcases Nat.mod_two_eq_zero_or_one j with hm | hm
    · rw [hm]
      have : j / 2 * 2 = j := by omega
      rw [this] at k0
      simpa [encK] using k0
    · rw [hm]
      have : j / 2 * 2 + 1 = j := by omega
      rw [this] at k1
      simpa [encK] using k1
/-- What reads as the sorted list. -/
theorem sorted_rs {L : List Rg} {g cap m : Nat} {W : World} {d' : Array Rg} {os : Array Obj} (h : HoldsK encK 2 W g 0 L.toArray) (hg : g < W.heap.size) (hs : d'.size = L.length) :
    Rs (sortWorldK encK 2 W g 0 m d' os) (.slice (some ⟨g, 0, none⟩) L.length cap) d'.toList := by
  have hl : d'.toList.length = L.length := by simpa using hs
  refine ⟨some ⟨g, 0, none⟩, cap, by rw [hl], fun hp => ⟨g, 0, rfl, fun i r hr => ?_⟩⟩
  have hi : i < d'.size := by have := (List.getElem?_eq_some_iff.1 hr).1; simpa using this
  have hr2 : d'[i]! = r := by
    rw [getElem!_pos d' i hi]
    have := hr
    rw [List.getElem?_eq_getElem (by simpa using hi)] at this
    simpa using this
  have key : ∀ j, j < d'.size * 2 → (sortWorldK encK 2 W g 0 m d' os).cell? ⟨g, 0 + j, none⟩ = some (encK d'[j / 2]!)[j % 2]! := by
    intro j hj
    unfold sortWorldK putRowK
    rw [cell?_grow _ _ _ (by simpa [Sort.ahead] using hg)]
    rw [cell?_putRow id (Sort.ahead W m) g 0 (flatK encK 2 L.toArray) (flatK encK 2 d') (fun j hj => h j hj) (by simp [hs]) j (by simpa using hj), get_flatK _ _ _ _ hj]
    rfl
  have k0 := key (i * 2) (by omega)
  have k1 := key (i * 2 + 1) (by omega)
  rw [show i * 2 / 2 = i by omega, show i * 2 % 2 = 0 by omega, hr2] at k0
  rw [show (i * 2 + 1) / 2 = i by omega, show (i * 2 + 1) % 2 = 1 by omega, hr2] at k1
  rw [Nat.zero_add] at k0 k1 ⊢
  exact ⟨k0, k1⟩
/-- The list is in the order of its beginnings, and has what the other one has. -/
def Sorts (L M : List Rg) : Prop := M.Perm L ∧ ∀ i j (hi : i < M.length) (hj : j < M.length), i < j → bl M[j].f M[i].f = false
theorem sorts_of {L : List Rg} {d' : Array Rg} (hp : PermIn 0 L.toArray.size L.toArray d') (hs : SortedIn (ltOf cfR) 0 L.toArray.size d') : Sorts L d'.toList := by
  have hz : d'.size = L.toArray.size := hp.1
  refine ⟨?_, fun i j hi hj hij => ?_⟩
  · have h := hp.2.2
    rw [← hz] at h
    have e1 : d'.extract 0 d'.size = d' := by simp
    have e2 : L.toArray.extract 0 d'.size = L.toArray := by rw [hz]; simp
    rw [e1, e2] at h
    simpa using h
  · have h := hs i j (Nat.zero_le _) hij (by rw [← hz]; simpa using hj)
    rw [cfR_lt] at h
    have hi' : i < d'.size := by simpa using hi
    have hj' : j < d'.size := by simpa using hj
    rw [getElem!_pos d' i hi', getElem!_pos d' j hj'] at h
    simpa using h
theorem below_sorted {base : Nat} {w W : World} {g m : Nat} {d' : Array Rg} {os : Array Obj} (h : Below base w W) (hg : base ≤ g) (hgl : base ≤ W.heap.size) : Below base w (sortWorldK encK 2 W g 0 m d' os) := by
  have h1 : Below base w (putRowK encK 2 (Sort.ahead W m) g 0 d') := Lib.below_putRow (enc := id) h hg
  unfold sortWorldK
  refine h1.trans ⟨rfl, rfl, rfl, by simp, fun k hk => ?_⟩
  exact heap_grow_old _ _ (by
    have : (putRowK encK 2 (Sort.ahead W m) g 0 d').heap.size = W.heap.size := by simp [putRowK, Sort.ahead]
    omega)
set_option maxHeartbeats 1000000 in
theorem sort_any (base : Nat) (L : List Rg) (g n cap : Nat) (p q : Addr) (w W : World) (ho : Ow base L (.slice (some ⟨g, 0, none⟩) n cap) W) (hn : 0 < L.length) (hlen : L.length ≤ 1000) (hb : Below base w W) (hgl : base ≤ W.heap.size)
    (hp : W.cell? p = some (.func (.func 53) #[] #[.pointer (some q)])) (hq : W.cell? q = some (.int .i64 (-1))) (h1 : p.block < base) (h2 : q.block < base) :
    Calls Try.prog 58 #[.slice (some ⟨g, 0, none⟩) n cap, .func (.func 45) #[] #[.pointer (some p)]] W fun e w' =>
      e = .returned (.tuple #[]) ∧ ∃ M, Sorts L M ∧ Rs w' (.slice (some ⟨g, 0, none⟩) n cap) M ∧ Below base w w' := by
  have hgb : base ≤ g ∧ g < W.heap.size := World.ownsRow.lt ho g rfl
  obtain ⟨hH, rfl⟩ := holds_own ho hn
  have eg : ∀ args w, (callFunc 45 args).run Try.prog w = .ok (.enter 45 args) w := enters_of Try.func45 (by kernel_rfl) rfl
  have hcon := AnyQ.slices_SortFunc sortR_lays 2 Try.isAgg23 Try.sizeOf23 encK (fun _ => rfl) (fun x v hv => by simp [encK] at hv; rcases hv with rfl | rfl <;> rfl) cfR cfR_swo 45 #[.pointer (some p)] g 0 cap L.toArray W eg
    (cmpLays_any p q g _ W hp hq (by omega) (by omega)) hH hgb.2 (by simp; omega)
  change Calls Try.prog 58 _ _ _ at hcon
  rw [show L.toArray.size = L.length by simp] at hcon
  refine hcon.mono ?_
  rintro e w' ⟨rfl, d', m, os, hpm, hst, rfl⟩
  have hz : d'.size = L.length := by have := hpm.1; simpa using this
  exact ⟨rfl, d'.toList, sorts_of (by simpa using hpm) (by simpa using hst), sorted_rs hH hgb.2 hz, below_sorted hb hgb.1 hgl⟩
end Go.Proofs.Ytocencmdfppkaaa.Rng
