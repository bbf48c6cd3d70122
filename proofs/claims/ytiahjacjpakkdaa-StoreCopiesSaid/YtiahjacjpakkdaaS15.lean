/- The store's calls that look at one key: valid, New, Get, Put, Apply, Remove, Len, Copy. -/
import Derived.Test.YtiahjacjpakkdaaS14
import Derived.Shelf.SlMaps.Clone
import Derived.Maps.OwnOps
import Derived.Maps.RangeWalk
import Derived.Deep.RegionHeld3
namespace Go.Proofs.Ytiahjacjpakkdaa.Sto
open Go.RowKit Go.Maps Go.Lib Go.Shelf
open Cnt (Ct cA OkC chC appC okC ckE)
open Rng (tx nameOk bl bl_eq bl_irrefl bl_trans)
set_option linter.unusedVariables false
set_option linter.unusedSimpArgs false
set_option maxRecDepth 20000

def cloneS_ren : Go.Shelf.Ren := ⟨fun | 5 => 37 | 7 => 54 | n => n, fun | 23 => 32 | 25 => 9 | 3 => 23 | 4 => 4 | 20 => 20 | n => n, fun | n => n⟩
theorem cloneS : Go.Proofs.SlLaysW.n5 Try.prog cloneS_ren := {
  mixed := by kernel_rfl
  f5 := ⟨"maps.Clone[map[string]skald/api.Count,string,skald/api.Count]", by decide, Try.func37.trans (congrArg some (by kernel_rfl))⟩
  f7 := Try.func54.trans (congrArg some (by kernel_rfl))
  t4 := Try.underlying4
  a4 := Try.isAgg4
  z4 := Try.sizeOf4
  v4 := Try.zeroValue4
  t20 := Try.underlying20
  a20 := Try.isAgg20
  z20 := Try.sizeOf20
  v20 := Try.zeroValue20
  t23 := Try.underlying32
  a23 := Try.isAgg32
  z23 := Try.sizeOf32
  v23 := Try.zeroValue32 }

theorem neq_map (w : World) (p : Option Nat) : (binOp .neq TM (.map p) (.map none)).run Try.prog w = .ok (.bool p.isSome) w := by
  have h := run_equalIn_map_nil_sl (P := Try.prog) w 9999 TM _ _ p Try.underlying32
  simp only [binOp]
  simp [show Op.equal TM (.map p) (.map none) = Op.equalIn (9999 + 1) TM (.map p) (.map none) from rfl, h]

/-- What stands behind a store's pointer. -/
theorem valid_any {sb b : Nat} {M : List En} (w : World) (x : Sx w sb b M) :
    Calls Try.prog 31 #[.pointer (some ⟨sb, 0, none⟩)] w fun e w' => e = .returned (.bool true) ∧ w = w' := by
  have c0 := x.cell
  have hn := fun w => neq_map w (some b)
  clear x
  go_enter Try.func31, Try.ntmps31
  go_wp2
  go_ret
  exact ⟨rfl, rfl⟩
theorem valid_nil (w : World) :
    Calls Try.prog 31 #[.pointer none] w fun e w' => e = .returned (.bool false) ∧ w = w' := by
  go_enter Try.func31, Try.ntmps31
  go_wp2
  go_ret
  exact ⟨rfl, rfl⟩
theorem valid_zero (sb : Nat) (w : World) (c0 : w.cell? ⟨sb, 0, none⟩ = some (.map none)) :
    Calls Try.prog 31 #[.pointer (some ⟨sb, 0, none⟩)] w fun e w' => e = .returned (.bool false) ∧ w = w' := by
  have hn := fun w => neq_map w none
  go_enter Try.func31, Try.ntmps31
  go_wp2
  go_ret
  exact ⟨rfl, rfl⟩
theorem new_any (w : World) :
    Calls Try.prog 29 #[] w fun e w' => ∃ sb b, e = .returned (.pointer (some ⟨sb, 0, none⟩)) ∧ Sx w' sb b [] ∧ w.heap.size ≤ sb ∧ w.heap.size ≤ b ∧ Below w.heap.size w w' := by
  have hmm := @run_makeMap Try.prog
  have hown := World.ownsMap_made w Try.prog TS rdC
  go_enter Try.func29, Try.ntmps29
  go_wp2
  go_ret
  refine ⟨_, w.heap.size, rfl, ⟨by have := heap_alloc_new (w.alloc (.map #[] 0)) (.cells #[.map (some w.heap.size)] TB); rwa [World.size_alloc] at this, (show World.ownsMap _ _ _ _ _ _ (DM []) from hown).alloc _, Nat.zero_le _, fun p hp => by cases hp⟩, by simp, Nat.le_refl _, ((Below.refl _ _).alloc (Nat.le_refl _) _).alloc (by simp) _⟩

/-- A store's pointer that is not valid, in every later world too. -/
def Nv (p : Value) (w : World) : Prop := p = .pointer none ∨ ∃ sb, p = .pointer (some ⟨sb, 0, none⟩) ∧ w.heap[sb]? = some (.cells #[.map none] TB (0, 0))
theorem Nv.later {p : Value} {w w' : World} (h : Nv p w) (hb : Below w.heap.size w w') : Nv p w' := by
  rcases h with h | ⟨sb, h, hc⟩
  · exact .inl h
  · exact .inr ⟨sb, h, (hb.block sb (Array.getElem?_eq_some_iff.1 hc).1).trans hc⟩
theorem Nv.alloc {p : Value} {w : World} (h : Nv p w) (o : Obj) : Nv p (w.alloc o) := h.later (Cnt.alloc_b w o)
theorem Nv.valid {p : Value} {w : World} (h : Nv p w) : Calls Try.prog 31 #[p] w fun e w' => e = .returned (.bool false) ∧ w = w' := by
  rcases h with rfl | ⟨sb, rfl, hc⟩
  · exact valid_nil w
  · exact valid_zero sb w (by simp [World.cell?, hc])

/-! Looking a key up. -/
abbrev gC (r : Option Ct) : Ct := match r with | some c => c | none => ⟨0, 0, 0, 0, 0⟩
def gV : Option Ct → Value
  | some c => .tuple #[vC c, .int .i64 0]
  | none => .tuple #[cA 0 0 0 0 0, .int .i64 5]
theorem look_at {w : World} {sb b : Nat} {M : List En} (x : Sx w sb b M) {k : List UInt8} (hk : k.length ≤ maxLen) {r : Option Ct} (hr : getM M k = r) :
    (Instr.lookup TM (.map (some b)) (.string (tx k)) true).run Try.prog w = .ok (.tuple #[vC (gC r), .bool r.isSome]) w := by
  obtain ⟨v, ps, hrun, hv⟩ := x.own.look_ok (t := TM) keyS Try.underlying32 (zero_c w) (zd := cD ⟨0, 0, 0, 0, 0⟩) (rdC_mk ⟨0, 0, 0, 0, 0⟩) (key_of hk)
  rw [at_DM, hr] at hv
  rw [hrun, has_DM, hr]
  cases r with
  | none => rw [rdC_inv hv]
  | some c => rw [rdC_inv hv]
theorem look_plain {w : World} {sb b : Nat} {M : List En} (x : Sx w sb b M) {k : List UInt8} (hk : k.length ≤ maxLen) {r : Option Ct} (hr : getM M k = r) :
    (Instr.lookup TM (.map (some b)) (.string (tx k)) false).run Try.prog w = .ok (vC (gC r)) w := by
  obtain ⟨v, ps, hrun, hv⟩ := x.own.lookup (t := TM) keyS Try.underlying32 (zero_c w) (zd := cD ⟨0, 0, 0, 0, 0⟩) (rdC_mk ⟨0, 0, 0, 0, 0⟩) (key_of hk)
  rw [at_DM, hr] at hv
  rw [hrun]
  cases r with
  | none => rw [rdC_inv hv]
  | some c => rw [rdC_inv hv]
theorem wpList_get {ops : Array Oper} {rest : List Oper} {o : Oper} {a : Act} {w : World} {Q : Exit → Act → World → Prop} (hg : o.guard = none) (m q : Operand) (hop : o.op = Op.lookup TM m q true)
    {sb b : Nat} {M : List En} (x : Sx w sb b M) (hm : a.eval m = .map (some b)) {k : List UInt8} (hk : k.length ≤ maxLen) {s : ByteArray} (hq : a.eval q = .string s) (hs : s = tx k) {r : Option Ct} (hr : getM M k = r)
    (hK : wpList Try.prog ops Q rest (a.put o.dst (.tuple #[vC (gC r), .bool r.isSome])) w) : wpList Try.prog ops Q (o :: rest) a w := by
  refine wpList_plain hg fun K' hK' => ?_
  have hrun := look_at x hk hr
  rw [← hs] at hrun
  unfold Oper.wp
  simp [execOp, hop, hm, hq, hrun, Result.andThen]
  exact hK' _ _ hK
theorem get_any {sb b : Nat} {M : List En} (k : List UInt8) (r : Option Ct) (w : World) (x : Sx w sb b M) (hk : k.length ≤ maxLen) (hr : getM M k = r) :
    Calls Try.prog 12 #[.pointer (some ⟨sb, 0, none⟩), .string (tx k)] w fun e w' => e = .returned (gV r) ∧ Below w.heap.size w w' := by
  have hx1 := x.alloc (Cnt.cRow 0 0 0 0 0)
  have c0 := hx1.cell
  have hV := Lib.hid (fun W (h : Sx W sb b M) => valid_any W h)
  obtain ⟨s, hs⟩ : ∃ s, s = tx k := ⟨_, rfl⟩
  rw [← hs]
  replace hs := Lib.hid hs
  replace hr := Lib.hid hr
  cases r with
  | none =>
    go_enter Try.func12, Try.ntmps12
    go_wp2_with (first
      | (go_at_call 31; refine (hV.out _ hx1).mono ?_; rintro e w' ⟨rfl, rfl⟩)
      | (refine wpList_get rfl _ _ rfl hx1 rfl hk rfl hs.out hr.out ?_))
    have hp := Cnt.cx_two w 0 0 0 0 0
    obtain ⟨d0, d1, d2, d3, d4⟩ := hp.1.cells
    refine bodyPost_ret (v := gV none) (by simp [results, Try.results12, go_sem, d0, d1, d2, d3, d4, gV]) rfl ⟨rfl, hp.1.bel⟩
  | some c =>
    obtain ⟨v, u, d, l, h⟩ := c
    go_enter Try.func12, Try.ntmps12
    go_wp2_with (first
      | (go_at_call 31; refine (hV.out _ hx1).mono ?_; rintro e w' ⟨rfl, rfl⟩)
      | (refine wpList_get rfl _ _ rfl hx1 rfl hk rfl hs.out hr.out ?_))
    have hp := Cnt.cx_pair w v u d l h v u d l h
    obtain ⟨d0, d1, d2, d3, d4⟩ := hp.1.cells
    refine bodyPost_ret (v := gV (some ⟨v, u, d, l, h⟩)) (by simp [results, Try.results12, go_sem, d0, d1, d2, d3, d4, gV]) rfl ⟨rfl, hp.1.bel⟩
theorem get_yes {sb b : Nat} {M : List En} (k : List UInt8) (v u d l h : Int) (w : World) (x : Sx w sb b M) (hk : k.length ≤ maxLen) (hr : getM M k = some ⟨v, u, d, l, h⟩) :
    Calls Try.prog 12 #[.pointer (some ⟨sb, 0, none⟩), .string (tx k)] w fun e w' => e = .returned (.tuple #[cA v u d l h, .int .i64 0]) ∧ Below w.heap.size w w' := get_any k _ w x hk hr
theorem get_no {sb b : Nat} {M : List En} (k : List UInt8) (w : World) (x : Sx w sb b M) (hk : k.length ≤ maxLen) (hr : getM M k = none) :
    Calls Try.prog 12 #[.pointer (some ⟨sb, 0, none⟩), .string (tx k)] w fun e w' => e = .returned (.tuple #[cA 0 0 0 0 0, .int .i64 5]) ∧ Below w.heap.size w w' := get_any k _ w x hk hr
theorem get_nv (p : Value) (s : ByteArray) (w : World) (x : Nv p w) :
    Calls Try.prog 12 #[p, .string s] w fun e w' => e = .returned (.tuple #[cA 0 0 0 0 0, .int .i64 1]) ∧ Below w.heap.size w w' := by
  have hV := Lib.hid ((x.alloc (Cnt.cRow 0 0 0 0 0)).valid)
  clear x
  go_enter Try.func12, Try.ntmps12
  go_wp2_with (go_at_call 31; refine hV.out.mono ?_; rintro e w' ⟨rfl, rfl⟩)
  have hp := Cnt.cx_new w 0 0 0 0 0
  obtain ⟨d0, d1, d2, d3, d4⟩ := hp.cells
  exact bodyPost_ret (v := .tuple #[cA 0 0 0 0 0, .int .i64 1]) (by simp [results, Try.results12, go_sem, d0, d1, d2, d3, d4]) rfl ⟨rfl, hp.bel⟩
/-! Len, Copy, Remove. -/
theorem len_any {sb b : Nat} {M : List En} (w : World) (x : Sx w sb b M) :
    Calls Try.prog 19 #[.pointer (some ⟨sb, 0, none⟩)] w fun e w' => e = .returned (.int .i64 (M.length : Nat)) ∧ w = w' := by
  have c0 := x.cell
  have hl := x.own.len Try.underlying32 3
  rw [size_DM] at hl
  have hV := Lib.hid (valid_any w x)
  generalize M.length = n at *
  clear x
  go_enter Try.func19, Try.ntmps19
  go_wp2_with (go_at_call 31; refine hV.out.mono ?_; rintro e w' ⟨rfl, rfl⟩)
  go_ret
  exact ⟨rfl, rfl⟩
theorem len_nv (p : Value) (w : World) (x : Nv p w) :
    Calls Try.prog 19 #[p] w fun e w' => e = .returned (.int .i64 0) ∧ w = w' := by
  have hV := Lib.hid x.valid
  clear x
  go_enter Try.func19, Try.ntmps19
  go_wp2_with (go_at_call 31; refine hV.out.mono ?_; rintro e w' ⟨rfl, rfl⟩)
  go_ret
  exact ⟨rfl, rfl⟩
theorem clone_any {b n : Nat} {M : List En} (w : World) (hown : w.ownsMap Try.prog TS rdC b n (DM M)) :
    Calls Try.prog 37 #[.map (some b)] w fun e w' => e = .returned (.map (some w.heap.size)) ∧ w'.ownsMap Try.prog TS rdC w.heap.size n (DM M) ∧ w'.ownsMap Try.prog TS rdC b n (DM M) ∧ Below w.heap.size w w' :=
  AnyW.maps_Clone_owns cloneS TS rdC b n (DM M) w hown
theorem copy_any {sb b : Nat} {M : List En} (w : World) (x : Sx w sb b M) :
    Calls Try.prog 21 #[.pointer (some ⟨sb, 0, none⟩)] w fun e w' => ∃ sb' b', e = .returned (.pointer (some ⟨sb', 0, none⟩)) ∧ Sx w' sb' b' M ∧ w.heap.size ≤ sb' ∧ w.heap.size ≤ b' ∧ Below w.heap.size w w' := by
  have c0 := x.cell
  have hV := Lib.hid (valid_any w x)
  have hC := Lib.hid (clone_any w x.own)
  have hl := x.len
  have ho := Lib.hid x.ok
  clear x
  go_enter Try.func21, Try.ntmps21
  go_wp2_with (first
    | (go_at_call 31; refine hV.out.mono ?_; rintro e w' ⟨rfl, rfl⟩)
    | (go_at_call 37; refine hC.out.mono ?_; rintro e w1 ⟨rfl, hn, hq, hb⟩))
  go_ret
  exact ⟨_, w.heap.size, rfl, ⟨heap_alloc_new _ _, hn.alloc _, hl, ho.out⟩, hb.size, Nat.le_refl _, hb.alloc hb.size _⟩
theorem copy_nv (p : Value) (w : World) (x : Nv p w) :
    Calls Try.prog 21 #[p] w fun e w' => e = .returned (.pointer none) ∧ w = w' := by
  have hV := Lib.hid x.valid
  clear x
  go_enter Try.func21, Try.ntmps21
  go_wp2_with (go_at_call 31; refine hV.out.mono ?_; rintro e w' ⟨rfl, rfl⟩)
  go_ret
  exact ⟨rfl, rfl⟩
theorem wpList_del {ops : Array Oper} {rest : List Oper} {o : Oper} {a : Act} {w : World} {Q : Exit → Act → World → Prop} (hg : o.guard = none) (m q : Operand) (hop : o.op = Op.call { callee := Callee.builtin Builtin.delete, args := #[m, q], argTypes := #[TM, TS] })
    {sb b : Nat} {M : List En} (x : Sx w sb b M) (hm : a.eval m = .map (some b)) {k : List UInt8} (hk : k.length ≤ maxLen) {s : ByteArray} (hq : a.eval q = .string s) (hs : s = tx k)
    (hK : ∀ w', Sx w' sb b (delM M k) → w.grownBy w' (some b) → wpList Try.prog ops Q rest (a.put o.dst (.tuple #[])) w') : wpList Try.prog ops Q (o :: rest) a w := by
  subst hs
  refine wpList_delete_own w hg m q TM TS hop TC keyS Try.underlying32 rdC b M.length (DM M) hm x.own _ _ hq (key_of hk) ?_
  intro w' ho ht
  rw [del_DM] at ho
  exact hK w' (x.turned ht.grown ho (Nat.le_trans (List.length_filter_le _ _) x.len) (fun p hp => x.ok p (mem_del.1 hp).1)) ht.grown
theorem grown_then {w w1 w2 : World} {b : Nat} (h : Below w.heap.size w w1) (g : w1.grownBy w2 (some b)) : w.grownBy w2 (some b) := ((grown_b h).but (some b)).trans g
theorem rem_yes {sb b : Nat} {M : List En} (k : List UInt8) (c : Ct) (w : World) (x : Sx w sb b M) (hk : k.length ≤ maxLen) (hr : getM M k = some c) :
    Calls Try.prog 17 #[.pointer (some ⟨sb, 0, none⟩), .string (tx k)] w fun e w' => e = .returned (.int .i64 0) ∧ Sx w' sb b (delM M k) ∧ w.grownBy w' (some b) := by
  obtain ⟨v, u, d, l, h⟩ := c
  have hG := Lib.hid (fun W (h' : Sx W sb b M) => get_yes k v u d l h W h' hk hr)
  obtain ⟨s, hs⟩ : ∃ s, s = tx k := ⟨_, rfl⟩
  rw [← hs] at hG ⊢
  replace hs := Lib.hid hs
  clear hr
  go_enter Try.func17, Try.ntmps17
  go_wp2_with (first
    | (go_at_call 12; refine (hG.out _ x).mono ?_; rintro e w1 ⟨rfl, hb⟩; have hx2 := (x.later hb).alloc (Cnt.cRow v u d l h); have c1 := hx2.cell)
    | (refine wpList_del rfl _ _ rfl hx2 rfl hk rfl hs.out ?_; intro w3 hx3 hg3))
  go_ret
  exact ⟨rfl, hx3, grown_then (hb.alloc hb.size _) hg3⟩
theorem rem_no {sb b : Nat} {M : List En} (k : List UInt8) (w : World) (x : Sx w sb b M) (hk : k.length ≤ maxLen) (hr : getM M k = none) :
    Calls Try.prog 17 #[.pointer (some ⟨sb, 0, none⟩), .string (tx k)] w fun e w' => e = .returned (.int .i64 5) ∧ Below w.heap.size w w' := by
  have hG := Lib.hid (get_no k w x hk hr)
  generalize tx k = s at *
  clear hr x
  go_enter Try.func17, Try.ntmps17
  go_wp2_with (go_at_call 12; refine hG.out.mono ?_; rintro e w1 ⟨rfl, hb⟩)
  go_ret
  exact ⟨rfl, hb.alloc hb.size _⟩
theorem rem_nv (p : Value) (s : ByteArray) (w : World) (x : Nv p w) :
    Calls Try.prog 17 #[p, .string s] w fun e w' => e = .returned (.int .i64 1) ∧ Below w.heap.size w w' := by
  have hG := Lib.hid (get_nv p s w x)
  clear x
  go_enter Try.func17, Try.ntmps17
  go_wp2_with (go_at_call 12; refine hG.out.mono ?_; rintro e w1 ⟨rfl, hb⟩)
  go_ret
  exact ⟨rfl, hb.alloc hb.size _⟩
end Go.Proofs.Ytiahjacjpakkdaa.Sto
