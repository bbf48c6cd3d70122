/- The contents of a log, one by one: the iterator contents$1. -/
import Derived.Test.YtojeccmnhgcmcaaDoorH05
namespace Go.Proofs.YtojeccmnhgcmcaaDoor.Dsk
open Go.RowKit Go.ChangeShapes _root_.Go.Proofs.YtojeccmnhgcmcaaDoor.Frame
open _root_.Go.Proofs.YtojeccmnhgcmcaaDoor.Crc (Hv more more_lt ret_u32)
set_option linter.unusedVariables false
set_option linter.unusedSimpArgs false
set_option maxRecDepth 100000
attribute [local go_sem] Oper.semAt_some

abbrev TF : TypeId := 81
abbrev TSl : TypeId := 29
abbrev TSs : TypeId := 39
/-- Cells of other types than slices of bytes and lists of them are as they were. -/
def KpT (A B : World) : Prop := A.heap.size ≤ B.heap.size ∧ ∀ (k : Nat) (c : Array Value) (t : TypeId) (fr : Nat × Nat), A.heap[k]? = some (.cells c t fr) → t ≠ TSl → t ≠ TSs → B.heap[k]? = some (.cells c t fr)
theorem KpT.trans {A B C : World} (h : KpT A B) (k : KpT B C) : KpT A C := ⟨Nat.le_trans h.1 k.1, fun i c t fr hi h1 h2 => k.2 i c t fr (h.2 i c t fr hi h1 h2) h1 h2⟩
theorem KpT.of_below {A B : World} (h : Below A.heap.size A B) : KpT A B := ⟨h.size, fun i c t fr hi _ _ => (h.block i (Array.getElem?_eq_some_iff.1 hi).1).trans hi⟩
theorem KpT.put (W : World) (l : Nat) (o o' : Obj) (h : W.heap[l]? = some o) (hc : o.isCells = false) : KpT W (W.putObj l o') :=
  ⟨(grownBy_putObj' W l o').size, fun i c t fr hi _ _ => ((grownBy_putObj' W l o').block i (Array.getElem?_eq_some_iff.1 hi).1 (fun e => by injection e with e; subst e; rw [h] at hi; cases hi; cases hc)).trans hi⟩
theorem rows_kpt {W W' : World} {base size n : Nat} {e : TypeId} {v : Value} {xs : List Value} (h : W.ownsRow base e size v n xs) (hk : KpT W W') (h1 : e ≠ TSl) (h2 : e ≠ TSs) : W'.ownsRow base e size v n xs := by
  refine ⟨h.1, ?_⟩
  rcases h.2 with hn | ⟨g, cap, cur, rfl, hbg, hg, rest⟩
  · exact .inl hn
  · exact .inr ⟨g, cap, cur, rfl, hbg, hk.2 g _ _ _ hg h1 h2, rest⟩
theorem mine_kpt {W W' : World} {base : Nat} {v : Value} {c : List Nat} (h : Mine W base v c) (hk : KpT W W') : Mine W' base v c := ⟨rows_kpt h.own hk (by decide) (by decide), h.h8⟩
theorem flat_at : ∀ (zs : List Zz) (i : Nat) (h : i < zs.length), (flat zs)[i * 2]? = some (.int .i64 ((zs[i]).1 : Nat)) ∧ (flat zs)[i * 2 + 1]? = some (zs[i]).2.2
  | z :: zs, 0, _ => ⟨rfl, rfl⟩
  | z :: zs, i + 1, h => by
    have h' : i < zs.length := by simpa using h
    obtain ⟨h1, h2⟩ := flat_at zs i h'
    have e1 : (i + 1) * 2 = i * 2 + 1 + 1 := by omega
    refine ⟨?_, ?_⟩
    · rw [e1]; exact h1
    · rw [e1]; exact h2
/-- The slices xs read as L, all of one's own. -/
def ReadsL (base : Nat) (L : List (List Nat)) (xs : List Value) (W : World) : Prop := xs.length = L.length ∧ ∀ i v, xs[i]? = some v → Mine W base v (L.getD i [])
theorem ReadsL.kpt {base : Nat} {L : List (List Nat)} {xs : List Value} {W W' : World} (h : ReadsL base L xs W) (hk : KpT W W') : ReadsL base L xs W' := ⟨h.1, fun i v hv => mine_kpt (h.2 i v hv) hk⟩
/-- A slice by its address, its length and its capacity. -/
abbrev S3 := Option Addr × Nat × Nat
def sv (x : S3) : Value := .slice x.1 x.2.1 x.2.2
def toS : Value → S3
  | .slice a n c => (a, n, c)
  | _ => (none, 0, 0)
theorem sv_one (x : S3) : (sv x).oneCell' = true := rfl
theorem contents_mk (d : Nat) (W : World) :
    Calls Tryd.prog 47 #[.pointer (some ⟨d, 0, none⟩)] W fun e W' => e = .returned (.func (.func 54) #[] #[.pointer (some ⟨W.heap.size, 0, none⟩)]) ∧ W' = W.alloc (.cells #[.pointer (some ⟨d, 0, none⟩)] 70) := by
  go_enter Tryd.func47, Tryd.ntmps47
  go_wp2
  go_ret
  exact ⟨rfl, rfl⟩
def nOf : Value → Nat
  | .int _ n => n.toNat
  | _ => 0
set_option maxHeartbeats 2000000 in
theorem contents_yields {w : World} {d : Nat} {F : Nat → Prop} {m : St} (h : Dx w d F m) (hH : Hv w) (Bn : Nat) (hBn : w.cell? ⟨Bn, 0, none⟩ = some (.pointer (some ⟨d, 0, none⟩))) :
    Yields 54 #[.pointer (some ⟨Bn, 0, none⟩)] sv KpT (fun xs W => ReadsL w.heap.size m.L (xs.map sv) W) m.L.length w := by
  intro l J W hW hJa hY h0
  have hok := h.ok
  have hxW := h.later hW
  obtain ⟨vw, vs, h1, h2, h3, h4, h5⟩ := hxW.ex
  have b0 := (hW.cell (p := ⟨Bn, 0, none⟩) (World.block_lt_of_cell? w _ hBn)).trans hBn
  have c0 := h1.cell 0 _ rfl
  have hbs := own_bs h2 (rcs_byt hok.byt)
  obtain ⟨aw, capw, rfl⟩ := rows_form h2
  have HA := all_any _ _ _ W hbs (fun k hk => hxW.lt k (h4 k hk).1) (hH.later hW) (by rw [rcs_len]; have := hok.le; omega)
  rw [chain_all hok.byt hok.short] at HA
  replace HA := Lib.hid HA
  have HJ := Lib.hid (fun (pre : List S3) (A B : World) (hj : J pre A) (hb : Below A.heap.size A B) => hJa pre A B none hj (below_grown hb) (fun r e => by cases e))
  replace hY := Lib.hid hY
  have hszW := hW.size
  have hLl : m.L.length ≤ 16777216 := by
    have h6 : m.L.length ≤ tot m.L := by
      generalize m.L = L
      induction L with
      | nil => exact Nat.zero_le _
      | cons c L ih => show L.length + 1 ≤ 8 + c.length + tot L; omega
    have := hok.le
    omega
  have h00 := Lib.hid h0
  clear h hxW h1 h2 h3 h4 h5 hbs hok hBn h0
  generalize m.L = L at *
  generalize tot L = T at *
  refine callsIn_of_wp Tryd.func54 rfl trivial ?_ rfl
  simp only [Tryd.ntmps54, List.size_toArray, List.length_cons, List.length_nil, Nat.reduceAdd, Nat.reduceSub, Array.replicate_succ, Array.replicate_zero, List.push_toArray, List.append_toArray, List.nil_append, List.cons_append]
  gi_wp2_with (first
    | (refine ⟨trivial, ?_⟩; gi_at_call 51; refine (callsIn_wide.2 HA.out).mono ?_; rintro e W1 ⟨u, rfl, hfr, hb1⟩; obtain ⟨zs, hrow, hzs, hzk, hmi⟩ := hfr.ex; obtain ⟨au, capu, rfl⟩ := rows_form hrow))
  have hJ1 := HJ.out _ _ _ h00.out hb1
  have hzl : zs.length = L.length := by rw [← hzs, List.length_map]
  have hR1 : ReadsL w.heap.size L (zs.map fun z => z.2.2) W1 := ⟨by rw [List.length_map]; exact hzl, fun i v hv => by
    rw [List.getElem?_map] at hv
    rcases hz : zs[i]? with _ | z
    · rw [hz] at hv; cases hv
    · rw [hz] at hv
      injection hv with hv
      subst hv
      have hm := hmi z (List.mem_of_getElem? hz)
      have e : L.getD i [] = z.2.1 := by rw [← hzs, List.getD_eq_getElem?_getD, List.getElem?_map, hz]; rfl
      rw [e]
      exact hm.wide hszW⟩
  replace hR1 := Lib.hid hR1
  replace hrow := Lib.hid hrow
  replace hzk := Lib.hid hzk
  replace hzl := Lib.hid hzl
  have hsv : (zs.map fun z => toS z.2.2).map sv = zs.map fun z => z.2.2 := by
    rw [List.map_map]
    refine List.map_congr_left fun z hz => ?_
    obtain ⟨a', c', e⟩ := (hmi z hz).form
    show sv (toS z.2.2) = z.2.2
    rw [e]
    rfl
  replace hsv := Lib.hid hsv
  replace hmi := Lib.hid hmi
  clear hfr hb1 hzs
  gi_loopw [17] (fun i wr => ∃ k : Nat, k ≤ L.length ∧ i = .int .i64 k ∧ J ((zs.map fun z => toS z.2.2).take k) wr ∧ KpT W1 wr) (fun i _ => L.length - nOf i)
  case atStart => exact ⟨0, Nat.zero_le _, rfl, hJ1, KpT.of_below (Below.refl _ _)⟩
  case round =>
    obtain ⟨k, hk, rfl, hJk, hkp⟩ := hrel
    by_cases hlt : k < L.length
    · have hkz : k < zs.length := by rw [hzl.out]; exact hlt
      obtain ⟨z, hz⟩ : ∃ z, zs[k] = z := ⟨_, rfl⟩
      have hr := rows_kpt hrow.out hkp (by decide) (by decide)
      obtain ⟨fl1, fl2⟩ := flat_at zs k hkz
      rw [hz] at fl1 fl2
      obtain ⟨za, zcap, hzv⟩ := (hmi.out z (by rw [← hz]; exact List.getElem_mem hkz)).form
      have hsn : (zs.map fun z => toS z.2.2).take (k + 1) = (zs.map fun z => toS z.2.2).take k ++ [toS z.2.2] := by
        rw [List.take_succ_eq_append_getElem (by rw [List.length_map]; exact hkz), List.getElem_map, hz]
      have hpl : ((zs.map fun z => toS z.2.2).take k).length < L.length := by rw [List.length_take, List.length_map, hzl.out]; omega
      obtain ⟨g, cap, rfl, c1, c2⟩ : ∃ g cap, au = some ⟨g, 0, none⟩ ∧ wr.cell? ⟨g, k * 2, none⟩ = some (.int .i64 (z.1 : Nat)) ∧ wr.cell? ⟨g, k * 2 + 1, none⟩ = some z.2.2 := by
        rcases hr.2 with ⟨_, h0⟩ | ⟨g, cap, cur, hv, _⟩
        · omega
        · injection hv with e1 e2 e3
          subst e1 e3
          refine ⟨g, capu, rfl, ?_, ?_⟩
          · rw [hr.cellAt (k * 2) (by omega)]; exact fl1
          · rw [hr.cellAt (k * 2 + 1) (by omega)]; exact fl2
      rw [hzv] at hsn c2
      rw [show toS (.slice za z.2.1.length zcap) = (za, z.2.1.length, zcap) from rfl] at hsn
      generalize z.1 = zk at *
      generalize z.2.1.length = zn at *
      have hba : Below wr.heap.size wr (wr.alloc (.cells #[.int .i64 (zk : Nat), .slice za zn zcap] TF)) := (Below.refl _ _).alloc (Nat.le_refl _) _
      have hJ2 := HJ.out _ _ _ hJk hba
      have hkp2 := hkp.trans (KpT.of_below hba)
      obtain ⟨fn, tmps, assign, body, hy, hR⟩ := hY.out _ (za, zn, zcap) _ hJ2 hpl
      rw [show sv (za, zn, zcap) = .slice za zn zcap from rfl] at hy
      replace hsn := Lib.hid hsn
      replace hkp2 := Lib.hid hkp2
      clear hr fl1 fl2 hz hzv hkp hJk hJ2 hba hpl hkz
      gi_wp2
      refine hR.mono ?_
      rintro e W3 ⟨rfl, hJ3, hK3⟩
      gi_wp2
      go_roundw
      case rel => exact ⟨k + 1, by omega, by go_num, by rw [hsn.out]; exact hJ3, hkp2.out.trans hK3⟩
      case measure => simp [nOf]; omega
    · obtain rfl : k = L.length := by omega
      have hall : (zs.map fun z => toS z.2.2).take L.length = zs.map fun z => toS z.2.2 := by rw [← hzl.out, ← List.length_map (f := fun z : Zz => toS z.2.2), List.take_length]
      rw [hall] at hJk
      gi_wp2
      go_end0
      exact ⟨⟨_, rfl⟩, _, by rw [hsv.out]; exact hR1.out.kpt hkp, hJk⟩
end Go.Proofs.YtojeccmnhgcmcaaDoor.Dsk
