/- The document's disk: Records, Same, Copy. -/
import Derived.Test.YtojeccmnhgcmcaaDoorH23
import Derived.Deep.RegionHeld3
namespace Go.Proofs.YtojeccmnhgcmcaaDoor.Dsk
open Go.RowKit Go.ChangeShapes Go.WideShapes _root_.Go.Proofs.YtojeccmnhgcmcaaDoor.Frame
open _root_.Go.Proofs.YtojeccmnhgcmcaaDoor.Crc (Hv more more_lt ret_u32)
set_option linter.unusedVariables false
set_option linter.unusedSimpArgs false
set_option maxRecDepth 100000

set_option maxHeartbeats 1000000 in
theorem rsame_same {W : World} {F G : Nat → Prop} {v1 v2 : Value} {L : List (List Nat)} (h1 : Bss W F v1 L) (h2 : Bss W G v2 L) (hF : ∀ k, F k → k < W.heap.size) (hG : ∀ k, G k → k < W.heap.size) (hL : L.length ≤ 100000000) :
    Calls Tryd.prog 31 #[v1, v2] W (Yes W) := by
  obtain ⟨a1, cap1, rfl⟩ := Bss.form h1
  obtain ⟨a2, cap2, rfl⟩ := Bss.form h2
  have H1 := Lib.hid (fun W' (hb : Below W.heap.size W W') => h1.later hF hb)
  have H2 := Lib.hid (fun W' (hb : Below W.heap.size W W') => h2.later hG hb)
  clear h1 h2
  go_enter Tryd.func31, Tryd.ntmps31
  go_wp2
  go_loopw [5] (fun i wr => ∃ j : Nat, j ≤ L.length ∧ i = .int .i64 j ∧ Below W.heap.size W wr) (fun i _ => L.length - nOf i)
  case atStart => exact ⟨0, Nat.zero_le _, rfl, Below.refl _ _⟩
  case round =>
    obtain ⟨j, hj, rfl, hbj⟩ := hrel
    by_cases hlt : j < L.length
    · obtain ⟨b1, o1, s1, rfl, _, e1, m1⟩ := (H1.out _ hbj).at_ j hlt
      obtain ⟨b2, o2, s2, rfl, _, e2, m2⟩ := (H2.out _ hbj).at_ j hlt
      generalize L.getD j [] = d' at *
      obtain ⟨_, a6, cap6, rfl, _⟩ := (show Bs wr F s1 d' from m1)
      obtain ⟨_, a7, cap7, rfl, _⟩ := (show Bs wr G s2 d' from m2)
      have cv1 : ∀ q, (convert 29 9 (.slice a6 d'.length cap6)).run Tryd.prog (wr.drewN q) = .ok (.string (str d')) (wr.drewN q) := fun q => bs_str (show Bs (wr.drewN q) _ _ _ from m1)
      have cv2 : ∀ q, (convert 29 9 (.slice a7 d'.length cap7)).run Tryd.prog (wr.drewN q) = .ok (.string (str d')) (wr.drewN q) := fun q => bs_str (show Bs (wr.drewN q) _ _ _ from m2)
      go_wp2
      go_quiet (fail)
      go_wp2
      go_roundw
      case rel => exact ⟨j + 1, by omega, by go_num, drewN_b hbj _⟩
      case measure => simp [nOf]; omega
    · obtain rfl : j = L.length := by omega
      go_wp2
      go_ret
      exact ⟨rfl, hbj⟩
set_option maxHeartbeats 2000000 in
theorem rrecords_any {W : World} {r : Nat} {F : Nat → Prop} {m : St} (h : Rx W r F m) :
    Calls Tryd.prog 33 #[.pointer (some ⟨r, 0, none⟩)] W fun e W' => ∃ v, e = .returned v ∧ OwnL W.heap.size m.L v W' ∧ Below W.heap.size W W' := by
  have hV := Lib.hid h.valid
  have hok := h.ok
  obtain ⟨vw, vs, h1, h2, h3⟩ := h.ex
  have hlL := len_le hok
  have HA := rall_any _ _ _ W h2 (fun k hk => h.lt k hk.1) (by rw [rcs_len]; have := hok.le; omega)
  rw [chain_all hok.byt hok.short] at HA
  obtain ⟨aw, capw, rfl, _⟩ := bs_form h2
  have c1 := h1.cell 1 _ rfl
  replace HA := Lib.hid HA
  clear h h1 h2 h3 hok
  generalize (rcs m.L).length = T at *
  generalize tot m.L = T2 at *
  generalize m.L = L at *
  go_enter Tryd.func33, Tryd.ntmps33
  go_wp2_with (go_at_call 41; refine hV.out.mono ?_; rintro e w' ⟨rfl, rfl⟩)
  refine HA.out.mono ?_
  rintro e W1 ⟨u, rfl, hfr, hb1⟩
  obtain ⟨zs, hrow, hzs, hzk, hmi⟩ := hfr.ex
  obtain ⟨au, capu, rfl⟩ := rows_form hrow
  have hzl : zs.length = L.length := by rw [← hzs, List.length_map]
  have hR1 : ReadsL W.heap.size L (zs.map fun z => z.2.2) W1 := ⟨by rw [List.length_map]; exact hzl, fun i v hv => by
    rw [List.getElem?_map] at hv
    rcases hz : zs[i]? with _ | z
    · rw [hz] at hv; cases hv
    · rw [hz] at hv
      injection hv with hv
      subst hv
      have hm := hmi z (List.mem_of_getElem? hz)
      have e : L.getD i [] = z.2.1 := by rw [← hzs, List.getD_eq_getElem?_getD, List.getElem?_map, hz]; rfl
      rw [e]
      exact hm⟩
  replace hR1 := Lib.hid hR1
  replace hrow := Lib.hid hrow
  replace hmi := Lib.hid hmi
  replace hzl := Lib.hid hzl
  have hs1 := hb1.size
  replace hb1 := Lib.hid hb1
  clear hfr hzs hzk HA
  go_wp2
  go_loopw [3, 6] (fun v i wr => ∃ k : Nat, k ≤ L.length ∧ i = .int .i64 k ∧ wr.ownsRow W1.heap.size TSl 1 v k ((zs.map fun z => z.2.2).take k) ∧ Below W1.heap.size W1 wr) (fun _ i _ => L.length - nOf i)
  case atStart => exact ⟨0, Nat.zero_le _, rfl, ⟨rfl, .inl ⟨rfl, rfl⟩⟩, Below.refl _ _⟩
  case round =>
    obtain ⟨k, hk, rfl, ho, hbel⟩ := hrel
    obtain ⟨av, cv, rfl⟩ := rows_form ho
    by_cases hlt : k < L.length
    · have hkz : k < zs.length := by rw [hzl.out]; exact hlt
      obtain ⟨z, hz⟩ : ∃ z, zs[k] = z := ⟨_, rfl⟩
      have hr := rows_later hrow.out hbel
      obtain ⟨fl1, fl2⟩ := flat_at zs k hkz
      rw [hz] at fl1 fl2
      obtain ⟨za, zcap, hzv⟩ := (hmi.out z (by rw [← hz]; exact List.getElem_mem hkz)).form
      have hsn : (zs.map fun z => z.2.2).take (k + 1) = (zs.map fun z => z.2.2).take k ++ [z.2.2] := by
        rw [List.take_succ_eq_append_getElem (by rw [List.length_map]; exact hkz), List.getElem_map, hz]
      obtain ⟨g, cap, rfl, c2⟩ : ∃ g cap, au = some ⟨g, 0, none⟩ ∧ wr.cell? ⟨g, k * 2 + 1, none⟩ = some z.2.2 := by
        rcases hr.2 with ⟨_, h0⟩ | ⟨g, cap, cur, hv, _⟩
        · omega
        · injection hv with e1 e2 e3
          subst e1 e3
          exact ⟨g, capu, rfl, by rw [hr.cellAt (k * 2 + 1) (by omega)]; exact fl2⟩
      rw [hzv] at hsn c2
      generalize z.2.1.length = zn at *
      have i1 : decide ((k : Int) < (L.length : Int)) = true := by simp; omega
      have hab : Below wr.heap.size wr (wr.alloc (.cells #[.slice za zn zcap] TSl)) := (Below.refl _ _).alloc (Nat.le_refl _) _
      have hoa := Lib.hid (rows_later ho hab)
      have hcell : (wr.alloc (.cells #[.slice za zn zcap] TSl)).cell? ⟨wr.heap.size, 0, none⟩ = some (.slice za zn zcap) := cell_of_row _ _ 0 _ _ _ (heap_alloc_new wr _)
      have hba := Lib.hid (hbel.trans (hab.mono hbel.size))
      have hkn := Lib.hid (show k ≤ 100000000 by omega)
      have hws := Lib.hid hbel.size
      replace hsn := Lib.hid hsn
      clear hr fl1 fl2 hz hzv hkz ho hbel hab
      go_wp2_with (at_builtin; refine wpList_append_v rfl _ _ rfl W1.heap.size _ k _ rfl hoa.out wr.heap.size 1 za zn zcap rfl hcell hkn.out (by simp; have := hws.out; omega) ?_; intro v2 W2 ho2 hg; have hb2 := Lib.hid (hba.out.grown hg hba.out.size (fun i hi => (World.ownsRow.lt hoa.out i hi).1)); rw [← hsn.out] at ho2; replace ho2 := Lib.hid ho2; clear hg)
      go_roundw
      case rel => exact ⟨k + 1, by omega, by go_num, ho2.out, hb2.out⟩
      case measure => simp [nOf]; omega
    · have hkL : k = L.length := by omega
      have i1 : decide ((k : Int) < (L.length : Int)) = false := by simp; omega
      have hE : Hid (OwnL W.heap.size L (.slice av k cv) wr) := Lib.hid (by
        subst hkL
        rw [show (zs.map fun z => z.2.2).take L.length = zs.map fun z => z.2.2 from by rw [← hzl.out, ← List.length_map (f := fun z : Zz => z.2.2), List.take_length]] at ho
        exact ⟨_, rows_base ho hs1, hR1.out.1, fun i v hv => (hR1.out.2 i v hv).later hbel⟩)
      have hbE := Lib.hid (hb1.out.trans (hbel.mono hs1))
      clear ho hbel hkL
      go_wp2
      go_ret
      exact ⟨_, rfl, hE.out, hbE.out⟩
theorem step_append_b {ops : Array Oper} {o : Oper} {a : Act} {w : World} {K : Act → World → Prop} {Q : Exit → Act → World → Prop} {E : Prop} (hgd : o.guard = none) (s x : Operand)
    (ho : o.op = .call { callee := .builtin .append, args := #[s, x], argTypes := #[29, 29] })
    (base : Nat) (v : Value) (n : Nat) (xs : List Value) (hs : a.eval s = v) (hown : w.ownsRow base TB 1 v n xs)
    (F : Nat → Prop) (A : Option Addr) (m c : Nat) (l : List Nat) (hx : a.eval x = .slice A m c) (hb : Bs w F (.slice A m c) l) (h63 : n + m ≤ 1000000000) (hbase : base ≤ w.heap.size)
    (h : ∀ v' w', w'.ownsRow base TB 1 v' (n + m) (xs ++ bv l) → w.grownBy w' v.ownBlock → (v'.ownBlock = v.ownBlock ∨ v'.ownBlock = some w.heap.size) → K (a.put o.dst v') w') :
    if Region.wanted o (yielded ops a.tmps) = true then Oper.wp Tryd.prog o a w K Q else E := by
  have hw : Region.wanted o (yielded ops a.tmps) = true := by simp [Region.wanted, hgd]
  rw [if_pos hw]
  obtain ⟨v', w', hrun, h1, h2, h3⟩ := run_append_b base w o.type v n xs hown F A m c l hb h63 hbase
  unfold Oper.wp execOp
  simp only [ho, resolve, invoke, builtin, Sem.run_bind, Sem.run_pure, Result.andThen_ok, List.map_toArray, List.map_cons, List.map_nil, hs, hx, hrun]
  exact h v' w' h1 h2 h3
/-- Ahead of the second append: the first row, and the empty one. -/
structure Cp (w : World) (vA : Value) (M : List Nat) (q : Nat) (V : World) : Prop where
  row : V.ownsRow w.heap.size TB 1 vA M.length (bv M)
  emp : V.ownsRow w.heap.size TB 1 (.slice (some ⟨q, 0, none⟩) 0 0) 0 []
  ne : vA.ownBlock ≠ some q
  bel : Below w.heap.size w V
theorem emp_new (w V : World) (hb : w.heap.size ≤ V.heap.size) : (V.alloc (.cells #[] TB)).ownsRow w.heap.size TB 1 (.slice (some ⟨V.heap.size, 0, none⟩) 0 0) 0 [] := rows_base (own_made V) hb
theorem emp_lt {w V : World} {q : Nat} (h : V.ownsRow w.heap.size TB 1 (.slice (some ⟨q, 0, none⟩) 0 0) 0 []) : w.heap.size ≤ q ∧ q < V.heap.size := World.ownsRow.lt h q rfl
/-- The empty row was made, then the first append was done. -/
theorem cp_late {w V : World} {vA : Value} {M : List Nat} (h : V.ownsRow w.heap.size TB 1 vA M.length (bv M)) (hb : Below w.heap.size w V) : Cp w vA M V.heap.size (V.alloc (.cells #[] TB)) :=
  ⟨rows_later h ((Below.refl _ _).alloc (Nat.le_refl _) _), emp_new w V hb.size, fun e => by have := (World.ownsRow.lt h _ e).2; omega, hb.alloc hb.size _⟩
theorem cp_early {w V V2 : World} {vA : Value} {M : List Nat} {p q : Nat} (he : V.ownsRow w.heap.size TB 1 (.slice (some ⟨q, 0, none⟩) 0 0) 0 []) (hp : V.ownsRow w.heap.size TB 1 (.slice (some ⟨p, 0, none⟩) 0 0) 0 []) (hpq : p ≠ q) (hb : Below w.heap.size w V)
    (ho : V2.ownsRow w.heap.size TB 1 vA (0 + M.length) ([] ++ bv M)) (hg : V.grownBy V2 (some p)) (hv : vA.ownBlock = some p ∨ vA.ownBlock = some V.heap.size) : Cp w vA M q V2 := by
  have hql := emp_lt he
  refine ⟨by simpa using ho, rows_kept he fun k e => ?_, fun e => ?_, hb.grown hg hb.size fun k e => by injection e with e; subst e; exact (emp_lt hp).1⟩
  · have e' : q = k := by simpa [Value.ownBlock] using e
    subst e'
    exact hg.block q hql.2 fun e2 => by injection e2 with e2; exact hpq e2.symm
  · rcases hv with hv | hv <;> rw [hv] at e <;> injection e with e <;> omega
def RCop (w : World) (m : St) (e : Ending) (w' : World) : Prop :=
  ∃ r', e = .returned (.pointer (some ⟨r', 0, none⟩)) ∧ Rx w' r' (From w.heap.size w') m ∧ Below w.heap.size w w'
theorem cp_fin {w V V3 : World} {vA vB : Value} {m : St} {q : Nat} (hok : OkS m) (h : Cp w vA (rcs m.L) q V) (ho : V3.ownsRow w.heap.size TB 1 vB (0 + m.S.length) ([] ++ bv m.S)) (hg : V.grownBy V3 (some q)) :
    Below w.heap.size w V3 ∧ RCop w m (.returned (.pointer (some ⟨V3.heap.size, 0, none⟩))) (V3.alloc (.cells #[.bool true, vA, .int .i64 (safe m : Nat), vB, .bool m.h] TRD)) := by
  have hb3 : Below w.heap.size w V3 := h.bel.grown hg h.bel.size fun k e => by injection e with e; subst e; exact (emp_lt h.emp).1
  have hA : V3.ownsRow w.heap.size TB 1 vA (rcs m.L).length (bv (rcs m.L)) := rows_kept h.row fun k e => hg.block k (World.ownsRow.lt h.row k e).2 fun e2 => h.ne (by rw [e]; exact e2)
  have hB : V3.ownsRow w.heap.size TB 1 vB m.S.length (bv m.S) := by simpa using ho
  have hab : Below V3.heap.size V3 (V3.alloc (.cells #[.bool true, vA, .int .i64 (safe m : Nat), vB, .bool m.h] TRD)) := (Below.refl _ _).alloc (Nat.le_refl _) _
  have hmA : Mine V3 w.heap.size vA (rcs m.L) := ⟨hA, rcs_byt hok.byt⟩
  have hmB : Mine V3 w.heap.size vB m.S := ⟨hB, hok.sb⟩
  have hwid : ∀ k, From w.heap.size V3 k → From w.heap.size (V3.alloc (.cells #[.bool true, vA, .int .i64 (safe m : Nat), vB, .bool m.h] TRD)) k ∧ k ≠ V3.heap.size := fun k hk => ⟨⟨hk.1, by rw [World.size_alloc]; have := hk.2; omega⟩, by have := hk.2; omega⟩
  exact ⟨hb3, V3.heap.size, rfl, ⟨hok, ⟨vA, vB, heap_alloc_new _ _, (hmA.bs.kept (Same.of_below hab fun k hk => hk.2)).wide hwid, (hmB.bs.kept (Same.of_below hab fun k hk => hk.2)).wide hwid⟩, ⟨hb3.size, by simp⟩, fun k hk => hk.2⟩, hb3.trans (hab.mono hb3.size)⟩
set_option maxHeartbeats 8000000 in
theorem rcopy_any {W : World} {r : Nat} {F : Nat → Prop} {m : St} (h : Rx W r F m) :
    Calls Tryd.prog 24 #[.pointer (some ⟨r, 0, none⟩)] W (RCop W m) := by
  have hV := Lib.hid h.valid
  have hok := h.ok
  obtain ⟨vw, vs, h1, h2, h3⟩ := h.ex
  obtain ⟨aw, capw, rfl, _⟩ := bs_form h2
  obtain ⟨a3, cap3, rfl, _⟩ := bs_form h3
  have hle : (rcs m.L).length ≤ 16777216 := by rw [rcs_len]; exact hok.le
  have hsl := hok.sl
  have HK := Lib.hid (fun (V : World) (hb : Below W.heap.size W V) => (⟨(h1.later hb).cell 1 _ rfl, (h1.later hb).cell 2 _ rfl, (h1.later hb).cell 3 _ rfl, (h1.later hb).cell 4 _ rfl, hb⟩ :
    V.cell? ⟨r, 1, none⟩ = some (.slice aw (rcs m.L).length capw) ∧ V.cell? ⟨r, 2, none⟩ = some (.int .i64 (safe m : Nat)) ∧ V.cell? ⟨r, 3, none⟩ = some (.slice a3 m.S.length cap3) ∧ V.cell? ⟨r, 4, none⟩ = some (.bool m.h) ∧ Below W.heap.size W V))
  have hMb := Lib.hid (fun (V : World) (hb : Below W.heap.size W V) => h2.kept (Same.of_below hb fun k hk => h.lt k hk.1))
  have hSb := Lib.hid (fun (V : World) (hb : Below W.heap.size W V) => h3.kept (Same.of_below hb fun k hk => h.lt k hk.1))
  have hFin := Lib.hid (fun (V V3 : World) (vA vB : Value) (q : Nat) (hc : Cp W vA (rcs m.L) q V) (ho : V3.ownsRow W.heap.size TB 1 vB (0 + m.S.length) ([] ++ bv m.S)) (hg : V.grownBy V3 (some q)) => cp_fin hok hc ho hg)
  have hbA : Hid (Below W.heap.size W (W.drew.alloc (.cells #[] TB))) := Lib.hid (((Below.refl W.heap.size W).drew).alloc (Nat.le_refl _) _)
  have hbAB : Hid (Below W.heap.size W ((W.drew.alloc (.cells #[] TB)).alloc (.cells #[] TB))) := Lib.hid (hbA.out.alloc hbA.out.size _)
  have hEA : Hid (((W.drew.alloc (.cells #[] TB)).alloc (.cells #[] TB)).ownsRow W.heap.size TB 1 (.slice (some ⟨W.heap.size, 0, none⟩) 0 0) 0 []) := Lib.hid (rows_later (emp_new W W.drew (Nat.le_refl _)) ((Below.refl _ _).alloc (Nat.le_refl _) _))
  have hEB : Hid (((W.drew.alloc (.cells #[] TB)).alloc (.cells #[] TB)).ownsRow W.heap.size TB 1 (.slice (some ⟨W.heap.size + 1, 0, none⟩) 0 0) 0 []) := Lib.hid (by
    have := emp_new W (W.drew.alloc (.cells #[] TB)) hbA.out.size
    rwa [show (W.drew.alloc (.cells #[] TB)).heap.size = W.heap.size + 1 from World.size_alloc _ _] at this)
  have hS0 := HK.out _ (Below.refl _ _)
  obtain ⟨c1, c2, c3, c4, _⟩ := hS0
  have hS0 := HK.out _ ((Below.refl W.heap.size W).drew)
  clear h h1 h2 h3 hok
  generalize safe m = s at *
  generalize m.h = hh at *
  generalize hMM : rcs m.L = M at *
  generalize hSS : m.S = Sn at *
  clear hMM hSS
  obtain ⟨T, hT⟩ : ∃ T, M.length = T := ⟨_, rfl⟩
  obtain ⟨n3, hn3⟩ : ∃ n3, Sn.length = n3 := ⟨_, rfl⟩
  rw [hT] at HK hMb c1 hS0 hle
  rw [hn3] at HK hSb hFin c3 hS0 hsl
  replace hT := Lib.hid hT
  replace hn3 := Lib.hid hn3
  go_enter Tryd.func24, Tryd.ntmps24
  go_wp2_with (go_at_call 41; refine hV.out.mono ?_; rintro e w' ⟨rfl, rfl⟩)
  refine wp_region_held_drew (S := (fun V => V.cell? ⟨r, 1, none⟩ = some (.slice aw T capw) ∧ V.cell? ⟨r, 2, none⟩ = some (.int .i64 (s : Nat)) ∧ V.cell? ⟨r, 3, none⟩ = some (.slice a3 n3 cap3) ∧ V.cell? ⟨r, 4, none⟩ = some (.bool hh) ∧ Below W.heap.size W V)) (by kernel_rfl) (hS0) (fun hS => ?_)
  try simp only [List.getElem_toArray, List.getElem_cons_succ, List.getElem_cons_zero, Act.put, List.setIfInBounds_toArray, List.set_cons_zero, List.set_cons_succ]
  refine wpAnyH_take (i := 1) (v := (.pointer (some ⟨r, 0, none⟩))) rfl (by kernel_rfl) (by kernel_rfl) (by kernel_rfl) (fun _ _ _ h => h) (Or.inl ⟨by kernel_rfl, by intro w' hSw; obtain ⟨s1, s2, s3, s4, _⟩ := hSw; go_simp⟩) hS ?_
  try simp only [List.getElem_toArray, List.getElem_cons_succ, List.getElem_cons_zero, Act.put, List.setIfInBounds_toArray, List.set_cons_zero, List.set_cons_succ]
  refine wpAnyH_take (i := 2) (v := (.pointer (some ⟨r, 0, none⟩))) rfl (by kernel_rfl) (by kernel_rfl) (by kernel_rfl) (fun _ _ _ h => h) (Or.inl ⟨by kernel_rfl, by intro w' hSw; obtain ⟨s1, s2, s3, s4, _⟩ := hSw; go_simp⟩) hS ?_
  try simp only [List.getElem_toArray, List.getElem_cons_succ, List.getElem_cons_zero, Act.put, List.setIfInBounds_toArray, List.set_cons_zero, List.set_cons_succ]
  refine wpAnyH_take (i := 3) (v := (.pointer (some ⟨r, 1, none⟩))) rfl (by kernel_rfl) (by kernel_rfl) (by kernel_rfl) (fun _ _ _ h => h) (Or.inl ⟨by kernel_rfl, by intro w' hSw; obtain ⟨s1, s2, s3, s4, _⟩ := hSw; go_simp⟩) hS ?_
  try simp only [List.getElem_toArray, List.getElem_cons_succ, List.getElem_cons_zero, Act.put, List.setIfInBounds_toArray, List.set_cons_zero, List.set_cons_succ]
  refine wpAnyH_take (i := 4) (v := (.slice aw T capw)) rfl (by kernel_rfl) (by kernel_rfl) (by kernel_rfl) (fun _ _ _ h => h) (Or.inl ⟨by kernel_rfl, by intro w' hSw; obtain ⟨s1, s2, s3, s4, _⟩ := hSw; go_simp⟩) hS ?_
  try simp only [List.getElem_toArray, List.getElem_cons_succ, List.getElem_cons_zero, Act.put, List.setIfInBounds_toArray, List.set_cons_zero, List.set_cons_succ]
  refine wpAnyH_take (i := 6) (v := (.pointer (some ⟨r, 0, none⟩))) rfl (by kernel_rfl) (by kernel_rfl) (by kernel_rfl) (fun _ _ _ h => h) (Or.inl ⟨by kernel_rfl, by intro w' hSw; obtain ⟨s1, s2, s3, s4, _⟩ := hSw; go_simp⟩) hS ?_
  try simp only [List.getElem_toArray, List.getElem_cons_succ, List.getElem_cons_zero, Act.put, List.setIfInBounds_toArray, List.set_cons_zero, List.set_cons_succ]
  refine wpAnyH_take (i := 7) (v := (.pointer (some ⟨r, 0, none⟩))) rfl (by kernel_rfl) (by kernel_rfl) (by kernel_rfl) (fun _ _ _ h => h) (Or.inl ⟨by kernel_rfl, by intro w' hSw; obtain ⟨s1, s2, s3, s4, _⟩ := hSw; go_simp⟩) hS ?_
  try simp only [List.getElem_toArray, List.getElem_cons_succ, List.getElem_cons_zero, Act.put, List.setIfInBounds_toArray, List.set_cons_zero, List.set_cons_succ]
  refine wpAnyH_take (i := 8) (v := (.pointer (some ⟨r, 2, none⟩))) rfl (by kernel_rfl) (by kernel_rfl) (by kernel_rfl) (fun _ _ _ h => h) (Or.inl ⟨by kernel_rfl, by intro w' hSw; obtain ⟨s1, s2, s3, s4, _⟩ := hSw; go_simp⟩) hS ?_
  try simp only [List.getElem_toArray, List.getElem_cons_succ, List.getElem_cons_zero, Act.put, List.setIfInBounds_toArray, List.set_cons_zero, List.set_cons_succ]
  refine wpAnyH_take (i := 9) (v := (.int .i64 (s : Nat))) rfl (by kernel_rfl) (by kernel_rfl) (by kernel_rfl) (fun _ _ _ h => h) (Or.inl ⟨by kernel_rfl, by intro w' hSw; obtain ⟨s1, s2, s3, s4, _⟩ := hSw; go_simp⟩) hS ?_
  try simp only [List.getElem_toArray, List.getElem_cons_succ, List.getElem_cons_zero, Act.put, List.setIfInBounds_toArray, List.set_cons_zero, List.set_cons_succ]
  refine wpAnyH_take (i := 11) (v := (.pointer (some ⟨r, 0, none⟩))) rfl (by kernel_rfl) (by kernel_rfl) (by kernel_rfl) (fun _ _ _ h => h) (Or.inl ⟨by kernel_rfl, by intro w' hSw; obtain ⟨s1, s2, s3, s4, _⟩ := hSw; go_simp⟩) hS ?_
  try simp only [List.getElem_toArray, List.getElem_cons_succ, List.getElem_cons_zero, Act.put, List.setIfInBounds_toArray, List.set_cons_zero, List.set_cons_succ]
  refine wpAnyH_take (i := 12) (v := (.pointer (some ⟨r, 0, none⟩))) rfl (by kernel_rfl) (by kernel_rfl) (by kernel_rfl) (fun _ _ _ h => h) (Or.inl ⟨by kernel_rfl, by intro w' hSw; obtain ⟨s1, s2, s3, s4, _⟩ := hSw; go_simp⟩) hS ?_
  try simp only [List.getElem_toArray, List.getElem_cons_succ, List.getElem_cons_zero, Act.put, List.setIfInBounds_toArray, List.set_cons_zero, List.set_cons_succ]
  refine wpAnyH_take (i := 13) (v := (.pointer (some ⟨r, 3, none⟩))) rfl (by kernel_rfl) (by kernel_rfl) (by kernel_rfl) (fun _ _ _ h => h) (Or.inl ⟨by kernel_rfl, by intro w' hSw; obtain ⟨s1, s2, s3, s4, _⟩ := hSw; go_simp⟩) hS ?_
  try simp only [List.getElem_toArray, List.getElem_cons_succ, List.getElem_cons_zero, Act.put, List.setIfInBounds_toArray, List.set_cons_zero, List.set_cons_succ]
  refine wpAnyH_take (i := 14) (v := (.slice a3 n3 cap3)) rfl (by kernel_rfl) (by kernel_rfl) (by kernel_rfl) (fun _ _ _ h => h) (Or.inl ⟨by kernel_rfl, by intro w' hSw; obtain ⟨s1, s2, s3, s4, _⟩ := hSw; go_simp⟩) hS ?_
  try simp only [List.getElem_toArray, List.getElem_cons_succ, List.getElem_cons_zero, Act.put, List.setIfInBounds_toArray, List.set_cons_zero, List.set_cons_succ]
  refine wpAnyH_take (i := 16) (v := (.pointer (some ⟨r, 0, none⟩))) rfl (by kernel_rfl) (by kernel_rfl) (by kernel_rfl) (fun _ _ _ h => h) (Or.inl ⟨by kernel_rfl, by intro w' hSw; obtain ⟨s1, s2, s3, s4, _⟩ := hSw; go_simp⟩) hS ?_
  try simp only [List.getElem_toArray, List.getElem_cons_succ, List.getElem_cons_zero, Act.put, List.setIfInBounds_toArray, List.set_cons_zero, List.set_cons_succ]
  refine wpAnyH_take (i := 17) (v := (.pointer (some ⟨r, 0, none⟩))) rfl (by kernel_rfl) (by kernel_rfl) (by kernel_rfl) (fun _ _ _ h => h) (Or.inl ⟨by kernel_rfl, by intro w' hSw; obtain ⟨s1, s2, s3, s4, _⟩ := hSw; go_simp⟩) hS ?_
  try simp only [List.getElem_toArray, List.getElem_cons_succ, List.getElem_cons_zero, Act.put, List.setIfInBounds_toArray, List.set_cons_zero, List.set_cons_succ]
  refine wpAnyH_take (i := 18) (v := (.pointer (some ⟨r, 4, none⟩))) rfl (by kernel_rfl) (by kernel_rfl) (by kernel_rfl) (fun _ _ _ h => h) (Or.inl ⟨by kernel_rfl, by intro w' hSw; obtain ⟨s1, s2, s3, s4, _⟩ := hSw; go_simp⟩) hS ?_
  try simp only [List.getElem_toArray, List.getElem_cons_succ, List.getElem_cons_zero, Act.put, List.setIfInBounds_toArray, List.set_cons_zero, List.set_cons_succ]
  refine wpAnyH_take (i := 19) (v := (.bool hh)) rfl (by kernel_rfl) (by kernel_rfl) (by kernel_rfl) (fun _ _ _ h => h) (Or.inl ⟨by kernel_rfl, by intro w' hSw; obtain ⟨s1, s2, s3, s4, _⟩ := hSw; go_simp⟩) hS ?_
  try simp only [List.getElem_toArray, List.getElem_cons_succ, List.getElem_cons_zero, Act.put, List.setIfInBounds_toArray, List.set_cons_zero, List.set_cons_succ]
  refine wpAnyH_ready (rs := [0, 10]) (by kernel_rfl) (by simp) ?_
  refine AllReadyH.cons rfl (fun K hK => ?_) (AllReadyH.cons rfl (fun K hK => ?_) AllReadyH.nil)
  · go_simp
    refine hK.out _ _ (HK.out _ hbA.out) (fun hS => ?_)
    clear hK K
    try simp only [List.getElem_toArray, List.getElem_cons_succ, List.getElem_cons_zero, Act.put, List.setIfInBounds_toArray, List.set_cons_zero, List.set_cons_succ]
    refine wpAnyH_ready (rs := [5, 10]) (by kernel_rfl) (by simp) ?_
    refine AllReadyH.cons rfl (fun K hK => ?_) (AllReadyH.cons rfl (fun K hK => ?_) AllReadyH.nil)
    · refine step_append_b rfl (.tmp 6) (.tmp 10) rfl W.heap.size _ 0 [] (by simp [Act.eval]) (emp_new W W.drew (Nat.le_refl _)) _ aw T capw M (by simp [Act.eval]) (hMb.out _ (hbA.out)) (by omega) (hbA.out).size ?_
      intro vA V2 hoA hgA _
      rw [← hT.out] at hoA
      have hb2 : Below W.heap.size W V2 := hbA.out.grown hgA hbA.out.size (fun k e => Nat.le_of_eq (by simpa [Value.ownBlock] using e))
      have hrA : V2.ownsRow W.heap.size TB 1 vA M.length (bv M) := by simpa using hoA
      have hCp := Lib.hid (cp_late hrA hb2)
      obtain ⟨aA, cA, rfl⟩ := rows_form hoA
      refine hK.out _ _ (HK.out _ hb2) (fun hS => ?_)
      clear hK K hoA hgA hrA
      try simp only [List.getElem_toArray, List.getElem_cons_succ, List.getElem_cons_zero, Act.put, List.setIfInBounds_toArray, List.set_cons_zero, List.set_cons_succ]
      refine wpAnyH_ready (rs := [10]) (by kernel_rfl) (by simp) ?_
      refine AllReadyH.cons rfl (fun K hK => ?_) AllReadyH.nil
      go_simp
      refine hK.out _ _ (HK.out _ hCp.out.bel) (fun hS => ?_)
      clear hK K
      try simp only [List.getElem_toArray, List.getElem_cons_succ, List.getElem_cons_zero, Act.put, List.setIfInBounds_toArray, List.set_cons_zero, List.set_cons_succ]
      refine wpAnyH_ready (rs := [15]) (by kernel_rfl) (by simp) ?_
      refine AllReadyH.cons rfl (fun K hK => ?_) AllReadyH.nil
      refine step_append_b rfl (.tmp 16) (.tmp 20) rfl W.heap.size _ 0 [] (by simp [Act.eval]) hCp.out.emp _ a3 n3 cap3 Sn (by simp [Act.eval]) (hSb.out _ hCp.out.bel) (by omega) hCp.out.bel.size ?_
      intro vB V3 hoB hgB _
      obtain ⟨hb3, hfin⟩ := hFin.out _ _ _ _ _ hCp.out hoB hgB
      obtain ⟨aB, cB, rfl⟩ := rows_form hoB
      simp only [Nat.zero_add] at hfin
      replace hfin := Lib.hid hfin
      clear hoB hgB
      refine hK.out _ _ (HK.out _ hb3) (fun hS => ?_)
      clear hK K
      try simp only [List.getElem_toArray, List.getElem_cons_succ, List.getElem_cons_zero, Act.put, List.setIfInBounds_toArray, List.set_cons_zero, List.set_cons_succ]
      refine wpAnyH_take (i := 20) (v := (.agg #[.bool true, .slice aA (0 + M.length) cA, .int .i64 (s : Nat), .slice aB (0 + n3) cB, .bool hh])) rfl (by kernel_rfl) (by kernel_rfl) (by kernel_rfl) (fun _ _ _ h => h) (Or.inl ⟨by kernel_rfl, by intro w' hSw; obtain ⟨s1, s2, s3, s4, _⟩ := hSw; go_simp⟩) hS ?_
      try simp only [List.getElem_toArray, List.getElem_cons_succ, List.getElem_cons_zero, Act.put, List.setIfInBounds_toArray, List.set_cons_zero, List.set_cons_succ]
      refine wpAnyH_ready (rs := [21]) (by kernel_rfl) (by simp) ?_
      refine AllReadyH.cons rfl (fun K hK => ?_) AllReadyH.nil
      go_simp
      refine hK.out _ _ (HK.out _ (hb3.alloc hb3.size _)) (fun hS => ?_)
      clear hK K
      try simp only [List.getElem_toArray, List.getElem_cons_succ, List.getElem_cons_zero, Act.put, List.setIfInBounds_toArray, List.set_cons_zero, List.set_cons_succ]
      refine wpAnyH_ready (rs := [22]) (by kernel_rfl) (by simp) ?_
      refine AllReadyH.cons rfl (fun K hK => ?_) AllReadyH.nil
      go_simp
      refine hK.out _ _ hS (fun hS => ?_)
      clear hK K
      try simp only [List.getElem_toArray, List.getElem_cons_succ, List.getElem_cons_zero, Act.put, List.setIfInBounds_toArray, List.set_cons_zero, List.set_cons_succ]
      refine wpAnyH_done (by kernel_rfl) ?_ _
      clear hS
      simp only [Exit.then]
      go_at_K
      go_wp2
      go_ret
      exact hfin.out
    · go_simp
      refine hK.out _ _ (HK.out _ hbAB.out) (fun hS => ?_)
      clear hK K
      try simp only [List.getElem_toArray, List.getElem_cons_succ, List.getElem_cons_zero, Act.put, List.setIfInBounds_toArray, List.set_cons_zero, List.set_cons_succ]
      refine wpAnyH_ready (rs := [5]) (by kernel_rfl) (by simp) ?_
      refine AllReadyH.cons rfl (fun K hK => ?_) AllReadyH.nil
      refine step_append_b rfl (.tmp 6) (.tmp 10) rfl W.heap.size _ 0 [] (by simp [Act.eval]) (hEA.out) _ aw T capw M (by simp [Act.eval]) (hMb.out _ (hbAB.out)) (by omega) (hbAB.out).size ?_
      intro vA V2 hoA hgA hvA
      rw [← hT.out] at hoA
      have hCp := Lib.hid (cp_early hEB.out hEA.out (by omega) hbAB.out hoA hgA hvA)
      obtain ⟨aA, cA, rfl⟩ := rows_form hoA
      refine hK.out _ _ (HK.out _ hCp.out.bel) (fun hS => ?_)
      clear hoA hgA hvA
      clear hK K
      try simp only [List.getElem_toArray, List.getElem_cons_succ, List.getElem_cons_zero, Act.put, List.setIfInBounds_toArray, List.set_cons_zero, List.set_cons_succ]
      refine wpAnyH_ready (rs := [15]) (by kernel_rfl) (by simp) ?_
      refine AllReadyH.cons rfl (fun K hK => ?_) AllReadyH.nil
      refine step_append_b rfl (.tmp 16) (.tmp 20) rfl W.heap.size _ 0 [] (by simp [Act.eval]) hCp.out.emp _ a3 n3 cap3 Sn (by simp [Act.eval]) (hSb.out _ hCp.out.bel) (by omega) hCp.out.bel.size ?_
      intro vB V3 hoB hgB _
      obtain ⟨hb3, hfin⟩ := hFin.out _ _ _ _ _ hCp.out hoB hgB
      obtain ⟨aB, cB, rfl⟩ := rows_form hoB
      simp only [Nat.zero_add] at hfin
      replace hfin := Lib.hid hfin
      clear hoB hgB
      refine hK.out _ _ (HK.out _ hb3) (fun hS => ?_)
      clear hK K
      try simp only [List.getElem_toArray, List.getElem_cons_succ, List.getElem_cons_zero, Act.put, List.setIfInBounds_toArray, List.set_cons_zero, List.set_cons_succ]
      refine wpAnyH_take (i := 20) (v := (.agg #[.bool true, .slice aA (0 + M.length) cA, .int .i64 (s : Nat), .slice aB (0 + n3) cB, .bool hh])) rfl (by kernel_rfl) (by kernel_rfl) (by kernel_rfl) (fun _ _ _ h => h) (Or.inl ⟨by kernel_rfl, by intro w' hSw; obtain ⟨s1, s2, s3, s4, _⟩ := hSw; go_simp⟩) hS ?_
      try simp only [List.getElem_toArray, List.getElem_cons_succ, List.getElem_cons_zero, Act.put, List.setIfInBounds_toArray, List.set_cons_zero, List.set_cons_succ]
      refine wpAnyH_ready (rs := [21]) (by kernel_rfl) (by simp) ?_
      refine AllReadyH.cons rfl (fun K hK => ?_) AllReadyH.nil
      go_simp
      refine hK.out _ _ (HK.out _ (hb3.alloc hb3.size _)) (fun hS => ?_)
      clear hK K
      try simp only [List.getElem_toArray, List.getElem_cons_succ, List.getElem_cons_zero, Act.put, List.setIfInBounds_toArray, List.set_cons_zero, List.set_cons_succ]
      refine wpAnyH_ready (rs := [22]) (by kernel_rfl) (by simp) ?_
      refine AllReadyH.cons rfl (fun K hK => ?_) AllReadyH.nil
      go_simp
      refine hK.out _ _ hS (fun hS => ?_)
      clear hK K
      try simp only [List.getElem_toArray, List.getElem_cons_succ, List.getElem_cons_zero, Act.put, List.setIfInBounds_toArray, List.set_cons_zero, List.set_cons_succ]
      refine wpAnyH_done (by kernel_rfl) ?_ _
      clear hS
      simp only [Exit.then]
      go_at_K
      go_wp2
      go_ret
      exact hfin.out
  · go_simp
    refine hK.out _ _ (HK.out _ hbA.out) (fun hS => ?_)
    clear hK K
    try simp only [List.getElem_toArray, List.getElem_cons_succ, List.getElem_cons_zero, Act.put, List.setIfInBounds_toArray, List.set_cons_zero, List.set_cons_succ]
    refine wpAnyH_ready (rs := [0]) (by kernel_rfl) (by simp) ?_
    refine AllReadyH.cons rfl (fun K hK => ?_) AllReadyH.nil
    go_simp
    refine hK.out _ _ (HK.out _ hbAB.out) (fun hS => ?_)
    clear hK K
    try simp only [List.getElem_toArray, List.getElem_cons_succ, List.getElem_cons_zero, Act.put, List.setIfInBounds_toArray, List.set_cons_zero, List.set_cons_succ]
    refine wpAnyH_ready (rs := [5]) (by kernel_rfl) (by simp) ?_
    refine AllReadyH.cons rfl (fun K hK => ?_) AllReadyH.nil
    refine step_append_b rfl (.tmp 6) (.tmp 10) rfl W.heap.size _ 0 [] (by simp [Act.eval]) (hEB.out) _ aw T capw M (by simp [Act.eval]) (hMb.out _ (hbAB.out)) (by omega) (hbAB.out).size ?_
    intro vA V2 hoA hgA hvA
    rw [← hT.out] at hoA
    have hCp := Lib.hid (cp_early hEA.out hEB.out (by omega) hbAB.out hoA hgA hvA)
    obtain ⟨aA, cA, rfl⟩ := rows_form hoA
    refine hK.out _ _ (HK.out _ hCp.out.bel) (fun hS => ?_)
    clear hoA hgA hvA
    clear hK K
    try simp only [List.getElem_toArray, List.getElem_cons_succ, List.getElem_cons_zero, Act.put, List.setIfInBounds_toArray, List.set_cons_zero, List.set_cons_succ]
    refine wpAnyH_ready (rs := [15]) (by kernel_rfl) (by simp) ?_
    refine AllReadyH.cons rfl (fun K hK => ?_) AllReadyH.nil
    refine step_append_b rfl (.tmp 16) (.tmp 20) rfl W.heap.size _ 0 [] (by simp [Act.eval]) hCp.out.emp _ a3 n3 cap3 Sn (by simp [Act.eval]) (hSb.out _ hCp.out.bel) (by omega) hCp.out.bel.size ?_
    intro vB V3 hoB hgB _
    obtain ⟨hb3, hfin⟩ := hFin.out _ _ _ _ _ hCp.out hoB hgB
    obtain ⟨aB, cB, rfl⟩ := rows_form hoB
    simp only [Nat.zero_add] at hfin
    replace hfin := Lib.hid hfin
    clear hoB hgB
    refine hK.out _ _ (HK.out _ hb3) (fun hS => ?_)
    clear hK K
    try simp only [List.getElem_toArray, List.getElem_cons_succ, List.getElem_cons_zero, Act.put, List.setIfInBounds_toArray, List.set_cons_zero, List.set_cons_succ]
    refine wpAnyH_take (i := 20) (v := (.agg #[.bool true, .slice aA (0 + M.length) cA, .int .i64 (s : Nat), .slice aB (0 + n3) cB, .bool hh])) rfl (by kernel_rfl) (by kernel_rfl) (by kernel_rfl) (fun _ _ _ h => h) (Or.inl ⟨by kernel_rfl, by intro w' hSw; obtain ⟨s1, s2, s3, s4, _⟩ := hSw; go_simp⟩) hS ?_
    try simp only [List.getElem_toArray, List.getElem_cons_succ, List.getElem_cons_zero, Act.put, List.setIfInBounds_toArray, List.set_cons_zero, List.set_cons_succ]
    refine wpAnyH_ready (rs := [21]) (by kernel_rfl) (by simp) ?_
    refine AllReadyH.cons rfl (fun K hK => ?_) AllReadyH.nil
    go_simp
    refine hK.out _ _ (HK.out _ (hb3.alloc hb3.size _)) (fun hS => ?_)
    clear hK K
    try simp only [List.getElem_toArray, List.getElem_cons_succ, List.getElem_cons_zero, Act.put, List.setIfInBounds_toArray, List.set_cons_zero, List.set_cons_succ]
    refine wpAnyH_ready (rs := [22]) (by kernel_rfl) (by simp) ?_
    refine AllReadyH.cons rfl (fun K hK => ?_) AllReadyH.nil
    go_simp
    refine hK.out _ _ hS (fun hS => ?_)
    clear hK K
    try simp only [List.getElem_toArray, List.getElem_cons_succ, List.getElem_cons_zero, Act.put, List.setIfInBounds_toArray, List.set_cons_zero, List.set_cons_succ]
    refine wpAnyH_done (by kernel_rfl) ?_ _
    clear hS
    simp only [Exit.then]
    go_at_K
    go_wp2
    go_ret
    exact hfin.out
end Go.Proofs.YtojeccmnhgcmcaaDoor.Dsk
