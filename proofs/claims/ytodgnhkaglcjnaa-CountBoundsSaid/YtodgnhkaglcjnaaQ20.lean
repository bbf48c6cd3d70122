/- The walk of CountBounds. -/
import Derived.Test.YtodgnhkaglcjnaaQ19
namespace Go.Proofs.Ytodgnhkaglcjnaa.Cnt
open Go.RowKit
set_option linter.unusedVariables false
set_option linter.unusedSimpArgs false
set_option maxRecDepth 20000

theorem eq_zero5 (w : World) : (Op.equalIn 10000 TC (cA 0 0 0 0 0) (cA 0 0 0 0 0)).run Try.prog w = .ok true w := eq_self 0 0 0 0 0 w
theorem res_iv {lo hi : Int} {c : Ct} {L : List Int} {k : Nat} (h : Iv lo hi c L k) (hk : k ≤ 100) {B : Nat} {v : Value} (W : World) (ho : Ow B v L W) :
    Calls Try.prog 32 #[v] W fun e w' => e = .returned (.tuple #[.int .i64 c.u, .int .i64 c.d]) ∧ Below W.heap.size W w' := by
  have := reserved_any B v L W ho h.dl (Nat.le_trans h.len hk)
  rwa [← h.u, ← h.d] at this
theorem wp_append_run {P : Program} {o : Oper} {a : Act} {W W' : World} {K : Act → World → Prop} {Q : Exit → Act → World → Prop} (s x : Operand) (t : TypeId)
    (ho : o.op = .call { callee := .builtin .append, args := #[s, x], argTypes := #[t, t] }) (v1 v2 v' : Value) (hs : a.eval s = v1) (hx : a.eval x = v2)
    (hrun : (Builtin.append_ #[t, t] o.type #[v1, v2]).run P W = .ok v' W') (h : K (a.put o.dst v') W') : o.wp P a W K Q := by
  unfold Oper.wp execOp
  simp only [ho, resolve, invoke, builtin, Sem.run_bind, Sem.run_pure, Result.andThen_ok, List.map_toArray, List.map_cons, List.map_nil, hs, hx, hrun]
  exact h
theorem ow_cell {B g n cp : Nat} {L : List Int} {W : World} (h : Ow B (.slice (some ⟨g, 0, none⟩) n cp) L W) {i : Nat} (hi : i < L.length) : W.cell? ⟨g, i, none⟩ = some (.int .i64 L[i]) := by
  rcases ow_form h with ⟨h1, _⟩ | ⟨g', cp', h1, _, _, _, _, hc⟩
  · cases h1
  · simp only [Value.slice.injEq, Option.some.injEq, Addr.mk.injEq, and_true, true_and] at h1
    rw [h1.1]
    exact hc i hi
theorem ow_cap {B g n cp : Nat} {L : List Int} {W : World} (h : Ow B (.slice (some ⟨g, 0, none⟩) n cp) L W) : L.length ≤ cp ∧ cp ≤ 9223372036854775807 := by
  rcases ow_form h with ⟨h1, _⟩ | ⟨g', cp', h1, _, _, h2, h3, _⟩
  · cases h1
  · simp only [Value.slice.injEq, Option.some.injEq, Addr.mk.injEq, and_true, true_and] at h1
    rw [h1.2.2]
    unfold maxLen at h3
    omega
/-- What holds between the counter and the deltas from the j-th on. -/
structure Jv (lo hi : Int) (c : Ct) (L : List Int) (j : Nat) : Prop where
  ok : OkC c
  u : c.u = upS (L.drop j)
  d : c.d = dnS (L.drop j)
theorem Jv.res {lo hi : Int} {c : Ct} {L : List Int} {j : Nat} (h : Jv lo hi c L j) (hj : j < L.length) : max L[j] 0 ≤ c.u ∧ max (-L[j]) 0 ≤ c.d := by
  have e1 := h.u
  have e2 := h.d
  rw [← List.getElem_cons_drop hj, upS_cons] at e1
  rw [← List.getElem_cons_drop hj, dnS_cons] at e2
  have e3 := upS_pos (L.drop (j + 1))
  have e4 := dnS_pos (L.drop (j + 1))
  omega
theorem Jv.next {lo hi : Int} {c : Ct} {L : List Int} {j : Nat} (h : Jv lo hi c L j) (hj : j < L.length) (hd : Ok L[j]) : Jv lo hi (backC c L[j]) L (j + 1) := by
  refine ⟨back_ok h.ok hd (h.res hj), ?_, ?_⟩
  · have e1 := h.u
    rw [← List.getElem_cons_drop hj, upS_cons] at e1
    show c.u - max L[j] 0 = _
    omega
  · have e2 := h.d
    rw [← List.getElem_cons_drop hj, dnS_cons] at e2
    show c.d - max (-L[j]) 0 = _
    omega
theorem quiet_jv {lo hi : Int} {v u d l g : Int} {L : List Int} (h : Jv lo hi ⟨v, u, d, l, g⟩ L L.length) (W : World) :
    Calls Try.prog 23 #[cA v u d l g] W fun e w' => e = .returned (.tuple #[.bool true, .int .i64 0]) ∧ Below W.heap.size W w' := by
  have := quiet_any v u d l g W
  have e1 : u = 0 := by have := h.u; rw [List.drop_length] at this; exact this
  have e2 : d = 0 := by have := h.d; rw [List.drop_length] at this; exact this
  unfold quietV quietB at this
  rw [okC_t h.ok] at this
  simp only [e1, e2, decide_true, Bool.and_self, if_true] at this ⊢
  exact this
set_option maxHeartbeats 16000000 in
theorem bounds_go (pv pu pd pb po : Int) (a : Option Addr) (len cap : Nat) (K D : Nat → Int) (w : World) (w0 : I32 pv ∧ U16 pu ∧ U16 pd ∧ U16 pb ∧ U16 po) (w1 : IsMv w a len cap K D) :
    Calls Try.prog 6 #[pA pv pu pd pb po, .slice a len cap] w fun e w' => e = .returned (.bool true) ∧ Below w.heap.size w w' := by
  have hw := Lib.hid (fun W => works_any W)
  have z : U16 0 := by unfold U16; decide
  have hM := fun W => made_any pv 0 0 pb po W w0.1 z z w0.2.2.2.1 w0.2.2.2.2
  have hok : OkC (mk pv 0 0 pb po) := mk_ok ⟨w0.1, z, z, w0.2.2.2.1, w0.2.2.2.2⟩
  have hC := fun W => chk_ok (v := pv) (u := 0) (d := 0) (l := pv - 0 - pb) (g := pv + 0 + po) hok W
  have hlo : -4294967296 ≤ pv - 0 - pb ∧ pv + 0 + po ≤ 4294967296 := by unfold I32 U16 at w0; omega
  unfold mk at hok
  generalize pv - 0 - pb = lo at *
  generalize pv + 0 + po = hi at *
  obtain ⟨m, hm⟩ : ∃ m, m = min len 100 := ⟨_, rfl⟩
  have hmin : ∀ (ts : Array TypeId) (t : TypeId) (W : World), (Builtin.min_ ts t #[.int .i64 (len : Nat), .int .i64 100]).run Try.prog W = .ok (.int .i64 (m : Nat)) W := fun ts t W => by
    rw [run_min_int2]; congr 2; split <;> omega
  have hml : m ≤ len ∧ m ≤ 100 := by omega
  have hfit := w1.fit
  have hmc : m ≤ cap := by omega
  have hb0 := Bxs.nil (alloc_b w (pRow pv 0 0 pb po))
  replace hM := Lib.hid hM
  replace hC := Lib.hid hC
  clear hm w0 z
  go_enter Try.func6, Try.ntmps6
  go_wp2_with fail
  refine (hM.out _).mono ?_
  rintro e x1 ⟨rfl, hb1⟩
  have hB := (hb0.later hb1).add pv 0 0 lo hi
  go_wp2_with fail
  refine (hC.out _).mono ?_
  rintro e w2 ⟨rfl, hb2⟩
  replace hB := hB.later hb2
  obtain ⟨c0, c1, c2, c3, c4, clt⟩ := hB.cells 0 rfl
  go_wp2_with fail
  clear c0 c1 c2 c3 c4 clt
  have hK0 : Kx w x1.heap.size ⟨pv, 0, 0, lo, hi⟩ (.slice none 0 0) [] w2 := ⟨hB, ⟨rfl, Or.inl ⟨rfl, rfl⟩⟩, fun h => by cases h⟩
  have hI0 : Iv lo hi ⟨pv, 0, 0, lo, hi⟩ [] 0 := ⟨hok, rfl, rfl, rfl, rfl, (fun d hd => by cases hd), Nat.le_refl _⟩
  have hq : w.heap.size < x1.heap.size := by have := hb1.size; rw [World.size_alloc] at this; omega
  have hdat : Hid (∀ k, k < m → ∃ b off, a = some ⟨b, off, none⟩ ∧ ∀ W, Below w.heap.size w W → W.cell? ⟨b, off + k * 2, none⟩ = some (.int .u8 (K k)) ∧ W.cell? ⟨b, off + k * 2 + 1, none⟩ = some (.int .i16 (D k))) := fun k hk => by
    obtain ⟨b, off, rfl, hlt, hc⟩ := w1.cell (by omega)
    refine ⟨b, off, rfl, fun W hW => ?_⟩
    obtain ⟨h1, h2⟩ := hc k (by omega)
    exact ⟨(hW.cell (p := ⟨b, off + k * 2, none⟩) hlt).trans h1, (hW.cell (p := ⟨b, off + k * 2 + 1, none⟩) hlt).trans h2⟩
  have hrng := Lib.hid w1.rng
  clear hB hb1 hb2 hok hb0 hM hC hmin w1
  generalize x1.heap.size = q at *
  go_loopw [6, 7, 42] (fun s o i wr => ∃ (k : Nat) (c : Ct) (A : Option Addr) (cp : Nat) (L : List Int), k ≤ m ∧ i = .int .i64 k ∧ s = .int .i64 c.v ∧ o = .slice A L.length cp ∧ Iv lo hi c L k ∧ Kx w q c (.slice A L.length cp) L wr) (fun _ _ i _ => m - (intOf i).toNat)
  case atStart => exact ⟨0, _, none, 0, [], Nat.zero_le _, rfl, rfl, rfl, hI0, hK0⟩
  case round =>
    obtain ⟨k, c, A, cp, L, hk, rfl, rfl, rfl, hI, hK⟩ := hrel
    by_cases hlt : k < m
    · obtain ⟨b, off, rfl, hcell⟩ := hdat.out k hlt
      obtain ⟨p0, p1⟩ := hcell wr hK.bx.bel
      obtain ⟨⟨k1, k2⟩, hd⟩ := hrng.out k
      generalize K k = kd at *
      generalize D k = dl at *
      have hfitn := fit_nx (d := dl) hI hlo (by omega) hd
      have hbd := hI.bd hlo (by omega)
      have iw : IntKind.i64.wrap dl = dl := i64w (by omega) (by omega)
      have hR0 := Lib.hid (fun W (ho : Ow w.heap.size (.slice A L.length cp) L W) => res_iv hI (by omega) W ho)
      have ci : L.length ≤ 100 := by have := hI.len; omega
      clear hcell hdat hrng hK0 hI0 hfit
      by_cases hkd : kd % 4 < 2
      · have g1 : decide (kd % 4 < 2) = true := by simpa using hkd
        have g2 : (kd % 4 < 2) = True := by simpa using hkd
        as_aux_lemma =>
          by_cases hneg : dl < 0
          · simp only [hneg, if_true, if_false] at hfitn
            by_cases hn : OkC (nx c dl)
            · have hft := hfitn.1 hn
              have hDo := fun W => do_any c.v c.u c.d c.l c.h dl W
              have hdx : chC addC ⟨c.v, c.u, c.d, c.l, c.h⟩ dl = if OkC (nx c dl) then (nx c dl, 0) else (zero, 7) := do_nx hI.ok (by unfold Ok; omega)
              rw [hdx, if_pos hn] at hDo
              clear hdx
              have s1 : IntKind.i64.wrap (c.v + c.d) = c.v + c.d := i64w (by omega) (by omega)
              have s2 : IntKind.i64.wrap (c.v + c.d + dl) = c.v + c.d + dl := i64w (by omega) (by omega)
              have s3 : IntKind.i64.wrap (c.v - c.u) = c.v - c.u := i64w (by omega) (by omega)
              have s4 : IntKind.i64.wrap (c.v - c.u + dl) = c.v - c.u + dl := i64w (by omega) (by omega)
              have s5 : IntKind.i64.wrap (c.v + dl) = c.v + dl := i64w (by omega) (by omega)
              have hR0' := hR0
              have hI2 := hI.add hd hn
              have hRf := Lib.hid (fun B v W (ho : Ow B v (L ++ [dl]) W) => res_iv hI2 (by omega) W ho)
              have hbf := (hI2).bd hlo (by omega)
              have t1 : IntKind.i64.wrap ((nx c dl).v - (nx c dl).u) = (nx c dl).v - (nx c dl).u := i64w (by omega) (by omega)
              have t2 : IntKind.i64.wrap ((nx c dl).v + (nx c dl).d) = (nx c dl).v + (nx c dl).d := i64w (by omega) (by omega)
              have t3 : decide ((nx c dl).v - (nx c dl).u < (nx c dl).l) = false := by have := (hI2).l; simp; omega
              have t4 : decide ((nx c dl).h < (nx c dl).v + (nx c dl).d) = false := by have := (hI2).h; simp; omega
              clear hbf
              have hI3 := Lib.hid hI2
              clear hI2
              have hnv : (nx c dl).v = c.v + dl := rfl
              have hnl : (nx c dl).l = c.l := rfl
              have hnh : (nx c dl).h = c.h := rfl
              have hle : (L ++ [dl]).length = L.length + 1 := by simp
              generalize nx c dl = c2 at *
              generalize hL2 : L ++ [dl] = L2 at *
              obtain ⟨n0, n1, n2, n3, n4⟩ := c2
              simp only at hnv hnl hnh t1 t2 t3 t4 hRf
              have hCk := Lib.hid (fun W => chk_ok (v := n0) (u := n1) (d := n2) (l := n3) (g := n4) hI3.out.ok W)
              have hDo2 := Lib.hid (show ∀ W, Calls Try.prog 12 #[cA c.v c.u c.d c.l c.h, .int .i64 dl] W (fun e w' => e = .returned (P2 n0 n1 n2 n3 n4 0) ∧ Below W.heap.size W w') from hDo)
              replace hnv := Lib.hid hnv
              clear hnl hnh
              have f1 : decide (dl < 0) = true := by simpa using hneg
              have f2 : decide (c.l ≤ c.v - c.u + dl) = true := by simpa using hft
              have f3 : (c.l ≤ c.v - c.u + dl) = True := by simpa using hft
              have f4 : (dl < 0) = True := by simpa using hneg
              have qz := eq_zero5
              obtain ⟨cv, cu, cd, cl, ch⟩ := c
              skip
              clear hfitn hbd hDo hft hneg hn hI hd
              have hKf := hK.alloc (.cells #[.int .u8 kd, .int .i16 dl] TM)
              obtain ⟨c0, c1, c2', c3, c4, clt⟩ := hKf.bx.cells 0 rfl
              go_wp2_with fail
              refine (hR0.out _ hKf.own).mono ?_
              rintro e y1 ⟨rfl, hy1⟩
              clear c0 c1 c2' c3 c4 clt
              replace hKf := hKf.later hy1
              clear hy1
              obtain ⟨c0, c1, c2', c3, c4, clt⟩ := hKf.bx.cells 0 rfl
              go_wp2_with fail
              refine (hDo2.out _).mono ?_
              rintro e y2 ⟨rfl, hy2⟩
              clear c0 c1 c2' c3 c4 clt
              have hbx := ((Bxs.nil hKf.bx.bel).later hy2).add n0 n1 n2 n3 n4
              replace hKf := (hKf.later hy2).alloc (cRow n0 n1 n2 n3 n4)
              clear hy2
              skip
              obtain ⟨d0, d1, d2, d3, d4, dlt⟩ := hbx.cells 0 rfl
              go_wp2_with (first
                | (refine store_cx rfl _ _ rfl q rfl rfl (hKf.bx.all (q, _) (List.mem_singleton.2 rfl)) ?_; intro y4 hs4; replace hKf := hKf.st hs4 (Nat.le_of_lt hq); have hKg := hKf.alloc (.cells #[.int .i64 dl] TI); have hcd := cell_of_row _ _ 0 _ _ _ (rw_new y4 (.cells #[.int .i64 dl] TI)))
                | (at_builtin; refine app_kx rfl _ _ rfl hKg rfl _ dl rfl hcd ci ?_; intro A2 cp2 y5 hK5))
              rw [hL2] at hK5
              have hnv2 := hnv.out
              clear hnv hKg hcd hs4 d0 d1 d2 d3 d4 dlt hbx hKf
              subst hnv2
              refine (hRf.out _ _ _ (show Ow w.heap.size _ L2 _ from hK5.own)).mono ?_
              rintro e y6 ⟨rfl, hy6⟩
              replace hK5 := hK5.later hy6
              obtain ⟨c0, c1, c2', c3, c4, clt⟩ := hK5.bx.cells 0 rfl
              go_wp2_with (go_at_call 27; refine (hCk.out _).mono ?_; rintro e y8 ⟨rfl, hy8⟩; replace hK5 := hK5.later hy8; obtain ⟨e0, e1, e2, e3, e4, elt⟩ := hK5.bx.cells 0 rfl)
              refine ⟨⟨k + 1, ⟨cv + dl, n1, n2, n3, n4⟩, A2, cp2, L2, by omega, by go_num, rfl, by rw [hle], hI3.out, by rw [hle]; exact hK5⟩, ?_⟩
              simp [intOf]; omega
            · have hft : ¬ _ := fun h => hn (hfitn.2 h)
              have hDo := fun W => do_any c.v c.u c.d c.l c.h dl W
              have hdx : chC addC ⟨c.v, c.u, c.d, c.l, c.h⟩ dl = if OkC (nx c dl) then (nx c dl, 0) else (zero, 7) := do_nx hI.ok (by unfold Ok; omega)
              rw [hdx, if_neg hn] at hDo
              clear hdx
              have s1 : IntKind.i64.wrap (c.v + c.d) = c.v + c.d := i64w (by omega) (by omega)
              have s2 : IntKind.i64.wrap (c.v + c.d + dl) = c.v + c.d + dl := i64w (by omega) (by omega)
              have s3 : IntKind.i64.wrap (c.v - c.u) = c.v - c.u := i64w (by omega) (by omega)
              have s4 : IntKind.i64.wrap (c.v - c.u + dl) = c.v - c.u + dl := i64w (by omega) (by omega)
              have s5 : IntKind.i64.wrap (c.v + dl) = c.v + dl := i64w (by omega) (by omega)
              have hR0' := hR0
              have hI2 := hI.keep
              have hbf := (hI2).bd hlo (by omega)
              have t1 : IntKind.i64.wrap (c.v - c.u) = c.v - c.u := i64w (by omega) (by omega)
              have t2 : IntKind.i64.wrap (c.v + c.d) = c.v + c.d := i64w (by omega) (by omega)
              have t3 : decide (c.v - c.u < c.l) = false := by have := (hI2).l; simp; omega
              have t4 : decide (c.h < c.v + c.d) = false := by have := (hI2).h; simp; omega
              clear hbf
              have hI3 := Lib.hid hI2
              clear hI2
              have hCk := Lib.hid (fun W => chk_ok (v := c.v) (u := c.u) (d := c.d) (l := c.l) (g := c.h) hI3.out.ok W)
              have hDo2 := Lib.hid (show ∀ W, Calls Try.prog 12 #[cA c.v c.u c.d c.l c.h, .int .i64 dl] W (fun e w' => e = .returned (P2 0 0 0 0 0 7) ∧ Below W.heap.size W w') from hDo)
              have f1 : decide (dl < 0) = true := by simpa using hneg
              have f2 : decide (c.l ≤ c.v - c.u + dl) = false := by simpa using hft
              have f3 : (c.l ≤ c.v - c.u + dl) = False := by simpa using hft
              have f4 : (dl < 0) = True := by simpa using hneg
              have qz := eq_zero5
              obtain ⟨cv, cu, cd, cl, ch⟩ := c
              skip
              clear hfitn hbd hDo hft hneg hn hI hd
              have hKf := hK.alloc (.cells #[.int .u8 kd, .int .i16 dl] TM)
              obtain ⟨c0, c1, c2', c3, c4, clt⟩ := hKf.bx.cells 0 rfl
              go_wp2_with fail
              refine (hR0.out _ hKf.own).mono ?_
              rintro e y1 ⟨rfl, hy1⟩
              clear c0 c1 c2' c3 c4 clt
              replace hKf := hKf.later hy1
              clear hy1
              obtain ⟨c0, c1, c2', c3, c4, clt⟩ := hKf.bx.cells 0 rfl
              go_wp2_with fail
              refine (hDo2.out _).mono ?_
              rintro e y2 ⟨rfl, hy2⟩
              clear c0 c1 c2' c3 c4 clt
              have hbx := ((Bxs.nil hKf.bx.bel).later hy2).add 0 0 0 0 0
              replace hKf := (hKf.later hy2).alloc (cRow 0 0 0 0 0)
              clear hy2
              go_wp2_with fail
              refine (hR0'.out _ hKf.own).mono ?_
              rintro e y3 ⟨rfl, hy3⟩
              replace hKf := hKf.later hy3
              obtain ⟨c0, c1, c2', c3, c4, clt⟩ := hKf.bx.cells 0 rfl
              go_wp2_with (go_at_call 27; refine (hCk.out _).mono ?_; rintro e y8 ⟨rfl, hy8⟩; replace hKf := hKf.later hy8; obtain ⟨e0, e1, e2, e3, e4, elt⟩ := hKf.bx.cells 0 rfl)
              refine ⟨⟨k + 1, ⟨cv, cu, cd, cl, ch⟩, A, cp, L, by omega, by go_num, rfl, rfl, hI3.out, hKf⟩, ?_⟩
              simp [intOf]; omega
          · simp only [hneg, if_true, if_false] at hfitn
            by_cases hn : OkC (nx c dl)
            · have hft := hfitn.1 hn
              have hDo := fun W => do_any c.v c.u c.d c.l c.h dl W
              have hdx : chC addC ⟨c.v, c.u, c.d, c.l, c.h⟩ dl = if OkC (nx c dl) then (nx c dl, 0) else (zero, 7) := do_nx hI.ok (by unfold Ok; omega)
              rw [hdx, if_pos hn] at hDo
              clear hdx
              have s1 : IntKind.i64.wrap (c.v + c.d) = c.v + c.d := i64w (by omega) (by omega)
              have s2 : IntKind.i64.wrap (c.v + c.d + dl) = c.v + c.d + dl := i64w (by omega) (by omega)
              have s5 : IntKind.i64.wrap (c.v + dl) = c.v + dl := i64w (by omega) (by omega)
              have hR0' := hR0
              have hI2 := hI.add hd hn
              have hRf := Lib.hid (fun B v W (ho : Ow B v (L ++ [dl]) W) => res_iv hI2 (by omega) W ho)
              have hbf := (hI2).bd hlo (by omega)
              have t1 : IntKind.i64.wrap ((nx c dl).v - (nx c dl).u) = (nx c dl).v - (nx c dl).u := i64w (by omega) (by omega)
              have t2 : IntKind.i64.wrap ((nx c dl).v + (nx c dl).d) = (nx c dl).v + (nx c dl).d := i64w (by omega) (by omega)
              have t3 : decide ((nx c dl).v - (nx c dl).u < (nx c dl).l) = false := by have := (hI2).l; simp; omega
              have t4 : decide ((nx c dl).h < (nx c dl).v + (nx c dl).d) = false := by have := (hI2).h; simp; omega
              clear hbf
              have hI3 := Lib.hid hI2
              clear hI2
              have hnv : (nx c dl).v = c.v + dl := rfl
              have hnl : (nx c dl).l = c.l := rfl
              have hnh : (nx c dl).h = c.h := rfl
              have hle : (L ++ [dl]).length = L.length + 1 := by simp
              generalize nx c dl = c2 at *
              generalize hL2 : L ++ [dl] = L2 at *
              obtain ⟨n0, n1, n2, n3, n4⟩ := c2
              simp only at hnv hnl hnh t1 t2 t3 t4 hRf
              have hCk := Lib.hid (fun W => chk_ok (v := n0) (u := n1) (d := n2) (l := n3) (g := n4) hI3.out.ok W)
              have hDo2 := Lib.hid (show ∀ W, Calls Try.prog 12 #[cA c.v c.u c.d c.l c.h, .int .i64 dl] W (fun e w' => e = .returned (P2 n0 n1 n2 n3 n4 0) ∧ Below W.heap.size W w') from hDo)
              replace hnv := Lib.hid hnv
              clear hnl hnh
              have f1 : decide (dl < 0) = false := by simpa using hneg
              have f2 : decide (c.v + c.d + dl ≤ c.h) = true := by simpa using hft
              have f3 : (c.v + c.d + dl ≤ c.h) = True := by simpa using hft
              have f4 : (dl < 0) = False := by simpa using hneg
              have qz := eq_zero5
              obtain ⟨cv, cu, cd, cl, ch⟩ := c
              skip
              clear hfitn hbd hDo hft hneg hn hI hd
              have hKf := hK.alloc (.cells #[.int .u8 kd, .int .i16 dl] TM)
              obtain ⟨c0, c1, c2', c3, c4, clt⟩ := hKf.bx.cells 0 rfl
              go_wp2_with fail
              refine (hR0.out _ hKf.own).mono ?_
              rintro e y1 ⟨rfl, hy1⟩
              clear c0 c1 c2' c3 c4 clt
              replace hKf := hKf.later hy1
              clear hy1
              obtain ⟨c0, c1, c2', c3, c4, clt⟩ := hKf.bx.cells 0 rfl
              go_wp2_with fail
              refine (hDo2.out _).mono ?_
              rintro e y2 ⟨rfl, hy2⟩
              clear c0 c1 c2' c3 c4 clt
              have hbx := ((Bxs.nil hKf.bx.bel).later hy2).add n0 n1 n2 n3 n4
              replace hKf := (hKf.later hy2).alloc (cRow n0 n1 n2 n3 n4)
              clear hy2
              skip
              obtain ⟨d0, d1, d2, d3, d4, dlt⟩ := hbx.cells 0 rfl
              go_wp2_with (first
                | (refine store_cx rfl _ _ rfl q rfl rfl (hKf.bx.all (q, _) (List.mem_singleton.2 rfl)) ?_; intro y4 hs4; replace hKf := hKf.st hs4 (Nat.le_of_lt hq); have hKg := hKf.alloc (.cells #[.int .i64 dl] TI); have hcd := cell_of_row _ _ 0 _ _ _ (rw_new y4 (.cells #[.int .i64 dl] TI)))
                | (at_builtin; refine app_kx rfl _ _ rfl hKg rfl _ dl rfl hcd ci ?_; intro A2 cp2 y5 hK5))
              rw [hL2] at hK5
              have hnv2 := hnv.out
              clear hnv hKg hcd hs4 d0 d1 d2 d3 d4 dlt hbx hKf
              subst hnv2
              refine (hRf.out _ _ _ (show Ow w.heap.size _ L2 _ from hK5.own)).mono ?_
              rintro e y6 ⟨rfl, hy6⟩
              replace hK5 := hK5.later hy6
              obtain ⟨c0, c1, c2', c3, c4, clt⟩ := hK5.bx.cells 0 rfl
              go_wp2_with (go_at_call 27; refine (hCk.out _).mono ?_; rintro e y8 ⟨rfl, hy8⟩; replace hK5 := hK5.later hy8; obtain ⟨e0, e1, e2, e3, e4, elt⟩ := hK5.bx.cells 0 rfl)
              refine ⟨⟨k + 1, ⟨cv + dl, n1, n2, n3, n4⟩, A2, cp2, L2, by omega, by go_num, rfl, by rw [hle], hI3.out, by rw [hle]; exact hK5⟩, ?_⟩
              simp [intOf]; omega
            · have hft : ¬ _ := fun h => hn (hfitn.2 h)
              have hDo := fun W => do_any c.v c.u c.d c.l c.h dl W
              have hdx : chC addC ⟨c.v, c.u, c.d, c.l, c.h⟩ dl = if OkC (nx c dl) then (nx c dl, 0) else (zero, 7) := do_nx hI.ok (by unfold Ok; omega)
              rw [hdx, if_neg hn] at hDo
              clear hdx
              have s1 : IntKind.i64.wrap (c.v + c.d) = c.v + c.d := i64w (by omega) (by omega)
              have s2 : IntKind.i64.wrap (c.v + c.d + dl) = c.v + c.d + dl := i64w (by omega) (by omega)
              have s5 : IntKind.i64.wrap (c.v + dl) = c.v + dl := i64w (by omega) (by omega)
              have hR0' := hR0
              have hI2 := hI.keep
              have hbf := (hI2).bd hlo (by omega)
              have t1 : IntKind.i64.wrap (c.v - c.u) = c.v - c.u := i64w (by omega) (by omega)
              have t2 : IntKind.i64.wrap (c.v + c.d) = c.v + c.d := i64w (by omega) (by omega)
              have t3 : decide (c.v - c.u < c.l) = false := by have := (hI2).l; simp; omega
              have t4 : decide (c.h < c.v + c.d) = false := by have := (hI2).h; simp; omega
              clear hbf
              have hI3 := Lib.hid hI2
              clear hI2
              have hCk := Lib.hid (fun W => chk_ok (v := c.v) (u := c.u) (d := c.d) (l := c.l) (g := c.h) hI3.out.ok W)
              have hDo2 := Lib.hid (show ∀ W, Calls Try.prog 12 #[cA c.v c.u c.d c.l c.h, .int .i64 dl] W (fun e w' => e = .returned (P2 0 0 0 0 0 7) ∧ Below W.heap.size W w') from hDo)
              have f1 : decide (dl < 0) = false := by simpa using hneg
              have f2 : decide (c.v + c.d + dl ≤ c.h) = false := by simpa using hft
              have f3 : (c.v + c.d + dl ≤ c.h) = False := by simpa using hft
              have f4 : (dl < 0) = False := by simpa using hneg
              have qz := eq_zero5
              obtain ⟨cv, cu, cd, cl, ch⟩ := c
              skip
              clear hfitn hbd hDo hft hneg hn hI hd
              have hKf := hK.alloc (.cells #[.int .u8 kd, .int .i16 dl] TM)
              obtain ⟨c0, c1, c2', c3, c4, clt⟩ := hKf.bx.cells 0 rfl
              go_wp2_with fail
              refine (hR0.out _ hKf.own).mono ?_
              rintro e y1 ⟨rfl, hy1⟩
              clear c0 c1 c2' c3 c4 clt
              replace hKf := hKf.later hy1
              clear hy1
              obtain ⟨c0, c1, c2', c3, c4, clt⟩ := hKf.bx.cells 0 rfl
              go_wp2_with fail
              refine (hDo2.out _).mono ?_
              rintro e y2 ⟨rfl, hy2⟩
              clear c0 c1 c2' c3 c4 clt
              have hbx := ((Bxs.nil hKf.bx.bel).later hy2).add 0 0 0 0 0
              replace hKf := (hKf.later hy2).alloc (cRow 0 0 0 0 0)
              clear hy2
              go_wp2_with fail
              refine (hR0'.out _ hKf.own).mono ?_
              rintro e y3 ⟨rfl, hy3⟩
              replace hKf := hKf.later hy3
              obtain ⟨c0, c1, c2', c3, c4, clt⟩ := hKf.bx.cells 0 rfl
              go_wp2_with (go_at_call 27; refine (hCk.out _).mono ?_; rintro e y8 ⟨rfl, hy8⟩; replace hKf := hKf.later hy8; obtain ⟨e0, e1, e2, e3, e4, elt⟩ := hKf.bx.cells 0 rfl)
              refine ⟨⟨k + 1, ⟨cv, cu, cd, cl, ch⟩, A, cp, L, by omega, by go_num, rfl, rfl, hI3.out, hKf⟩, ?_⟩
              simp [intOf]; omega
      · have g1 : decide (kd % 4 < 2) = false := by simpa using hkd
        have g2 : (kd % 4 < 2) = False := by simpa using hkd
        by_cases hL0 : L.length = 0
        · have g3 : (((L.length : Nat) : Int) == 0) = true := by simp [hL0]
          clear hL0
          as_aux_lemma =>
            by_cases hneg : dl < 0
            · simp only [hneg, if_true, if_false] at hfitn
              by_cases hn : OkC (nx c dl)
              · have hft := hfitn.1 hn
                have hDo := fun W => do_any c.v c.u c.d c.l c.h dl W
                have hdx : chC addC ⟨c.v, c.u, c.d, c.l, c.h⟩ dl = if OkC (nx c dl) then (nx c dl, 0) else (zero, 7) := do_nx hI.ok (by unfold Ok; omega)
                rw [hdx, if_pos hn] at hDo
                clear hdx
                have s1 : IntKind.i64.wrap (c.v + c.d) = c.v + c.d := i64w (by omega) (by omega)
                have s2 : IntKind.i64.wrap (c.v + c.d + dl) = c.v + c.d + dl := i64w (by omega) (by omega)
                have s3 : IntKind.i64.wrap (c.v - c.u) = c.v - c.u := i64w (by omega) (by omega)
                have s4 : IntKind.i64.wrap (c.v - c.u + dl) = c.v - c.u + dl := i64w (by omega) (by omega)
                have s5 : IntKind.i64.wrap (c.v + dl) = c.v + dl := i64w (by omega) (by omega)
                have hR0' := hR0
                have hI2 := hI.add hd hn
                have hRf := Lib.hid (fun B v W (ho : Ow B v (L ++ [dl]) W) => res_iv hI2 (by omega) W ho)
                have hbf := (hI2).bd hlo (by omega)
                have t1 : IntKind.i64.wrap ((nx c dl).v - (nx c dl).u) = (nx c dl).v - (nx c dl).u := i64w (by omega) (by omega)
                have t2 : IntKind.i64.wrap ((nx c dl).v + (nx c dl).d) = (nx c dl).v + (nx c dl).d := i64w (by omega) (by omega)
                have t3 : decide ((nx c dl).v - (nx c dl).u < (nx c dl).l) = false := by have := (hI2).l; simp; omega
                have t4 : decide ((nx c dl).h < (nx c dl).v + (nx c dl).d) = false := by have := (hI2).h; simp; omega
                clear hbf
                have hI3 := Lib.hid hI2
                clear hI2
                have hnv : (nx c dl).v = c.v + dl := rfl
                have hnl : (nx c dl).l = c.l := rfl
                have hnh : (nx c dl).h = c.h := rfl
                have hle : (L ++ [dl]).length = L.length + 1 := by simp
                generalize nx c dl = c2 at *
                generalize hL2 : L ++ [dl] = L2 at *
                obtain ⟨n0, n1, n2, n3, n4⟩ := c2
                simp only at hnv hnl hnh t1 t2 t3 t4 hRf
                have hCk := Lib.hid (fun W => chk_ok (v := n0) (u := n1) (d := n2) (l := n3) (g := n4) hI3.out.ok W)
                have hDo2 := Lib.hid (show ∀ W, Calls Try.prog 12 #[cA c.v c.u c.d c.l c.h, .int .i64 dl] W (fun e w' => e = .returned (P2 n0 n1 n2 n3 n4 0) ∧ Below W.heap.size W w') from hDo)
                replace hnv := Lib.hid hnv
                clear hnl hnh
                have f1 : decide (dl < 0) = true := by simpa using hneg
                have f2 : decide (c.l ≤ c.v - c.u + dl) = true := by simpa using hft
                have f3 : (c.l ≤ c.v - c.u + dl) = True := by simpa using hft
                have f4 : (dl < 0) = True := by simpa using hneg
                have qz := eq_zero5
                obtain ⟨cv, cu, cd, cl, ch⟩ := c
                skip
                clear hfitn hbd hDo hft hneg hn hI hd
                have hKf := hK.alloc (.cells #[.int .u8 kd, .int .i16 dl] TM)
                obtain ⟨c0, c1, c2', c3, c4, clt⟩ := hKf.bx.cells 0 rfl
                go_wp2_with fail
                refine (hR0.out _ hKf.own).mono ?_
                rintro e y1 ⟨rfl, hy1⟩
                clear c0 c1 c2' c3 c4 clt
                replace hKf := hKf.later hy1
                clear hy1
                obtain ⟨c0, c1, c2', c3, c4, clt⟩ := hKf.bx.cells 0 rfl
                go_wp2_with fail
                refine (hDo2.out _).mono ?_
                rintro e y2 ⟨rfl, hy2⟩
                clear c0 c1 c2' c3 c4 clt
                have hbx := ((Bxs.nil hKf.bx.bel).later hy2).add n0 n1 n2 n3 n4
                replace hKf := (hKf.later hy2).alloc (cRow n0 n1 n2 n3 n4)
                clear hy2
                skip
                obtain ⟨d0, d1, d2, d3, d4, dlt⟩ := hbx.cells 0 rfl
                go_wp2_with (first
                  | (refine store_cx rfl _ _ rfl q rfl rfl (hKf.bx.all (q, _) (List.mem_singleton.2 rfl)) ?_; intro y4 hs4; replace hKf := hKf.st hs4 (Nat.le_of_lt hq); have hKg := hKf.alloc (.cells #[.int .i64 dl] TI); have hcd := cell_of_row _ _ 0 _ _ _ (rw_new y4 (.cells #[.int .i64 dl] TI)))
                  | (at_builtin; refine app_kx rfl _ _ rfl hKg rfl _ dl rfl hcd ci ?_; intro A2 cp2 y5 hK5))
                rw [hL2] at hK5
                have hnv2 := hnv.out
                clear hnv hKg hcd hs4 d0 d1 d2 d3 d4 dlt hbx hKf
                subst hnv2
                refine (hRf.out _ _ _ (show Ow w.heap.size _ L2 _ from hK5.own)).mono ?_
                rintro e y6 ⟨rfl, hy6⟩
                replace hK5 := hK5.later hy6
                obtain ⟨c0, c1, c2', c3, c4, clt⟩ := hK5.bx.cells 0 rfl
                go_wp2_with (go_at_call 27; refine (hCk.out _).mono ?_; rintro e y8 ⟨rfl, hy8⟩; replace hK5 := hK5.later hy8; obtain ⟨e0, e1, e2, e3, e4, elt⟩ := hK5.bx.cells 0 rfl)
                refine ⟨⟨k + 1, ⟨cv + dl, n1, n2, n3, n4⟩, A2, cp2, L2, by omega, by go_num, rfl, by rw [hle], hI3.out, by rw [hle]; exact hK5⟩, ?_⟩
                simp [intOf]; omega
              · have hft : ¬ _ := fun h => hn (hfitn.2 h)
                have hDo := fun W => do_any c.v c.u c.d c.l c.h dl W
                have hdx : chC addC ⟨c.v, c.u, c.d, c.l, c.h⟩ dl = if OkC (nx c dl) then (nx c dl, 0) else (zero, 7) := do_nx hI.ok (by unfold Ok; omega)
                rw [hdx, if_neg hn] at hDo
                clear hdx
                have s1 : IntKind.i64.wrap (c.v + c.d) = c.v + c.d := i64w (by omega) (by omega)
                have s2 : IntKind.i64.wrap (c.v + c.d + dl) = c.v + c.d + dl := i64w (by omega) (by omega)
                have s3 : IntKind.i64.wrap (c.v - c.u) = c.v - c.u := i64w (by omega) (by omega)
                have s4 : IntKind.i64.wrap (c.v - c.u + dl) = c.v - c.u + dl := i64w (by omega) (by omega)
                have s5 : IntKind.i64.wrap (c.v + dl) = c.v + dl := i64w (by omega) (by omega)
                have hR0' := hR0
                have hI2 := hI.keep
                have hbf := (hI2).bd hlo (by omega)
                have t1 : IntKind.i64.wrap (c.v - c.u) = c.v - c.u := i64w (by omega) (by omega)
                have t2 : IntKind.i64.wrap (c.v + c.d) = c.v + c.d := i64w (by omega) (by omega)
                have t3 : decide (c.v - c.u < c.l) = false := by have := (hI2).l; simp; omega
                have t4 : decide (c.h < c.v + c.d) = false := by have := (hI2).h; simp; omega
                clear hbf
                have hI3 := Lib.hid hI2
                clear hI2
                have hCk := Lib.hid (fun W => chk_ok (v := c.v) (u := c.u) (d := c.d) (l := c.l) (g := c.h) hI3.out.ok W)
                have hDo2 := Lib.hid (show ∀ W, Calls Try.prog 12 #[cA c.v c.u c.d c.l c.h, .int .i64 dl] W (fun e w' => e = .returned (P2 0 0 0 0 0 7) ∧ Below W.heap.size W w') from hDo)
                have f1 : decide (dl < 0) = true := by simpa using hneg
                have f2 : decide (c.l ≤ c.v - c.u + dl) = false := by simpa using hft
                have f3 : (c.l ≤ c.v - c.u + dl) = False := by simpa using hft
                have f4 : (dl < 0) = True := by simpa using hneg
                have qz := eq_zero5
                obtain ⟨cv, cu, cd, cl, ch⟩ := c
                skip
                clear hfitn hbd hDo hft hneg hn hI hd
                have hKf := hK.alloc (.cells #[.int .u8 kd, .int .i16 dl] TM)
                obtain ⟨c0, c1, c2', c3, c4, clt⟩ := hKf.bx.cells 0 rfl
                go_wp2_with fail
                refine (hR0.out _ hKf.own).mono ?_
                rintro e y1 ⟨rfl, hy1⟩
                clear c0 c1 c2' c3 c4 clt
                replace hKf := hKf.later hy1
                clear hy1
                obtain ⟨c0, c1, c2', c3, c4, clt⟩ := hKf.bx.cells 0 rfl
                go_wp2_with fail
                refine (hDo2.out _).mono ?_
                rintro e y2 ⟨rfl, hy2⟩
                clear c0 c1 c2' c3 c4 clt
                have hbx := ((Bxs.nil hKf.bx.bel).later hy2).add 0 0 0 0 0
                replace hKf := (hKf.later hy2).alloc (cRow 0 0 0 0 0)
                clear hy2
                go_wp2_with fail
                refine (hR0'.out _ hKf.own).mono ?_
                rintro e y3 ⟨rfl, hy3⟩
                replace hKf := hKf.later hy3
                obtain ⟨c0, c1, c2', c3, c4, clt⟩ := hKf.bx.cells 0 rfl
                go_wp2_with (go_at_call 27; refine (hCk.out _).mono ?_; rintro e y8 ⟨rfl, hy8⟩; replace hKf := hKf.later hy8; obtain ⟨e0, e1, e2, e3, e4, elt⟩ := hKf.bx.cells 0 rfl)
                refine ⟨⟨k + 1, ⟨cv, cu, cd, cl, ch⟩, A, cp, L, by omega, by go_num, rfl, rfl, hI3.out, hKf⟩, ?_⟩
                simp [intOf]; omega
            · simp only [hneg, if_true, if_false] at hfitn
              by_cases hn : OkC (nx c dl)
              · have hft := hfitn.1 hn
                have hDo := fun W => do_any c.v c.u c.d c.l c.h dl W
                have hdx : chC addC ⟨c.v, c.u, c.d, c.l, c.h⟩ dl = if OkC (nx c dl) then (nx c dl, 0) else (zero, 7) := do_nx hI.ok (by unfold Ok; omega)
                rw [hdx, if_pos hn] at hDo
                clear hdx
                have s1 : IntKind.i64.wrap (c.v + c.d) = c.v + c.d := i64w (by omega) (by omega)
                have s2 : IntKind.i64.wrap (c.v + c.d + dl) = c.v + c.d + dl := i64w (by omega) (by omega)
                have s5 : IntKind.i64.wrap (c.v + dl) = c.v + dl := i64w (by omega) (by omega)
                have hR0' := hR0
                have hI2 := hI.add hd hn
                have hRf := Lib.hid (fun B v W (ho : Ow B v (L ++ [dl]) W) => res_iv hI2 (by omega) W ho)
                have hbf := (hI2).bd hlo (by omega)
                have t1 : IntKind.i64.wrap ((nx c dl).v - (nx c dl).u) = (nx c dl).v - (nx c dl).u := i64w (by omega) (by omega)
                have t2 : IntKind.i64.wrap ((nx c dl).v + (nx c dl).d) = (nx c dl).v + (nx c dl).d := i64w (by omega) (by omega)
                have t3 : decide ((nx c dl).v - (nx c dl).u < (nx c dl).l) = false := by have := (hI2).l; simp; omega
                have t4 : decide ((nx c dl).h < (nx c dl).v + (nx c dl).d) = false := by have := (hI2).h; simp; omega
                clear hbf
                have hI3 := Lib.hid hI2
                clear hI2
                have hnv : (nx c dl).v = c.v + dl := rfl
                have hnl : (nx c dl).l = c.l := rfl
                have hnh : (nx c dl).h = c.h := rfl
                have hle : (L ++ [dl]).length = L.length + 1 := by simp
                generalize nx c dl = c2 at *
                generalize hL2 : L ++ [dl] = L2 at *
                obtain ⟨n0, n1, n2, n3, n4⟩ := c2
                simp only at hnv hnl hnh t1 t2 t3 t4 hRf
                have hCk := Lib.hid (fun W => chk_ok (v := n0) (u := n1) (d := n2) (l := n3) (g := n4) hI3.out.ok W)
                have hDo2 := Lib.hid (show ∀ W, Calls Try.prog 12 #[cA c.v c.u c.d c.l c.h, .int .i64 dl] W (fun e w' => e = .returned (P2 n0 n1 n2 n3 n4 0) ∧ Below W.heap.size W w') from hDo)
                replace hnv := Lib.hid hnv
                clear hnl hnh
                have f1 : decide (dl < 0) = false := by simpa using hneg
                have f2 : decide (c.v + c.d + dl ≤ c.h) = true := by simpa using hft
                have f3 : (c.v + c.d + dl ≤ c.h) = True := by simpa using hft
                have f4 : (dl < 0) = False := by simpa using hneg
                have qz := eq_zero5
                obtain ⟨cv, cu, cd, cl, ch⟩ := c
                skip
                clear hfitn hbd hDo hft hneg hn hI hd
                have hKf := hK.alloc (.cells #[.int .u8 kd, .int .i16 dl] TM)
                obtain ⟨c0, c1, c2', c3, c4, clt⟩ := hKf.bx.cells 0 rfl
                go_wp2_with fail
                refine (hR0.out _ hKf.own).mono ?_
                rintro e y1 ⟨rfl, hy1⟩
                clear c0 c1 c2' c3 c4 clt
                replace hKf := hKf.later hy1
                clear hy1
                obtain ⟨c0, c1, c2', c3, c4, clt⟩ := hKf.bx.cells 0 rfl
                go_wp2_with fail
                refine (hDo2.out _).mono ?_
                rintro e y2 ⟨rfl, hy2⟩
                clear c0 c1 c2' c3 c4 clt
                have hbx := ((Bxs.nil hKf.bx.bel).later hy2).add n0 n1 n2 n3 n4
                replace hKf := (hKf.later hy2).alloc (cRow n0 n1 n2 n3 n4)
                clear hy2
                skip
                obtain ⟨d0, d1, d2, d3, d4, dlt⟩ := hbx.cells 0 rfl
                go_wp2_with (first
                  | (refine store_cx rfl _ _ rfl q rfl rfl (hKf.bx.all (q, _) (List.mem_singleton.2 rfl)) ?_; intro y4 hs4; replace hKf := hKf.st hs4 (Nat.le_of_lt hq); have hKg := hKf.alloc (.cells #[.int .i64 dl] TI); have hcd := cell_of_row _ _ 0 _ _ _ (rw_new y4 (.cells #[.int .i64 dl] TI)))
                  | (at_builtin; refine app_kx rfl _ _ rfl hKg rfl _ dl rfl hcd ci ?_; intro A2 cp2 y5 hK5))
                rw [hL2] at hK5
                have hnv2 := hnv.out
                clear hnv hKg hcd hs4 d0 d1 d2 d3 d4 dlt hbx hKf
                subst hnv2
                refine (hRf.out _ _ _ (show Ow w.heap.size _ L2 _ from hK5.own)).mono ?_
                rintro e y6 ⟨rfl, hy6⟩
                replace hK5 := hK5.later hy6
                obtain ⟨c0, c1, c2', c3, c4, clt⟩ := hK5.bx.cells 0 rfl
                go_wp2_with (go_at_call 27; refine (hCk.out _).mono ?_; rintro e y8 ⟨rfl, hy8⟩; replace hK5 := hK5.later hy8; obtain ⟨e0, e1, e2, e3, e4, elt⟩ := hK5.bx.cells 0 rfl)
                refine ⟨⟨k + 1, ⟨cv + dl, n1, n2, n3, n4⟩, A2, cp2, L2, by omega, by go_num, rfl, by rw [hle], hI3.out, by rw [hle]; exact hK5⟩, ?_⟩
                simp [intOf]; omega
              · have hft : ¬ _ := fun h => hn (hfitn.2 h)
                have hDo := fun W => do_any c.v c.u c.d c.l c.h dl W
                have hdx : chC addC ⟨c.v, c.u, c.d, c.l, c.h⟩ dl = if OkC (nx c dl) then (nx c dl, 0) else (zero, 7) := do_nx hI.ok (by unfold Ok; omega)
                rw [hdx, if_neg hn] at hDo
                clear hdx
                have s1 : IntKind.i64.wrap (c.v + c.d) = c.v + c.d := i64w (by omega) (by omega)
                have s2 : IntKind.i64.wrap (c.v + c.d + dl) = c.v + c.d + dl := i64w (by omega) (by omega)
                have s5 : IntKind.i64.wrap (c.v + dl) = c.v + dl := i64w (by omega) (by omega)
                have hR0' := hR0
                have hI2 := hI.keep
                have hbf := (hI2).bd hlo (by omega)
                have t1 : IntKind.i64.wrap (c.v - c.u) = c.v - c.u := i64w (by omega) (by omega)
                have t2 : IntKind.i64.wrap (c.v + c.d) = c.v + c.d := i64w (by omega) (by omega)
                have t3 : decide (c.v - c.u < c.l) = false := by have := (hI2).l; simp; omega
                have t4 : decide (c.h < c.v + c.d) = false := by have := (hI2).h; simp; omega
                clear hbf
                have hI3 := Lib.hid hI2
                clear hI2
                have hCk := Lib.hid (fun W => chk_ok (v := c.v) (u := c.u) (d := c.d) (l := c.l) (g := c.h) hI3.out.ok W)
                have hDo2 := Lib.hid (show ∀ W, Calls Try.prog 12 #[cA c.v c.u c.d c.l c.h, .int .i64 dl] W (fun e w' => e = .returned (P2 0 0 0 0 0 7) ∧ Below W.heap.size W w') from hDo)
                have f1 : decide (dl < 0) = false := by simpa using hneg
                have f2 : decide (c.v + c.d + dl ≤ c.h) = false := by simpa using hft
                have f3 : (c.v + c.d + dl ≤ c.h) = False := by simpa using hft
                have f4 : (dl < 0) = False := by simpa using hneg
                have qz := eq_zero5
                obtain ⟨cv, cu, cd, cl, ch⟩ := c
                skip
                clear hfitn hbd hDo hft hneg hn hI hd
                have hKf := hK.alloc (.cells #[.int .u8 kd, .int .i16 dl] TM)
                obtain ⟨c0, c1, c2', c3, c4, clt⟩ := hKf.bx.cells 0 rfl
                go_wp2_with fail
                refine (hR0.out _ hKf.own).mono ?_
                rintro e y1 ⟨rfl, hy1⟩
                clear c0 c1 c2' c3 c4 clt
                replace hKf := hKf.later hy1
                clear hy1
                obtain ⟨c0, c1, c2', c3, c4, clt⟩ := hKf.bx.cells 0 rfl
                go_wp2_with fail
                refine (hDo2.out _).mono ?_
                rintro e y2 ⟨rfl, hy2⟩
                clear c0 c1 c2' c3 c4 clt
                have hbx := ((Bxs.nil hKf.bx.bel).later hy2).add 0 0 0 0 0
                replace hKf := (hKf.later hy2).alloc (cRow 0 0 0 0 0)
                clear hy2
                go_wp2_with fail
                refine (hR0'.out _ hKf.own).mono ?_
                rintro e y3 ⟨rfl, hy3⟩
                replace hKf := hKf.later hy3
                obtain ⟨c0, c1, c2', c3, c4, clt⟩ := hKf.bx.cells 0 rfl
                go_wp2_with (go_at_call 27; refine (hCk.out _).mono ?_; rintro e y8 ⟨rfl, hy8⟩; replace hKf := hKf.later hy8; obtain ⟨e0, e1, e2, e3, e4, elt⟩ := hKf.bx.cells 0 rfl)
                refine ⟨⟨k + 1, ⟨cv, cu, cd, cl, ch⟩, A, cp, L, by omega, by go_num, rfl, rfl, hI3.out, hKf⟩, ?_⟩
                simp [intOf]; omega
        · have g3 : (((L.length : Nat) : Int) == 0) = false := by simp [hL0]
          have g4 : (((L.length : Nat) : Int) = 0) = False := by simp [hL0]
          obtain ⟨J, hJe, hJ⟩ := mod_at dl hd L.length (by omega) (by omega)
          have hdj := hI.dl _ (List.getElem_mem hJ)
          obtain ⟨g, rfl⟩ : ∃ g, A = some ⟨g, 0, none⟩ := by
            rcases ow_form hK.own with ⟨h1, h2⟩ | ⟨g, cp', h1, _⟩
            · exact absurd (by rw [h2]; rfl) hL0
            · injection h1 with h1; exact ⟨g, h1⟩
          clear hL0
          by_cases hk2 : kd % 4 = 2
          · skip
            have g5 : (kd % 4 == 2) = true := by simpa using hk2
            have g6 : (kd % 4 = 2) = True := by simpa using hk2
            have hSe := fun W => undo_any c.v c.u c.d c.l c.h L[J] W
            have hdx : chC takeC ⟨c.v, c.u, c.d, c.l, c.h⟩ L[J] = if max L[J] 0 ≤ c.u ∧ max (-L[J]) 0 ≤ c.d then (backC c L[J], 0) else (zero, 9) := undo_nx hI.ok (by unfold Ok; omega)
            rw [hdx, if_pos (hI.res hJ)] at hSe
            clear hdx
            have hI2 := hI.back hJ
            have hRf := Lib.hid (fun B v W (ho : Ow B v (outK L J) W) => res_iv hI2 (by omega) W ho)
            have hbf := (hI2).bd hlo (by omega)
            have t1 : IntKind.i64.wrap ((backC c L[J]).v - (backC c L[J]).u) = (backC c L[J]).v - (backC c L[J]).u := i64w (by omega) (by omega)
            have t2 : IntKind.i64.wrap ((backC c L[J]).v + (backC c L[J]).d) = (backC c L[J]).v + (backC c L[J]).d := i64w (by omega) (by omega)
            have t3 : decide ((backC c L[J]).v - (backC c L[J]).u < (backC c L[J]).l) = false := by have := (hI2).l; simp; omega
            have t4 : decide ((backC c L[J]).h < (backC c L[J]).v + (backC c L[J]).d) = false := by have := (hI2).h; simp; omega
            clear hbf
            have hI3 := Lib.hid hI2
            clear hI2
            have hnv : (backC c L[J]).v = c.v - L[J] := rfl
            have s5 : IntKind.i64.wrap (c.v - L[J]) = c.v - L[J] := i64w (by omega) (by omega)
            generalize backC c L[J] = c2 at *
            have hLJ := Lib.hid (fun (W : World) (ho : Ow w.heap.size (.slice (some ⟨g, 0, none⟩) L.length cp) L W) => ow_cell ho hJ)
            generalize L[J] = dj at *
            obtain ⟨n0, n1, n2, n3, n4⟩ := c2
            simp only at hnv t1 t2 t3 t4 hRf
            have hCk := Lib.hid (fun W => chk_ok (v := n0) (u := n1) (d := n2) (l := n3) (g := n4) hI3.out.ok W)
            have hSe2 := Lib.hid (show ∀ W, Calls Try.prog 13 #[cA c.v c.u c.d c.l c.h, .int .i64 dj] W (fun e w' => e = .returned (P2 n0 n1 n2 n3 n4 0) ∧ Below W.heap.size W w') from hSe)
            replace hnv := Lib.hid hnv
            obtain ⟨cv, cu, cd, cl, ch⟩ := c
            clear hfitn hbd hSe hI hd hdj hR0
            have hKf := hK.alloc (.cells #[.int .u8 kd, .int .i16 dl] TM)
            have hce := hLJ.out _ hKf.own
            obtain ⟨c0, c1, c2', c3, c4, clt⟩ := hKf.bx.cells 0 rfl
            go_wp2_with fail
            refine (hSe2.out _).mono ?_
            rintro e y1 ⟨rfl, hy1⟩
            clear c0 c1 c2' c3 c4 clt hce
            replace hKf := hKf.later hy1
            clear hy1
            go_wp2_with (first
              | (refine store_cx rfl _ _ rfl q rfl rfl (hKf.bx.all (q, _) (List.mem_singleton.2 rfl)) ?_; intro y4 hs4; replace hKf := hKf.st hs4 (Nat.le_of_lt hq)))
            skip
            obtain ⟨ad, had, hadc⟩ : ∃ ad : Addr, (if cp = J + 1 then (⟨g, 0, none⟩ : Addr) else ⟨g, J + 1, none⟩) = ad ∧ ∀ j u, (ints (L.drop (J + 1)))[j]? = some u → y4.drew.cell? (ad.add j) = some u := by
              refine ⟨_, rfl, fun j u hu => ?_⟩
              have hj : J + 1 + j < L.length := by have := (List.getElem?_eq_some_iff.1 hu).1; rw [ints_len, List.length_drop] at this; omega
              have hne : ¬ cp = J + 1 := by have := ow_cap hKf.own; omega
              rw [if_neg hne, addr_add]
              have h1 := ow_cell (show Ow w.heap.size (.slice (some ⟨g, 0, none⟩) L.length cp) L y4.drew from hKf.drew.own) hj
              rw [h1]
              rw [← hu]
              simp [ints, List.getElem?_map, List.getElem?_drop, List.getElem?_eq_getElem hj]
            obtain ⟨y5, hrun, hK5⟩ := out_kx (show Kx w q ⟨n0, n1, n2, n3, n4⟩ (.slice (some ⟨g, 0, none⟩) L.length cp) L y4.drew from hKf.drew) hJ TD ad (cp - (J + 1)) hadc
            have hcap := ow_cap hKf.own
            generalize hL2 : outK L J = L2 at *
            refine wp_region_held_drew (S := (fun _ => True)) (by kernel_rfl) trivial (fun hS => ?_)
            try simp only [Act.put, List.setIfInBounds_toArray, List.set_cons_zero, List.set_cons_succ]
            have hJc : J ≤ cp := by omega
            have hJn : J + 1 ≤ L.length := by omega
            have hJw : IntKind.i64.wrap ((J : Int) + 1) = (J : Int) + 1 := i64w (by omega) (by omega)
            refine wpAnyH_take (i := 0) (v := .slice (some ⟨g, 0, none⟩) L.length cp) rfl (by kernel_rfl) (by kernel_rfl) (by kernel_rfl) (fun _ _ _ h => h) (Or.inl ⟨by kernel_rfl, by intro w' hSw; go_simp⟩) hS ?_
            try simp only [Act.put, List.setIfInBounds_toArray, List.set_cons_zero, List.set_cons_succ]
            refine wpAnyH_take (i := 1) (v := .int .i64 (J : Nat)) rfl (by kernel_rfl) (by kernel_rfl) (by kernel_rfl) (fun _ _ _ h => h) (Or.inl ⟨by kernel_rfl, by intro w' hSw; go_simp⟩) hS ?_
            try simp only [Act.put, List.setIfInBounds_toArray, List.set_cons_zero, List.set_cons_succ]
            refine wpAnyH_take (i := 3) (v := .slice (some ⟨g, 0, none⟩) L.length cp) rfl (by kernel_rfl) (by kernel_rfl) (by kernel_rfl) (fun _ _ _ h => h) (Or.inl ⟨by kernel_rfl, by intro w' hSw; go_simp⟩) hS ?_
            try simp only [Act.put, List.setIfInBounds_toArray, List.set_cons_zero, List.set_cons_succ]
            refine wpAnyH_take (i := 4) (v := .int .i64 (J : Nat)) rfl (by kernel_rfl) (by kernel_rfl) (by kernel_rfl) (fun _ _ _ h => h) (Or.inl ⟨by kernel_rfl, by intro w' hSw; go_simp⟩) hS ?_
            try simp only [Act.put, List.setIfInBounds_toArray, List.set_cons_zero, List.set_cons_succ]
            refine wpAnyH_take (i := 5) (v := .int .i64 ((J : Int) + 1)) rfl (by kernel_rfl) (by kernel_rfl) (by kernel_rfl) (fun _ _ _ h => h) (Or.inl ⟨by kernel_rfl, by intro w' hSw; go_simp⟩) hS ?_
            try simp only [Act.put, List.setIfInBounds_toArray, List.set_cons_zero, List.set_cons_succ]
            refine wpAnyH_take (i := 2) (v := .slice (some ⟨g, 0, none⟩) J cp) rfl (by kernel_rfl) (by kernel_rfl) (by kernel_rfl) (fun _ _ _ h => h) (Or.inl ⟨by kernel_rfl, by intro w' hSw; go_simp⟩) hS ?_
            try simp only [Act.put, List.setIfInBounds_toArray, List.set_cons_zero, List.set_cons_succ]
            have hS0 := hS
            have e6 : ∀ w' : World, (Instr.slice TD (.slice (some ⟨g, 0, none⟩) L.length cp) (some (.int .i64 ((J : Int) + 1))) none none).run Try.prog w' = .ok (.slice (some ad) (L.length - (J + 1)) (cp - (J + 1))) w' := by
              intro w'
              go_simp
              rw [if_pos ⟨by omega, by omega⟩]
              split
              · rename_i h; rw [if_pos h] at had; rw [had]
              · rename_i h; rw [if_neg h] at had; rw [had]
            refine wpAnyH_take (i := 6) (v := .slice (some ad) (L.length - (J + 1)) (cp - (J + 1))) rfl (by kernel_rfl) (by kernel_rfl) (by kernel_rfl) (fun _ _ _ h => h) (Or.inl ⟨by kernel_rfl, by intro w' hSw; go_simp⟩) hS ?_
            try simp only [Act.put, List.setIfInBounds_toArray, List.set_cons_zero, List.set_cons_succ]
            refine wpAnyH_ready (rs := [7]) (by kernel_rfl) (by simp) ?_
            refine AllReadyH.cons rfl (fun K hK => ?_) AllReadyH.nil
            refine Eq.mpr (if_pos ?hwant) ?_
            case hwant => kernel_rfl
            refine wp_append_run (.tmp 148) (.tmp 152) TD rfl (.slice (some ⟨g, 0, none⟩) J cp) (.slice (some ad) (L.length - (J + 1)) (cp - (J + 1))) (.slice (some ⟨g, 0, none⟩) L2.length cp) ?hs1 ?hx1 (W' := y5) ?hr1 ?_
            case hs1 => simp [Act.eval]
            case hx1 => simp [Act.eval]
            case hr1 => exact hrun
            refine hK.out _ _ trivial (fun hS => ?_)
            clear hK K hS0 hrun hadc e6 had hs4 hKf hcap hJc hJn hJw
            try simp only [Act.put, List.setIfInBounds_toArray, List.set_cons_zero, List.set_cons_succ]
            refine wpAnyH_ready (rs := [8]) (by kernel_rfl) (by simp) ?_
            refine AllReadyH.cons rfl (fun K hK => ?_) AllReadyH.nil
            go_simp
            refine hK.out _ _ trivial (fun hS => ?_)
            clear hK K
            try simp only [Act.put, List.setIfInBounds_toArray, List.set_cons_zero, List.set_cons_succ]
            refine wpAnyH_done (by kernel_rfl) ?_ _
            clear hS
            have hnv2 := hnv.out
            clear hnv
            subst hnv2
            go_wp2_with fail
            refine (hRf.out _ _ _ (show Ow w.heap.size _ L2 _ from hK5.own)).mono ?_
            rintro e y6 ⟨rfl, hy6⟩
            clear hL2 hJe hJ g3 g4 g5 g6 hLJ hSe2 hk2
            replace hK5 := hK5.later hy6
            obtain ⟨c0, c1, c2', c3, c4, clt⟩ := hK5.bx.cells 0 rfl
            go_wp2_with (go_at_call 27; refine (hCk.out _).mono ?_; rintro e y8 ⟨rfl, hy8⟩; replace hK5 := hK5.later hy8; obtain ⟨e0, e1, e2, e3, e4, elt⟩ := hK5.bx.cells 0 rfl)
            refine ⟨⟨k + 1, ⟨cv - dj, n1, n2, n3, n4⟩, some ⟨g, 0, none⟩, cp, L2, by omega, by go_num, rfl, rfl, hI3.out, hK5⟩, ?_⟩
            simp [intOf]; omega
          · skip
            have g5 : (kd % 4 == 2) = false := by simpa using hk2
            have g6 : (kd % 4 = 2) = False := by simpa using hk2
            have hSe := fun W => free_any c.v c.u c.d c.l c.h L[J] W
            have hdx : chC giveC ⟨c.v, c.u, c.d, c.l, c.h⟩ L[J] = if max L[J] 0 ≤ c.u ∧ max (-L[J]) 0 ≤ c.d then (lessC c L[J], 0) else (zero, 9) := free_nx hI.ok (by unfold Ok; omega)
            rw [hdx, if_pos (hI.res hJ)] at hSe
            clear hdx
            have hI2 := hI.less hJ
            have hRf := Lib.hid (fun B v W (ho : Ow B v (outK L J) W) => res_iv hI2 (by omega) W ho)
            have hbf := (hI2).bd hlo (by omega)
            have t1 : IntKind.i64.wrap ((lessC c L[J]).v - (lessC c L[J]).u) = (lessC c L[J]).v - (lessC c L[J]).u := i64w (by omega) (by omega)
            have t2 : IntKind.i64.wrap ((lessC c L[J]).v + (lessC c L[J]).d) = (lessC c L[J]).v + (lessC c L[J]).d := i64w (by omega) (by omega)
            have t3 : decide ((lessC c L[J]).v - (lessC c L[J]).u < (lessC c L[J]).l) = false := by have := (hI2).l; simp; omega
            have t4 : decide ((lessC c L[J]).h < (lessC c L[J]).v + (lessC c L[J]).d) = false := by have := (hI2).h; simp; omega
            clear hbf
            have hI3 := Lib.hid hI2
            clear hI2
            have hnv : (lessC c L[J]).v = c.v := rfl
            generalize lessC c L[J] = c2 at *
            have hLJ := Lib.hid (fun (W : World) (ho : Ow w.heap.size (.slice (some ⟨g, 0, none⟩) L.length cp) L W) => ow_cell ho hJ)
            generalize L[J] = dj at *
            obtain ⟨n0, n1, n2, n3, n4⟩ := c2
            simp only at hnv t1 t2 t3 t4 hRf
            have hCk := Lib.hid (fun W => chk_ok (v := n0) (u := n1) (d := n2) (l := n3) (g := n4) hI3.out.ok W)
            have hSe2 := Lib.hid (show ∀ W, Calls Try.prog 14 #[cA c.v c.u c.d c.l c.h, .int .i64 dj] W (fun e w' => e = .returned (P2 n0 n1 n2 n3 n4 0) ∧ Below W.heap.size W w') from hSe)
            replace hnv := Lib.hid hnv
            obtain ⟨cv, cu, cd, cl, ch⟩ := c
            clear hfitn hbd hSe hI hd hdj hR0
            have hKf := hK.alloc (.cells #[.int .u8 kd, .int .i16 dl] TM)
            have hce := hLJ.out _ hKf.own
            obtain ⟨c0, c1, c2', c3, c4, clt⟩ := hKf.bx.cells 0 rfl
            go_wp2_with fail
            refine (hSe2.out _).mono ?_
            rintro e y1 ⟨rfl, hy1⟩
            clear c0 c1 c2' c3 c4 clt hce
            replace hKf := hKf.later hy1
            clear hy1
            go_wp2_with (first
              | (refine store_cx rfl _ _ rfl q rfl rfl (hKf.bx.all (q, _) (List.mem_singleton.2 rfl)) ?_; intro y4 hs4; replace hKf := hKf.st hs4 (Nat.le_of_lt hq)))
            skip
            obtain ⟨ad, had, hadc⟩ : ∃ ad : Addr, (if cp = J + 1 then (⟨g, 0, none⟩ : Addr) else ⟨g, J + 1, none⟩) = ad ∧ ∀ j u, (ints (L.drop (J + 1)))[j]? = some u → y4.drew.cell? (ad.add j) = some u := by
              refine ⟨_, rfl, fun j u hu => ?_⟩
              have hj : J + 1 + j < L.length := by have := (List.getElem?_eq_some_iff.1 hu).1; rw [ints_len, List.length_drop] at this; omega
              have hne : ¬ cp = J + 1 := by have := ow_cap hKf.own; omega
              rw [if_neg hne, addr_add]
              have h1 := ow_cell (show Ow w.heap.size (.slice (some ⟨g, 0, none⟩) L.length cp) L y4.drew from hKf.drew.own) hj
              rw [h1]
              rw [← hu]
              simp [ints, List.getElem?_map, List.getElem?_drop, List.getElem?_eq_getElem hj]
            obtain ⟨y5, hrun, hK5⟩ := out_kx (show Kx w q ⟨n0, n1, n2, n3, n4⟩ (.slice (some ⟨g, 0, none⟩) L.length cp) L y4.drew from hKf.drew) hJ TD ad (cp - (J + 1)) hadc
            have hcap := ow_cap hKf.own
            generalize hL2 : outK L J = L2 at *
            refine wp_region_held_drew (S := (fun _ => True)) (by kernel_rfl) trivial (fun hS => ?_)
            try simp only [Act.put, List.setIfInBounds_toArray, List.set_cons_zero, List.set_cons_succ]
            have hJc : J ≤ cp := by omega
            have hJn : J + 1 ≤ L.length := by omega
            have hJw : IntKind.i64.wrap ((J : Int) + 1) = (J : Int) + 1 := i64w (by omega) (by omega)
            refine wpAnyH_take (i := 0) (v := .slice (some ⟨g, 0, none⟩) L.length cp) rfl (by kernel_rfl) (by kernel_rfl) (by kernel_rfl) (fun _ _ _ h => h) (Or.inl ⟨by kernel_rfl, by intro w' hSw; go_simp⟩) hS ?_
            try simp only [Act.put, List.setIfInBounds_toArray, List.set_cons_zero, List.set_cons_succ]
            refine wpAnyH_take (i := 1) (v := .int .i64 (J : Nat)) rfl (by kernel_rfl) (by kernel_rfl) (by kernel_rfl) (fun _ _ _ h => h) (Or.inl ⟨by kernel_rfl, by intro w' hSw; go_simp⟩) hS ?_
            try simp only [Act.put, List.setIfInBounds_toArray, List.set_cons_zero, List.set_cons_succ]
            refine wpAnyH_take (i := 3) (v := .slice (some ⟨g, 0, none⟩) L.length cp) rfl (by kernel_rfl) (by kernel_rfl) (by kernel_rfl) (fun _ _ _ h => h) (Or.inl ⟨by kernel_rfl, by intro w' hSw; go_simp⟩) hS ?_
            try simp only [Act.put, List.setIfInBounds_toArray, List.set_cons_zero, List.set_cons_succ]
            refine wpAnyH_take (i := 4) (v := .int .i64 (J : Nat)) rfl (by kernel_rfl) (by kernel_rfl) (by kernel_rfl) (fun _ _ _ h => h) (Or.inl ⟨by kernel_rfl, by intro w' hSw; go_simp⟩) hS ?_
            try simp only [Act.put, List.setIfInBounds_toArray, List.set_cons_zero, List.set_cons_succ]
            refine wpAnyH_take (i := 5) (v := .int .i64 ((J : Int) + 1)) rfl (by kernel_rfl) (by kernel_rfl) (by kernel_rfl) (fun _ _ _ h => h) (Or.inl ⟨by kernel_rfl, by intro w' hSw; go_simp⟩) hS ?_
            try simp only [Act.put, List.setIfInBounds_toArray, List.set_cons_zero, List.set_cons_succ]
            refine wpAnyH_take (i := 2) (v := .slice (some ⟨g, 0, none⟩) J cp) rfl (by kernel_rfl) (by kernel_rfl) (by kernel_rfl) (fun _ _ _ h => h) (Or.inl ⟨by kernel_rfl, by intro w' hSw; go_simp⟩) hS ?_
            try simp only [Act.put, List.setIfInBounds_toArray, List.set_cons_zero, List.set_cons_succ]
            have hS0 := hS
            have e6 : ∀ w' : World, (Instr.slice TD (.slice (some ⟨g, 0, none⟩) L.length cp) (some (.int .i64 ((J : Int) + 1))) none none).run Try.prog w' = .ok (.slice (some ad) (L.length - (J + 1)) (cp - (J + 1))) w' := by
              intro w'
              go_simp
              rw [if_pos ⟨by omega, by omega⟩]
              split
              · rename_i h; rw [if_pos h] at had; rw [had]
              · rename_i h; rw [if_neg h] at had; rw [had]
            refine wpAnyH_take (i := 6) (v := .slice (some ad) (L.length - (J + 1)) (cp - (J + 1))) rfl (by kernel_rfl) (by kernel_rfl) (by kernel_rfl) (fun _ _ _ h => h) (Or.inl ⟨by kernel_rfl, by intro w' hSw; go_simp⟩) hS ?_
            try simp only [Act.put, List.setIfInBounds_toArray, List.set_cons_zero, List.set_cons_succ]
            refine wpAnyH_ready (rs := [7]) (by kernel_rfl) (by simp) ?_
            refine AllReadyH.cons rfl (fun K hK => ?_) AllReadyH.nil
            refine Eq.mpr (if_pos ?hwant) ?_
            case hwant => kernel_rfl
            refine wp_append_run (.tmp 148) (.tmp 152) TD rfl (.slice (some ⟨g, 0, none⟩) J cp) (.slice (some ad) (L.length - (J + 1)) (cp - (J + 1))) (.slice (some ⟨g, 0, none⟩) L2.length cp) ?hs1 ?hx1 (W' := y5) ?hr1 ?_
            case hs1 => simp [Act.eval]
            case hx1 => simp [Act.eval]
            case hr1 => exact hrun
            refine hK.out _ _ trivial (fun hS => ?_)
            clear hK K hS0 hrun hadc e6 had hs4 hKf hcap hJc hJn hJw
            try simp only [Act.put, List.setIfInBounds_toArray, List.set_cons_zero, List.set_cons_succ]
            refine wpAnyH_ready (rs := [8]) (by kernel_rfl) (by simp) ?_
            refine AllReadyH.cons rfl (fun K hK => ?_) AllReadyH.nil
            go_simp
            refine hK.out _ _ trivial (fun hS => ?_)
            clear hK K
            try simp only [Act.put, List.setIfInBounds_toArray, List.set_cons_zero, List.set_cons_succ]
            refine wpAnyH_done (by kernel_rfl) ?_ _
            clear hS
            have hnv2 := hnv.out
            clear hnv
            subst hnv2
            go_wp2_with fail
            refine (hRf.out _ _ _ (show Ow w.heap.size _ L2 _ from hK5.own)).mono ?_
            rintro e y6 ⟨rfl, hy6⟩
            clear hL2 hJe hJ g3 g4 g5 g6 hLJ hSe2 hk2
            replace hK5 := hK5.later hy6
            obtain ⟨c0, c1, c2', c3, c4, clt⟩ := hK5.bx.cells 0 rfl
            go_wp2_with (go_at_call 27; refine (hCk.out _).mono ?_; rintro e y8 ⟨rfl, hy8⟩; replace hK5 := hK5.later hy8; obtain ⟨e0, e1, e2, e3, e4, elt⟩ := hK5.bx.cells 0 rfl)
            refine ⟨⟨k + 1, ⟨n0, n1, n2, n3, n4⟩, some ⟨g, 0, none⟩, cp, L2, by omega, by go_num, rfl, rfl, hI3.out, hK5⟩, ?_⟩
            simp [intOf]; omega
    · obtain rfl : k = m := by omega
      have hLn : L.length ≤ 100 := by have := hI.len; omega
      clear hlt hk hdat hrng hK0 hI0 hfit hml hmc hlo
      have hJ0 : Jv lo hi c L 0 := ⟨hI.ok, hI.u, hI.d⟩
      have hel : Hid (∀ j (hj : j < L.length), -32768 ≤ L[j] ∧ L[j] ≤ 32767) := fun j hj => hI.dl _ (List.getElem_mem hj)
      clear hI
      go_wp2_with fail
      go_loopw [199] (fun i ws => ∃ (j : Nat) (c' : Ct), j ≤ L.length ∧ i = .int .i64 j ∧ Jv lo hi c' L j ∧ Kx w q c' (.slice A L.length cp) L ws) (fun i _ => L.length - (intOf i).toNat)
      case atStart => exact ⟨0, c, Nat.zero_le _, rfl, hJ0, hK⟩
      case round =>
        obtain ⟨j, ⟨xv, xu, xd, xl, xh⟩, hj, rfl, hJr, hKr⟩ := hrel
        by_cases hlt : j < L.length
        · obtain ⟨g, rfl⟩ : ∃ g, A = some ⟨g, 0, none⟩ := by
            rcases ow_form hKr.own with ⟨h1, h2⟩ | ⟨g, cp', h1, _⟩
            · rw [h2] at hlt; exact absurd hlt (by simp)
            · injection h1 with h1; exact ⟨g, h1⟩
          have hce := ow_cell hKr.own hlt
          have hdj := hel.out j hlt
          have hSe := fun W => undo_any xv xu xd xl xh L[j] W
          have hdx : chC takeC ⟨xv, xu, xd, xl, xh⟩ L[j] = if max L[j] 0 ≤ xu ∧ max (-L[j]) 0 ≤ xd then (backC ⟨xv, xu, xd, xl, xh⟩ L[j], 0) else (zero, 9) := undo_nx hJr.ok (by unfold Ok; omega)
          rw [hdx, if_pos (hJr.res hlt)] at hSe
          have hJn := hJr.next hlt (by unfold Ok; omega)
          clear hdx hJr hJ0 hK hel
          generalize backC ⟨xv, xu, xd, xl, xh⟩ L[j] = c2 at *
          generalize L[j] = dj at *
          obtain ⟨n0, n1, n2, n3, n4⟩ := c2
          have hb : n3 ≤ n0 ∧ n0 ≤ n4 := by obtain ⟨h1, h2, h3, h4, h5, h6, h7, h8, h9⟩ := hJn.ok; simp only at *; omega
          have b1 : decide (n0 < n3) = false := by simp; omega
          have b2 : decide (n4 < n0) = false := by simp; omega
          have hSe2 := Lib.hid (show ∀ W, Calls Try.prog 13 #[cA xv xu xd xl xh, .int .i64 dj] W (fun e w' => e = .returned (P2 n0 n1 n2 n3 n4 0) ∧ Below W.heap.size W w') from hSe)
          clear hSe hb hdj
          replace hJn := Lib.hid hJn
          obtain ⟨c0, c1, c2, c3, c4, clt⟩ := hKr.bx.cells 0 rfl
          go_wp2_with fail
          refine (hSe2.out _).mono ?_
          rintro e y1 ⟨rfl, hy1⟩
          clear c0 c1 c2 c3 c4 clt hce
          have hbx := ((Bxs.nil hKr.bx.bel).later hy1).add n0 n1 n2 n3 n4
          have hKf := (hKr.later hy1).alloc (cRow n0 n1 n2 n3 n4)
          obtain ⟨d0, d1, d2, d3, d4, dlt⟩ := hbx.cells 0 rfl
          go_wp2_with (refine store_cx rfl _ _ rfl q rfl rfl (hKf.bx.all (q, _) (List.mem_singleton.2 rfl)) ?_; intro y4 hs4; have hKg := hKf.st hs4 (Nat.le_of_lt hq))
          go_roundw
          case rel => exact ⟨j + 1, ⟨n0, n1, n2, n3, n4⟩, by omega, by go_num, hJn.out, hKg⟩
          case measure => simp [intOf]; omega
        · obtain rfl : j = L.length := by omega
          have hQ := Lib.hid (fun W => quiet_jv hJr W)
          obtain ⟨c0, c1, c2, c3, c4, clt⟩ := hKr.bx.cells 0 rfl
          clear hJr hJ0 hK hel hlt hj
          go_wp2_with fail
          refine (hQ.out _).mono ?_
          rintro e y1 ⟨rfl, hy1⟩
          clear c0 c1 c2 c3 c4 clt
          replace hKr := hKr.later hy1
          go_wp2_with (go_at_call 20; refine (hw.out _).mono ?_; rintro e y2 ⟨rfl, hy2⟩; have hKe := hKr.later hy2)
          go_ret
          exact ⟨rfl, hKe.bx.bel⟩
end Go.Proofs.Ytodgnhkaglcjnaa.Cnt
