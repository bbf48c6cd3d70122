/- Tear. -/
import Derived.Test.YtojeccmnhgcmcaaDoorH02
namespace Go.Proofs.YtojeccmnhgcmcaaDoor.Dsk
open Go.RowKit Go.ChangeShapes _root_.Go.Proofs.YtojeccmnhgcmcaaDoor.Frame
open _root_.Go.Proofs.YtojeccmnhgcmcaaDoor.Crc (Hv more more_lt ret_u32)
set_option linter.unusedVariables false
set_option linter.unusedSimpArgs false
set_option maxRecDepth 100000

/-- How many records are whole in the first n bytes. -/
def fitN : List (List Nat) → Nat → Nat
  | [], _ => 0
  | c :: L, n => if 8 + c.length ≤ n then fitN L (n - (8 + c.length)) + 1 else 0
theorem fit_torn : ∀ (L : List (List Nat)) (n : Nat), Torn L n (fitN L n)
  | [], n => ⟨Nat.le_refl _, Nat.zero_le _, .inl rfl⟩
  | c :: L, n => by
    by_cases h : 8 + c.length ≤ n
    · have e : fitN (c :: L) n = fitN L (n - (8 + c.length)) + 1 := by rw [fitN, if_pos h]
      obtain ⟨h1, h2, h3⟩ := fit_torn L (n - (8 + c.length))
      rw [e]
      refine ⟨by rw [List.length_cons]; omega, ?_, ?_⟩
      · show 8 + c.length + tot (L.take _) ≤ n; omega
      · rcases h3 with h3 | h3
        · exact .inl (by rw [List.length_cons]; omega)
        · exact .inr (by show n < 8 + c.length + tot (L.take _); omega)
    · have e : fitN (c :: L) n = 0 := by rw [fitN, if_neg h]
      rw [e]
      refine ⟨Nat.zero_le _, Nat.zero_le _, .inr ?_⟩
      show n < 8 + c.length + tot (L.take 0)
      omega
theorem fit_at : ∀ (L : List (List Nat)) (k x : Nat), k ≤ L.length → fitN L (tot (L.take k) + x) = k + fitN (L.drop k) x
  | L, 0, x, _ => by
    show fitN L (0 + x) = 0 + fitN L x
    rw [Nat.zero_add, Nat.zero_add]
  | [], k + 1, x, h => absurd h (by simp)
  | c :: L, k + 1, x, h => by
    have ih := fit_at L k x (by simpa using h)
    show fitN (c :: L) (8 + c.length + tot (L.take k) + x) = _
    rw [fitN, if_pos (by omega), show 8 + c.length + tot (L.take k) + x - (8 + c.length) = tot (L.take k) + x from by omega, ih]
    show k + fitN (L.drop k) x + 1 = k + 1 + fitN (L.drop k) x
    omega
theorem fit_min : ∀ (L : List (List Nat)) (n : Nat), fitN L (min n (tot L)) = fitN L n
  | [], n => rfl
  | c :: L, n => by
    have ih := fit_min L (n - (8 + c.length))
    show fitN (c :: L) (min n (8 + c.length + tot L)) = _
    rw [fitN, fitN]
    by_cases h : 8 + c.length ≤ n
    · rw [if_pos h, if_pos (by omega), show min n (8 + c.length + tot L) - (8 + c.length) = min (n - (8 + c.length)) (tot L) from by omega, ih]
    · rw [if_neg h, if_neg (by omega)]
theorem fit_le (L : List (List Nat)) (n : Nat) : fitN L n ≤ L.length := (fit_torn L n).le
def torK (m : St) (left : Int) : Nat := m.k + fitN (m.L.drop m.k) left.toNat
def torS (m : St) (left : Int) : St := { m with L := m.L.take (torK m left), k := torK m left }
theorem torK_le {m : St} (h : OkS m) (left : Int) : torK m left ≤ m.L.length := by
  have h1 := fit_le (m.L.drop m.k) left.toNat
  rw [List.length_drop] at h1
  have := h.kl
  unfold torK
  omega
theorem ok_tor {m : St} (h : OkS m) (left : Int) : OkS (torS m left) := by
  have h1 := torK_le h left
  refine ⟨fun c hc => h.byt c (List.mem_of_mem_take hc), fun c hc => h.short c (List.mem_of_mem_take hc), ?_, ?_, h.sb, h.sl, h.no⟩
  · show tot (m.L.take (torK m left)) ≤ _
    have := tot_take_le m.L (torK m left)
    have := h.le
    omega
  · show torK m left ≤ (m.L.take (torK m left)).length
    rw [List.length_take]; omega
theorem tor_safe (m : St) (left : Int) : safe (torS m left) = tot (m.L.take (torK m left)) := by
  show tot ((m.L.take (torK m left)).take (torK m left)) = _
  rw [List.take_take, Nat.min_self]
/-- What is left is read as these records. -/
theorem tor_chain {m : St} (h : OkS m) (left : Int) : chain ((rcs m.L).take (safe m + min left.toNat (tot m.L - safe m))) = m.L.take (torK m left) := by
  have h0 := safe_le m
  have e : tot m.L - safe m = tot (m.L.drop m.k) := by
    have := tot_app (m.L.take m.k) (m.L.drop m.k)
    rw [List.take_append_drop] at this
    have e2 : safe m = tot (m.L.take m.k) := rfl
    omega
  have h2 := fit_torn m.L (safe m + min left.toNat (tot m.L - safe m))
  have h3 : fitN m.L (safe m + min left.toNat (tot m.L - safe m)) = torK m left := by
    rw [e]
    show fitN m.L (tot (m.L.take m.k) + _) = _
    rw [fit_at m.L m.k _ h.kl, fit_min]
    rfl
  rw [h3] at h2
  exact (torn_chain h.byt h.short (by omega) h2).1
theorem rcs_take (L : List (List Nat)) (k : Nat) : rcs (L.take k) = (rcs L).take (tot (L.take k)) := by
  have e2 : rcs L = rcs (L.take k) ++ rcs (L.drop k) := by rw [← rcs_app, List.take_append_drop]
  rw [e2, ← rcs_len (L.take k), List.take_append_of_le_length (Nat.le_refl _), List.take_length]
theorem rows_cut {w : World} {base n k cap : Nat} {e : TypeId} {a : Option Addr} {xs : List Value} (h : w.ownsRow base e 1 (.slice a n cap) n xs) (hk : k ≤ n) : w.ownsRow base e 1 (.slice a k cap) k (xs.take k) := by
  have hx := h.1
  refine ⟨by rw [List.length_take]; omega, ?_⟩
  rcases h.2 with ⟨h1, h0⟩ | ⟨g, cap', cur, h1, h2, h3, h4, h5, h6, h7⟩
  · injection h1 with e1 e2 e3
    subst e1 e3
    exact .inl ⟨by rw [show k = 0 from by omega], by omega⟩
  · injection h1 with e1 e2 e3
    subst e1 e3
    refine .inr ⟨g, cap, cur, rfl, h2, h3, by omega, h5, h6, ?_⟩
    rw [← h7, List.take_take]
    congr 1
    omega
theorem own_len (a : Option Addr) (n k c : Nat) : (Value.slice a n c).ownBlock = (Value.slice a k c).ownBlock := by cases a <;> rfl
set_option maxHeartbeats 1000000 in
theorem tear_any {W : World} {d : Nat} {F : Nat → Prop} {m : St} (left : Int) (h : Dx W d F m) (hH : Hv W) :
    Calls Tryd.prog 43 #[.pointer (some ⟨d, 0, none⟩), .int .i64 left] W fun e W' => e = .returned (.tuple #[]) ∧ Did W d F (torS m left) W' := by
  have hok := h.ok
  have hfd := h.fd
  obtain ⟨vw, vs, h1, h2, h3, h4, h5⟩ := h.ex
  have hle := hok.le
  have hsl := safe_le m
  have hch := tor_chain hok left
  have hTK : tot (m.L.take (torK m left)) ≤ tot m.L := tot_take_le _ _
  have hbs := own_bs h2 (rcs_byt hok.byt)
  obtain ⟨aw, capw, rfl⟩ := rows_form h2
  obtain ⟨x, hx⟩ : ∃ x, min left.toNat (tot m.L - safe m) = x := ⟨_, rfl⟩
  rw [hx] at hch
  have hT2 : safe m + x ≤ tot m.L := by omega
  have hcap : tot m.L ≤ capw := by
    obtain ⟨_, a', c', hv, hc, _⟩ := hbs
    injection hv with e1 e2 e3
    rw [rcs_len] at hc
    omega
  have hn : safe m + x ≤ (rcs m.L).length := by rw [rcs_len]; omega
  have HA := Lib.hid (fun (W1 : World) (hb : Below W.heap.size W W1) => all_any _ _ _ W1 ((hbs.upto (safe m + x) hn).kept (Same.of_below hb fun k hk => h.lt k (h4 k hk).1)) (fun k hk => Nat.lt_of_lt_of_le (h.lt k (h4 k hk).1) hb.size) (hH.later hb) (by rw [List.length_take, rcs_len]; omega))
  rw [hch] at HA
  have hmax : ∀ (ts : Array TypeId) (t : TypeId) (w : World), (Builtin.max_ ts t #[.int .i64 left, .int .i64 0]).run Tryd.prog w = .ok (.int .i64 (left.toNat : Nat)) w := fun ts t w => by
    rw [run_max_int2]; congr 2; split <;> omega
  have hmin : ∀ (ts : Array TypeId) (t : TypeId) (w : World), (Builtin.min_ ts t #[.int .i64 (left.toNat : Nat), .int .i64 ((tot m.L : Int) - (safe m : Int))]).run Tryd.prog w = .ok (.int .i64 (x : Nat)) w := fun ts t w => by
    rw [run_min_int2]; congr 2; split <;> omega
  have hu1 : ∀ w : World, (Instr.slice 29 (.slice aw (tot m.L) capw) none (some (.int .i64 ((safe m : Int) + (x : Int)))) none).run Tryd.prog w = .ok (.slice aw (safe m + x) capw) w := fun w => by
    have := upto_run aw (tot m.L) capw (safe m + x) (by omega) w
    rwa [Int.natCast_add] at this
  have hu2 : ∀ w : World, (Instr.slice 29 (.slice aw (tot m.L) capw) none (some (.int .i64 (tot (m.L.take (torK m left)) : Nat))) none).run Tryd.prog w = .ok (.slice aw (tot (m.L.take (torK m left))) capw) w := fun w =>
    upto_run aw (tot m.L) capw _ (by omega) w
  have hfin : Hid (∀ (W1 : World), Below W.heap.size W W1 → (W1.cell? ⟨d, 0, none⟩ = some (.slice aw (tot m.L) capw) ∧ W1.frozen? ⟨d, 0, none⟩ = false ∧ W1.cell? ⟨d, 1, none⟩ = some (.int .i64 (safe m : Nat)) ∧ W1.frozen? ⟨d, 1, none⟩ = false) ∧
      Did W d F (torS m left) ((W1.setCell ⟨d, 0, none⟩ (.slice aw (tot (m.L.take (torK m left))) capw)).setCell ⟨d, 1, none⟩ (.int .i64 (tot (m.L.take (torK m left)) : Nat)))) := Lib.hid (by
    intro W1 hb
    have B1 := h1.later hb
    have o1 := rows_later h2 hb
    have o2 := rows_cut o1 hTK
    rw [show (bv (rcs m.L)).take (tot (m.L.take (torK m left))) = bv (rcs (m.L.take (torK m left))) from by rw [rcs_take]; unfold bv; rw [List.map_take]] at o2
    have hne := box_ne B1 o2
    have hbk := fun k (hk : k ≠ d) => (Below.heap_setCell (W1.setCell ⟨d, 0, none⟩ (.slice aw (tot (m.L.take (torK m left))) capw)) ⟨d, 1, none⟩ (.int .i64 (tot (m.L.take (torK m left)) : Nat)) k hk).trans (Below.heap_setCell W1 ⟨d, 0, none⟩ (.slice aw (tot (m.L.take (torK m left))) capw) k hk)
    refine ⟨⟨B1.cell 0 _ rfl, B1.free 0, B1.cell 1 _ rfl, B1.free 1⟩, did_log (vw := Value.slice aw (tot m.L) capw) (v' := Value.slice aw (tot (m.L.take (torK m left))) capw) (vs := vs) h (ok_tor hok left) rfl rfl ?_ (rows_kept o2 fun k e => hbk k fun e2 => hne (by rw [← e2]; exact e)) h3 h4 h5 (.inl (own_len _ _ _ _))
      (((Keeps.of_below (F := F) hb).setCell (p := ⟨d, 0, none⟩) (.inl hfd) _).setCell (p := ⟨d, 1, none⟩) (.inl hfd) _) fun k e => ?_⟩
    · rw [tor_safe]
      exact (B1.set 0 _).set 1 _
    · exact (hbk k fun e2 => box_ne h1 h3 (by rw [← e2]; exact e)).trans (hb.block k (h.lt k (h5 k e))))
  have hB0 := Lib.hid (Below.refl W.heap.size W)
  have HC := Lib.hid (fun (W1 : World) (hb : Below W.heap.size W W1) => (⟨(h1.later hb).cell 0 _ rfl, (h1.later hb).cell 1 _ rfl, hb⟩ : W1.cell? ⟨d, 0, none⟩ = some (.slice aw (tot m.L) capw) ∧ W1.cell? ⟨d, 1, none⟩ = some (.int .i64 (safe m : Nat)) ∧ Below W.heap.size W W1))
  have c0 := h1.cell 0 _ rfl
  have c1 := h1.cell 1 _ rfl
  clear h h1 h2 h3 h4 h5 hok hfd hx hch hbs hn
  generalize tot m.L = T at *
  generalize safe m = s at *
  generalize tot (m.L.take (torK m left)) = q at *
  generalize torS m left = m' at *
  generalize left.toNat = y at *
  generalize (rcs m.L).take (s + x) = R at *
  go_enter Tryd.func43, Tryd.ntmps43
  go_wp2
  go_quiet (fail)
  go_wp2
  have hwr : IntKind.i64.wrap ((s : Int) + (x : Int)) = (s : Int) + (x : Int) := by rw [IntKind.wrap_i64]; omega
  go_region_held3 (fun W1 => W1.cell? ⟨d, 0, none⟩ = some (.slice aw T capw) ∧ W1.cell? ⟨d, 1, none⟩ = some (.int .i64 (s : Nat)) ∧ Below W.heap.size W W1)
    ((first | exact HC.out _ hb3.out | exact HC.out _ ((drewN_b hB0.out _).drew) | assumption))
    ((first | (go_at_call 51; refine (HA.out _ (by assumption : _ ∧ _ ∧ Below W.heap.size W _).2.2).mono ?_; rintro e W2 ⟨u, rfl, _, hb2⟩; have hb3 := Lib.hid ((by assumption : _ ∧ _ ∧ Below W.heap.size W _).2.2.trans (hb2.mono (by assumption : _ ∧ _ ∧ Below W.heap.size W _).2.2.size)); clear hb2)))
  obtain ⟨⟨e0, f0, e1, f1⟩, hD⟩ := hfin.out _ hb3.out
  replace hD := Lib.hid hD
  clear hfin HC HA c0 c1
  go_wp2
  go_end0
  exact ⟨rfl, hD.out⟩
theorem tearD_any {W : World} {d : Nat} {F : Nat → Prop} {m : St} (left : Int) (h : Dx W d F m) (hH : Hv W) :
    Calls Tryd.prog 19 #[.pointer (some ⟨d, 0, none⟩), .int .i64 left] W fun e W' => e = .returned (.tuple #[]) ∧ Did W d F (torS m left) W' := by
  have hV := Lib.hid h.valid
  have HA := Lib.hid (tear_any left h hH)
  clear h
  generalize torS m left = m' at *
  go_enter Tryd.func19, Tryd.ntmps19
  go_wp2_with (first
    | (go_at_call 39; refine hV.out.mono ?_; rintro e w' ⟨rfl, rfl⟩)
    | (go_at_call 43; refine HA.out.mono ?_; rintro e w2 ⟨rfl, hD⟩; replace hD := Lib.hid hD))
  go_end0
  exact ⟨rfl, hD.out⟩
end Go.Proofs.YtojeccmnhgcmcaaDoor.Dsk
