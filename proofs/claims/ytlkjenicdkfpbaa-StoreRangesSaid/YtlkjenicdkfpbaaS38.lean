/- The walk of StoreRanges. -/
import Derived.Test.YtlkjenicdkfpbaaS35
namespace Go.Proofs.Ytlkjenicdkfpbaa.Sto
open Go.RowKit Go.Lib
open Cnt (Ct cA OkC quietB appC)
open Rng (tx tx_of tx_size nameOk bl)
set_option linter.unusedVariables false
set_option linter.unusedSimpArgs false
set_option maxRecDepth 20000

theorem inM_app (A B : List En) (r : Rng.Rg) : inM (A ++ B) r = inM A r ++ inM B r := by simp [inM, keysM]
theorem inM_one (p : En) (r : Rng.Rg) : inM [p] r = if Rng.hasR r p.1 then [p.1] else [] := by
  unfold inM keysM
  cases h : Rng.hasR r p.1 <;> simp [h]
theorem take_in {M : List En} {k : Nat} (h : k < M.length) (r : Rng.Rg) : inM (M.take (k + 1)) r = inM (M.take k) r ++ (if Rng.hasR r M[k].1 then [M[k].1] else []) := by
  rw [List.take_succ_eq_append_getElem h, inM_app, inM_one]
theorem at_in {M : List En} {k : Nat} (h : k < M.length) (r : Rng.Rg) (hh : Rng.hasR r M[k].1 = true) : ∃ h2 : (inM (M.take k) r).length < (inM M r).length, (inM M r)[(inM (M.take k) r).length] = M[k].1 := by
  have e : inM M r = inM (M.take k) r ++ (M[k].1 :: inM (M.drop (k + 1)) r) := by
    have e1 : M = M.take k ++ (M[k] :: M.drop (k + 1)) := by rw [List.getElem_cons_drop, List.take_append_drop]
    have e2 : inM (M[k] :: M.drop (k + 1)) r = M[k].1 :: inM (M.drop (k + 1)) r := by
      rw [show M[k] :: M.drop (k + 1) = [M[k]] ++ M.drop (k + 1) from rfl, inM_app, inM_one, hh]
      rfl
    rw [← e2, ← inM_app, ← e1]
  refine ⟨by rw [e, List.length_append, List.length_cons]; omega, ?_⟩
  simp only [e]
  rw [List.getElem_append_right (Nat.le_refl _)]
  simp
/-- A sorted list is parted at a name. -/
theorem part_srt (t : List UInt8) (P Q : List UInt8 → Bool) : ∀ L : List (List UInt8), L.Pairwise (fun a b => bl a b = true) → (∀ k ∈ L, P k = bl k t) → (∀ k ∈ L, Q k = !bl k t) → L = L.filter P ++ L.filter Q
  | [], _, _, _ => rfl
  | k :: L, h, hP, hQ => by
    obtain ⟨h1, h2⟩ := List.pairwise_cons.1 h
    have ih := part_srt t P Q L h2 (fun j hj => hP j (List.mem_cons_of_mem _ hj)) (fun j hj => hQ j (List.mem_cons_of_mem _ hj))
    have p1 := hP k (List.mem_cons_self ..)
    have q1 := hQ k (List.mem_cons_self ..)
    cases hb : bl k t with
    | true =>
      rw [hb] at p1 q1
      rw [List.filter_cons_of_pos p1, List.filter_cons_of_neg (by rw [q1]; simp), List.cons_append, ← ih]
    | false =>
      rw [hb] at p1 q1
      have hn : L.filter P = [] := by
        rw [List.filter_eq_nil_iff]
        intro j hj
        rw [hP j (List.mem_cons_of_mem _ hj)]
        intro hjt
        have := Rng.bl_trans _ _ _ (h1 j hj) hjt
        rw [hb] at this
        cases this
      rw [hn, List.nil_append] at ih
      rw [List.filter_cons_of_neg (by rw [p1]; simp), List.filter_cons_of_pos (by rw [q1]; rfl), hn, List.nil_append, ← ih]
theorem parts_at {M : List En} (hs : Srt M) (hok : ∀ p ∈ M, nameOk p.1 = true ∧ OkC p.2) {t : List UInt8} (ht : nameOk t = true) :
    Rng.okR ⟨[], t⟩ = true ∧ Rng.okR ⟨t, []⟩ = true ∧ keysM M = inM M ⟨[], t⟩ ++ inM M ⟨t, []⟩ := by
  have hl := Rng.nameOk_len ht
  have hne : t ≠ [] := fun e => by rw [e] at hl; simp at hl
  have he : Rng.endOk t = true := by unfold Rng.endOk; rw [ht, Bool.or_true]
  have o1 : Rng.okR ⟨[], t⟩ = true := (Rng.okR_iff _).2 ⟨rfl, he, by show Rng.lo [] < Rng.hi t; rw [Rng.hi_lo hne, Rng.lo_nil]; exact Rng.lo_pos hne⟩
  have o2 : Rng.okR ⟨t, []⟩ = true := (Rng.okR_iff _).2 ⟨he, rfl, by show Rng.lo t < Rng.hi []; rw [Rng.hi_nil]; exact Rng.lo_top _⟩
  refine ⟨o1, o2, part_srt t _ _ _ (keys_srt hs) (fun k hk => ?_) (fun k hk => ?_)⟩
  · unfold keysM at hk
    obtain ⟨p, hp, rfl⟩ := List.mem_map.1 hk
    have hn := (hok p hp).1
    rw [Rng.hasR_bool o1, hn, Rng.bl_lo (Rng.nameOk_len hn).2 hl.2]
    show (true && decide (Rng.lo [] ≤ Rng.lo p.1 ∧ Rng.lo p.1 < Rng.hi t)) = _
    rw [Rng.hi_lo hne, Rng.lo_nil]
    simp
  · unfold keysM at hk
    obtain ⟨p, hp, rfl⟩ := List.mem_map.1 hk
    have hn := (hok p hp).1
    rw [Rng.hasR_bool o2, hn, Rng.bl_lo (Rng.nameOk_len hn).2 hl.2]
    show (true && decide (Rng.lo t ≤ Rng.lo p.1 ∧ Rng.lo p.1 < Rng.hi [])) = _
    rw [Rng.hi_nil]
    have := Rng.lo_top p.1
    by_cases hh : Rng.lo p.1 < Rng.lo t
    · rw [decide_eq_true hh, decide_eq_false (by omega)]; rfl
    · rw [decide_eq_false hh, decide_eq_true (by omega)]; rfl
/-- What a slice of texts holds, in every later world. -/
def Rdg (W : World) (a : Option Addr) (L : List (List UInt8)) : Prop := ∀ W', Below W.heap.size W W' → ∀ i (h : i < L.length), ∃ q off, a = some ⟨q, off, none⟩ ∧ W'.cell? ⟨q, off + i, none⟩ = some (.string (tx L[i]))
theorem Rdg.later {W W' : World} {a : Option Addr} {L : List (List UInt8)} (h : Rdg W a L) (hb : Below W.heap.size W W') : Rdg W' a L := fun V hV => h V (hb.trans (hV.mono hb.size))
theorem row_read {W : World} {base : Nat} {v : Value} {L : List (List UInt8)} (h : W.ownsRow base TS 1 v L.length (strs L)) : ∃ a cap, v = .slice a L.length cap ∧ Rdg W a L ∧ L.length ≤ cap := by
  obtain ⟨a, cap, he, hc⟩ := (row_str h).ex
  subst he
  refine ⟨a, cap, rfl, fun W' hb i hi => ?_, ?_⟩
  · obtain ⟨q, off, e, hlt, hcc⟩ := hc i hi
    exact ⟨q, off, e, (cell_same (p := ⟨q, off + i, none⟩) (hb.block q hlt)).trans hcc⟩
  · rcases h.2 with ⟨he, hz⟩ | ⟨g, cap', cur, he, _, _, h1, _⟩
    · injection he with _ h1 h2
      omega
    · injection he with _ h2 h3
      omega
theorem in_str {sb b : Nat} {M : List En} (r : Rng.Rg) (w : World) (x : Sx w sb b M) (hr : Rng.okR r = true) :
    Calls Try.prog 14 #[.pointer (some ⟨sb, 0, none⟩), .agg #[.string (tx r.f), .string (tx r.t)]] w fun e w' => ∃ a cap, e = .returned (.tuple #[.slice a (inM M r).length cap, .int .i64 0]) ∧ Rdg w' a (inM M r) ∧ (inM M r).length ≤ cap ∧ Below w.heap.size w w' := by
  refine (in_go r w x hr).mono ?_
  rintro e w' ⟨v, rfl, hrow, hb⟩
  obtain ⟨a, cap, rfl, h1, h2⟩ := row_read hrow
  exact ⟨a, cap, rfl, h1, h2, hb⟩
theorem keys_rd {sb b : Nat} {M : List En} (w : World) (x : Sx w sb b M) :
    Calls Try.prog 18 #[.pointer (some ⟨sb, 0, none⟩)] w fun e w' => ∃ a cap, e = .returned (.slice a (keysM M).length cap) ∧ Rdg w' a (keysM M) ∧ (keysM M).length ≤ cap ∧ Below w.heap.size w w' := by
  refine (keys_any w x).mono ?_
  rintro e w' ⟨v, rfl, hrow, hb⟩
  have e1 : (keysM M).length = M.length := by simp [keysM]
  rw [← e1] at hrow
  obtain ⟨a, cap, rfl, h1, h2⟩ := row_read hrow
  exact ⟨a, cap, rfl, h1, h2, hb⟩
set_option maxHeartbeats 8000000 in
theorem ranges_long (a : Option Addr) (len cap : Nat) (S : Nat → Sp) (s1 : ByteArray) (s2 s3 : ByteArray) (w : World) (h : IsSt w a len cap S) (hl : ¬ (len ≤ 100 ∧ shortB S len = true ∧ s1.size ≤ 40 ∧ s2.size ≤ 40 ∧ s3.size ≤ 40)) :
    Calls Try.prog 7 #[.slice a len cap, .string s1, .agg #[.string s2, .string s3]] w fun e w' => e = .returned (.bool true) ∧ Below w.heap.size w w' := by
  have hW := Lib.hid (fun W => works_any W)
  have hx := Rng.bx_new w s2 s3
  have hb1 := hx.bel
  have hS := Lib.hid (short_any a len cap S _ (h.later hb1))
  obtain ⟨r0, r1⟩ := hx.cells
  clear hx h
  by_cases h0 : len ≤ 100
  · have hd : decide (100 < (len : Int)) = false := by simp; omega
    cases h1 : shortB S len with
    | false =>
      rw [h1] at hS
      clear hl h0 h1
      go_enter Try.func7, Try.ntmps7
      go_wp2_with fail
      refine hS.out.mono ?_
      rintro e w' ⟨rfl, rfl⟩
      go_wp2_with fail
      refine (hW.out _).mono ?_
      rintro e w2 ⟨rfl, hb2⟩
      go_wp2_with fail
      go_ret
      exact ⟨rfl, hb1.trans (hb2.mono hb1.size)⟩
    | true =>
      rw [h1] at hS
      by_cases k1 : s1.size ≤ 40
      · have d1 : decide (40 < (s1.size : Int)) = false := by simp; omega
        by_cases k2 : s2.size ≤ 40
        · have d2 : decide (40 < (s2.size : Int)) = false := by simp; omega
          have k3 : ¬ s3.size ≤ 40 := fun k3 => hl ⟨h0, h1, k1, k2, k3⟩
          have d3 : decide (40 < (s3.size : Int)) = true := by simp; omega
          clear hl h0 h1 k1 k2 k3
          go_enter Try.func7, Try.ntmps7
          go_wp2_with fail
          refine hS.out.mono ?_
          rintro e w' ⟨rfl, rfl⟩
          go_wp2_with fail
          refine (hW.out _).mono ?_
          rintro e w2 ⟨rfl, hb2⟩
          go_wp2_with fail
          go_ret
          exact ⟨rfl, hb1.trans (hb2.mono hb1.size)⟩
        · have d2 : decide (40 < (s2.size : Int)) = true := by simp; omega
          clear hl h0 h1 k1 k2
          go_enter Try.func7, Try.ntmps7
          go_wp2_with fail
          refine hS.out.mono ?_
          rintro e w' ⟨rfl, rfl⟩
          go_wp2_with fail
          refine (hW.out _).mono ?_
          rintro e w2 ⟨rfl, hb2⟩
          go_wp2_with fail
          go_ret
          exact ⟨rfl, hb1.trans (hb2.mono hb1.size)⟩
      · have d1 : decide (40 < (s1.size : Int)) = true := by simp; omega
        clear hl h0 h1 k1
        go_enter Try.func7, Try.ntmps7
        go_wp2_with fail
        refine hS.out.mono ?_
        rintro e w' ⟨rfl, rfl⟩
        go_wp2_with fail
        refine (hW.out _).mono ?_
        rintro e w2 ⟨rfl, hb2⟩
        go_wp2_with fail
        go_ret
        exact ⟨rfl, hb1.trans (hb2.mono hb1.size)⟩
  · have hd : decide (100 < (len : Int)) = true := by simp; omega
    clear hl h0 hS
    go_enter Try.func7, Try.ntmps7
    go_wp2_with fail
    refine (hW.out _).mono ?_
    rintro e w2 ⟨rfl, hb2⟩
    go_wp2_with fail
    go_ret
    exact ⟨rfl, hb1.trans (hb2.mono hb1.size)⟩
/-- What a round of the first loop reads. -/
def Rx (p q o : Nat) (s2 s3 s : ByteArray) (W : World) : Prop := W.cell? ⟨p, 0, none⟩ = some (.string s2) ∧ W.cell? ⟨p, 1, none⟩ = some (.string s3) ∧ W.cell? ⟨q, o, none⟩ = some (.string s)
def Ry (q o q' o' : Nat) (s : ByteArray) (W : World) : Prop := W.cell? ⟨q, o, none⟩ = some (.string s) ∧ W.cell? ⟨q', o', none⟩ = some (.string s)
def Rz (q o q' o' q2 o2 : Nat) (s : ByteArray) (W : World) : Prop := W.cell? ⟨q, o, none⟩ = some (.string s) ∧ W.cell? ⟨q', o', none⟩ = some (.string s) ∧ W.cell? ⟨q2, o2, none⟩ = some (.string s)
set_option maxHeartbeats 16000000 in
theorem ranges_go_g (a : Option Addr) (len cap : Nat) (S : Nat → Sp) (key : List UInt8) (r : Rng.Rg) (w : World) (h : IsSt w a len cap S) (h0 : len ≤ 100) (h1 : shortB S len = true) (k1 : (tx key).size ≤ 40) (k2 : (tx r.f).size ≤ 40) (k3 : (tx r.t).size ≤ 40) (hmd : Hid (Rng.okR r = true)) :
    Calls Try.prog 7 #[.slice a len cap, .string (tx key), .agg #[.string (tx r.f), .string (tx r.t)]] w fun e w' => e = .returned (.bool true) ∧ Below w.heap.size w w' := by
  have hW := Lib.hid (fun W => works_any W)
  have hx := Rng.bx_new w (tx r.f) (tx r.t)
  have hb1 := hx.bel
  have hS := short_any a len cap S _ (h.later hb1)
  rw [h1] at hS
  replace hS := Lib.hid hS
  have hF := filled_any a len cap S _ (h.later hb1) h1
  generalize fillM S len = M at hF
  replace hF := Lib.hid hF
  obtain ⟨r0, r1⟩ := hx.cells
  have hC := Lib.hid (fun W => Rng.check_any r W)
  have hN := Lib.hid (fun W => Rng.name_any key W)
  have hH := Lib.hid (fun j W => Rng.has_rng r j W)
  have hIg := Lib.hid (fun (ho : Rng.okR r = true) (W : World) sb b (x : Sx W sb b M) => in_str r W x ho)
  have hIb := Lib.hid (fun (ho : Rng.okR r = false) (W : World) sb b (x : Sx W sb b M) => in_bad r W x ho)
  have hLo := Lib.hid (fun (ho : Rng.okR ⟨[], key⟩ = true) (W : World) sb b (x : Sx W sb b M) => (show Calls Try.prog 14 #[.pointer (some ⟨sb, 0, none⟩), .agg #[.string ⟨#[]⟩, .string (tx key)]] W _ from in_str ⟨[], key⟩ W x ho))
  have hHi := Lib.hid (fun (ho : Rng.okR ⟨key, []⟩ = true) (W : World) sb b (x : Sx W sb b M) => (show Calls Try.prog 14 #[.pointer (some ⟨sb, 0, none⟩), .agg #[.string (tx key), .string ⟨#[]⟩]] W _ from in_str ⟨key, []⟩ W x ho))
  have hAl := Lib.hid (fun (W : World) sb b (x : Sx W sb b M) => (show Calls Try.prog 14 #[.pointer (some ⟨sb, 0, none⟩), .agg #[.string ⟨#[]⟩, .string ⟨#[]⟩]] W _ from in_str ⟨[], []⟩ W x (by decide)))
  generalize tx key = s1 at *
  generalize tx r.f = s2 at *
  generalize tx r.t = s3 at *
  have hd : decide (100 < (len : Int)) = false := by simp; omega
  have d1 : decide (40 < (s1.size : Int)) = false := by simp; omega
  have d2 : decide (40 < (s2.size : Int)) = false := by simp; omega
  have d3 : decide (40 < (s3.size : Int)) = false := by simp; omega
  clear h h0 h1 k1 k2 k3
  go_enter Try.func7, Try.ntmps7
  go_wp2_with fail
  refine hS.out.mono ?_
  rintro e w' ⟨rfl, rfl⟩
  go_wp2_with fail
  refine hF.out.mono ?_
  rintro e w3 ⟨sb, b, rfl, hK, hsb⟩
  have hx := hx.later hK.bel
  have hK := hK.from_ hb1
  obtain ⟨p, hp⟩ : ∃ p, w.heap.size = p := ⟨_, rfl⟩
  rw [hp] at hx
  clear hF hS r0 r1 hb1
  go_wp2_with fail
  refine (keys_rd _ hK.sx).mono ?_
  rintro e w4 ⟨ka, kc, rfl, GK, hkc, hb4⟩
  have hK := hK.later hb4
  have hx := hx.later hb4
  have hlen : (keysM M).length ≤ 64 := by have := hK.sx.len; simpa [keysM] using this
  clear hb4
  cases hok : Rng.okR r with
  | false =>
    exact absurd (hok.symm.trans hmd.out) (by decide)
  | true =>
    obtain ⟨r0, r1⟩ := hx.cells
    go_wp2_with fail
    refine (hIg.out hok _ _ _ hK.sx).mono ?_
    rintro e w5 ⟨ma, mc, rfl, GM, hmc, hb5⟩
    clear r0 r1
    have hK := hK.later hb5
    have hx := hx.later hb5
    have GK := GK.later hb5
    have he : Rng.okE r = 0 := by unfold Rng.okE; rw [hok]; rfl
    replace hC := hC.out
    rw [he] at hC
    clear he hok hb5
    obtain ⟨r0, r1⟩ := hx.cells
    go_wp2_with fail
    refine (hC _).mono ?_
    rintro e w6 ⟨rfl, hb6⟩
    clear r0 r1
    have hK := hK.later hb6
    have GK := GK.later hb6
    have GM := GM.later hb6
    have hx := hx.later hb6
    clear hb6
    have hat := Lib.hid (fun k (hk : k < M.length) => at_in hk r)
    have htk := Lib.hid (fun k (hk : k < M.length) => take_in hk r)
    have hall : inM (M.take M.length) r = inM M r := by rw [List.take_length]
    have hkl : (keysM M).length = M.length := by simp [keysM]
    have hki : Hid (∀ k (h1 : k < M.length) (h2 : k < (keysM M).length), (keysM M)[k] = M[k].1) := fun k h1 h2 => by simp [keysM]
    replace hall := Lib.hid hall
    replace hkl := Lib.hid hkl
    have GK0 := Lib.hid GK
    have GM0 := Lib.hid GM
    go_wp2_with fail
    go_loopw [11, 12] (fun n i wr => ∃ k : Nat, k ≤ (keysM M).length ∧ i = .int .i64 k ∧ n = .int .i64 ((inM (M.take k) r).length : Nat) ∧ Below w6.heap.size w6 wr) (fun _ i _ => (keysM M).length - (intOf i).toNat)
    case atStart => exact ⟨0, Nat.zero_le _, rfl, rfl, Below.refl _ _⟩
    case round =>
      obtain ⟨k, hk, rfl, rfl, hb⟩ := hrel
      have hklo := hkl.out
      by_cases hlt0 : k < (keysM M).length
      · have hlt : k < M.length := by omega
        obtain ⟨q1, o1, rfl, e1⟩ := GK0.out wr hb k hlt0
        rw [hki.out k hlt (by omega)] at e1
        have hx2 := hx.later hb
        have ht := htk.out k hlt
        have hml : (k : Int) < ((keysM M).length : Int) := by omega
        skip
        cases hh : Rng.hasR r M[k].1 with
        | false =>
          rw [hh] at ht
          have hHk := Lib.hid (fun W => (hh ▸ hH.out M[k].1 W : Calls Try.prog 28 #[.agg #[.string s2, .string s3], .string (tx M[k].1)] W fun e w' => e = .returned (.bool false) ∧ Below W.heap.size W w'))
          have e1 := Lib.hid (fun W (hW : Below w6.heap.size w6 W) => (show W.cell? ⟨q1, o1 + k, none⟩ = some (.string (tx M[k].1)) by obtain ⟨q, o, he, hc⟩ := GK0.out W hW k (by omega); injection he with he; injection he with he1 he2 _; subst he1 he2; rw [hki.out k hlt (by omega)] at hc; exact hc))
          have hnx := Lib.hid (show (inM (M.take (k + 1)) r).length = (inM (M.take k) r).length + 0 by rw [ht]; simp)
          have hnb : (inM (M.take k) r).length ≤ 64 := by have h1 : (inM (M.take k) r).length ≤ (M.take k).length := Nat.le_trans (List.length_filter_le _ _) (by simp [keysM]); have := hK.sx.len; rw [List.length_take] at h1; omega
          generalize tx M[k].1 = si at *
          generalize (inM (M.take k) r).length = nn at *
          obtain ⟨r0, r1⟩ := hx2.cells
          have ek := e1.out wr hb
          clear GK GM hat htk hki hall hkl hklo ht hh hx
          go_wp2_with fail
          refine wp_region_held_drew (S := (Rx p q1 (o1 + k) s2 s3 si)) (by kernel_rfl) (show Rx p q1 (o1 + k) s2 s3 si wr from ⟨r0, r1, ek⟩) (fun hS => ?_)
          try simp only [Act.put, List.setIfInBounds_toArray, List.set_cons_zero, List.set_cons_succ]
          refine wpAnyH_take (i := 0) (v := .agg #[.string s2, .string s3]) rfl (by kernel_rfl) (by kernel_rfl) (by kernel_rfl) (fun _ _ _ h => h) (Or.inl ⟨by kernel_rfl, by intro w' hSw; obtain ⟨t0, t1, t2⟩ := hSw; go_simp⟩) hS ?_
          try simp only [Act.put, List.setIfInBounds_toArray, List.set_cons_zero, List.set_cons_succ]
          refine wpAnyH_take (i := 1) (v := .slice (some ⟨q1, o1, none⟩) (keysM M).length kc) rfl (by kernel_rfl) (by kernel_rfl) (by kernel_rfl) (fun _ _ _ h => h) (Or.inl ⟨by kernel_rfl, by intro w' hSw; obtain ⟨t0, t1, t2⟩ := hSw; go_simp⟩) hS ?_
          try simp only [Act.put, List.setIfInBounds_toArray, List.set_cons_zero, List.set_cons_succ]
          refine wpAnyH_take (i := 2) (v := .int .i64 (k : Nat)) rfl (by kernel_rfl) (by kernel_rfl) (by kernel_rfl) (fun _ _ _ h => h) (Or.inl ⟨by kernel_rfl, by intro w' hSw; obtain ⟨t0, t1, t2⟩ := hSw; go_simp⟩) hS ?_
          try simp only [Act.put, List.setIfInBounds_toArray, List.set_cons_zero, List.set_cons_succ]
          refine wpAnyH_take (i := 3) (v := .pointer (some ⟨q1, o1 + k, none⟩)) rfl (by kernel_rfl) (by kernel_rfl) (by kernel_rfl) (fun _ _ _ h => h) (Or.inl ⟨by kernel_rfl, by intro w' hSw; obtain ⟨t0, t1, t2⟩ := hSw; go_simp⟩) hS ?_
          try simp only [Act.put, List.setIfInBounds_toArray, List.set_cons_zero, List.set_cons_succ]
          refine wpAnyH_take (i := 4) (v := .string si) rfl (by kernel_rfl) (by kernel_rfl) (by kernel_rfl) (fun _ _ _ h => h) (Or.inl ⟨by kernel_rfl, by intro w' hSw; obtain ⟨t0, t1, t2⟩ := hSw; go_simp⟩) hS ?_
          try simp only [Act.put, List.setIfInBounds_toArray, List.set_cons_zero, List.set_cons_succ]
          refine wpAnyH_ready (rs := [5]) (by kernel_rfl) (by simp) ?_
          refine AllReadyH.cons rfl (fun K hK => ?_) AllReadyH.nil
          go_simp
          go_at_call 28
          refine (hHk.out _).mono ?_
          rintro e v1 ⟨rfl, hv1⟩
          have hv2 : Below wr.heap.size wr v1 := (Below.refl _ wr).drew.trans hv1
          have hB := hb.trans (hv2.mono hb.size)
          obtain ⟨r0', r1'⟩ := (hx2.later hv2).cells
          refine hK.out _ _ (show Rx p q1 (o1 + k) s2 s3 si v1 from ⟨r0', r1', e1.out _ hB⟩) (fun hS => ?_)
          clear hK K
          try simp only [Act.put, List.setIfInBounds_toArray, List.set_cons_zero, List.set_cons_succ]
          refine wpAnyH_ready (rs := [6]) (by kernel_rfl) (by simp) ?_
          refine AllReadyH.cons rfl (fun K hK' => ?_) AllReadyH.nil
          go_simp
          refine hK'.out _ _ hS (fun hS => ?_)
          clear hK' K
          try simp only [Act.put, List.setIfInBounds_toArray, List.set_cons_zero, List.set_cons_succ]
          refine wpAnyH_done (by kernel_rfl) ?_ _
          clear hS
          go_wp2
          go_roundw
          case rel => exact ⟨k + 1, hlt0, by go_num, by rw [hnx.out]; rfl, hB⟩
          case measure => simp [intOf]; omega
        | true =>
          rw [hh] at ht
          obtain ⟨hnl, hne⟩ := hat.out k hlt hh
          obtain ⟨q2, o2, hma, _⟩ := GM0.out wr hb _ hnl
          subst hma
          have e2 := Lib.hid (fun W (hW : Below w6.heap.size w6 W) => (show W.cell? ⟨q2, o2 + (inM (M.take k) r).length, none⟩ = some (.string (tx M[k].1)) by obtain ⟨q, o, he, hc⟩ := GM0.out W hW _ hnl; injection he with he; injection he with he1 he2 _; subst he1 he2; rw [hne] at hc; exact hc))
          have hnml : ((inM (M.take k) r).length : Int) < ((inM M r).length : Int) := by omega
          have hg1 : decide (((inM M r).length : Int) ≤ ((inM (M.take k) r).length : Int)) = false := by simp; omega
          have hHk := Lib.hid (fun W => (hh ▸ hH.out M[k].1 W : Calls Try.prog 28 #[.agg #[.string s2, .string s3], .string (tx M[k].1)] W fun e w' => e = .returned (.bool true) ∧ Below W.heap.size W w'))
          have e1 := Lib.hid (fun W (hW : Below w6.heap.size w6 W) => (show W.cell? ⟨q1, o1 + k, none⟩ = some (.string (tx M[k].1)) by obtain ⟨q, o, he, hc⟩ := GK0.out W hW k (by omega); injection he with he; injection he with he1 he2 _; subst he1 he2; rw [hki.out k hlt (by omega)] at hc; exact hc))
          have hnx := Lib.hid (show (inM (M.take (k + 1)) r).length = (inM (M.take k) r).length + 1 by rw [ht]; simp)
          have hnb : (inM (M.take k) r).length ≤ 64 := by have h1 : (inM (M.take k) r).length ≤ (M.take k).length := Nat.le_trans (List.length_filter_le _ _) (by simp [keysM]); have := hK.sx.len; rw [List.length_take] at h1; omega
          generalize tx M[k].1 = si at *
          generalize (inM (M.take k) r).length = nn at *
          obtain ⟨r0, r1⟩ := hx2.cells
          have ek := e1.out wr hb
          clear GK GM hat htk hki hall hkl hklo ht hh hx hne
          go_wp2_with fail
          refine wp_region_held_drew (S := (Rx p q1 (o1 + k) s2 s3 si)) (by kernel_rfl) (show Rx p q1 (o1 + k) s2 s3 si wr from ⟨r0, r1, ek⟩) (fun hS => ?_)
          try simp only [Act.put, List.setIfInBounds_toArray, List.set_cons_zero, List.set_cons_succ]
          refine wpAnyH_take (i := 0) (v := .agg #[.string s2, .string s3]) rfl (by kernel_rfl) (by kernel_rfl) (by kernel_rfl) (fun _ _ _ h => h) (Or.inl ⟨by kernel_rfl, by intro w' hSw; obtain ⟨t0, t1, t2⟩ := hSw; go_simp⟩) hS ?_
          try simp only [Act.put, List.setIfInBounds_toArray, List.set_cons_zero, List.set_cons_succ]
          refine wpAnyH_take (i := 1) (v := .slice (some ⟨q1, o1, none⟩) (keysM M).length kc) rfl (by kernel_rfl) (by kernel_rfl) (by kernel_rfl) (fun _ _ _ h => h) (Or.inl ⟨by kernel_rfl, by intro w' hSw; obtain ⟨t0, t1, t2⟩ := hSw; go_simp⟩) hS ?_
          try simp only [Act.put, List.setIfInBounds_toArray, List.set_cons_zero, List.set_cons_succ]
          refine wpAnyH_take (i := 2) (v := .int .i64 (k : Nat)) rfl (by kernel_rfl) (by kernel_rfl) (by kernel_rfl) (fun _ _ _ h => h) (Or.inl ⟨by kernel_rfl, by intro w' hSw; obtain ⟨t0, t1, t2⟩ := hSw; go_simp⟩) hS ?_
          try simp only [Act.put, List.setIfInBounds_toArray, List.set_cons_zero, List.set_cons_succ]
          refine wpAnyH_take (i := 3) (v := .pointer (some ⟨q1, o1 + k, none⟩)) rfl (by kernel_rfl) (by kernel_rfl) (by kernel_rfl) (fun _ _ _ h => h) (Or.inl ⟨by kernel_rfl, by intro w' hSw; obtain ⟨t0, t1, t2⟩ := hSw; go_simp⟩) hS ?_
          try simp only [Act.put, List.setIfInBounds_toArray, List.set_cons_zero, List.set_cons_succ]
          refine wpAnyH_take (i := 4) (v := .string si) rfl (by kernel_rfl) (by kernel_rfl) (by kernel_rfl) (fun _ _ _ h => h) (Or.inl ⟨by kernel_rfl, by intro w' hSw; obtain ⟨t0, t1, t2⟩ := hSw; go_simp⟩) hS ?_
          try simp only [Act.put, List.setIfInBounds_toArray, List.set_cons_zero, List.set_cons_succ]
          refine wpAnyH_ready (rs := [5]) (by kernel_rfl) (by simp) ?_
          refine AllReadyH.cons rfl (fun K hK => ?_) AllReadyH.nil
          go_simp
          go_at_call 28
          refine (hHk.out _).mono ?_
          rintro e v1 ⟨rfl, hv1⟩
          have hv2 : Below wr.heap.size wr v1 := (Below.refl _ wr).drew.trans hv1
          have hB := hb.trans (hv2.mono hb.size)
          obtain ⟨r0', r1'⟩ := (hx2.later hv2).cells
          refine hK.out _ _ (show Rx p q1 (o1 + k) s2 s3 si v1 from ⟨r0', r1', e1.out _ hB⟩) (fun hS => ?_)
          clear hK K
          try simp only [Act.put, List.setIfInBounds_toArray, List.set_cons_zero, List.set_cons_succ]
          refine wpAnyH_ready (rs := [6]) (by kernel_rfl) (by simp) ?_
          refine AllReadyH.cons rfl (fun K hK' => ?_) AllReadyH.nil
          go_simp
          refine hK'.out _ _ hS (fun hS => ?_)
          clear hK' K
          try simp only [Act.put, List.setIfInBounds_toArray, List.set_cons_zero, List.set_cons_succ]
          refine wpAnyH_done (by kernel_rfl) ?_ _
          clear hS
          have ek2 := e1.out _ hB
          have em2 := e2.out _ hB
          have hwn : IntKind.i64.wrap ((nn : Int) + 1) = (nn : Int) + 1 := Cnt.i64w (by omega) (by omega)
          go_wp2_with fail
          refine wp_region_held_drew (S := (Ry q1 (o1 + k) q2 (o2 + nn) si)) (by kernel_rfl) (show Ry q1 (o1 + k) q2 (o2 + nn) si v1 from ⟨ek2, em2⟩) (fun hS => ?_)
          try simp only [Act.put, List.setIfInBounds_toArray, List.set_cons_zero, List.set_cons_succ]
          refine wpAnyH_take (i := 0) (v := .int .i64 (nn : Nat)) rfl (by kernel_rfl) (by kernel_rfl) (by kernel_rfl) (fun _ _ _ h => h) (Or.inl ⟨by kernel_rfl, by intro w' hSw; obtain ⟨t0, t1⟩ := hSw; go_simp⟩) hS ?_
          try simp only [Act.put, List.setIfInBounds_toArray, List.set_cons_zero, List.set_cons_succ]
          refine wpAnyH_take (i := 1) (v := .slice (some ⟨q2, o2, none⟩) (inM M r).length mc) rfl (by kernel_rfl) (by kernel_rfl) (by kernel_rfl) (fun _ _ _ h => h) (Or.inl ⟨by kernel_rfl, by intro w' hSw; obtain ⟨t0, t1⟩ := hSw; go_simp⟩) hS ?_
          try simp only [Act.put, List.setIfInBounds_toArray, List.set_cons_zero, List.set_cons_succ]
          refine wpAnyH_take (i := 2) (v := .int .i64 ((inM M r).length : Nat)) rfl (by kernel_rfl) (by kernel_rfl) (by kernel_rfl) (fun _ _ _ h => h) (Or.inl ⟨by kernel_rfl, by intro w' hSw; obtain ⟨t0, t1⟩ := hSw; go_simp⟩) hS ?_
          try simp only [Act.put, List.setIfInBounds_toArray, List.set_cons_zero, List.set_cons_succ]
          refine wpAnyH_take (i := 3) (v := .bool false) rfl (by kernel_rfl) (by kernel_rfl) (by kernel_rfl) (fun _ _ _ h => h) (Or.inl ⟨by kernel_rfl, by intro w' hSw; obtain ⟨t0, t1⟩ := hSw; go_simp⟩) hS ?_
          try simp only [Act.put, List.setIfInBounds_toArray, List.set_cons_zero, List.set_cons_succ]
          refine wpAnyH_take (i := 4) (v := .bool false) rfl (by kernel_rfl) (by kernel_rfl) (by kernel_rfl) (fun _ _ _ h => h) (Or.inl ⟨by kernel_rfl, by intro w' hSw; obtain ⟨t0, t1⟩ := hSw; go_simp⟩) hS ?_
          try simp only [Act.put, List.setIfInBounds_toArray, List.set_cons_zero, List.set_cons_succ]
          refine wpAnyH_take (i := 5) (v := .slice (some ⟨q2, o2, none⟩) (inM M r).length mc) rfl (by kernel_rfl) (by kernel_rfl) (by kernel_rfl) (fun _ _ _ h => h) (Or.inl ⟨by kernel_rfl, by intro w' hSw; obtain ⟨t0, t1⟩ := hSw; go_simp⟩) hS ?_
          try simp only [Act.put, List.setIfInBounds_toArray, List.set_cons_zero, List.set_cons_succ]
          refine wpAnyH_take (i := 6) (v := .int .i64 (nn : Nat)) rfl (by kernel_rfl) (by kernel_rfl) (by kernel_rfl) (fun _ _ _ h => h) (Or.inl ⟨by kernel_rfl, by intro w' hSw; obtain ⟨t0, t1⟩ := hSw; go_simp⟩) hS ?_
          try simp only [Act.put, List.setIfInBounds_toArray, List.set_cons_zero, List.set_cons_succ]
          refine wpAnyH_take (i := 7) (v := .pointer (some ⟨q2, o2 + nn, none⟩)) rfl (by kernel_rfl) (by kernel_rfl) (by kernel_rfl) (fun _ _ _ h => h) (Or.inl ⟨by kernel_rfl, by intro w' hSw; obtain ⟨t0, t1⟩ := hSw; go_simp⟩) hS ?_
          try simp only [Act.put, List.setIfInBounds_toArray, List.set_cons_zero, List.set_cons_succ]
          refine wpAnyH_take (i := 8) (v := .string si) rfl (by kernel_rfl) (by kernel_rfl) (by kernel_rfl) (fun _ _ _ h => h) (Or.inl ⟨by kernel_rfl, by intro w' hSw; obtain ⟨t0, t1⟩ := hSw; go_simp⟩) hS ?_
          try simp only [Act.put, List.setIfInBounds_toArray, List.set_cons_zero, List.set_cons_succ]
          refine wpAnyH_take (i := 9) (v := .slice (some ⟨q1, o1, none⟩) (keysM M).length kc) rfl (by kernel_rfl) (by kernel_rfl) (by kernel_rfl) (fun _ _ _ h => h) (Or.inl ⟨by kernel_rfl, by intro w' hSw; obtain ⟨t0, t1⟩ := hSw; go_simp⟩) hS ?_
          try simp only [Act.put, List.setIfInBounds_toArray, List.set_cons_zero, List.set_cons_succ]
          refine wpAnyH_take (i := 10) (v := .int .i64 (k : Nat)) rfl (by kernel_rfl) (by kernel_rfl) (by kernel_rfl) (fun _ _ _ h => h) (Or.inl ⟨by kernel_rfl, by intro w' hSw; obtain ⟨t0, t1⟩ := hSw; go_simp⟩) hS ?_
          try simp only [Act.put, List.setIfInBounds_toArray, List.set_cons_zero, List.set_cons_succ]
          refine wpAnyH_take (i := 11) (v := .pointer (some ⟨q1, o1 + k, none⟩)) rfl (by kernel_rfl) (by kernel_rfl) (by kernel_rfl) (fun _ _ _ h => h) (Or.inl ⟨by kernel_rfl, by intro w' hSw; obtain ⟨t0, t1⟩ := hSw; go_simp⟩) hS ?_
          try simp only [Act.put, List.setIfInBounds_toArray, List.set_cons_zero, List.set_cons_succ]
          refine wpAnyH_take (i := 12) (v := .string si) rfl (by kernel_rfl) (by kernel_rfl) (by kernel_rfl) (fun _ _ _ h => h) (Or.inl ⟨by kernel_rfl, by intro w' hSw; obtain ⟨t0, t1⟩ := hSw; go_simp⟩) hS ?_
          try simp only [Act.put, List.setIfInBounds_toArray, List.set_cons_zero, List.set_cons_succ]
          refine wpAnyH_take (i := 13) (v := .bool false) rfl (by kernel_rfl) (by kernel_rfl) (by kernel_rfl) (fun _ _ _ h => h) (Or.inl ⟨by kernel_rfl, by intro w' hSw; obtain ⟨t0, t1⟩ := hSw; go_simp⟩) hS ?_
          try simp only [Act.put, List.setIfInBounds_toArray, List.set_cons_zero, List.set_cons_succ]
          refine wpAnyH_ready (rs := [14]) (by kernel_rfl) (by simp) ?_
          refine AllReadyH.cons rfl (fun K hK' => ?_) AllReadyH.nil
          go_simp
          refine hK'.out _ _ hS (fun hS => ?_)
          clear hK' K
          try simp only [Act.put, List.setIfInBounds_toArray, List.set_cons_zero, List.set_cons_succ]
          refine wpAnyH_done (by kernel_rfl) ?_ _
          clear hS
          go_wp2
          go_roundw
          case rel => exact ⟨k + 1, hlt0, by go_num, by rw [hnx.out]; go_num, hB.drew⟩
          case measure => simp [intOf]; omega
      · obtain rfl : k = (keysM M).length := by omega
        have hK := hK.later hb
        have GK := GK.later hb
        rw [hklo, hall.out, ← hklo]
        clear hat htk hki hall hkl hklo GM GM0 GK0 hlt0 hx hmc
        go_wp2_with fail
        refine (hN.out _).mono ?_
        rintro e n1 ⟨rfl, hn1⟩
        have hK := hK.later hn1
        have GK := GK.later hn1
        clear hn1
        cases hnm : nameOk key with
        | false =>
          go_wp2_with fail
          refine (hW.out _).mono ?_
          rintro e z2 ⟨rfl, hz2⟩
          have hK := hK.later hz2
          go_wp2_with fail
          go_ret
          exact ⟨rfl, hK.bel⟩
        | true =>
          obtain ⟨o1, o2, hsp⟩ := parts_at hK.sx.srt hK.sx.ok hnm
          replace hsp := Lib.hid hsp
          have hal := in_all hK.sx.ok
          go_wp2_with fail
          refine (hLo.out o1 _ _ _ hK.sx).mono ?_
          rintro e y1 ⟨la, lc, rfl, GL, hlc, hy1⟩
          have hK := hK.later hy1
          have GK := GK.later hy1
          clear hy1
          go_wp2_with fail
          refine (hHi.out o2 _ _ _ hK.sx).mono ?_
          rintro e y2 ⟨ga, gc, rfl, GH, hgc, hy2⟩
          have hK := hK.later hy2
          have GK := GK.later hy2
          have GL := GL.later hy2
          clear hy2
          go_wp2_with fail
          refine (hAl.out _ _ _ hK.sx).mono ?_
          rintro e y3 ⟨aa, ac, rfl, GA, hac, hy3⟩
          rw [hal] at GA hac ⊢
          have hK := hK.later hy3
          have GK := Lib.hid (GK.later hy3)
          have GL := Lib.hid (GL.later hy3)
          have GH := Lib.hid (GH.later hy3)
          replace GA := Lib.hid GA
          clear hy3 hal hLo hHi hAl hC hN hH hIg hIb o1 o2
          generalize inM M ⟨[], key⟩ = LO at *
          generalize inM M ⟨key, []⟩ = HI at *
          generalize hKL : keysM M = KL at *
          clear hKL
          have hls : (LO.length : Int) + (HI.length : Int) = (KL.length : Int) := by rw [hsp.out, List.length_append]; omega
          have hwl : IntKind.i64.wrap ((LO.length : Int) + (HI.length : Int)) = (KL.length : Int) := by rw [Cnt.i64w (by omega) (by omega)]; exact hls
          replace hls := Lib.hid hls
          go_wp2_with fail
          go_loopw [19] (fun i wr => ∃ k : Nat, k ≤ KL.length ∧ i = .int .i64 k ∧ Below y3.heap.size y3 wr) (fun i _ => KL.length - (intOf i).toNat)
          case atStart => exact ⟨0, Nat.zero_le _, rfl, Below.refl _ _⟩
          case round =>
            obtain ⟨k, hk, rfl, hb⟩ := hrel
            have hlsn := hls.out
            by_cases hlt : k < KL.length
            · obtain ⟨q1, o1, rfl, e1⟩ := GK.out wr hb k hlt
              obtain ⟨q2, o2, rfl, e2⟩ := GA.out wr hb k hlt
              have hml : (k : Int) < (KL.length : Int) := by omega
              by_cases hlo : k < LO.length
              · obtain ⟨q3, o3, rfl, e3⟩ := GL.out wr hb k hlo
                have hke : KL[k] = LO[k] := by simp only [hsp.out]; exact List.getElem_append_left hlo
                rw [← hke] at e3
                have f1 : decide ((k : Int) < (LO.length : Int)) = true := by simp; omega
                have f2 : ((k : Int) < (LO.length : Int)) = True := by simp; omega
                have f3 : decide ((LO.length : Int) ≤ (k : Int)) = false := by simp; omega
                have f4 : ((LO.length : Int) ≤ (k : Int)) = False := by simp; omega
                generalize tx KL[k] = si at *
                clear GK GA GL GH hke hlsn hsp hls
                go_wp2_with fail
                refine wp_region_held_drew (S := (Rz q1 (o1 + k) q2 (o2 + k) q3 (o3 + k) si)) (by kernel_rfl) (show Rz q1 (o1 + k) q2 (o2 + k) q3 (o3 + k) si wr from ⟨e1, e2, e3⟩) (fun hS => ?_)
                try simp only [Act.put, List.setIfInBounds_toArray, List.set_cons_zero, List.set_cons_succ]
                refine wpAnyH_take (i := 0) (v := .slice (some ⟨q2, o2, none⟩) KL.length ac) rfl (by kernel_rfl) (by kernel_rfl) (by kernel_rfl) (fun _ _ _ h => h) (Or.inl ⟨by kernel_rfl, by intro w' hSw; obtain ⟨t0, t1, t2⟩ := hSw; go_simp⟩) hS ?_
                try simp only [Act.put, List.setIfInBounds_toArray, List.set_cons_zero, List.set_cons_succ]
                refine wpAnyH_take (i := 1) (v := .int .i64 (k : Nat)) rfl (by kernel_rfl) (by kernel_rfl) (by kernel_rfl) (fun _ _ _ h => h) (Or.inl ⟨by kernel_rfl, by intro w' hSw; obtain ⟨t0, t1, t2⟩ := hSw; go_simp⟩) hS ?_
                try simp only [Act.put, List.setIfInBounds_toArray, List.set_cons_zero, List.set_cons_succ]
                refine wpAnyH_take (i := 2) (v := .pointer (some ⟨q2, o2 + k, none⟩)) rfl (by kernel_rfl) (by kernel_rfl) (by kernel_rfl) (fun _ _ _ h => h) (Or.inl ⟨by kernel_rfl, by intro w' hSw; obtain ⟨t0, t1, t2⟩ := hSw; go_simp⟩) hS ?_
                try simp only [Act.put, List.setIfInBounds_toArray, List.set_cons_zero, List.set_cons_succ]
                refine wpAnyH_take (i := 3) (v := .string si) rfl (by kernel_rfl) (by kernel_rfl) (by kernel_rfl) (fun _ _ _ h => h) (Or.inl ⟨by kernel_rfl, by intro w' hSw; obtain ⟨t0, t1, t2⟩ := hSw; go_simp⟩) hS ?_
                try simp only [Act.put, List.setIfInBounds_toArray, List.set_cons_zero, List.set_cons_succ]
                refine wpAnyH_take (i := 4) (v := .slice (some ⟨q1, o1, none⟩) KL.length kc) rfl (by kernel_rfl) (by kernel_rfl) (by kernel_rfl) (fun _ _ _ h => h) (Or.inl ⟨by kernel_rfl, by intro w' hSw; obtain ⟨t0, t1, t2⟩ := hSw; go_simp⟩) hS ?_
                try simp only [Act.put, List.setIfInBounds_toArray, List.set_cons_zero, List.set_cons_succ]
                refine wpAnyH_take (i := 5) (v := .int .i64 (k : Nat)) rfl (by kernel_rfl) (by kernel_rfl) (by kernel_rfl) (fun _ _ _ h => h) (Or.inl ⟨by kernel_rfl, by intro w' hSw; obtain ⟨t0, t1, t2⟩ := hSw; go_simp⟩) hS ?_
                try simp only [Act.put, List.setIfInBounds_toArray, List.set_cons_zero, List.set_cons_succ]
                refine wpAnyH_take (i := 6) (v := .pointer (some ⟨q1, o1 + k, none⟩)) rfl (by kernel_rfl) (by kernel_rfl) (by kernel_rfl) (fun _ _ _ h => h) (Or.inl ⟨by kernel_rfl, by intro w' hSw; obtain ⟨t0, t1, t2⟩ := hSw; go_simp⟩) hS ?_
                try simp only [Act.put, List.setIfInBounds_toArray, List.set_cons_zero, List.set_cons_succ]
                refine wpAnyH_take (i := 7) (v := .string si) rfl (by kernel_rfl) (by kernel_rfl) (by kernel_rfl) (fun _ _ _ h => h) (Or.inl ⟨by kernel_rfl, by intro w' hSw; obtain ⟨t0, t1, t2⟩ := hSw; go_simp⟩) hS ?_
                try simp only [Act.put, List.setIfInBounds_toArray, List.set_cons_zero, List.set_cons_succ]
                refine wpAnyH_take (i := 8) (v := .bool false) rfl (by kernel_rfl) (by kernel_rfl) (by kernel_rfl) (fun _ _ _ h => h) (Or.inl ⟨by kernel_rfl, by intro w' hSw; obtain ⟨t0, t1, t2⟩ := hSw; go_simp⟩) hS ?_
                try simp only [Act.put, List.setIfInBounds_toArray, List.set_cons_zero, List.set_cons_succ]
                refine wpAnyH_take (i := 9) (v := .bool false) rfl (by kernel_rfl) (by kernel_rfl) (by kernel_rfl) (fun _ _ _ h => h) (Or.inl ⟨by kernel_rfl, by intro w' hSw; obtain ⟨t0, t1, t2⟩ := hSw; go_simp⟩) hS ?_
                try simp only [Act.put, List.setIfInBounds_toArray, List.set_cons_zero, List.set_cons_succ]
                refine wpAnyH_take (i := 10) (v := .int .i64 (k : Nat)) rfl (by kernel_rfl) (by kernel_rfl) (by kernel_rfl) (fun _ _ _ h => h) (Or.inl ⟨by kernel_rfl, by intro w' hSw; obtain ⟨t0, t1, t2⟩ := hSw; go_simp⟩) hS ?_
                try simp only [Act.put, List.setIfInBounds_toArray, List.set_cons_zero, List.set_cons_succ]
                refine wpAnyH_take (i := 11) (v := .slice (some ⟨q3, o3, none⟩) LO.length lc) rfl (by kernel_rfl) (by kernel_rfl) (by kernel_rfl) (fun _ _ _ h => h) (Or.inl ⟨by kernel_rfl, by intro w' hSw; obtain ⟨t0, t1, t2⟩ := hSw; go_simp⟩) hS ?_
                try simp only [Act.put, List.setIfInBounds_toArray, List.set_cons_zero, List.set_cons_succ]
                refine wpAnyH_take (i := 12) (v := .int .i64 (LO.length : Nat)) rfl (by kernel_rfl) (by kernel_rfl) (by kernel_rfl) (fun _ _ _ h => h) (Or.inl ⟨by kernel_rfl, by intro w' hSw; obtain ⟨t0, t1, t2⟩ := hSw; go_simp⟩) hS ?_
                try simp only [Act.put, List.setIfInBounds_toArray, List.set_cons_zero, List.set_cons_succ]
                refine wpAnyH_take (i := 13) (v := .bool true) rfl (by kernel_rfl) (by kernel_rfl) (by kernel_rfl) (fun _ _ _ h => h) (Or.inl ⟨by kernel_rfl, by intro w' hSw; obtain ⟨t0, t1, t2⟩ := hSw; go_simp⟩) hS ?_
                try simp only [Act.put, List.setIfInBounds_toArray, List.set_cons_zero, List.set_cons_succ]
                refine wpAnyH_take (i := 14) (v := .bool true) rfl (by kernel_rfl) (by kernel_rfl) (by kernel_rfl) (fun _ _ _ h => h) (Or.inl ⟨by kernel_rfl, by intro w' hSw; obtain ⟨t0, t1, t2⟩ := hSw; go_simp⟩) hS ?_
                try simp only [Act.put, List.setIfInBounds_toArray, List.set_cons_zero, List.set_cons_succ]
                refine wpAnyH_take (i := 15) (v := .slice (some ⟨q3, o3, none⟩) LO.length lc) rfl (by kernel_rfl) (by kernel_rfl) (by kernel_rfl) (fun _ _ _ h => h) (Or.inl ⟨by kernel_rfl, by intro w' hSw; obtain ⟨t0, t1, t2⟩ := hSw; go_simp⟩) hS ?_
                try simp only [Act.put, List.setIfInBounds_toArray, List.set_cons_zero, List.set_cons_succ]
                refine wpAnyH_take (i := 16) (v := .int .i64 (k : Nat)) rfl (by kernel_rfl) (by kernel_rfl) (by kernel_rfl) (fun _ _ _ h => h) (Or.inl ⟨by kernel_rfl, by intro w' hSw; obtain ⟨t0, t1, t2⟩ := hSw; go_simp⟩) hS ?_
                try simp only [Act.put, List.setIfInBounds_toArray, List.set_cons_zero, List.set_cons_succ]
                refine wpAnyH_take (i := 17) (v := .pointer (some ⟨q3, o3 + k, none⟩)) rfl (by kernel_rfl) (by kernel_rfl) (by kernel_rfl) (fun _ _ _ h => h) (Or.inl ⟨by kernel_rfl, by intro w' hSw; obtain ⟨t0, t1, t2⟩ := hSw; go_simp⟩) hS ?_
                try simp only [Act.put, List.setIfInBounds_toArray, List.set_cons_zero, List.set_cons_succ]
                refine wpAnyH_take (i := 18) (v := .string si) rfl (by kernel_rfl) (by kernel_rfl) (by kernel_rfl) (fun _ _ _ h => h) (Or.inl ⟨by kernel_rfl, by intro w' hSw; obtain ⟨t0, t1, t2⟩ := hSw; go_simp⟩) hS ?_
                try simp only [Act.put, List.setIfInBounds_toArray, List.set_cons_zero, List.set_cons_succ]
                refine wpAnyH_take (i := 19) (v := .slice (some ⟨q1, o1, none⟩) KL.length kc) rfl (by kernel_rfl) (by kernel_rfl) (by kernel_rfl) (fun _ _ _ h => h) (Or.inl ⟨by kernel_rfl, by intro w' hSw; obtain ⟨t0, t1, t2⟩ := hSw; go_simp⟩) hS ?_
                try simp only [Act.put, List.setIfInBounds_toArray, List.set_cons_zero, List.set_cons_succ]
                refine wpAnyH_take (i := 20) (v := .int .i64 (k : Nat)) rfl (by kernel_rfl) (by kernel_rfl) (by kernel_rfl) (fun _ _ _ h => h) (Or.inl ⟨by kernel_rfl, by intro w' hSw; obtain ⟨t0, t1, t2⟩ := hSw; go_simp⟩) hS ?_
                try simp only [Act.put, List.setIfInBounds_toArray, List.set_cons_zero, List.set_cons_succ]
                refine wpAnyH_take (i := 21) (v := .pointer (some ⟨q1, o1 + k, none⟩)) rfl (by kernel_rfl) (by kernel_rfl) (by kernel_rfl) (fun _ _ _ h => h) (Or.inl ⟨by kernel_rfl, by intro w' hSw; obtain ⟨t0, t1, t2⟩ := hSw; go_simp⟩) hS ?_
                try simp only [Act.put, List.setIfInBounds_toArray, List.set_cons_zero, List.set_cons_succ]
                refine wpAnyH_take (i := 22) (v := .string si) rfl (by kernel_rfl) (by kernel_rfl) (by kernel_rfl) (fun _ _ _ h => h) (Or.inl ⟨by kernel_rfl, by intro w' hSw; obtain ⟨t0, t1, t2⟩ := hSw; go_simp⟩) hS ?_
                try simp only [Act.put, List.setIfInBounds_toArray, List.set_cons_zero, List.set_cons_succ]
                refine wpAnyH_take (i := 23) (v := .bool false) rfl (by kernel_rfl) (by kernel_rfl) (by kernel_rfl) (fun _ _ _ h => h) (Or.inl ⟨by kernel_rfl, by intro w' hSw; obtain ⟨t0, t1, t2⟩ := hSw; go_simp⟩) hS ?_
                try simp only [Act.put, List.setIfInBounds_toArray, List.set_cons_zero, List.set_cons_succ]
                refine wpAnyH_take (i := 24) (v := .bool false) rfl (by kernel_rfl) (by kernel_rfl) (by kernel_rfl) (fun _ _ _ h => h) (Or.inl ⟨by kernel_rfl, by intro w' hSw; obtain ⟨t0, t1, t2⟩ := hSw; go_simp⟩) hS ?_
                try simp only [Act.put, List.setIfInBounds_toArray, List.set_cons_zero, List.set_cons_succ]
                refine wpAnyH_take (i := 25) (v := .bool false) rfl (by kernel_rfl) (by kernel_rfl) (by kernel_rfl) (fun _ _ _ h => h) (Or.inl ⟨by kernel_rfl, by intro w' hSw; obtain ⟨t0, t1, t2⟩ := hSw; go_simp⟩) hS ?_
                try simp only [Act.put, List.setIfInBounds_toArray, List.set_cons_zero, List.set_cons_succ]
                refine wpAnyH_take (i := 26) (v := .bool false) rfl (by kernel_rfl) (by kernel_rfl) (by kernel_rfl) (fun _ _ _ h => h) (Or.inl ⟨by kernel_rfl, by intro w' hSw; obtain ⟨t0, t1, t2⟩ := hSw; go_simp⟩) hS ?_
                try simp only [Act.put, List.setIfInBounds_toArray, List.set_cons_zero, List.set_cons_succ]
                refine wpAnyH_take (i := 27) (v := .int .i64 (k : Nat)) rfl (by kernel_rfl) (by kernel_rfl) (by kernel_rfl) (fun _ _ _ h => h) (Or.inl ⟨by kernel_rfl, by intro w' hSw; obtain ⟨t0, t1, t2⟩ := hSw; go_simp⟩) hS ?_
                try simp only [Act.put, List.setIfInBounds_toArray, List.set_cons_zero, List.set_cons_succ]
                refine wpAnyH_take (i := 28) (v := .slice (some ⟨q3, o3, none⟩) LO.length lc) rfl (by kernel_rfl) (by kernel_rfl) (by kernel_rfl) (fun _ _ _ h => h) (Or.inl ⟨by kernel_rfl, by intro w' hSw; obtain ⟨t0, t1, t2⟩ := hSw; go_simp⟩) hS ?_
                try simp only [Act.put, List.setIfInBounds_toArray, List.set_cons_zero, List.set_cons_succ]
                refine wpAnyH_take (i := 29) (v := .int .i64 (LO.length : Nat)) rfl (by kernel_rfl) (by kernel_rfl) (by kernel_rfl) (fun _ _ _ h => h) (Or.inl ⟨by kernel_rfl, by intro w' hSw; obtain ⟨t0, t1, t2⟩ := hSw; go_simp⟩) hS ?_
                try simp only [Act.put, List.setIfInBounds_toArray, List.set_cons_zero, List.set_cons_succ]
                refine wpAnyH_take (i := 30) (v := .bool false) rfl (by kernel_rfl) (by kernel_rfl) (by kernel_rfl) (fun _ _ _ h => h) (Or.inl ⟨by kernel_rfl, by intro w' hSw; obtain ⟨t0, t1, t2⟩ := hSw; go_simp⟩) hS ?_
                try simp only [Act.put, List.setIfInBounds_toArray, List.set_cons_zero, List.set_cons_succ]
                refine wpAnyH_take (i := 31) (v := .bool false) rfl (by kernel_rfl) (by kernel_rfl) (by kernel_rfl) (fun _ _ _ h => h) (Or.inl ⟨by kernel_rfl, by intro w' hSw; obtain ⟨t0, t1, t2⟩ := hSw; go_simp⟩) hS ?_
                try simp only [Act.put, List.setIfInBounds_toArray, List.set_cons_zero, List.set_cons_succ]
                refine wpAnyH_take (i := 32) (v := undef) rfl (by kernel_rfl) (by kernel_rfl) (by kernel_rfl) (fun _ _ _ h => h) (Or.inr ⟨by kernel_rfl, rfl⟩) hS ?_
                try simp only [Act.put, List.setIfInBounds_toArray, List.set_cons_zero, List.set_cons_succ]
                refine wpAnyH_take (i := 33) (v := undef) rfl (by kernel_rfl) (by kernel_rfl) (by kernel_rfl) (fun _ _ _ h => h) (Or.inr ⟨by kernel_rfl, rfl⟩) hS ?_
                try simp only [Act.put, List.setIfInBounds_toArray, List.set_cons_zero, List.set_cons_succ]
                refine wpAnyH_take (i := 34) (v := undef) rfl (by kernel_rfl) (by kernel_rfl) (by kernel_rfl) (fun _ _ _ h => h) (Or.inr ⟨by kernel_rfl, rfl⟩) hS ?_
                try simp only [Act.put, List.setIfInBounds_toArray, List.set_cons_zero, List.set_cons_succ]
                refine wpAnyH_take (i := 35) (v := undef) rfl (by kernel_rfl) (by kernel_rfl) (by kernel_rfl) (fun _ _ _ h => h) (Or.inr ⟨by kernel_rfl, rfl⟩) hS ?_
                try simp only [Act.put, List.setIfInBounds_toArray, List.set_cons_zero, List.set_cons_succ]
                refine wpAnyH_take (i := 36) (v := undef) rfl (by kernel_rfl) (by kernel_rfl) (by kernel_rfl) (fun _ _ _ h => h) (Or.inr ⟨by kernel_rfl, rfl⟩) hS ?_
                try simp only [Act.put, List.setIfInBounds_toArray, List.set_cons_zero, List.set_cons_succ]
                refine wpAnyH_take (i := 37) (v := undef) rfl (by kernel_rfl) (by kernel_rfl) (by kernel_rfl) (fun _ _ _ h => h) (Or.inr ⟨by kernel_rfl, rfl⟩) hS ?_
                try simp only [Act.put, List.setIfInBounds_toArray, List.set_cons_zero, List.set_cons_succ]
                refine wpAnyH_take (i := 38) (v := undef) rfl (by kernel_rfl) (by kernel_rfl) (by kernel_rfl) (fun _ _ _ h => h) (Or.inr ⟨by kernel_rfl, rfl⟩) hS ?_
                try simp only [Act.put, List.setIfInBounds_toArray, List.set_cons_zero, List.set_cons_succ]
                refine wpAnyH_take (i := 39) (v := undef) rfl (by kernel_rfl) (by kernel_rfl) (by kernel_rfl) (fun _ _ _ h => h) (Or.inr ⟨by kernel_rfl, rfl⟩) hS ?_
                try simp only [Act.put, List.setIfInBounds_toArray, List.set_cons_zero, List.set_cons_succ]
                refine wpAnyH_take (i := 40) (v := undef) rfl (by kernel_rfl) (by kernel_rfl) (by kernel_rfl) (fun _ _ _ h => h) (Or.inr ⟨by kernel_rfl, rfl⟩) hS ?_
                try simp only [Act.put, List.setIfInBounds_toArray, List.set_cons_zero, List.set_cons_succ]
                refine wpAnyH_take (i := 41) (v := undef) rfl (by kernel_rfl) (by kernel_rfl) (by kernel_rfl) (fun _ _ _ h => h) (Or.inr ⟨by kernel_rfl, rfl⟩) hS ?_
                try simp only [Act.put, List.setIfInBounds_toArray, List.set_cons_zero, List.set_cons_succ]
                refine wpAnyH_take (i := 42) (v := undef) rfl (by kernel_rfl) (by kernel_rfl) (by kernel_rfl) (fun _ _ _ h => h) (Or.inr ⟨by kernel_rfl, rfl⟩) hS ?_
                try simp only [Act.put, List.setIfInBounds_toArray, List.set_cons_zero, List.set_cons_succ]
                refine wpAnyH_take (i := 43) (v := undef) rfl (by kernel_rfl) (by kernel_rfl) (by kernel_rfl) (fun _ _ _ h => h) (Or.inr ⟨by kernel_rfl, rfl⟩) hS ?_
                try simp only [Act.put, List.setIfInBounds_toArray, List.set_cons_zero, List.set_cons_succ]
                refine wpAnyH_take (i := 44) (v := .bool false) rfl (by kernel_rfl) (by kernel_rfl) (by kernel_rfl) (fun _ _ _ h => h) (Or.inl ⟨by kernel_rfl, by intro w' hSw; obtain ⟨t0, t1, t2⟩ := hSw; go_simp⟩) hS ?_
                try simp only [Act.put, List.setIfInBounds_toArray, List.set_cons_zero, List.set_cons_succ]
                refine wpAnyH_ready (rs := [45]) (by kernel_rfl) (by simp) ?_
                refine AllReadyH.cons rfl (fun K hK' => ?_) AllReadyH.nil
                go_simp
                refine hK'.out _ _ hS (fun hS => ?_)
                clear hK' K
                try simp only [Act.put, List.setIfInBounds_toArray, List.set_cons_zero, List.set_cons_succ]
                refine wpAnyH_done (by kernel_rfl) ?_ _
                clear hS
                go_wp2
                go_roundw
                case rel => exact ⟨k + 1, by omega, by go_num, hb.drew⟩
                case measure => simp [intOf]; omega
              · obtain ⟨j, hj⟩ : ∃ j, k = LO.length + j := ⟨k - LO.length, by omega⟩
                have hjl : j < HI.length := by omega
                obtain ⟨q3, o3, rfl, e3⟩ := GH.out wr hb j hjl
                have hke : KL[k] = HI[j] := by simp only [hsp.out, hj]; rw [List.getElem_append_right (by omega)]; simp
                rw [← hke] at e3
                have hsub : IntKind.i64.wrap ((k : Int) - (LO.length : Int)) = (j : Int) := by rw [Cnt.i64w (by omega) (by omega)]; omega
                have hml2 : (j : Int) < (HI.length : Int) := by omega
                have f1 : decide ((k : Int) < (LO.length : Int)) = false := by simp; omega
                have f2 : ((k : Int) < (LO.length : Int)) = False := by simp; omega
                have f3 : decide ((LO.length : Int) ≤ (k : Int)) = true := by simp; omega
                have f4 : ((LO.length : Int) ≤ (k : Int)) = True := by simp; omega
                generalize tx KL[k] = si at *
                clear GK GA GL GH hke hlsn hsp hls hj hjl
                go_wp2_with fail
                refine wp_region_held_drew (S := (Rz q1 (o1 + k) q2 (o2 + k) q3 (o3 + j) si)) (by kernel_rfl) (show Rz q1 (o1 + k) q2 (o2 + k) q3 (o3 + j) si wr from ⟨e1, e2, e3⟩) (fun hS => ?_)
                try simp only [Act.put, List.setIfInBounds_toArray, List.set_cons_zero, List.set_cons_succ]
                refine wpAnyH_take (i := 0) (v := .slice (some ⟨q2, o2, none⟩) KL.length ac) rfl (by kernel_rfl) (by kernel_rfl) (by kernel_rfl) (fun _ _ _ h => h) (Or.inl ⟨by kernel_rfl, by intro w' hSw; obtain ⟨t0, t1, t2⟩ := hSw; go_simp⟩) hS ?_
                try simp only [Act.put, List.setIfInBounds_toArray, List.set_cons_zero, List.set_cons_succ]
                refine wpAnyH_take (i := 1) (v := .int .i64 (k : Nat)) rfl (by kernel_rfl) (by kernel_rfl) (by kernel_rfl) (fun _ _ _ h => h) (Or.inl ⟨by kernel_rfl, by intro w' hSw; obtain ⟨t0, t1, t2⟩ := hSw; go_simp⟩) hS ?_
                try simp only [Act.put, List.setIfInBounds_toArray, List.set_cons_zero, List.set_cons_succ]
                refine wpAnyH_take (i := 2) (v := .pointer (some ⟨q2, o2 + k, none⟩)) rfl (by kernel_rfl) (by kernel_rfl) (by kernel_rfl) (fun _ _ _ h => h) (Or.inl ⟨by kernel_rfl, by intro w' hSw; obtain ⟨t0, t1, t2⟩ := hSw; go_simp⟩) hS ?_
                try simp only [Act.put, List.setIfInBounds_toArray, List.set_cons_zero, List.set_cons_succ]
                refine wpAnyH_take (i := 3) (v := .string si) rfl (by kernel_rfl) (by kernel_rfl) (by kernel_rfl) (fun _ _ _ h => h) (Or.inl ⟨by kernel_rfl, by intro w' hSw; obtain ⟨t0, t1, t2⟩ := hSw; go_simp⟩) hS ?_
                try simp only [Act.put, List.setIfInBounds_toArray, List.set_cons_zero, List.set_cons_succ]
                refine wpAnyH_take (i := 4) (v := .slice (some ⟨q1, o1, none⟩) KL.length kc) rfl (by kernel_rfl) (by kernel_rfl) (by kernel_rfl) (fun _ _ _ h => h) (Or.inl ⟨by kernel_rfl, by intro w' hSw; obtain ⟨t0, t1, t2⟩ := hSw; go_simp⟩) hS ?_
                try simp only [Act.put, List.setIfInBounds_toArray, List.set_cons_zero, List.set_cons_succ]
                refine wpAnyH_take (i := 5) (v := .int .i64 (k : Nat)) rfl (by kernel_rfl) (by kernel_rfl) (by kernel_rfl) (fun _ _ _ h => h) (Or.inl ⟨by kernel_rfl, by intro w' hSw; obtain ⟨t0, t1, t2⟩ := hSw; go_simp⟩) hS ?_
                try simp only [Act.put, List.setIfInBounds_toArray, List.set_cons_zero, List.set_cons_succ]
                refine wpAnyH_take (i := 6) (v := .pointer (some ⟨q1, o1 + k, none⟩)) rfl (by kernel_rfl) (by kernel_rfl) (by kernel_rfl) (fun _ _ _ h => h) (Or.inl ⟨by kernel_rfl, by intro w' hSw; obtain ⟨t0, t1, t2⟩ := hSw; go_simp⟩) hS ?_
                try simp only [Act.put, List.setIfInBounds_toArray, List.set_cons_zero, List.set_cons_succ]
                refine wpAnyH_take (i := 7) (v := .string si) rfl (by kernel_rfl) (by kernel_rfl) (by kernel_rfl) (fun _ _ _ h => h) (Or.inl ⟨by kernel_rfl, by intro w' hSw; obtain ⟨t0, t1, t2⟩ := hSw; go_simp⟩) hS ?_
                try simp only [Act.put, List.setIfInBounds_toArray, List.set_cons_zero, List.set_cons_succ]
                refine wpAnyH_take (i := 8) (v := .bool false) rfl (by kernel_rfl) (by kernel_rfl) (by kernel_rfl) (fun _ _ _ h => h) (Or.inl ⟨by kernel_rfl, by intro w' hSw; obtain ⟨t0, t1, t2⟩ := hSw; go_simp⟩) hS ?_
                try simp only [Act.put, List.setIfInBounds_toArray, List.set_cons_zero, List.set_cons_succ]
                refine wpAnyH_take (i := 9) (v := .bool false) rfl (by kernel_rfl) (by kernel_rfl) (by kernel_rfl) (fun _ _ _ h => h) (Or.inl ⟨by kernel_rfl, by intro w' hSw; obtain ⟨t0, t1, t2⟩ := hSw; go_simp⟩) hS ?_
                try simp only [Act.put, List.setIfInBounds_toArray, List.set_cons_zero, List.set_cons_succ]
                refine wpAnyH_take (i := 10) (v := .int .i64 (k : Nat)) rfl (by kernel_rfl) (by kernel_rfl) (by kernel_rfl) (fun _ _ _ h => h) (Or.inl ⟨by kernel_rfl, by intro w' hSw; obtain ⟨t0, t1, t2⟩ := hSw; go_simp⟩) hS ?_
                try simp only [Act.put, List.setIfInBounds_toArray, List.set_cons_zero, List.set_cons_succ]
                refine wpAnyH_take (i := 11) (v := .slice la LO.length lc) rfl (by kernel_rfl) (by kernel_rfl) (by kernel_rfl) (fun _ _ _ h => h) (Or.inl ⟨by kernel_rfl, by intro w' hSw; obtain ⟨t0, t1, t2⟩ := hSw; go_simp⟩) hS ?_
                try simp only [Act.put, List.setIfInBounds_toArray, List.set_cons_zero, List.set_cons_succ]
                refine wpAnyH_take (i := 12) (v := .int .i64 (LO.length : Nat)) rfl (by kernel_rfl) (by kernel_rfl) (by kernel_rfl) (fun _ _ _ h => h) (Or.inl ⟨by kernel_rfl, by intro w' hSw; obtain ⟨t0, t1, t2⟩ := hSw; go_simp⟩) hS ?_
                try simp only [Act.put, List.setIfInBounds_toArray, List.set_cons_zero, List.set_cons_succ]
                refine wpAnyH_take (i := 13) (v := .bool false) rfl (by kernel_rfl) (by kernel_rfl) (by kernel_rfl) (fun _ _ _ h => h) (Or.inl ⟨by kernel_rfl, by intro w' hSw; obtain ⟨t0, t1, t2⟩ := hSw; go_simp⟩) hS ?_
                try simp only [Act.put, List.setIfInBounds_toArray, List.set_cons_zero, List.set_cons_succ]
                refine wpAnyH_take (i := 14) (v := .bool false) rfl (by kernel_rfl) (by kernel_rfl) (by kernel_rfl) (fun _ _ _ h => h) (Or.inl ⟨by kernel_rfl, by intro w' hSw; obtain ⟨t0, t1, t2⟩ := hSw; go_simp⟩) hS ?_
                try simp only [Act.put, List.setIfInBounds_toArray, List.set_cons_zero, List.set_cons_succ]
                refine wpAnyH_take (i := 15) (v := undef) rfl (by kernel_rfl) (by kernel_rfl) (by kernel_rfl) (fun _ _ _ h => h) (Or.inr ⟨by kernel_rfl, rfl⟩) hS ?_
                try simp only [Act.put, List.setIfInBounds_toArray, List.set_cons_zero, List.set_cons_succ]
                refine wpAnyH_take (i := 16) (v := undef) rfl (by kernel_rfl) (by kernel_rfl) (by kernel_rfl) (fun _ _ _ h => h) (Or.inr ⟨by kernel_rfl, rfl⟩) hS ?_
                try simp only [Act.put, List.setIfInBounds_toArray, List.set_cons_zero, List.set_cons_succ]
                refine wpAnyH_take (i := 17) (v := undef) rfl (by kernel_rfl) (by kernel_rfl) (by kernel_rfl) (fun _ _ _ h => h) (Or.inr ⟨by kernel_rfl, rfl⟩) hS ?_
                try simp only [Act.put, List.setIfInBounds_toArray, List.set_cons_zero, List.set_cons_succ]
                refine wpAnyH_take (i := 18) (v := undef) rfl (by kernel_rfl) (by kernel_rfl) (by kernel_rfl) (fun _ _ _ h => h) (Or.inr ⟨by kernel_rfl, rfl⟩) hS ?_
                try simp only [Act.put, List.setIfInBounds_toArray, List.set_cons_zero, List.set_cons_succ]
                refine wpAnyH_take (i := 19) (v := undef) rfl (by kernel_rfl) (by kernel_rfl) (by kernel_rfl) (fun _ _ _ h => h) (Or.inr ⟨by kernel_rfl, rfl⟩) hS ?_
                try simp only [Act.put, List.setIfInBounds_toArray, List.set_cons_zero, List.set_cons_succ]
                refine wpAnyH_take (i := 20) (v := undef) rfl (by kernel_rfl) (by kernel_rfl) (by kernel_rfl) (fun _ _ _ h => h) (Or.inr ⟨by kernel_rfl, rfl⟩) hS ?_
                try simp only [Act.put, List.setIfInBounds_toArray, List.set_cons_zero, List.set_cons_succ]
                refine wpAnyH_take (i := 21) (v := undef) rfl (by kernel_rfl) (by kernel_rfl) (by kernel_rfl) (fun _ _ _ h => h) (Or.inr ⟨by kernel_rfl, rfl⟩) hS ?_
                try simp only [Act.put, List.setIfInBounds_toArray, List.set_cons_zero, List.set_cons_succ]
                refine wpAnyH_take (i := 22) (v := undef) rfl (by kernel_rfl) (by kernel_rfl) (by kernel_rfl) (fun _ _ _ h => h) (Or.inr ⟨by kernel_rfl, rfl⟩) hS ?_
                try simp only [Act.put, List.setIfInBounds_toArray, List.set_cons_zero, List.set_cons_succ]
                refine wpAnyH_take (i := 23) (v := undef) rfl (by kernel_rfl) (by kernel_rfl) (by kernel_rfl) (fun _ _ _ h => h) (Or.inr ⟨by kernel_rfl, rfl⟩) hS ?_
                try simp only [Act.put, List.setIfInBounds_toArray, List.set_cons_zero, List.set_cons_succ]
                refine wpAnyH_take (i := 24) (v := .bool false) rfl (by kernel_rfl) (by kernel_rfl) (by kernel_rfl) (fun _ _ _ h => h) (Or.inl ⟨by kernel_rfl, by intro w' hSw; obtain ⟨t0, t1, t2⟩ := hSw; go_simp⟩) hS ?_
                try simp only [Act.put, List.setIfInBounds_toArray, List.set_cons_zero, List.set_cons_succ]
                refine wpAnyH_take (i := 25) (v := .bool false) rfl (by kernel_rfl) (by kernel_rfl) (by kernel_rfl) (fun _ _ _ h => h) (Or.inl ⟨by kernel_rfl, by intro w' hSw; obtain ⟨t0, t1, t2⟩ := hSw; go_simp⟩) hS ?_
                try simp only [Act.put, List.setIfInBounds_toArray, List.set_cons_zero, List.set_cons_succ]
                refine wpAnyH_take (i := 26) (v := .bool false) rfl (by kernel_rfl) (by kernel_rfl) (by kernel_rfl) (fun _ _ _ h => h) (Or.inl ⟨by kernel_rfl, by intro w' hSw; obtain ⟨t0, t1, t2⟩ := hSw; go_simp⟩) hS ?_
                try simp only [Act.put, List.setIfInBounds_toArray, List.set_cons_zero, List.set_cons_succ]
                refine wpAnyH_take (i := 27) (v := .int .i64 (k : Nat)) rfl (by kernel_rfl) (by kernel_rfl) (by kernel_rfl) (fun _ _ _ h => h) (Or.inl ⟨by kernel_rfl, by intro w' hSw; obtain ⟨t0, t1, t2⟩ := hSw; go_simp⟩) hS ?_
                try simp only [Act.put, List.setIfInBounds_toArray, List.set_cons_zero, List.set_cons_succ]
                refine wpAnyH_take (i := 28) (v := .slice la LO.length lc) rfl (by kernel_rfl) (by kernel_rfl) (by kernel_rfl) (fun _ _ _ h => h) (Or.inl ⟨by kernel_rfl, by intro w' hSw; obtain ⟨t0, t1, t2⟩ := hSw; go_simp⟩) hS ?_
                try simp only [Act.put, List.setIfInBounds_toArray, List.set_cons_zero, List.set_cons_succ]
                refine wpAnyH_take (i := 29) (v := .int .i64 (LO.length : Nat)) rfl (by kernel_rfl) (by kernel_rfl) (by kernel_rfl) (fun _ _ _ h => h) (Or.inl ⟨by kernel_rfl, by intro w' hSw; obtain ⟨t0, t1, t2⟩ := hSw; go_simp⟩) hS ?_
                try simp only [Act.put, List.setIfInBounds_toArray, List.set_cons_zero, List.set_cons_succ]
                refine wpAnyH_take (i := 30) (v := .bool true) rfl (by kernel_rfl) (by kernel_rfl) (by kernel_rfl) (fun _ _ _ h => h) (Or.inl ⟨by kernel_rfl, by intro w' hSw; obtain ⟨t0, t1, t2⟩ := hSw; go_simp⟩) hS ?_
                try simp only [Act.put, List.setIfInBounds_toArray, List.set_cons_zero, List.set_cons_succ]
                refine wpAnyH_take (i := 31) (v := .bool true) rfl (by kernel_rfl) (by kernel_rfl) (by kernel_rfl) (fun _ _ _ h => h) (Or.inl ⟨by kernel_rfl, by intro w' hSw; obtain ⟨t0, t1, t2⟩ := hSw; go_simp⟩) hS ?_
                try simp only [Act.put, List.setIfInBounds_toArray, List.set_cons_zero, List.set_cons_succ]
                refine wpAnyH_take (i := 32) (v := .slice (some ⟨q3, o3, none⟩) HI.length gc) rfl (by kernel_rfl) (by kernel_rfl) (by kernel_rfl) (fun _ _ _ h => h) (Or.inl ⟨by kernel_rfl, by intro w' hSw; obtain ⟨t0, t1, t2⟩ := hSw; go_simp⟩) hS ?_
                try simp only [Act.put, List.setIfInBounds_toArray, List.set_cons_zero, List.set_cons_succ]
                refine wpAnyH_take (i := 33) (v := .int .i64 (k : Nat)) rfl (by kernel_rfl) (by kernel_rfl) (by kernel_rfl) (fun _ _ _ h => h) (Or.inl ⟨by kernel_rfl, by intro w' hSw; obtain ⟨t0, t1, t2⟩ := hSw; go_simp⟩) hS ?_
                try simp only [Act.put, List.setIfInBounds_toArray, List.set_cons_zero, List.set_cons_succ]
                refine wpAnyH_take (i := 34) (v := .slice la LO.length lc) rfl (by kernel_rfl) (by kernel_rfl) (by kernel_rfl) (fun _ _ _ h => h) (Or.inl ⟨by kernel_rfl, by intro w' hSw; obtain ⟨t0, t1, t2⟩ := hSw; go_simp⟩) hS ?_
                try simp only [Act.put, List.setIfInBounds_toArray, List.set_cons_zero, List.set_cons_succ]
                refine wpAnyH_take (i := 35) (v := .int .i64 (LO.length : Nat)) rfl (by kernel_rfl) (by kernel_rfl) (by kernel_rfl) (fun _ _ _ h => h) (Or.inl ⟨by kernel_rfl, by intro w' hSw; obtain ⟨t0, t1, t2⟩ := hSw; go_simp⟩) hS ?_
                try simp only [Act.put, List.setIfInBounds_toArray, List.set_cons_zero, List.set_cons_succ]
                refine wpAnyH_take (i := 36) (v := .int .i64 (j : Nat)) rfl (by kernel_rfl) (by kernel_rfl) (by kernel_rfl) (fun _ _ _ h => h) (Or.inl ⟨by kernel_rfl, by intro w' hSw; obtain ⟨t0, t1, t2⟩ := hSw; go_simp⟩) hS ?_
                try simp only [Act.put, List.setIfInBounds_toArray, List.set_cons_zero, List.set_cons_succ]
                refine wpAnyH_take (i := 37) (v := .pointer (some ⟨q3, o3 + j, none⟩)) rfl (by kernel_rfl) (by kernel_rfl) (by kernel_rfl) (fun _ _ _ h => h) (Or.inl ⟨by kernel_rfl, by intro w' hSw; obtain ⟨t0, t1, t2⟩ := hSw; go_simp⟩) hS ?_
                try simp only [Act.put, List.setIfInBounds_toArray, List.set_cons_zero, List.set_cons_succ]
                refine wpAnyH_take (i := 38) (v := .string si) rfl (by kernel_rfl) (by kernel_rfl) (by kernel_rfl) (fun _ _ _ h => h) (Or.inl ⟨by kernel_rfl, by intro w' hSw; obtain ⟨t0, t1, t2⟩ := hSw; go_simp⟩) hS ?_
                try simp only [Act.put, List.setIfInBounds_toArray, List.set_cons_zero, List.set_cons_succ]
                refine wpAnyH_take (i := 39) (v := .slice (some ⟨q1, o1, none⟩) KL.length kc) rfl (by kernel_rfl) (by kernel_rfl) (by kernel_rfl) (fun _ _ _ h => h) (Or.inl ⟨by kernel_rfl, by intro w' hSw; obtain ⟨t0, t1, t2⟩ := hSw; go_simp⟩) hS ?_
                try simp only [Act.put, List.setIfInBounds_toArray, List.set_cons_zero, List.set_cons_succ]
                refine wpAnyH_take (i := 40) (v := .int .i64 (k : Nat)) rfl (by kernel_rfl) (by kernel_rfl) (by kernel_rfl) (fun _ _ _ h => h) (Or.inl ⟨by kernel_rfl, by intro w' hSw; obtain ⟨t0, t1, t2⟩ := hSw; go_simp⟩) hS ?_
                try simp only [Act.put, List.setIfInBounds_toArray, List.set_cons_zero, List.set_cons_succ]
                refine wpAnyH_take (i := 41) (v := .pointer (some ⟨q1, o1 + k, none⟩)) rfl (by kernel_rfl) (by kernel_rfl) (by kernel_rfl) (fun _ _ _ h => h) (Or.inl ⟨by kernel_rfl, by intro w' hSw; obtain ⟨t0, t1, t2⟩ := hSw; go_simp⟩) hS ?_
                try simp only [Act.put, List.setIfInBounds_toArray, List.set_cons_zero, List.set_cons_succ]
                refine wpAnyH_take (i := 42) (v := .string si) rfl (by kernel_rfl) (by kernel_rfl) (by kernel_rfl) (fun _ _ _ h => h) (Or.inl ⟨by kernel_rfl, by intro w' hSw; obtain ⟨t0, t1, t2⟩ := hSw; go_simp⟩) hS ?_
                try simp only [Act.put, List.setIfInBounds_toArray, List.set_cons_zero, List.set_cons_succ]
                refine wpAnyH_take (i := 43) (v := .bool false) rfl (by kernel_rfl) (by kernel_rfl) (by kernel_rfl) (fun _ _ _ h => h) (Or.inl ⟨by kernel_rfl, by intro w' hSw; obtain ⟨t0, t1, t2⟩ := hSw; go_simp⟩) hS ?_
                try simp only [Act.put, List.setIfInBounds_toArray, List.set_cons_zero, List.set_cons_succ]
                refine wpAnyH_take (i := 44) (v := .bool false) rfl (by kernel_rfl) (by kernel_rfl) (by kernel_rfl) (fun _ _ _ h => h) (Or.inl ⟨by kernel_rfl, by intro w' hSw; obtain ⟨t0, t1, t2⟩ := hSw; go_simp⟩) hS ?_
                try simp only [Act.put, List.setIfInBounds_toArray, List.set_cons_zero, List.set_cons_succ]
                refine wpAnyH_ready (rs := [45]) (by kernel_rfl) (by simp) ?_
                refine AllReadyH.cons rfl (fun K hK' => ?_) AllReadyH.nil
                go_simp
                refine hK'.out _ _ hS (fun hS => ?_)
                clear hK' K
                try simp only [Act.put, List.setIfInBounds_toArray, List.set_cons_zero, List.set_cons_succ]
                refine wpAnyH_done (by kernel_rfl) ?_ _
                clear hS
                go_wp2
                go_roundw
                case rel => exact ⟨k + 1, by omega, by go_num, hb.drew⟩
                case measure => simp [intOf]; omega
            · obtain rfl : k = KL.length := by omega
              have hK := hK.later hb
              clear GK GA GL GH hlsn hsp hls hlt
              go_wp2_with fail
              refine (hW.out _).mono ?_
              rintro e z2 ⟨rfl, hz2⟩
              have hK := hK.later hz2
              go_wp2_with fail
              go_ret
              exact ⟨rfl, hK.bel⟩
end Go.Proofs.Ytlkjenicdkfpbaa.Sto
