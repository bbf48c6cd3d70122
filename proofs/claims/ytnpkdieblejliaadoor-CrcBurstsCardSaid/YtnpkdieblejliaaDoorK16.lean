/- The walk of CrcThree. -/
import Derived.Test.YtnpkdieblejliaaDoorK15
import Derived.StillTailTactics
import Derived.Deep.RegionWith
import Derived.Deep.RegionHeld3
import Derived.Deep.RegionLaw
import Derived.Maps.RangeWalk
namespace Go.Proofs.YtnpkdieblejliaaDoor.Crc
open Go.RowKit Go.ChangeShapes
set_option linter.unusedVariables false

theorem u8_xor3 (a b c : Nat) (ha : a < 256) (hb : b < 256) (hc : c < 256) : bits .xor .u8 (bits .xor .u8 (a : Int) (b : Int)) (c : Int) = ((a ^^^ b ^^^ c : Nat) : Int) := by
  rw [u8_xor_nat a b ha hb, u8_xor_nat _ c (Nat.xor_lt_two_pow (n := 8) ha hb) hc]
theorem xor3_take (l : List Nat) : ∀ (m p : List Nat) (k : Nat), k < l.length → k < m.length → k < p.length →
    xor3 (l.take (k + 1)) (m.take (k + 1)) (p.take (k + 1)) = xor3 (l.take k) (m.take k) (p.take k) ++ [l.getD k 0 ^^^ m.getD k 0 ^^^ p.getD k 0] := by
  induction l with
  | nil => intro m p k h; exact absurd h (by simp)
  | cons a l ih =>
    intro m p k h1 h2 h3
    match m, p, h2, h3 with
    | b :: m, c :: p, h2, h3 =>
      cases k with
      | zero => rfl
      | succ k =>
        simp only [List.length_cons] at h1 h2 h3
        simp only [List.take_succ_cons, xor3, List.cons_append, List.getD_cons_succ]
        rw [ih m p k (by omega) (by omega) (by omega)]
/-- Where the texts are combined: k bytes are done. -/
structure TAt (w : World) (l m p : List Nat) (k : Nat) (v : Value) (wr : World) : Prop where
  own : wr.ownsRow w.heap.size 5 1 v k (u8l (xor3 (l.take k) (m.take k) (p.take k)))
  bel : Below w.heap.size w wr
theorem min3 (a b c n : Nat) (h : min (min a b) c = n) (ts : Array TypeId) (t : TypeId) (w : World) :
    (Builtin.min_ ts t #[.int .i64 a, .int .i64 b, .int .i64 c]).run Tryd.prog w = .ok (.int .i64 n) w := by
  have e : (if (c : Int) < (if (b : Int) < a then (b : Int) else a) then (c : Int) else (if (b : Int) < a then (b : Int) else a)) = (n : Int) := by
    split <;> split <;> omega
  have h3 := run_min_int3 (P := Tryd.prog) w ts t .i64 .i64 .i64 a b c
  rw [h3, e]

theorem more_xor3 (l m p : List Nat) (hm : m.length = l.length) (hp : p.length = l.length) : more 0 l ^^^ more 0 m ^^^ more 0 p = more 0 (xor3 l m p) := by
  have e : inv 0 ^^^ inv 0 ^^^ inv 0 = inv 0 := by rw [Nat.xor_self, Nat.zero_xor]
  have h := takes_xor3 l m p (inv 0) (inv 0) (inv 0) hm hp
  rw [e] at h
  unfold more
  rw [h]
  generalize takes (inv 0) l = A
  generalize takes (inv 0) m = B
  generalize takes (inv 0) p = C
  rw [inv_eq A, inv_eq B, inv_eq C, inv_eq (A ^^^ B ^^^ C)]
  generalize ones = q
  exact inv3 q _ _ _
theorem xor3_len (l : List Nat) : ∀ m p : List Nat, m.length = l.length → p.length = l.length → (xor3 l m p).length = l.length := by
  induction l with
  | nil => intro m p _ _; cases m <;> cases p <;> rfl
  | cons a l ih =>
    intro m p hm hp
    match m, p, hm, hp with
    | b :: m, c :: p, hm, hp => simp only [xor3, List.length_cons]; rw [ih m p (by simpa using hm) (by simpa using hp)]
theorem xor3_lt (l : List Nat) : ∀ m p : List Nat, (∀ c ∈ l, c < 256) → (∀ c ∈ m, c < 256) → (∀ c ∈ p, c < 256) → ∀ c ∈ xor3 l m p, c < 256 := by
  induction l with
  | nil => intro m p _ _ _ c hc; cases m <;> cases p <;> cases hc
  | cons a l ih =>
    intro m p hl hm hp c hc
    match m, p with
    | [], _ => cases hc
    | _ :: _, [] => cases hc
    | b :: m, d :: p =>
      rcases List.mem_cons.1 hc with rfl | hc
      · exact Nat.xor_lt_two_pow (n := 8) (Nat.xor_lt_two_pow (n := 8) (hl a (List.mem_cons_self ..)) (hm b (List.mem_cons_self ..))) (hp d (List.mem_cons_self ..))
      · exact ih m p (fun x hx => hl x (List.mem_cons_of_mem _ hx)) (fun x hx => hm x (List.mem_cons_of_mem _ hx)) (fun x hx => hp x (List.mem_cons_of_mem _ hx)) c hc
theorem Bs.cut {w : World} {a : Option Addr} {cap n : Nat} {l : List Nat} (h : Bs w (.slice a l.length cap) l) (hn : n ≤ l.length) : Bs w (.slice a n cap) (l.take n) := by
  obtain ⟨h8, a', cap', hv, hc⟩ := h
  injection hv with e1 e2 e3
  subst e1 e3
  have hl : (l.take n).length = n := by rw [List.length_take]; omega
  refine ⟨fun c hc => h8 c (List.mem_of_mem_take hc), a, cap, by rw [hl], fun hp => ?_⟩
  rw [hl] at hp
  obtain ⟨b, off, ha, hcell⟩ := hc (by omega)
  refine ⟨b, off, ha, fun i hi => ?_⟩
  rw [hl] at hi
  rw [hcell i (by omega)]
  simp [List.getD_eq_getElem?_getD, hi]

theorem TAt.next {w wr W w2 : World} {l m p : List Nat} {k c : Nat} {v v2 : Value} (h : TAt w l m p k v wr) (hs : xor3 (l.take (k + 1)) (m.take (k + 1)) (p.take (k + 1)) = xor3 (l.take k) (m.take k) (p.take k) ++ [c])
    (hW : Below wr.heap.size wr W) (ho : w2.ownsRow w.heap.size 5 1 v2 (k + 1) (u8l (xor3 (l.take k) (m.take k) (p.take k) ++ [c]))) (hg : W.grownBy w2 v.ownBlock) : TAt w l m p (k + 1) v2 w2 :=
  ⟨by rw [hs]; exact ho, (more_b h.bel hW).grown hg (more_b h.bel hW).size (own_block_ge h.own)⟩
theorem step_push {ops : Array Oper} {o : Oper} {a : Act} {w : World} {K : Act → World → Prop} {Q : Exit → Act → World → Prop} {E : Prop} (hgd : o.guard = none) (s x : Operand)
    (ho : o.op = .call { callee := .builtin .append, args := #[s, x], argTypes := #[22, 22] })
    (base : Nat) (v : Value) (n : Nat) (l : List Nat) (hs : a.eval s = v) (hown : w.ownsRow base 5 1 v n (u8l l))
    (g : Nat) (c : Nat) (hx : a.eval x = .slice (some ⟨g, 0, none⟩) 1 1) (hc : w.cell? ⟨g, 0, none⟩ = some (.int .u8 c)) (hn : n + 1 ≤ 1000000000) (hbase : base ≤ w.heap.size)
    (h : ∀ v' w', w'.ownsRow base 5 1 v' (n + 1) (u8l (l ++ [c])) → w.grownBy w' v.ownBlock → K (a.put o.dst v') w') :
    if Region.wanted o (yielded ops a.tmps) = true then Oper.wp Tryd.prog o a w K Q else E := by
  obtain ⟨i0, hi, hz0, hz1, hz2⟩ := info_parts info_u8
  refine step_append_lies w hgd s x _ ho base 5 i0 (.int .u8 0) 1 1 Tryd.underlying22 hi hz0 hz1 hz2 rfl (by decide) v n _ hs hown ⟨g, 0, none⟩ 1 1 [.int .u8 c] hx rfl (fun j u hu => ?_) (by intro u hu; rcases List.mem_singleton.1 hu with rfl; rfl) (by decide) (by unfold maxLen; omega) (by omega) hbase _ rfl (fun g' cap' w' h1 h2 _ _ => h _ w' (by rw [← u8l_app]; exact h1) h2)
  cases j with
  | zero =>
    have : u = .int .u8 c := by simpa using hu.symm
    subst this
    rw [addr_add]
    exact hc
  | succ j => simp at hu
theorem sum_st (v : Value) (l : List Nat) (r : Nat) (hr : more 0 l = r) (w : World) (hv : Bs w v l) (hlen : l.length ≤ 140737488355328) (hH : Hv w) :
    Calls Tryd.prog 14 #[v] w fun e w' => e = .returned (.int .u32 r) ∧ w' = w := (sum_is v l r hr w hv hlen hH).mono fun _ _ ⟨a, b⟩ => ⟨a, b.symm⟩
set_option maxHeartbeats 2000000 in
theorem three_pos (b0 o0 cap0 b1 o1 cap1 b2 o2 cap2 : Nat) (l m p : List Nat) (n : Nat) (w : World) (h0 : Bs w (.slice (some ⟨b0, o0, none⟩) l.length cap0) l) (h1 : Bs w (.slice (some ⟨b1, o1, none⟩) m.length cap1) m) (h2 : Bs w (.slice (some ⟨b2, o2, none⟩) p.length cap2) p)
    (hn : min (min l.length m.length) p.length = n) (hn2 : n ≤ 2000) (hn0 : 0 < n) (hp0 : l.length ≤ cap0) (hp1 : m.length ≤ cap1) (hp2 : p.length ≤ cap2) (hH : Hv w) :
    Calls Tryd.prog 8 #[.slice (some ⟨b0, o0, none⟩) l.length cap0, .slice (some ⟨b1, o1, none⟩) m.length cap1, .slice (some ⟨b2, o2, none⟩) p.length cap2] w fun e w' => e = .returned (.bool true) ∧ Below w.heap.size w w' := by
  have hd : decide (2000 < (n : Int)) = false := by simp; omega
  have hmin := min3 _ _ _ _ hn
  have hnl : n ≤ l.length := by omega
  have hnm : n ≤ m.length := by omega
  have hnp : n ≤ p.length := by omega
  clear hn
  obtain ⟨i0, hi, hz0, hz1, hz2⟩ := info_parts info_u8
  have HI := Lib.hid hi
  have HZ0 := Lib.hid hz0
  have HZ1 := Lib.hid hz1
  have HZ2 := Lib.hid hz2
  clear hi hz0 hz1 hz2
  go_enter Tryd.func8, Tryd.ntmps8
  go_wp2
  clear hmin
  go_loopw [8, 9] (fun v i wr => ∃ k : Nat, k ≤ n ∧ i = .int .i64 k ∧ TAt w l m p k v wr) (fun _ i _ => n - (intOf i).toNat)
  case atStart => exact ⟨0, Nat.zero_le _, rfl, ⟨⟨rfl, .inl ⟨rfl, rfl⟩⟩, Below.refl _ _⟩⟩
  case round =>
    rename_i v _
    obtain ⟨k, hk, rfl, ht⟩ := hrel
    by_cases hlt : k < n
    · have hk0 : k < l.length := by omega
      have hk1 : k < m.length := by omega
      have hk2 : k < p.length := by omega
      have hc0 : wr.cell? ⟨b0, o0 + k, none⟩ = some (.int .u8 (l.getD k 0 : Nat)) := by
        obtain ⟨_, a', cap', hv, hc⟩ := h0.later ht.bel
        injection hv with e1
        subst e1
        obtain ⟨b, off, e, hcell⟩ := hc (by omega)
        cases e
        exact hcell k hk0
      have hc1 : wr.cell? ⟨b1, o1 + k, none⟩ = some (.int .u8 (m.getD k 0 : Nat)) := by
        obtain ⟨_, a', cap', hv, hc⟩ := h1.later ht.bel
        injection hv with e1
        subst e1
        obtain ⟨b, off, e, hcell⟩ := hc (by omega)
        cases e
        exact hcell k hk1
      have hc2 : wr.cell? ⟨b2, o2 + k, none⟩ = some (.int .u8 (p.getD k 0 : Nat)) := by
        obtain ⟨_, a', cap', hv, hc⟩ := h2.later ht.bel
        injection hv with e1
        subst e1
        obtain ⟨b, off, e, hcell⟩ := hc (by omega)
        cases e
        exact hcell k hk2
      have hx := u8_xor3 (l.getD k 0) (m.getD k 0) (p.getD k 0) (getD_lt h0.1 k) (getD_lt h1.1 k) (getD_lt h2.1 k)
      have hs := xor3_take l m p k hk0 hk1 hk2
      generalize l.getD k 0 = x at *
      generalize m.getD k 0 = y at *
      generalize p.getD k 0 = z at *
      have HS := Lib.hid hs
      have HT := Lib.hid ht
      clear hs ht
      have q0 : (k : Int) < (l.length : Int) := by omega
      have q1 : (k : Int) < (m.length : Int) := by omega
      have q2 : (k : Int) < (p.length : Int) := by omega
      go_wp2
      go_region_law ((refine step_push rfl (.tmp 25) (.tmp 40) rfl w.heap.size u8 k (xor3 (l.take k) (m.take k) (p.take k)) ?_ ?_ wr.heap.size (x ^^^ y ^^^ z) ?_ ?_ ?_ ?_ ?_) <;> (first | (simp [Act.eval, Act.put]; done) | (exact (HT.out.own.alloc _).drew) | (exact HT.out.own.drew.alloc _) | (simp [go_sem]; done) | omega | (have := HT.out.bel.size; simp; omega) | (intro v2 w2 ho hg)))
      all_goals
        simp only [List.getElem_toArray, List.getElem_cons_succ, List.getElem_cons_zero]
        go_frame
        go_wp2
        go_roundw
        case rel => exact ⟨k + 1, by omega, by go_num, HT.out.next HS.out (by first | exact ((Below.refl _ _).alloc (Nat.le_refl _) _).drew | exact (Below.refl _ _).drew.alloc (Nat.le_refl _) _) ho hg⟩
        case measure => simp [intOf]; omega
    · obtain rfl : k = n := by omega
      have hown := ht.own
      have hb := ht.bel
      clear ht
      have c0 := (h0.later hb).cut hnl
      have c1 := (h1.later hb).cut hnm
      have c2 := (h2.later hb).cut hnp
      have l0 : (l.take k).length = k := by rw [List.length_take]; omega
      have l1 : (m.take k).length = k := by rw [List.length_take]; omega
      have l2 : (p.take k).length = k := by rw [List.length_take]; omega
      have hX := more_xor3 (l.take k) (m.take k) (p.take k) (by omega) (by omega)
      have hXl := xor3_len (l.take k) (m.take k) (p.take k) (by omega) (by omega)
      have cX := own_bs hown (xor3_lt _ _ _ c0.1 c1.1 c2.1)
      have hHr := hH.later hb
      obtain ⟨A, hA⟩ : ∃ r, more 0 (l.take k) = r := ⟨_, rfl⟩
      obtain ⟨B, hB⟩ : ∃ r, more 0 (m.take k) = r := ⟨_, rfl⟩
      obtain ⟨C, hC⟩ : ∃ r, more 0 (p.take k) = r := ⟨_, rfl⟩
      have hAl : A < 4294967296 := by rw [← hA]; exact more_lt 0 _ (by omega) c0.1
      have hBl : B < 4294967296 := by rw [← hB]; exact more_lt 0 _ (by omega) c1.1
      have hCl : C < 4294967296 := by rw [← hC]; exact more_lt 0 _ (by omega) c2.1
      rw [hA, hB, hC] at hX
      have hx : bits .xor .u32 (bits .xor .u32 (A : Int) (B : Int)) (C : Int) = ((A ^^^ B ^^^ C : Nat) : Int) := by
        rw [u32_xor_nat A B hAl hBl, u32_xor_nat _ C (Nat.xor_lt_two_pow (n := 32) hAl hBl) hCl]
      obtain ⟨R, hR⟩ : ∃ r, A ^^^ B ^^^ C = r := ⟨_, rfl⟩
      rw [hR] at hx hX
      have SA := Lib.hid (sum_st _ (l.take k) A hA wr.drew c0 (by omega) hHr)
      have SB := Lib.hid (sum_st _ (m.take k) B hB wr.drew c1 (by omega) hHr)
      have SC := Lib.hid (sum_st _ (p.take k) C hC wr.drew c2 (by omega) hHr)
      have SX := Lib.hid (sum_st _ _ R hX.symm wr.drew cX (by omega) hHr)
      clear hA hB hC hX hR l0 l1 l2 hXl hown
      have q0 : (k : Int) ≤ (cap0 : Int) := by omega
      have q1 : (k : Int) ≤ (cap1 : Int) := by omega
      have q2 : (k : Int) ≤ (cap2 : Int) := by omega
      go_wp2
      go_still_tail 18, (by kernel_rfl)
      still_call SA.out
      repeat still_step
      still_call SB.out
      repeat still_step
      still_call SC.out
      repeat still_step
      still_call SX.out
      repeat still_step
      refine wpStill_nil ?_
      change wpList _ _ _ _ _ wr.drew
      go_wp2_with (go_at_call 13; refine (works_any wr.drew hHr).mono ?_; rintro e w4 ⟨rfl, hb4⟩)
      go_ret
      exact ⟨rfl, more_b hb.drew hb4⟩
end Go.Proofs.YtnpkdieblejliaaDoor.Crc
