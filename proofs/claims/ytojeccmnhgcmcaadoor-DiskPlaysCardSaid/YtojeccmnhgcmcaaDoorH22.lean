/- The document's disk. -/
import Derived.Test.YtojeccmnhgcmcaaDoorH21
import Derived.Test.YtojeccmnhgcmcaaDoorG22
namespace Go.Proofs.YtojeccmnhgcmcaaDoor.Dsk
open Go.RowKit Go.ChangeShapes Go.WideShapes _root_.Go.Proofs.YtojeccmnhgcmcaaDoor.Frame
open _root_.Go.Proofs.YtojeccmnhgcmcaaDoor.Crc (Hv more more_lt ret_u32)
set_option linter.unusedVariables false
set_option linter.unusedSimpArgs false
set_option maxRecDepth 100000

abbrev TRD : TypeId := 57
/-- The document's disk at r; its blocks are among F; what it reads is none of its box. -/
structure Rx (W : World) (r : Nat) (F : Nat → Prop) (m : St) : Prop where
  ok : OkS m
  ex : ∃ vw vs, Blk W r [.bool true, vw, .int .i64 (safe m : Nat), vs, .bool m.h] TRD ∧ Bs W (fun k => F k ∧ k ≠ r) vw (rcs m.L) ∧ Bs W (fun k => F k ∧ k ≠ r) vs m.S
  fd : F r
  lt : ∀ k, F k → k < W.heap.size
theorem Rx.kept {W W' : World} {r : Nat} {F : Nat → Prop} {m : St} (h : Rx W r F m) (hs : Same F W W') (hsz : W.heap.size ≤ W'.heap.size) : Rx W' r F m := by
  obtain ⟨vw, vs, h1, h2, h3⟩ := h.ex
  exact ⟨h.ok, ⟨vw, vs, (hs r h.fd).trans h1, h2.kept fun k hk => hs k hk.1, h3.kept fun k hk => hs k hk.1⟩, h.fd, fun k hk => Nat.lt_of_lt_of_le (h.lt k hk) hsz⟩
theorem Rx.later {W W' : World} {r : Nat} {F : Nat → Prop} {m : St} (h : Rx W r F m) (hb : Below W.heap.size W W') : Rx W' r F m := h.kept (Same.of_below hb h.lt) hb.size
theorem Rx.beside {W W' : World} {r : Nat} {F G : Nat → Prop} {m : St} (h : Rx W r F m) (hk : Keeps G W W') (hd : ∀ k, F k → ¬ G k) : Rx W' r F m := h.kept (Same.of_keeps hk h.lt hd) hk.size
theorem Rx.wide {W : World} {r : Nat} {F G : Nat → Prop} {m : St} (h : Rx W r F m) (hF : ∀ k, F k → G k) (hG : ∀ k, G k → k < W.heap.size) : Rx W r G m := by
  obtain ⟨vw, vs, h1, h2, h3⟩ := h.ex
  exact ⟨h.ok, ⟨vw, vs, h1, h2.wide fun k hk => ⟨hF k hk.1, hk.2⟩, h3.wide fun k hk => ⟨hF k hk.1, hk.2⟩⟩, hF r h.fd, hG⟩
structure RDid (W : World) (r : Nat) (F : Nat → Prop) (m' : St) (W' : World) : Prop where
  dx : Rx W' r (More F W W') m'
  kp : Keeps F W W'
theorem more_lt' {F : Nat → Prop} {W W' : World} (h : ∀ k, F k → k < W.heap.size) (hs : W.heap.size ≤ W'.heap.size) : ∀ k, More F W W' k → k < W'.heap.size := fun k hk => by
  rcases hk with hk | hk
  · have := h k hk; omega
  · exact hk.2
theorem RDid.none {W W' : World} {r : Nat} {F : Nat → Prop} {m : St} (h : Rx W r F m) (hb : Below W.heap.size W W') : RDid W r F m W' :=
  ⟨(h.later hb).wide (fun k hk => .inl hk) (more_lt' h.lt hb.size), Keeps.of_below hb⟩
/-- The box was written anew. -/
theorem rdid {W W2 : World} {r : Nat} {F : Nat → Prop} {m m' : St} (h : Rx W r F m) (hok : OkS m') {vw vs : Value} (hB : Blk W2 r [.bool true, vw, .int .i64 (safe m' : Nat), vs, .bool m'.h] TRD)
    (h2 : Bs W2 (fun k => More F W W2 k ∧ k ≠ r) vw (rcs m'.L)) (h3 : Bs W2 (fun k => More F W W2 k ∧ k ≠ r) vs m'.S) (hk : Keeps F W W2) : RDid W r F m' W2 :=
  ⟨⟨hok, ⟨vw, vs, hB, h2, h3⟩, .inl h.fd, more_lt' h.lt hk.size⟩, hk⟩
/-- Bytes of the disk behind a change of its box, and of new blocks. -/
theorem bs_on {W W1 W2 : World} {r : Nat} {F : Nat → Prop} {v : Value} {l : List Nat} (h : Bs W (fun k => F k ∧ k ≠ r) v l) (hlt : ∀ k, F k → k < W.heap.size) (hb : Below W.heap.size W W1) (h2 : ∀ k, k ≠ r → W2.heap[k]? = W1.heap[k]?) : Bs W2 (fun k => More F W W2 k ∧ k ≠ r) v l :=
  (h.kept fun k hk => (h2 k hk.2).trans (hb.block k (hlt k hk.1))).wide fun k hk => ⟨.inl hk.1, hk.2⟩
/-- Bytes that were made anew. -/
theorem bs_new {W W1 W2 : World} {r base : Nat} {F : Nat → Prop} {v : Value} {l : List Nat} (h : Mine W1 base v l) (hbase : W.heap.size ≤ base) (hr : r < W.heap.size) (hs : W1.heap.size = W2.heap.size) (h2 : ∀ k, k ≠ r → W2.heap[k]? = W1.heap[k]?) : Bs W2 (fun k => More F W W2 k ∧ k ≠ r) v l :=
  (h.bs.kept fun k hk => h2 k (by have := hk.1; omega)).wide fun k hk => ⟨.inr ⟨by have := hk.1; omega, by have := hk.2; omega⟩, by have := hk.1; omega⟩
theorem rvalid_any {r : Nat} (W : World) (c0 : W.cell? ⟨r, 0, none⟩ = some (.bool true)) :
    Calls Tryd.prog 41 #[.pointer (some ⟨r, 0, none⟩)] W fun e W' => e = .returned (.bool true) ∧ W = W' := by
  go_enter Tryd.func41, Tryd.ntmps41
  go_wp2
  go_ret
  exact ⟨rfl, rfl⟩
theorem Rx.valid {W : World} {r : Nat} {F : Nat → Prop} {m : St} (h : Rx W r F m) :
    Calls Tryd.prog 41 #[.pointer (some ⟨r, 0, none⟩)] W fun e W' => e = .returned (.bool true) ∧ W = W' := by
  obtain ⟨vw, vs, h1, _⟩ := h.ex
  exact rvalid_any W (h1.cell 0 _ rfl)
theorem rnew_any (W : World) :
    Calls Tryd.prog 14 #[] W fun e W' => ∃ r, e = .returned (.pointer (some ⟨r, 0, none⟩)) ∧ Rx W' r (From W.heap.size W') newS ∧ Below W.heap.size W W' := by
  have ho := Lib.hid ok_new
  go_enter Tryd.func14, Tryd.ntmps14
  go_wp2
  go_ret
  refine ⟨W.heap.size, rfl, ⟨ho.out, ⟨.slice none 0 0, .slice none 0 0, heap_alloc_new W _, Bs.nil _ _ _ _, Bs.nil _ _ _ _⟩, ⟨Nat.le_refl _, by simp⟩, fun k hk => hk.2⟩, (Below.refl _ _).alloc (Nat.le_refl _) _⟩
theorem rsafe_any {W : World} {r : Nat} {F : Nat → Prop} {m : St} (h : Rx W r F m) :
    Calls Tryd.prog 30 #[.pointer (some ⟨r, 0, none⟩)] W fun e W' => e = .returned (.int .i64 (safe m : Nat)) ∧ W = W' := by
  have hV := Lib.hid h.valid
  obtain ⟨vw, vs, h1, _⟩ := h.ex
  have c2 := h1.cell 2 _ rfl
  clear h h1
  generalize safe m = s at *
  go_enter Tryd.func30, Tryd.ntmps30
  go_wp2_with (go_at_call 41; refine hV.out.mono ?_; rintro e w' ⟨rfl, rfl⟩)
  go_ret
  exact ⟨rfl, rfl⟩
theorem bs_form {W : World} {F : Nat → Prop} {v : Value} {l : List Nat} (h : Bs W F v l) : ∃ a cap, v = .slice a l.length cap ∧ l.length ≤ cap := by
  obtain ⟨_, a, cap, e, hc, _⟩ := h
  exact ⟨a, cap, e, hc⟩
theorem rlen_any {W : World} {r : Nat} {F : Nat → Prop} {m : St} (h : Rx W r F m) :
    Calls Tryd.prog 28 #[.pointer (some ⟨r, 0, none⟩)] W fun e W' => e = .returned (.int .i64 (tot m.L : Nat)) ∧ W = W' := by
  have hV := Lib.hid h.valid
  obtain ⟨vw, vs, h1, h2, _⟩ := h.ex
  obtain ⟨a, cap, rfl, _⟩ := bs_form h2
  have c1 := h1.cell 1 _ rfl
  rw [rcs_len] at c1
  clear h h1 h2
  generalize tot m.L = s at *
  go_enter Tryd.func28, Tryd.ntmps28
  go_wp2_with (go_at_call 41; refine hV.out.mono ?_; rintro e w' ⟨rfl, rfl⟩)
  go_ret
  exact ⟨rfl, rfl⟩
theorem rsync_any {W : World} {r : Nat} {F : Nat → Prop} {m : St} (h : Rx W r F m) :
    Calls Tryd.prog 18 #[.pointer (some ⟨r, 0, none⟩)] W fun e W' => e = .returned (.tuple #[]) ∧ RDid W r F (synS m) W' := by
  have hV := Lib.hid h.valid
  obtain ⟨vw, vs, h1, h2, h3⟩ := h.ex
  have hE : Hid (RDid W r F (synS m) (W.setCell ⟨r, 2, none⟩ (.int .i64 (tot m.L : Nat)))) := Lib.hid (by
    have hk : Keeps F W (W.setCell ⟨r, 2, none⟩ (.int .i64 (tot m.L : Nat))) := (Keeps.refl F W).setCell (p := ⟨r, 2, none⟩) (.inl h.fd) _
    have hbk := fun k (hk : k ≠ r) => Below.heap_setCell W ⟨r, 2, none⟩ (.int .i64 (tot m.L : Nat)) k hk
    refine rdid h (ok_syn h.ok) (vw := vw) (vs := vs) ?_ (bs_on h2 h.lt (Below.refl _ _) hbk) (bs_on h3 h.lt (Below.refl _ _) hbk) hk
    rw [safe_syn]
    exact h1.set 2 _)
  obtain ⟨a, cap, rfl, _⟩ := bs_form h2
  have c1 := h1.cell 1 _ rfl
  rw [rcs_len] at c1
  have c2 := h1.cell 2 _ rfl
  have f2 := h1.free 2
  clear h h1 h2 h3
  generalize tot m.L = s at *
  generalize safe m = s0 at *
  go_enter Tryd.func18, Tryd.ntmps18
  go_wp2_with (go_at_call 41; refine hV.out.mono ?_; rintro e w' ⟨rfl, rfl⟩)
  go_end0
  exact ⟨rfl, hE.out⟩
set_option maxHeartbeats 1000000 in
theorem rsave_any {W : World} {r : Nat} {F G : Nat → Prop} {m : St} {v : Value} {c : List Nat} (h : Rx W r F m) (hv : Bs W G v c) (hG : ∀ k, G k → k < W.heap.size) (hcl : c.length ≤ 9223372036854775807) :
    Calls Tryd.prog 22 #[.pointer (some ⟨r, 0, none⟩), v] W fun e W' => e = .returned (.int .i64 (savE c : Nat)) ∧ RDid W r F (savS m c) W' := by
  have hV := Lib.hid h.valid
  have h8 := hv.1
  have hrl := h.lt r h.fd
  by_cases hl : 65536 < c.length
  · have HE := Lib.hid (show savE c = 11 from if_pos hl)
    have HS := Lib.hid (show savS m c = m from if_pos hl)
    have HD := Lib.hid (RDid.none h (Below.refl _ _))
    obtain ⟨_, a, cap, rfl, _⟩ := hv
    have hdl : decide ((65536 : Int) < (c.length : Int)) = true := by simp; omega
    clear h hl
    go_enter Tryd.func22, Tryd.ntmps22
    go_wp2_with (first
      | (go_at_call 41; refine hV.out.mono ?_; rintro e w' ⟨rfl, rfl⟩))
    go_ret
    exact ⟨by rw [HE.out]; rfl, by rw [HS.out]; exact HD.out⟩
  · have HE := Lib.hid (show savE c = 0 from if_neg hl)
    have HS := Lib.hid (show savS m c = ⟨[], 0, c, true⟩ from if_neg hl)
    obtain ⟨vw, vs, h1, h2, h3⟩ := h.ex
    have hab : Below W.heap.size W (W.alloc (.cells #[] TB)) := (Below.refl _ _).alloc (Nat.le_refl _) _
    have hvb := Lib.hid (hv.kept (Same.of_below hab hG))
    have ho := Lib.hid (own_made W)
    obtain ⟨_, a, cap, rfl, _⟩ := hv
    have hdl : decide ((65536 : Int) < (c.length : Int)) = false := by simp; omega
    have hfin : Hid (∀ (W1 : World) v', Mine W1 W.heap.size v' c → Below W.heap.size W W1 →
        (Blk W1 r [.bool true, vw, .int .i64 (safe m : Nat), vs, .bool m.h] TRD ∧ RDid W r F ⟨[], 0, c, true⟩ ((((W1.setCell ⟨r, 3, none⟩ v').setCell ⟨r, 4, none⟩ (.bool true)).setCell ⟨r, 1, none⟩ (.slice none 0 0)).setCell ⟨r, 2, none⟩ (.int .i64 0)))) := Lib.hid (by
      intro W1 v' hm hb
      have B1 := h1.later hb
      have B2 := (((B1.set 3 v').set 4 (.bool true)).set 1 (.slice none 0 0)).set 2 (.int .i64 0)
      have hbk : ∀ k, k ≠ r → ((((W1.setCell ⟨r, 3, none⟩ v').setCell ⟨r, 4, none⟩ (.bool true)).setCell ⟨r, 1, none⟩ (.slice none 0 0)).setCell ⟨r, 2, none⟩ (.int .i64 0)).heap[k]? = W1.heap[k]? := fun k hk =>
        (((Below.heap_setCell _ _ _ k hk).trans (Below.heap_setCell _ _ _ k hk)).trans (Below.heap_setCell _ _ _ k hk)).trans (Below.heap_setCell _ _ _ k hk)
      have hkp : Keeps F W ((((W1.setCell ⟨r, 3, none⟩ v').setCell ⟨r, 4, none⟩ (.bool true)).setCell ⟨r, 1, none⟩ (.slice none 0 0)).setCell ⟨r, 2, none⟩ (.int .i64 0)) :=
        (((((Keeps.of_below (F := F) hb).setCell (p := ⟨r, 3, none⟩) (.inl h.fd) _).setCell (p := ⟨r, 4, none⟩) (.inl h.fd) _).setCell (p := ⟨r, 1, none⟩) (.inl h.fd) _).setCell (p := ⟨r, 2, none⟩) (.inl h.fd) _)
      refine ⟨B1, rdid h (ok_sav h8 hl) (vw := .slice none 0 0) (vs := v') B2 (Bs.nil _ _ _ _) (bs_new hm (Nat.le_refl _) hrl (by simp [World.setCell]) hbk) hkp⟩)
    have h8' := Lib.hid h8
    clear h h1 h2 h3 hab
    go_enter Tryd.func22, Tryd.ntmps22
    go_wp2_with (first
      | (go_at_call 41; refine hV.out.mono ?_; rintro e w' ⟨rfl, rfl⟩)
      | (at_builtin; refine wpList_append_b rfl _ _ rfl W.heap.size _ 0 [] rfl ho.out _ a c.length cap c rfl hvb.out (by omega) (by simp) ?_; intro v2 W2 hown hg _; have hm2 : Mine W2 W.heap.size v2 c := ⟨by simpa using hown, h8'.out⟩; have hb2 : Below W.heap.size W W2 := ((Below.refl W.heap.size W).alloc (Nat.le_refl _) (.cells #[] TB)).grown hg (by simp) ge_size; obtain ⟨B1, hD⟩ := hfin.out _ _ hm2 hb2; have c0 := B1.cell 1 _ rfl; have c1 := B1.cell 2 _ rfl; have c2 := B1.cell 3 _ rfl; have c3 := B1.cell 4 _ rfl; have f0 := B1.free 1; have f1 := B1.free 2; have f2 := B1.free 3; have f3 := B1.free 4; obtain ⟨a2, cap2, rfl⟩ := hm2.form; replace hD := Lib.hid hD; clear hown hg hm2 hb2 B1))
    go_ret
    exact ⟨by rw [HE.out]; rfl, by rw [HS.out]; exact hD.out⟩
theorem rsnap_any {W : World} {r : Nat} {F : Nat → Prop} {m : St} (h : Rx W r F m) :
    Calls Tryd.prog 26 #[.pointer (some ⟨r, 0, none⟩)] W fun e W' => ∃ v, e = .returned (.tuple #[v, .bool m.h]) ∧ Mine W' W.heap.size v m.S ∧ Below W.heap.size W W' := by
  have hV := Lib.hid h.valid
  have hok := h.ok
  have hab : Below W.heap.size W (W.alloc (.cells #[] TB)) := (Below.refl _ _).alloc (Nat.le_refl _) _
  have ho := Lib.hid (own_made W)
  obtain ⟨vw, vs, h1, h2, h3⟩ := h.ex
  have hvb := Lib.hid (h3.kept (Same.of_below hab fun k hk => h.lt k hk.1))
  obtain ⟨a3, cap3, rfl, _⟩ := bs_form h3
  have c3 := h1.cell 3 _ rfl
  have c4 := h1.cell 4 _ rfl
  have d3 := (h1.later hab).cell 3 _ rfl
  have hsl := hok.sl
  have hno := Lib.hid hok.no
  have h8 := Lib.hid hok.sb
  clear h h1 h2 h3 hab hok
  generalize m.h = hh at *
  generalize m.S = S at *
  cases hh with
  | false =>
    have hS := hno.out rfl
    go_enter Tryd.func26, Tryd.ntmps26
    go_wp2_with (first
      | (go_at_call 41; refine hV.out.mono ?_; rintro e w' ⟨rfl, rfl⟩))
    go_ret2
    exact ⟨_, rfl, by rw [hS]; exact nil_mine _ _, Below.refl _ _⟩
  | true =>
    clear hno
    go_enter Tryd.func26, Tryd.ntmps26
    go_wp2_with (first
      | (go_at_call 41; refine hV.out.mono ?_; rintro e w' ⟨rfl, rfl⟩)
      | (at_builtin; refine wpList_append_b rfl _ _ rfl W.heap.size _ 0 [] rfl ho.out _ a3 S.length cap3 S rfl hvb.out (by omega) (by simp) ?_; intro v2 W2 hown hg _; have hm2 : Mine W2 W.heap.size v2 S := ⟨by simpa using hown, h8.out⟩; have hb2 : Below W.heap.size W W2 := ((Below.refl W.heap.size W).alloc (Nat.le_refl _) (.cells #[] TB)).grown hg (by simp) ge_size; obtain ⟨a2, cap2, rfl⟩ := hm2.form; replace hm2 := Lib.hid hm2; replace hb2 := Lib.hid hb2; clear hown hg))
    go_ret2
    exact ⟨_, rfl, hm2.out, hb2.out⟩
end Go.Proofs.YtojeccmnhgcmcaaDoor.Dsk
