/- The walk of DedupOnce. -/
import Derived.Test.YtbgjiokocjnjhaaD21
import Derived.Test.YtbgjiokocjnjhaaD15
namespace Go.Proofs.Ytbgjiokocjnjhaa.Ded
open Go.RowKit Go.Lib Go.Shelf
open Rng (tx tx_of)
open Eff (TE effOk)
set_option linter.unusedVariables false
set_option linter.unusedSimpArgs false
set_option maxRecDepth 100000

theorem fs_at {W : World} {a : Option Addr} {m c : Nat} {l : List Ef} (h : Fs W (.slice a m c) l) {k : Nat} {x : Ef} (hk : l[k]? = some x) :
    ∃ g off, a = some ⟨g, off, none⟩ ∧ W.cell? ⟨g, off + k * 3, none⟩ = some (.int .i64 x.s) ∧ W.cell? ⟨g, off + k * 3 + 1, none⟩ = some (.int .i64 x.t) ∧ W.cell? ⟨g, off + k * 3 + 2, none⟩ = some (.int .i64 x.p) := by
  obtain ⟨a', c', e, hc⟩ := h
  injection e with e1 e2 e3
  subst e1
  obtain ⟨g, off, e2, hx⟩ := hc (by have := (List.getElem?_eq_some_iff.1 hk).1; omega)
  exact ⟨g, off, e2, hx k x hk⟩
theorem eq_rp (x : En) (w : World) : (Op.equalIn 10000 TRp (rpA x) (rpA x)).run Try.prog w = .ok true w := by
  simp [go_sem]
variable {B : Nat} {w W : World} {b mb : Nat} {n : Int} {L : List En} {M : List (Ef × Mm)}
/-- The memo of an entry. -/
theorem Fl.memo (h : Fl B w b n mb L M W) {k : Nat} {x : En} (hk : L[k]? = some x) : ∃ m, getP M x.ef = some m ∧ enM m = x ∧ MmOk m ∧ OkN x ∧ WfE x.ef ∧ getL L x.ef = some x := by
  obtain ⟨v, hd⟩ := h.k.ex
  have hx : x ∈ L := List.mem_of_getElem? hk
  have hg : getL L x.ef = some x := (get_iff hd.srt).2 ⟨hx, rfl⟩
  have h1 := h.rel x.ef
  rw [hg] at h1
  cases hp : getP M x.ef with
  | none => rw [hp] at h1; cases h1
  | some m =>
    rw [hp] at h1
    simp only [Option.map_some, Option.some.injEq] at h1
    have hm : (x.ef, m) ∈ M := by
      unfold getP at hp
      obtain ⟨p, h2, h3⟩ := Option.map_eq_some_iff.1 hp
      have h4 := List.mem_of_find?_eq_some h2
      have h5 := List.find?_some h2
      simp only [decide_eq_true_eq] at h5
      rw [← h5, ← h3]
      exact h4
    exact ⟨m, rfl, h1.symm, (h.ok _ hm).1, hd.ok x hx, h.mp.wf _ hm, hg⟩
/-- Effects of a table stand in order. -/
theorem Fl.ord (h : Fl B w b n mb L M W) {k : Nat} {x y : En} (hy : L[k]? = some y) (hx : L[k + 1]? = some x) : ordF y.ef x.ef < 0 := by
  obtain ⟨v, hd⟩ := h.k.ex
  have h1 := (List.getElem?_eq_some_iff.1 hx).1
  have h2 := srt_at hd.srt h1 (Nat.lt_succ_self k)
  rw [List.getElem?_eq_getElem h1] at hx
  rw [List.getElem?_eq_getElem (by omega)] at hy
  simp only [Option.some.injEq] at hx hy
  rw [hx, hy] at h2
  exact ord_neg.2 h2
theorem effs_at {L : List En} {k : Nat} {x : En} (h : L[k]? = some x) : (effs L)[k]? = some x.ef := by simp [h]
structure Hs (w0 : World) (q : Nat) (x : Ef) (g off k : Nat) (y : Ef) (W : World) : Prop where
  bx : W.heap[q]? = some (eBx x)
  pr : W.cell? ⟨g, off + k * 3, none⟩ = some (.int .i64 y.s) ∧ W.cell? ⟨g, off + k * 3 + 1, none⟩ = some (.int .i64 y.t) ∧ W.cell? ⟨g, off + k * 3 + 2, none⟩ = some (.int .i64 y.p)
  bel : Below w0.heap.size w0 W
theorem Hs.later {w0 : World} {q : Nat} {x y : Ef} {g off k : Nat} {W W' : World} (h : Hs w0 q x g off k y W) (hb : Below W.heap.size W W') : Hs w0 q x g off k y W' := by
  have hc : ∀ o u, W.cell? ⟨g, o, none⟩ = some u → W'.cell? ⟨g, o, none⟩ = some u := fun o u hu => (hb.cell (p := ⟨g, o, none⟩) (World.block_lt_of_cell? W _ hu)).trans hu
  exact ⟨(hb.block _ (Array.getElem?_eq_some_iff.1 h.bx).1).trans h.bx, ⟨hc _ _ h.pr.1, hc _ _ h.pr.2.1, hc _ _ h.pr.2.2⟩, h.bel.trans (hb.mono h.bel.size)⟩
abbrev S22 (w0 : World) (q : Nat) (x : Ef) (g off k : Nat) (y : Ef) (W : World) : Prop :=
  W.cell? ⟨q, 0, none⟩ = some (.int .i64 x.s) ∧ W.cell? ⟨q, 1, none⟩ = some (.int .i64 x.t) ∧ W.cell? ⟨q, 2, none⟩ = some (.int .i64 x.p) ∧
  W.cell? ⟨g, off + k * 3, none⟩ = some (.int .i64 y.s) ∧ W.cell? ⟨g, off + k * 3 + 1, none⟩ = some (.int .i64 y.t) ∧ W.cell? ⟨g, off + k * 3 + 2, none⟩ = some (.int .i64 y.p) ∧ Hs w0 q x g off k y W
theorem Hs.s22 {w0 : World} {q : Nat} {x y : Ef} {g off k : Nat} {W : World} (h : Hs w0 q x g off k y W) : S22 w0 q x g off k y W :=
  ⟨cell_of_row W _ 0 _ TE _ h.bx, cell_of_row W _ 1 _ TE _ h.bx, cell_of_row W _ 2 _ TE _ h.bx, h.pr.1, h.pr.2.1, h.pr.2.2, h⟩
theorem s22_hs {w0 : World} {q : Nat} {x y : Ef} {g off k : Nat} {W : World} (h : S22 w0 q x g off k y W) : Hs w0 q x g off k y W := h.2.2.2.2.2.2
/-- A round's facts. -/
structure Rx (w : World) (n : Int) (mb : Nat) (L : List En) (M : List (Ef × Mm)) (g off cA q : Nat) (x : En) (m : Mm) (W : World) : Prop where
  f : Fl w.heap.size w w.heap.size n mb L M W
  a : Fs W (.slice (some ⟨g, off, none⟩) L.length cA) (effs L)
  e : W.heap[q]? = some (eBx x.ef)
  m : W.heap[q + 1]? = some (.cells #[.int .u8 m.s, .int .u8 m.p, .int .u8 m.k, .int .i32 m.n, .int .u8 m.e] TMm (0, 0))
theorem Rx.later {w : World} {n : Int} {mb : Nat} {L : List En} {M : List (Ef × Mm)} {g off cA q : Nat} {x : En} {m : Mm} {W W' : World} (h : Rx w n mb L M g off cA q x m W) (hb : Below W.heap.size W W') : Rx w n mb L M g off cA q x m W' :=
  ⟨h.f.later hb, h.a.later hb, (hb.block _ (Array.getElem?_eq_some_iff.1 h.e).1).trans h.e, (hb.block _ (Array.getElem?_eq_some_iff.1 h.m).1).trans h.m⟩
theorem Rx.ec {w : World} {n : Int} {mb : Nat} {L : List En} {M : List (Ef × Mm)} {g off cA q : Nat} {x : En} {m : Mm} {W : World} (h : Rx w n mb L M g off cA q x m W) :
    W.cell? ⟨q, 0, none⟩ = some (.int .i64 x.ef.s) ∧ W.cell? ⟨q, 1, none⟩ = some (.int .i64 x.ef.t) ∧ W.cell? ⟨q, 2, none⟩ = some (.int .i64 x.ef.p) :=
  ⟨cell_of_row W _ 0 _ TE _ h.e, cell_of_row W _ 1 _ TE _ h.e, cell_of_row W _ 2 _ TE _ h.e⟩
theorem Rx.mc {w : World} {n : Int} {mb : Nat} {L : List En} {M : List (Ef × Mm)} {g off cA q : Nat} {x : En} {m : Mm} {W : World} (h : Rx w n mb L M g off cA q x m W) :
    W.cell? ⟨q + 1, 0, none⟩ = some (.int .u8 m.s) ∧ W.cell? ⟨q + 1, 1, none⟩ = some (.int .u8 m.p) ∧ W.cell? ⟨q + 1, 2, none⟩ = some (.int .u8 m.k) ∧ W.cell? ⟨q + 1, 3, none⟩ = some (.int .i32 m.n) ∧ W.cell? ⟨q + 1, 4, none⟩ = some (.int .u8 m.e) :=
  ⟨cell_of_row W _ 0 _ TMm _ h.m, cell_of_row W _ 1 _ TMm _ h.m, cell_of_row W _ 2 _ TMm _ h.m, cell_of_row W _ 3 _ TMm _ h.m, cell_of_row W _ 4 _ TMm _ h.m⟩
theorem other_ok {x : En} (h : OkN x) : OkN ⟨0, 7, [], x.ef, [111, 116, 104, 101, 114]⟩ := ⟨h.1, (by decide : Rng.nameOk [111, 116, 104, 101, 114] = true), (by decide : repOk 0 7 [] = true)⟩
set_option maxHeartbeats 4000000 in
theorem once_any (s : Int) (a : Option Addr) (len cap : Nat) (S : Nat → Mm) (w : World) (hs0 : 0 ≤ s) (hs1 : s ≤ 255) (h : IsMm w a len cap S) :
    Calls Try.prog 5 #[.int .u8 s, .slice a len cap] w fun r w' => r = .returned (.bool true) ∧ Below w.heap.size w w' := by
  obtain ⟨n, hn⟩ : ∃ n : Nat, s % 64 = (n : Int) := ⟨(s % 64).toNat, by omega⟩
  have hn2 : n ≤ 2048 := by omega
  have HFi := Lib.hid (filled_any n hn2 a len cap S w h)
  have HN := Lib.hid hn
  have HW := Lib.hid works_any
  clear h hn
  go_enter Try.func5, Try.ntmps5
  go_wp2_with fail
  rw [HN.out]
  refine HFi.out.mono ?_
  rintro r W1 ⟨L, M, mb, rfl, F0⟩
  have F1 := Lib.hid F0
  clear F0 HFi
  go_wp2_with fail
  refine F1.out.k.all.mono ?_
  rintro r W2 ⟨vA, rfl, hF, hb, _⟩
  obtain ⟨aA, cA, rfl⟩ : ∃ a c, vA = .slice a L.length c := by obtain ⟨a, c, e⟩ := hF.form; exact ⟨a, c, by rw [e, List.length_map]⟩
  have A2 := Lib.hid hF.fs
  have F2 := Lib.hid (F1.out.later hb)
  clear hF hb F1
  have hln := mp_len F2.out.mp
  rw [← F2.out.len] at hln
  go_wp2
  clear hln
  go_loopw [40] (fun s40 wr => ∃ k : Nat, s40 = .int .i64 k ∧ k ≤ L.length ∧ Hid (Fl w.heap.size w w.heap.size n mb L M wr) ∧ Hid (Fs wr (.slice aA L.length cA) (effs L))) (fun s40 _ => L.length - (intOf s40).toNat)
  case atStart => exact ⟨0, rfl, Nat.zero_le _, F2, A2⟩
  case round =>
    obtain ⟨k, rfl, hkl, F3, A3⟩ := hrel
    clear F2 A2
    by_cases hlt : k < L.length
    · obtain ⟨x, hx⟩ : ∃ x, L[k]? = some x := ⟨_, List.getElem?_eq_getElem hlt⟩
      obtain ⟨m, hgp, hxm, hmok, hxok, hwf, hgl⟩ := F3.out.memo hx
      obtain ⟨g, off, rfl, c0, c1, c2⟩ := fs_at A3.out (effs_at hx)
      have hal := alloc_b wr (.cells #[.int .i64 x.ef.s, .int .i64 x.ef.t, .int .i64 x.ef.p] TE)
      have hlk := mp_look (F3.out.later hal).mp x.ef hwf
      rw [hgp] at hlk
      have hbx := heap_alloc_new wr (.cells #[.int .i64 x.ef.s, .int .i64 x.ef.t, .int .i64 x.ef.p] TE)
      have hal2 := hal.trans ((alloc_b _ (.cells #[.int .u8 m.s, .int .u8 m.p, .int .u8 m.k, .int .i32 m.n, .int .u8 m.e] TMm)).mono hal.size)
      have F4 := Lib.hid (F3.out.later hal2)
      have A4 := Lib.hid (A3.out.later hal2)
      have hbx2 : ((wr.alloc (.cells #[.int .i64 x.ef.s, .int .i64 x.ef.t, .int .i64 x.ef.p] TE)).alloc (.cells #[.int .u8 m.s, .int .u8 m.p, .int .u8 m.k, .int .i32 m.n, .int .u8 m.e] TMm)).heap[wr.heap.size]? = some (eBx x.ef) := by
        rw [Below.heap_alloc _ _ _ (by simp)]
        exact hbx
      have hbm := heap_alloc_new (wr.alloc (.cells #[.int .i64 x.ef.s, .int .i64 x.ef.t, .int .i64 x.ef.p] TE)) (.cells #[.int .u8 m.s, .int .u8 m.p, .int .u8 m.k, .int .i32 m.n, .int .u8 m.e] TMm)
      rw [World.size_alloc] at hbm
      have X5 := Lib.hid (Rx.mk F4.out A4.out hbx2 hbm)
      have HO := Lib.hid (fun W => of_any m hmok W)
      unfold Ofd at HO
      rw [hxm] at HO
      have hoz := Lib.hid (show orZ L x.ef = x by unfold orZ; rw [hgl]; rfl)
      have hhb := Lib.hid (show hasB L x.ef = true by unfold hasB; rw [hgl]; rfl)
      have HX := Lib.hid hx
      have HLT := Lib.hid hlt
      replace hgl := Lib.hid hgl
      replace hxok := Lib.hid hxok
      have HF3 := Lib.hid F3.out
      clear hbx2 hbm hbx hgp hxm hmok hwf hal hal2 F4 A4 hx F3 A3
      go_wp2
      clear hlk c0 c1 c2
      generalize hW5 : ((wr.alloc (.cells #[.int .i64 x.ef.s, .int .i64 x.ef.t, .int .i64 x.ef.p] TE)).alloc (.cells #[.int .u8 m.s, .int .u8 m.p, .int .u8 m.k, .int .i32 m.n, .int .u8 m.e] TMm)) = W5 at X5 ⊢
      clear hW5
      by_cases hk0 : 0 < k
      · obtain ⟨j, hj⟩ : ∃ j, k = j + 1 := ⟨k - 1, by omega⟩
        obtain ⟨y, hy⟩ : ∃ y, L[j]? = some y := ⟨_, List.getElem?_eq_getElem (show j < L.length by omega)⟩
        have hord := HF3.out.ord hy (show L[j + 1]? = some x by rw [← hj]; exact HX.out)
        obtain ⟨g', off', e', y0, y1, y2⟩ := fs_at X5.out.a (effs_at hy)
        injection e' with e'
        injection e' with e1 e2
        subst e1 e2
        have hH := Lib.hid (Hs.mk (w0 := W5) X5.out.e ⟨y0, y1, y2⟩ (Below.refl _ _))
        have HOr : Hid (∀ W, Calls Try.prog 25 #[efA y.ef, efA x.ef] W fun r w' => r = .returned (.int .i64 (-1)) ∧ Below W.heap.size W w') := Lib.hid fun W => by
          have h := Eff.order_any y.ef.s y.ef.t y.ef.p x.ef.s x.ef.t x.ef.p W
          rwa [show Eff.ordV y.ef.s y.ef.t y.ef.p x.ef.s x.ef.t x.ef.p = -1 from (ord_val y.ef x.ef).trans (if_pos (ord_neg.1 hord))] at h
        have HK := Lib.hid (fun (W : World) (h : Hs W5 wr.heap.size x.ef g off j y.ef W) => h.s22)
        have hd : decide (0 < (k : Int)) = true := decide_eq_true (by omega)
        have hd2 : decide (0 < k) = true := decide_eq_true hk0
        have hd3 : (0 < k) = True := eq_true hk0
        have hj0 : (0 : Int) ≤ (j : Int) := by omega
        have hj1 : (j : Int) < (L.length : Int) := by omega
        have hjl : j < L.length := by omega
        have hw1 : IntKind.i64.wrap ((k : Int) - 1) = (j : Int) := by rw [IntKind.wrap_i64]; have := HF3.out.room; have := HF3.out.len; omega
        clear y0 y1 y2 hord hj hk0
        go_region_held3 (S22 W5 wr.heap.size x.ef g off j y.ef) (first | exact HK.out _ (hH.out.later (Below.refl _ _).drew) | exact HK.out _ (by assumption) | assumption)
          ((go_at_call 25; refine (HOr.out _).mono ?_; rintro r w2 ⟨rfl, hbel⟩; have hn := HK.out _ (Hs.later (s22_hs (by assumption)) hbel); clear hbel))
        clear hw1
        rename S22 W5 wr.heap.size x.ef g off j y.ef _ => hs22
        have X6 := Lib.hid (X5.out.later (s22_hs hs22).bel)
        clear hs22 hn X5 hH hd hd2 hd3
        obtain ⟨m0, m1, m2, m3, m4⟩ := X6.out.mc
        go_wp2_with fail
        clear m0 m1 m2 m3 m4
        refine (HO.out _).mono ?_
        rintro r V1 ⟨rfl, hb⟩
        have hb2 := hb.trans (((alloc_b V1 (.cells #[.int .i64 x.ef.s, .int .i64 x.ef.t, .int .i64 x.ef.p] TE)).alloc (by simp) (.cells #[.int .i64 x.er, .int .i64 x.nm, .string (tx x.da)] TRp)).mono hb.size)
        have X7 := Lib.hid (X6.out.later hb2)
        have r7 := heap_alloc_new (V1.alloc (.cells #[.int .i64 x.ef.s, .int .i64 x.ef.t, .int .i64 x.ef.p] TE)) (.cells #[.int .i64 x.er, .int .i64 x.nm, .string (tx x.da)] TRp)
        rw [World.size_alloc] at r7
        have R7 := Lib.hid r7
        have hlq : wr.heap.size < V1.heap.size := (Array.getElem?_eq_some_iff.1 (X6.out.later hb).e).1
        have hlq2 : wr.heap.size < V1.heap.size + 1 := by omega
        obtain ⟨c0, c1, c2⟩ := (X6.out.later hb).ec
        clear hb hb2 X6 r7
        go_wp2_with fail
        clear hlq hlq2 c0 c1 c2
        refine (X7.out.f.k.get x.ef).mono ?_
        rintro r V2 ⟨rfl, hb, _⟩
        rw [hoz.out, hhb.out]
        have hb2 := hb.trans ((alloc_b V2 (.cells #[.int .i64 x.er, .int .i64 x.nm, .string (tx x.da)] TRp)).mono hb.size)
        have X8 := Lib.hid (X7.out.later hb2)
        have R8 := Lib.hid ((hb2.block _ (Array.getElem?_eq_some_iff.1 R7.out).1).trans R7.out)
        have G8 := Lib.hid (heap_alloc_new V2 (.cells #[.int .i64 x.er, .int .i64 x.nm, .string (tx x.da)] TRp))
        have hlq : wr.heap.size < V2.heap.size := (Array.getElem?_eq_some_iff.1 (X7.out.later hb).e).1
        obtain ⟨c0, c1, c2⟩ := (X7.out.later hb).ec
        clear hb hb2 X7 R7
        go_wp2_with fail
        clear hlq c0 c1 c2
        refine (X8.out.f.k.key x.ef).mono ?_
        rintro r V3 ⟨rfl, hb, _⟩
        rw [hoz.out, hhb.out]
        have X9 := Lib.hid (X8.out.later hb)
        obtain ⟨p0, p1, p2, _, _, _⟩ := row3 ((hb.block _ (Array.getElem?_eq_some_iff.1 R8.out).1).trans R8.out)
        obtain ⟨g0, g1, g2, _, _, _⟩ := row3 ((hb.block _ (Array.getElem?_eq_some_iff.1 G8.out).1).trans G8.out)
        obtain ⟨c0, c1, c2⟩ := X9.out.ec
        have hq := eq_rp x
        clear hb X8 R8 G8
        go_wp2_with fail
        clear p0 p1 p2 g0 g1 g2 c0 c1 c2 hq
        refine (X9.out.f.k.have ⟨0, 7, [], x.ef, [111, 116, 104, 101, 114]⟩ x (other_ok hxok.out) hgl.out).mono ?_
        rintro r V4 ⟨rfl, hb, _⟩
        have FA := Lib.hid (X9.out.later hb)
        clear hb X9
        have hLs : L.length ≤ 2048 := by have := FA.out.f.room; have := FA.out.f.len; omega
        have hltk := HLT.out
        go_wp2
        go_roundw
        case rel => exact ⟨k + 1, by go_num, by omega, Lib.hid FA.out.f, Lib.hid FA.out.a⟩
        case measure => simp [intOf]; omega
      · have hd : decide (0 < (k : Int)) = false := decide_eq_false (by omega)
        have hd2 : decide (0 < k) = false := decide_eq_false hk0
        have hd3 : (0 < k) = False := eq_false hk0
        go_quiet (fail)
        have X6 := Lib.hid (X5.out.later (blw_drewN (Below.refl _ _) nq))
        clear X5 hd hd2 hd3 hk0
        obtain ⟨m0, m1, m2, m3, m4⟩ := X6.out.mc
        go_wp2_with fail
        clear m0 m1 m2 m3 m4
        refine (HO.out _).mono ?_
        rintro r V1 ⟨rfl, hb⟩
        have hb2 := hb.trans (((alloc_b V1 (.cells #[.int .i64 x.ef.s, .int .i64 x.ef.t, .int .i64 x.ef.p] TE)).alloc (by simp) (.cells #[.int .i64 x.er, .int .i64 x.nm, .string (tx x.da)] TRp)).mono hb.size)
        have X7 := Lib.hid (X6.out.later hb2)
        have r7 := heap_alloc_new (V1.alloc (.cells #[.int .i64 x.ef.s, .int .i64 x.ef.t, .int .i64 x.ef.p] TE)) (.cells #[.int .i64 x.er, .int .i64 x.nm, .string (tx x.da)] TRp)
        rw [World.size_alloc] at r7
        have R7 := Lib.hid r7
        have hlq : wr.heap.size < V1.heap.size := (Array.getElem?_eq_some_iff.1 (X6.out.later hb).e).1
        have hlq2 : wr.heap.size < V1.heap.size + 1 := by omega
        obtain ⟨c0, c1, c2⟩ := (X6.out.later hb).ec
        clear hb hb2 X6 r7
        go_wp2_with fail
        clear hlq hlq2 c0 c1 c2
        refine (X7.out.f.k.get x.ef).mono ?_
        rintro r V2 ⟨rfl, hb, _⟩
        rw [hoz.out, hhb.out]
        have hb2 := hb.trans ((alloc_b V2 (.cells #[.int .i64 x.er, .int .i64 x.nm, .string (tx x.da)] TRp)).mono hb.size)
        have X8 := Lib.hid (X7.out.later hb2)
        have R8 := Lib.hid ((hb2.block _ (Array.getElem?_eq_some_iff.1 R7.out).1).trans R7.out)
        have G8 := Lib.hid (heap_alloc_new V2 (.cells #[.int .i64 x.er, .int .i64 x.nm, .string (tx x.da)] TRp))
        have hlq : wr.heap.size < V2.heap.size := (Array.getElem?_eq_some_iff.1 (X7.out.later hb).e).1
        obtain ⟨c0, c1, c2⟩ := (X7.out.later hb).ec
        clear hb hb2 X7 R7
        go_wp2_with fail
        clear hlq c0 c1 c2
        refine (X8.out.f.k.key x.ef).mono ?_
        rintro r V3 ⟨rfl, hb, _⟩
        rw [hoz.out, hhb.out]
        have X9 := Lib.hid (X8.out.later hb)
        obtain ⟨p0, p1, p2, _, _, _⟩ := row3 ((hb.block _ (Array.getElem?_eq_some_iff.1 R8.out).1).trans R8.out)
        obtain ⟨g0, g1, g2, _, _, _⟩ := row3 ((hb.block _ (Array.getElem?_eq_some_iff.1 G8.out).1).trans G8.out)
        obtain ⟨c0, c1, c2⟩ := X9.out.ec
        have hq := eq_rp x
        clear hb X8 R8 G8
        go_wp2_with fail
        clear p0 p1 p2 g0 g1 g2 c0 c1 c2 hq
        refine (X9.out.f.k.have ⟨0, 7, [], x.ef, [111, 116, 104, 101, 114]⟩ x (other_ok hxok.out) hgl.out).mono ?_
        rintro r V4 ⟨rfl, hb, _⟩
        have FA := Lib.hid (X9.out.later hb)
        clear hb X9
        have hLs : L.length ≤ 2048 := by have := FA.out.f.room; have := FA.out.f.len; omega
        have hltk := HLT.out
        go_wp2
        go_roundw
        case rel => exact ⟨k + 1, by go_num, by omega, Lib.hid FA.out.f, Lib.hid FA.out.a⟩
        case measure => simp [intOf]; omega
    · obtain rfl : k = L.length := by omega
      go_wp2_with fail
      refine (HW.out _).mono ?_
      rintro r W9 ⟨rfl, hb⟩
      have hB := Lib.hid (F3.out.later hb).k.bel
      go_wp2
      go_ret
      exact ⟨rfl, hB.out⟩
theorem once_law (s : Int) (a : Option Addr) (len cap : Nat) (S : Nat → Mm) (w : World) (h0 : (Lit.int .u8 s).wf = true) (h : IsMm w a len cap S) :
    Calls Try.prog 5 #[.int .u8 s, .slice a len cap] w fun r w' => r = .returned (.bool true) ∧ Below w.heap.size w w' :=
  once_any s a len cap S w (bounds_u8 h0).1 (bounds_u8 h0).2 h
end Go.Proofs.Ytbgjiokocjnjhaa.Ded
