/- The walk of DedupTakes. -/
import Derived.Test.YtbgjiokocjnjhaaD26
namespace Go.Proofs.Ytbgjiokocjnjhaa.Ded
open Go.RowKit Go.Lib Go.Shelf
open Rng (tx tx_of okR hasR bl nameOk)
open Eff (TE effOk)
set_option linter.unusedVariables false
set_option linter.unusedSimpArgs false
set_option maxRecDepth 100000
/-- What is held in the round's last region: the effect's box, the memo's box, the effect ahead, the range's box. -/
structure H1 (w0 : World) (q : Nat) (z : Ef) (m : Mm) (g off j : Nat) (y : Ef) (rb : Nat) (r : Rng.Rg) (W : World) : Prop where
  bx : W.heap[q]? = some (eBx z)
  mx : W.heap[q + 1]? = some (.cells #[.int .u8 m.s, .int .u8 m.p, .int .u8 m.k, .int .i32 m.n, .int .u8 m.e] TMm (0, 0))
  pr : W.cell? ⟨g, off + j * 3, none⟩ = some (.int .i64 y.s) ∧ W.cell? ⟨g, off + j * 3 + 1, none⟩ = some (.int .i64 y.t) ∧ W.cell? ⟨g, off + j * 3 + 2, none⟩ = some (.int .i64 y.p)
  rg : W.heap[rb]? = some (rgBx r)
  bel : Below w0.heap.size w0 W
theorem H1.later {w0 : World} {q : Nat} {z y : Ef} {m : Mm} {g off j rb : Nat} {r : Rng.Rg} {W W' : World} (h : H1 w0 q z m g off j y rb r W) (hb : Below W.heap.size W W') : H1 w0 q z m g off j y rb r W' := by
  have hc : ∀ o u, W.cell? ⟨g, o, none⟩ = some u → W'.cell? ⟨g, o, none⟩ = some u := fun o u hu => (hb.cell (p := ⟨g, o, none⟩) (World.block_lt_of_cell? W _ hu)).trans hu
  have hk : ∀ k o, W.heap[k]? = some o → W'.heap[k]? = some o := fun k o ho => (hb.block _ (Array.getElem?_eq_some_iff.1 ho).1).trans ho
  exact ⟨hk _ _ h.bx, hk _ _ h.mx, ⟨hc _ _ h.pr.1, hc _ _ h.pr.2.1, hc _ _ h.pr.2.2⟩, hk _ _ h.rg, h.bel.trans (hb.mono h.bel.size)⟩
abbrev S27 (w0 : World) (q : Nat) (z : Ef) (m : Mm) (g off j : Nat) (y : Ef) (rb : Nat) (r : Rng.Rg) (W : World) : Prop :=
  W.cell? ⟨q, 0, none⟩ = some (.int .i64 z.s) ∧ W.cell? ⟨q, 1, none⟩ = some (.int .i64 z.t) ∧ W.cell? ⟨q, 2, none⟩ = some (.int .i64 z.p) ∧
  W.cell? ⟨q + 1, 0, none⟩ = some (.int .u8 m.s) ∧ W.cell? ⟨q + 1, 1, none⟩ = some (.int .u8 m.p) ∧ W.cell? ⟨q + 1, 2, none⟩ = some (.int .u8 m.k) ∧ W.cell? ⟨q + 1, 3, none⟩ = some (.int .i32 m.n) ∧ W.cell? ⟨q + 1, 4, none⟩ = some (.int .u8 m.e) ∧
  W.cell? ⟨g, off + j * 3, none⟩ = some (.int .i64 y.s) ∧ W.cell? ⟨g, off + j * 3 + 1, none⟩ = some (.int .i64 y.t) ∧ W.cell? ⟨g, off + j * 3 + 2, none⟩ = some (.int .i64 y.p) ∧ H1 w0 q z m g off j y rb r W
theorem H1.s27 {w0 : World} {q : Nat} {z y : Ef} {m : Mm} {g off j rb : Nat} {r : Rng.Rg} {W : World} (h : H1 w0 q z m g off j y rb r W) : S27 w0 q z m g off j y rb r W :=
  ⟨cell_of_row W _ 0 _ TE _ h.bx, cell_of_row W _ 1 _ TE _ h.bx, cell_of_row W _ 2 _ TE _ h.bx, cell_of_row W _ 0 _ TMm _ h.mx, cell_of_row W _ 1 _ TMm _ h.mx, cell_of_row W _ 2 _ TMm _ h.mx, cell_of_row W _ 3 _ TMm _ h.mx, cell_of_row W _ 4 _ TMm _ h.mx, h.pr.1, h.pr.2.1, h.pr.2.2, h⟩
theorem s27_h1 {w0 : World} {q : Nat} {z y : Ef} {m : Mm} {g off j rb : Nat} {r : Rng.Rg} {W : World} (h : S27 w0 q z m g off j y rb r W) : H1 w0 q z m g off j y rb r W := h.2.2.2.2.2.2.2.2.2.2.2
theorem conv_one (W : World) (b : UInt8) (n : Int) (hn : n = (b.toNat : Int)) : (convert TB 9 (.slice (some ⟨W.heap.size, 0, none⟩) 1 1)).run Try.prog (W.alloc (.cells #[.int .u8 n] 5)) = .ok (.string ⟨#[b]⟩) (W.alloc (.cells #[.int .u8 n] 5)) :=
  conv_key _ _ _ b n hn (cell_of_row _ _ 0 _ _ _ (heap_alloc_new _ _))
/-- What is held in a round of the second loop: the effect's box, the memo's box, the range's box. -/
structure H2 (q : Nat) (z : En) (m : Mm) (rb : Nat) (r : Rng.Rg) (W : World) : Prop where
  bx : W.heap[q]? = some (eBx z.ef)
  mx : W.heap[q + 1]? = some (.cells #[.int .u8 m.s, .int .u8 m.p, .int .u8 m.k, .int .i32 m.n, .int .u8 m.e] TMm (0, 0))
  rg : W.heap[rb]? = some (rgBx r)
theorem H2.later {q : Nat} {z : En} {m : Mm} {rb : Nat} {r : Rng.Rg} {W W' : World} (h : H2 q z m rb r W) (hb : Below W.heap.size W W') : H2 q z m rb r W' := by
  have hk : ∀ k o, W.heap[k]? = some o → W'.heap[k]? = some o := fun k o ho => (hb.block _ (Array.getElem?_eq_some_iff.1 ho).1).trans ho
  exact ⟨hk _ _ h.bx, hk _ _ h.mx, hk _ _ h.rg⟩
theorem H2.ec {q : Nat} {z : En} {m : Mm} {rb : Nat} {r : Rng.Rg} {W : World} (h : H2 q z m rb r W) : W.cell? ⟨q, 0, none⟩ = some (.int .i64 z.ef.s) ∧ W.cell? ⟨q, 1, none⟩ = some (.int .i64 z.ef.t) ∧ W.cell? ⟨q, 2, none⟩ = some (.int .i64 z.ef.p) :=
  ⟨cell_of_row W _ 0 _ TE _ h.bx, cell_of_row W _ 1 _ TE _ h.bx, cell_of_row W _ 2 _ TE _ h.bx⟩
theorem H2.mc {q : Nat} {z : En} {m : Mm} {rb : Nat} {r : Rng.Rg} {W : World} (h : H2 q z m rb r W) : W.cell? ⟨q + 1, 0, none⟩ = some (.int .u8 m.s) ∧ W.cell? ⟨q + 1, 1, none⟩ = some (.int .u8 m.p) ∧ W.cell? ⟨q + 1, 2, none⟩ = some (.int .u8 m.k) ∧ W.cell? ⟨q + 1, 3, none⟩ = some (.int .i32 m.n) ∧ W.cell? ⟨q + 1, 4, none⟩ = some (.int .u8 m.e) :=
  ⟨cell_of_row W _ 0 _ TMm _ h.mx, cell_of_row W _ 1 _ TMm _ h.mx, cell_of_row W _ 2 _ TMm _ h.mx, cell_of_row W _ 3 _ TMm _ h.mx, cell_of_row W _ 4 _ TMm _ h.mx⟩
/-- A reply's box. -/
def Rb (W : World) (p : Nat) (z : En) : Prop := W.heap[p]? = some (.cells #[.int .i64 z.er, .int .i64 z.nm, .string (tx z.da)] TRp (0, 0))
theorem Rb.later {W W' : World} {p : Nat} {z : En} (h : Rb W p z) (hb : Below W.heap.size W W') : Rb W' p z := (hb.block _ (Array.getElem?_eq_some_iff.1 h).1).trans h
theorem Rb.cells {W : World} {p : Nat} {z : En} (h : Rb W p z) : W.cell? ⟨p, 0, none⟩ = some (.int .i64 z.er) ∧ W.cell? ⟨p, 1, none⟩ = some (.int .i64 z.nm) ∧ W.cell? ⟨p, 2, none⟩ = some (.string (tx z.da)) :=
  ⟨cell_of_row W _ 0 _ TRp _ h, cell_of_row W _ 1 _ TRp _ h, cell_of_row W _ 2 _ TRp _ h⟩
theorem mp_look1 {w : World} {mb : Nat} {M : List (Ef × Mm)} (h : MpIs w mb M) (e : Ef) (he : WfE e) :
    (Instr.lookup TMp (.map (some mb)) (efA e) false).run Try.prog w = .ok (mmA ((getP M e).getD ⟨0, 0, 0, 0, 0⟩)) w := by
  obtain ⟨⟨es, clock, hb, hes⟩, hwf, hn⟩ := h
  obtain ⟨l, hl⟩ := key_ok e he
  rcases find_mp (w := w) (mb := mb) hes hwf hn e he with ⟨h1, h2⟩ | ⟨m, j, h1, h2⟩
  · simp [Instr.lookup, run_underlying tmp_map, MapKept.run_getObj_map hb, lawE.check w _ hl, h2, h1, zero_mm, Result.andThen]
  · simp [Instr.lookup, run_underlying tmp_map, MapKept.run_getObj_map hb, lawE.check w _ hl, h2, h1, Result.andThen]
set_option maxHeartbeats 8000000 in
theorem takes_any (a : Option Addr) (len cap : Nat) (S : Nat → Mm) (c d : Int) (w : World) (hc0 : 0 ≤ c) (hc1 : c ≤ 255) (hd0 : 0 ≤ d) (hd1 : d ≤ 255) (h : IsMm w a len cap S) :
    Calls Try.prog 6 #[.slice a len cap, .int .u8 c, .int .u8 d] w fun r w' => r = .returned (.bool true) ∧ Below w.heap.size w w' := by
  have HFi := Lib.hid (filled_any 200 (by decide) a len cap S w h)
  have HW := Lib.hid works_any
  obtain ⟨x, i, hi2, hxi, hx⟩ : ∃ (x : UInt8) (i : Nat), i < 26 ∧ x = lt8 i ∧ 97 + min c d % 26 = (x.toNat : Int) := by
    refine ⟨lt8 (min c d % 26).toNat, (min c d % 26).toNat, by omega, rfl, ?_⟩
    have := (u8_all (min c d % 26).toNat (by omega)).2
    show _ = ((UInt8.ofNat (97 + (min c d % 26).toNat)).toNat : Int)
    omega
  obtain ⟨y, j, hj2, hyj, hy⟩ : ∃ (y : UInt8) (j : Nat), j < 26 ∧ y = lt8 j ∧ 97 + max c d % 26 = (y.toNat : Int) := by
    refine ⟨lt8 (max c d % 26).toNat, (max c d % 26).toNat, by omega, rfl, ?_⟩
    have := (u8_all (max c d % 26).toNat (by omega)).2
    show _ = ((UInt8.ofNat (97 + (max c d % 26).toNat)).toNat : Int)
    omega
  have hxN : x.toNat = 97 + i := by rw [hxi]; exact (u8_all i hi2).2
  have hyN : y.toNat = 97 + j := by rw [hyj]; exact (u8_all j hj2).2
  have HX := Lib.hid hx
  have HY := Lib.hid hy
  have hR1 : Hid (okR ⟨[x], []⟩ = true) := Lib.hid (by rw [hxi]; exact one_ok i hi2)
  have hR2 : Hid (x.toNat < y.toNat → okR ⟨[x], [y]⟩ = true) := Lib.hid (fun h => by rw [hxi, hyj]; exact two_ok i hi2 j hj2 (by omega))
  clear h hi2 hj2 hxi hyj hxN hyN hx hy
  by_cases hlt : x.toNat < y.toNat
  · have hg : (x.toNat : Int) < 97 + max c d % 26 := by rw [HY.out]; omega
    have hgd := decide_eq_true hg
    have hb0 : (ByteArray.mk #[x])[0]'(Nat.zero_lt_one) = x := rfl
    go_enter Try.func6, Try.ntmps6
    go_wp2_with fail
    refine HFi.out.mono ?_
    rintro r W1 ⟨L, M, mb, rfl, F0⟩
    have cv1 := conv_one W1 x _ HX.out
    have cv2 := conv_one ((W1.alloc (.cells #[.int .u8 (97 + min c d % 26)] 5)).alloc (.cells #[.string ⟨#[x]⟩, .string ⟨#[]⟩] TRg)) y _ HY.out
    rw [World.size_alloc, World.size_alloc] at cv2
    have F1 := Lib.hid F0
    clear F0 HFi
    have HP := Lib.hid F1.out.pl
    have HT := Lib.hid (take_tk (V := ((W1.alloc (.cells #[.int .u8 (97 + min c d % 26)] 5)).alloc (.cells #[.string ⟨#[x]⟩, .string ⟨#[y]⟩] TRg)).alloc (.cells #[.int .u8 (97 + max c d % 26)] 5)) (q := W1.heap.size + 1) (F1.out.later (((alloc_b W1 _).alloc (by simp) _).alloc (by rw [World.size_alloc, World.size_alloc]; omega) _)) (hR2.out hlt)
      (by rw [Below.heap_alloc _ _ _ (by simp)]; have h := heap_alloc_new (W1.alloc (.cells #[.int .u8 (97 + min c d % 26)] 5)) (.cells #[.string ⟨#[x]⟩, .string ⟨#[y]⟩] TRg); rw [World.size_alloc] at h; exact h)
      (by have := F1.out.k.lt; omega))
    go_wp2_with fail
    refine HT.out.mono ?_
    rintro e W3 ⟨a1, c1, rfl, T0⟩
    have HR0 := Lib.hid (hR2.out hlt)
    generalize hr : Rng.Rg.mk [x] [y] = r at T0 HR0 ⊢
    have HR := HR0
    have T1 := Lib.hid T0
    have hl1 := ins_outs_len r L
    have hl2 := HP.out.len
    have hl3 : (L.length : Int) ≤ 200 := by obtain ⟨v, hd⟩ := F1.out.k.ex; exact hd.len
    have hl4 : IntKind.i64.wrap (((ins r L).length : Int) + ((outs r L).length : Int)) = (M.length : Int) := by rw [IntKind.wrap_i64]; omega
    clear T0 HT hr cv1 cv2 hg hgd hb0 hlt hl2
    go_wp2_with fail
    refine T1.out.k.len.mono ?_
    rintro e W4 ⟨rfl, hb, _⟩
    have T2 := Lib.hid (T1.out.later hb)
    have hln := mp_len T2.out.mp
    clear hb T1
    go_wp2
    clear hln
    clear hl4
    go_loopw [89] (fun s89 wr => ∃ k : Nat, s89 = .int .i64 k ∧ k ≤ (ins r L).length ∧ Hid (Tk w mb (outs r L) M (.slice a1 (ins r L).length c1) (effs (ins r L)) (W1.heap.size + 1) r wr)) (fun s89 _ => (ins r L).length - (intOf s89).toNat)
    case atStart => exact ⟨0, rfl, Nat.zero_le _, T2⟩
    case round =>
      obtain ⟨k, rfl, hkl, T3⟩ := hrel
      clear T2
      by_cases hlt : k < (ins r L).length
      · obtain ⟨z, hz⟩ : ∃ z, (ins r L)[k]? = some z := ⟨_, List.getElem?_eq_getElem hlt⟩
        have hzI := List.mem_of_getElem? hz
        obtain ⟨m, hgp, hzm, hmok, hzok, hwf⟩ := HP.out.mem z (ins_mem.1 hzI).1
        obtain ⟨g, off, rfl, c0, c1', c2⟩ := fs_at T3.out.a (effs_at hz)
        have hal := alloc_b wr (.cells #[.int .i64 z.ef.s, .int .i64 z.ef.t, .int .i64 z.ef.p] TE)
        have hlk := mp_look (T3.out.later hal).mp z.ef hwf
        rw [hgp] at hlk
        have hbx := heap_alloc_new wr (.cells #[.int .i64 z.ef.s, .int .i64 z.ef.t, .int .i64 z.ef.p] TE)
        have hal2 := hal.trans ((alloc_b _ (.cells #[.int .u8 m.s, .int .u8 m.p, .int .u8 m.k, .int .i32 m.n, .int .u8 m.e] TMm)).mono hal.size)
        have T4 := Lib.hid (T3.out.later hal2)
        have hbx2 : ((wr.alloc (.cells #[.int .i64 z.ef.s, .int .i64 z.ef.t, .int .i64 z.ef.p] TE)).alloc (.cells #[.int .u8 m.s, .int .u8 m.p, .int .u8 m.k, .int .i32 m.n, .int .u8 m.e] TMm)).heap[wr.heap.size]? = some (eBx z.ef) := by
          rw [Below.heap_alloc _ _ _ (by simp)]
          exact hbx
        have hbm := heap_alloc_new (wr.alloc (.cells #[.int .i64 z.ef.s, .int .i64 z.ef.t, .int .i64 z.ef.p] TE)) (.cells #[.int .u8 m.s, .int .u8 m.p, .int .u8 m.k, .int .i32 m.n, .int .u8 m.e] TMm)
        rw [World.size_alloc] at hbm
        obtain ⟨y', hy⟩ : ∃ y, (ins r L)[k - 1]? = some y := ⟨_, List.getElem?_eq_getElem (by omega)⟩
        obtain ⟨g', off', e', y0, y1, y2⟩ := fs_at T4.out.a (effs_at hy)
        injection e' with e'
        injection e' with e1 e2
        subst e1 e2
        have hH := Lib.hid (H1.mk hbx2 hbm ⟨y0, y1, y2⟩ T4.out.rg (Below.refl _ _))
        have HG := Lib.hid (fun W (h : Tk w mb (outs r L) M (.slice (some ⟨g, off, none⟩) (ins r L).length c1) (effs (ins r L)) (W1.heap.size + 1) r W) => h.k.get z.ef)
        have hoz : orZ (outs r L) z.ef = zEn := by unfold orZ; rw [outs_none HP.out.srt hzI]; rfl
        have hhb : hasB (outs r L) z.ef = false := by unfold hasB; rw [outs_none HP.out.srt hzI]; rfl
        rw [hoz, hhb] at HG
        have HIn : Hid (∀ W, W.heap[W1.heap.size + 1]? = some (rgBx r) → Calls Try.prog 30 #[mmA m, .pointer (some ⟨W1.heap.size + 1, 0, none⟩)] W fun e w' => e = .returned (.bool true) ∧ Below W.heap.size W w') := Lib.hid fun W hW => by
          have h := in_any m hmok r (W1.heap.size + 1) W hW
          rw [hzm, ← in_has r z.ky HR.out hzok.2.1, (ins_mem.1 hzI).2] at h
          exact h
        have HZ := Lib.hid hz
        have HYk := Lib.hid hy
        have HLT := Lib.hid hlt
        clear hbx hbx2 hbm hal hal2 hgp hzm hmok hzok hwf hzI hz hy y0 y1 y2 hoz hhb T3
        go_wp2_with fail
        clear c0 c1' c2 hlk
        refine (HG.out _ T4.out).mono ?_
        rintro e V1 ⟨rfl, hb, _⟩
        have hb2 := hb.trans ((alloc_b V1 (.cells #[.int .i64 0, .int .i64 0, .string (tx [])] TRp)).mono hb.size)
        have T5 := Lib.hid (T4.out.later hb2)
        have H5 := Lib.hid (hH.out.later hb2)
        clear hb hb2 T4 hH
        go_wp2
        generalize hV2 : V1.alloc (.cells #[.int .i64 0, .int .i64 0, .string (tx [])] TRp) = V2 at T5 H5 ⊢
        clear hV2
        have hH := Lib.hid (H1.mk H5.out.bx H5.out.mx H5.out.pr H5.out.rg (Below.refl _ _) : H1 V2 wr.heap.size z.ef m g off (k - 1) y'.ef (W1.heap.size + 1) r V2)
        have HK := Lib.hid (fun (W : World) (h : H1 V2 wr.heap.size z.ef m g off (k - 1) y'.ef (W1.heap.size + 1) r W) => h.s27)
        clear H5
        by_cases hk0 : 0 < k
        · obtain ⟨l, hl⟩ : ∃ l, k = l + 1 := ⟨k - 1, by omega⟩
          have hkl1 : k - 1 = l := by omega
          rw [hkl1] at hH HK HYk
          have hord := srt_ord (ins_srt HP.out.srt) HYk.out (show (ins r L)[l + 1]? = some z by rw [← hl]; exact HZ.out)
          have HOr : Hid (∀ W, Calls Try.prog 25 #[efA y'.ef, efA z.ef] W fun r w' => r = .returned (.int .i64 (-1)) ∧ Below W.heap.size W w') := Lib.hid fun W => by
            have h := Eff.order_any y'.ef.s y'.ef.t y'.ef.p z.ef.s z.ef.t z.ef.p W
            rwa [show Eff.ordV y'.ef.s y'.ef.t y'.ef.p z.ef.s z.ef.t z.ef.p = -1 from (ord_val y'.ef z.ef).trans (if_pos (ord_neg.1 hord))] at h
          have hd : decide (0 < (k : Int)) = true := decide_eq_true (by omega)
          have hd2 : decide (0 < k) = true := decide_eq_true hk0
          have hd3 : (0 < k) = True := eq_true hk0
          have hj0 : (0 : Int) ≤ (l : Int) := by omega
          have hj1 : (l : Int) < ((ins r L).length : Int) := by omega
          have hjl : l < (ins r L).length := by omega
          have hw1 : IntKind.i64.wrap ((k : Int) - 1) = (l : Int) := by rw [IntKind.wrap_i64]; omega
          clear hord hl hkl1 hk0
          go_region_held3 (S27 V2 wr.heap.size z.ef m g off l y'.ef (W1.heap.size + 1) r) (first | exact HK.out _ (hH.out.later (Below.refl _ _).drew) | exact HK.out _ (by assumption) | assumption)
            (first
              | (go_at_call 25; refine (HOr.out _).mono ?_; rintro e w2 ⟨rfl, hbel⟩; have hn := HK.out _ (H1.later (s27_h1 (by assumption)) hbel); clear hbel)
              | (go_at_call 30; refine (HIn.out _ (s27_h1 (by assumption)).rg).mono ?_; rintro e w2 ⟨rfl, hbel⟩; have hn := HK.out _ (H1.later (s27_h1 (by assumption)) hbel); clear hbel))
          rename_i hn0 _
          have T6 := Lib.hid (T5.out.later (s27_h1 hn).bel)
          have hlI : (ins r L).length ≤ 200 := by omega
          have hltk := HLT.out
          clear hd hd2 hd3 hw1 hn hn0 hH HK HOr HIn T5
          go_wp2
          go_roundw
          case rel => exact ⟨k + 1, by go_num, by omega, T6⟩
          case measure => simp [intOf]; omega
        · have hk00 : k = 0 := by omega
          subst hk00
          have hd : decide (0 < ((0 : Nat) : Int)) = false := rfl
          refine wp_region_held_drew (S := (S27 V2 wr.heap.size z.ef m g off (0 - 1) y'.ef (W1.heap.size + 1) r)) (by kernel_rfl) (HK.out _ (hH.out.later (Below.refl _ _).drew)) (fun hS => ?_)
          try simp only [List.getElem_toArray, List.getElem_cons_succ, List.getElem_cons_zero, Act.put, List.setIfInBounds_toArray, List.set_cons_zero, List.set_cons_succ]
          refine wpAnyH_take (i := 0) (v := (.bool true)) rfl (by kernel_rfl) (by kernel_rfl) (by kernel_rfl) (fun _ _ _ h => h) (Or.inl ⟨by kernel_rfl, by intro w' hSw; obtain ⟨s0, s1, s2, s3, s4, s5, s6, s7, _⟩ := hSw; go_simp⟩) hS ?_
          try simp only [List.getElem_toArray, List.getElem_cons_succ, List.getElem_cons_zero, Act.put, List.setIfInBounds_toArray, List.set_cons_zero, List.set_cons_succ]
          refine wpAnyH_take (i := 1) (v := (.bool false)) rfl (by kernel_rfl) (by kernel_rfl) (by kernel_rfl) (fun _ _ _ h => h) (Or.inl ⟨by kernel_rfl, by intro w' hSw; obtain ⟨s0, s1, s2, s3, s4, s5, s6, s7, _⟩ := hSw; go_simp⟩) hS ?_
          try simp only [List.getElem_toArray, List.getElem_cons_succ, List.getElem_cons_zero, Act.put, List.setIfInBounds_toArray, List.set_cons_zero, List.set_cons_succ]
          refine wpAnyH_take (i := 2) (v := (.bool false)) rfl (by kernel_rfl) (by kernel_rfl) (by kernel_rfl) (fun _ _ _ h => h) (Or.inl ⟨by kernel_rfl, by intro w' hSw; obtain ⟨s0, s1, s2, s3, s4, s5, s6, s7, _⟩ := hSw; go_simp⟩) hS ?_
          try simp only [List.getElem_toArray, List.getElem_cons_succ, List.getElem_cons_zero, Act.put, List.setIfInBounds_toArray, List.set_cons_zero, List.set_cons_succ]
          refine wpAnyH_take (i := 3) (v := (.func (.func 30) #[] #[.pointer (some ⟨W1.heap.size + 1, 0, none⟩)])) rfl (by kernel_rfl) (by kernel_rfl) (by kernel_rfl) (fun _ _ _ h => h) (Or.inl ⟨by kernel_rfl, by intro w' hSw; obtain ⟨s0, s1, s2, s3, s4, s5, s6, s7, _⟩ := hSw; go_simp⟩) hS ?_
          try simp only [List.getElem_toArray, List.getElem_cons_succ, List.getElem_cons_zero, Act.put, List.setIfInBounds_toArray, List.set_cons_zero, List.set_cons_succ]
          refine wpAnyH_take (i := 4) (v := (mmA m)) rfl (by kernel_rfl) (by kernel_rfl) (by kernel_rfl) (fun _ _ _ h => h) (Or.inl ⟨by kernel_rfl, by intro w' hSw; obtain ⟨s0, s1, s2, s3, s4, s5, s6, s7, _⟩ := hSw; go_simp⟩) hS ?_
          try simp only [List.getElem_toArray, List.getElem_cons_succ, List.getElem_cons_zero, Act.put, List.setIfInBounds_toArray, List.set_cons_zero, List.set_cons_succ]
          refine wpAnyH_ready (rs := [5]) (by kernel_rfl) (by simp) ?_
          refine AllReadyH.cons rfl (fun K hK => ?_) AllReadyH.nil
          go_simp
          go_at_call 30
          refine (HIn.out _ (s27_h1 hS).rg).mono ?_
          rintro e w2 ⟨rfl, hbel⟩
          have hn := HK.out _ (H1.later (s27_h1 hS) hbel)
          refine hK.out _ _ (hn) (fun hS => ?_)
          clear hK K
          try simp only [List.getElem_toArray, List.getElem_cons_succ, List.getElem_cons_zero, Act.put, List.setIfInBounds_toArray, List.set_cons_zero, List.set_cons_succ]
          refine wpAnyH_take (i := 6) (v := (.bool false)) rfl (by kernel_rfl) (by kernel_rfl) (by kernel_rfl) (fun _ _ _ h => h) (Or.inl ⟨by kernel_rfl, by intro w' hSw; obtain ⟨s0, s1, s2, s3, s4, s5, s6, s7, _⟩ := hSw; go_simp⟩) hS ?_
          try simp only [List.getElem_toArray, List.getElem_cons_succ, List.getElem_cons_zero, Act.put, List.setIfInBounds_toArray, List.set_cons_zero, List.set_cons_succ]
          refine wpAnyH_take (i := 7) (v := (.bool false)) rfl (by kernel_rfl) (by kernel_rfl) (by kernel_rfl) (fun _ _ _ h => h) (Or.inl ⟨by kernel_rfl, by intro w' hSw; obtain ⟨s0, s1, s2, s3, s4, s5, s6, s7, _⟩ := hSw; go_simp⟩) hS ?_
          try simp only [List.getElem_toArray, List.getElem_cons_succ, List.getElem_cons_zero, Act.put, List.setIfInBounds_toArray, List.set_cons_zero, List.set_cons_succ]
          refine wpAnyH_take (i := 8) (v := (.bool false)) rfl (by kernel_rfl) (by kernel_rfl) (by kernel_rfl) (fun _ _ _ h => h) (Or.inl ⟨by kernel_rfl, by intro w' hSw; obtain ⟨s0, s1, s2, s3, s4, s5, s6, s7, _⟩ := hSw; go_simp⟩) hS ?_
          try simp only [List.getElem_toArray, List.getElem_cons_succ, List.getElem_cons_zero, Act.put, List.setIfInBounds_toArray, List.set_cons_zero, List.set_cons_succ]
          refine wpAnyH_take (i := 9) (v := (.bool false)) rfl (by kernel_rfl) (by kernel_rfl) (by kernel_rfl) (fun _ _ _ h => h) (Or.inl ⟨by kernel_rfl, by intro w' hSw; obtain ⟨s0, s1, s2, s3, s4, s5, s6, s7, _⟩ := hSw; go_simp⟩) hS ?_
          try simp only [List.getElem_toArray, List.getElem_cons_succ, List.getElem_cons_zero, Act.put, List.setIfInBounds_toArray, List.set_cons_zero, List.set_cons_succ]
          refine wpAnyH_take (i := 10) (v := (.bool false)) rfl (by kernel_rfl) (by kernel_rfl) (by kernel_rfl) (fun _ _ _ h => h) (Or.inl ⟨by kernel_rfl, by intro w' hSw; obtain ⟨s0, s1, s2, s3, s4, s5, s6, s7, _⟩ := hSw; go_simp⟩) hS ?_
          try simp only [List.getElem_toArray, List.getElem_cons_succ, List.getElem_cons_zero, Act.put, List.setIfInBounds_toArray, List.set_cons_zero, List.set_cons_succ]
          refine wpAnyH_take (i := 11) (v := (.bool false)) rfl (by kernel_rfl) (by kernel_rfl) (by kernel_rfl) (fun _ _ _ h => h) (Or.inl ⟨by kernel_rfl, by intro w' hSw; obtain ⟨s0, s1, s2, s3, s4, s5, s6, s7, _⟩ := hSw; go_simp⟩) hS ?_
          try simp only [List.getElem_toArray, List.getElem_cons_succ, List.getElem_cons_zero, Act.put, List.setIfInBounds_toArray, List.set_cons_zero, List.set_cons_succ]
          refine wpAnyH_take (i := 12) (v := (.int .i64 ((0 : Nat) : Int))) rfl (by kernel_rfl) (by kernel_rfl) (by kernel_rfl) (fun _ _ _ h => h) (Or.inl ⟨by kernel_rfl, by intro w' hSw; obtain ⟨s0, s1, s2, s3, s4, s5, s6, s7, _⟩ := hSw; go_simp⟩) hS ?_
          try simp only [List.getElem_toArray, List.getElem_cons_succ, List.getElem_cons_zero, Act.put, List.setIfInBounds_toArray, List.set_cons_zero, List.set_cons_succ]
          refine wpAnyH_take (i := 13) (v := (.bool false)) rfl (by kernel_rfl) (by kernel_rfl) (by kernel_rfl) (fun _ _ _ h => h) (Or.inl ⟨by kernel_rfl, by intro w' hSw; obtain ⟨s0, s1, s2, s3, s4, s5, s6, s7, _⟩ := hSw; go_simp⟩) hS ?_
          try simp only [List.getElem_toArray, List.getElem_cons_succ, List.getElem_cons_zero, Act.put, List.setIfInBounds_toArray, List.set_cons_zero, List.set_cons_succ]
          refine wpAnyH_take (i := 14) (v := (.bool false)) rfl (by kernel_rfl) (by kernel_rfl) (by kernel_rfl) (fun _ _ _ h => h) (Or.inl ⟨by kernel_rfl, by intro w' hSw; obtain ⟨s0, s1, s2, s3, s4, s5, s6, s7, _⟩ := hSw; go_simp⟩) hS ?_
          try simp only [List.getElem_toArray, List.getElem_cons_succ, List.getElem_cons_zero, Act.put, List.setIfInBounds_toArray, List.set_cons_zero, List.set_cons_succ]
          refine wpAnyH_take (i := 15) (v := undef) rfl (by kernel_rfl) (by kernel_rfl) (by kernel_rfl) (fun _ _ _ h => h) (Or.inr ⟨by kernel_rfl, rfl⟩) hS ?_
          try simp only [List.getElem_toArray, List.getElem_cons_succ, List.getElem_cons_zero, Act.put, List.setIfInBounds_toArray, List.set_cons_zero, List.set_cons_succ]
          refine wpAnyH_take (i := 16) (v := undef) rfl (by kernel_rfl) (by kernel_rfl) (by kernel_rfl) (fun _ _ _ h => h) (Or.inr ⟨by kernel_rfl, rfl⟩) hS ?_
          try simp only [List.getElem_toArray, List.getElem_cons_succ, List.getElem_cons_zero, Act.put, List.setIfInBounds_toArray, List.set_cons_zero, List.set_cons_succ]
          refine wpAnyH_take (i := 17) (v := undef) rfl (by kernel_rfl) (by kernel_rfl) (by kernel_rfl) (fun _ _ _ h => h) (Or.inr ⟨by kernel_rfl, rfl⟩) hS ?_
          try simp only [List.getElem_toArray, List.getElem_cons_succ, List.getElem_cons_zero, Act.put, List.setIfInBounds_toArray, List.set_cons_zero, List.set_cons_succ]
          refine wpAnyH_take (i := 18) (v := undef) rfl (by kernel_rfl) (by kernel_rfl) (by kernel_rfl) (fun _ _ _ h => h) (Or.inr ⟨by kernel_rfl, rfl⟩) hS ?_
          try simp only [List.getElem_toArray, List.getElem_cons_succ, List.getElem_cons_zero, Act.put, List.setIfInBounds_toArray, List.set_cons_zero, List.set_cons_succ]
          refine wpAnyH_take (i := 19) (v := undef) rfl (by kernel_rfl) (by kernel_rfl) (by kernel_rfl) (fun _ _ _ h => h) (Or.inr ⟨by kernel_rfl, rfl⟩) hS ?_
          try simp only [List.getElem_toArray, List.getElem_cons_succ, List.getElem_cons_zero, Act.put, List.setIfInBounds_toArray, List.set_cons_zero, List.set_cons_succ]
          refine wpAnyH_take (i := 20) (v := undef) rfl (by kernel_rfl) (by kernel_rfl) (by kernel_rfl) (fun _ _ _ h => h) (Or.inr ⟨by kernel_rfl, rfl⟩) hS ?_
          try simp only [List.getElem_toArray, List.getElem_cons_succ, List.getElem_cons_zero, Act.put, List.setIfInBounds_toArray, List.set_cons_zero, List.set_cons_succ]
          refine wpAnyH_take (i := 21) (v := undef) rfl (by kernel_rfl) (by kernel_rfl) (by kernel_rfl) (fun _ _ _ h => h) (Or.inr ⟨by kernel_rfl, rfl⟩) hS ?_
          try simp only [List.getElem_toArray, List.getElem_cons_succ, List.getElem_cons_zero, Act.put, List.setIfInBounds_toArray, List.set_cons_zero, List.set_cons_succ]
          refine wpAnyH_take (i := 22) (v := undef) rfl (by kernel_rfl) (by kernel_rfl) (by kernel_rfl) (fun _ _ _ h => h) (Or.inr ⟨by kernel_rfl, rfl⟩) hS ?_
          try simp only [List.getElem_toArray, List.getElem_cons_succ, List.getElem_cons_zero, Act.put, List.setIfInBounds_toArray, List.set_cons_zero, List.set_cons_succ]
          refine wpAnyH_take (i := 23) (v := (.bool false)) rfl (by kernel_rfl) (by kernel_rfl) (by kernel_rfl) (fun _ _ _ h => h) (Or.inl ⟨by kernel_rfl, by intro w' hSw; obtain ⟨s0, s1, s2, s3, s4, s5, s6, s7, _⟩ := hSw; go_simp⟩) hS ?_
          try simp only [List.getElem_toArray, List.getElem_cons_succ, List.getElem_cons_zero, Act.put, List.setIfInBounds_toArray, List.set_cons_zero, List.set_cons_succ]
          refine wpAnyH_take (i := 24) (v := (.bool false)) rfl (by kernel_rfl) (by kernel_rfl) (by kernel_rfl) (fun _ _ _ h => h) (Or.inl ⟨by kernel_rfl, by intro w' hSw; obtain ⟨s0, s1, s2, s3, s4, s5, s6, s7, _⟩ := hSw; go_simp⟩) hS ?_
          try simp only [List.getElem_toArray, List.getElem_cons_succ, List.getElem_cons_zero, Act.put, List.setIfInBounds_toArray, List.set_cons_zero, List.set_cons_succ]
          refine wpAnyH_done (by kernel_rfl) ?_ _
          clear hS
          have T6 := Lib.hid (T5.out.later (s27_h1 hn).bel)
          have hlI : (ins r L).length ≤ 200 := by omega
          have hltk := HLT.out
          clear hn hH HK HIn T5
          go_wp2
          go_roundw
          case rel => exact ⟨0 + 1, by go_num, by omega, T6⟩
          case measure => simp [intOf]; omega
      · obtain rfl : k = (ins r L).length := by omega
        go_wp2_with fail
        refine T3.out.k.all.mono ?_
        rintro e W5 ⟨v5, rfl, hF5, hb5, _⟩
        obtain ⟨a5, c5, e5⟩ := hF5.form
        rw [List.length_map] at e5
        subst e5
        have T5 := Lib.hid (T3.out.later hb5)
        have A5 := Lib.hid hF5.fs
        have ho2 : (outs r L).length ≤ 200 := by omega
        clear hF5 hb5 T3 hlt hkl
        go_wp2
        go_loopw [135] (fun s135 wr => ∃ k : Nat, s135 = .int .i64 k ∧ k ≤ (outs r L).length ∧ Hid (Tk w mb (outs r L) M (.slice a1 (ins r L).length c1) (effs (ins r L)) (W1.heap.size + 1) r wr) ∧ Hid (Fs wr (.slice a5 (outs r L).length c5) (effs (outs r L)))) (fun s135 _ => (outs r L).length - (intOf s135).toNat)
        case atStart => exact ⟨0, rfl, Nat.zero_le _, T5, A5⟩
        case round =>
          obtain ⟨k, rfl, hkl, T6, A6⟩ := hrel
          clear T5 A5
          by_cases hlt : k < (outs r L).length
          · obtain ⟨z, hz⟩ : ∃ z, (outs r L)[k]? = some z := ⟨_, List.getElem?_eq_getElem hlt⟩
            have hzO := List.mem_of_getElem? hz
            obtain ⟨m, hgp, hzm, hmok, hzok, hwf⟩ := HP.out.mem z (outs_mem.1 hzO).1
            obtain ⟨g, off, rfl, c0, c1', c2⟩ := fs_at A6.out (effs_at hz)
            have hal := alloc_b wr (.cells #[.int .i64 z.ef.s, .int .i64 z.ef.t, .int .i64 z.ef.p] TE)
            have hlk := mp_look (T6.out.later hal).mp z.ef hwf
            rw [hgp] at hlk
            have hbx := heap_alloc_new wr (.cells #[.int .i64 z.ef.s, .int .i64 z.ef.t, .int .i64 z.ef.p] TE)
            have hal2 := hal.trans ((alloc_b _ (.cells #[.int .u8 m.s, .int .u8 m.p, .int .u8 m.k, .int .i32 m.n, .int .u8 m.e] TMm)).mono hal.size)
            have T7 := Lib.hid (T6.out.later hal2)
            have A7 := Lib.hid (A6.out.later hal2)
            have hbx2 : ((wr.alloc (.cells #[.int .i64 z.ef.s, .int .i64 z.ef.t, .int .i64 z.ef.p] TE)).alloc (.cells #[.int .u8 m.s, .int .u8 m.p, .int .u8 m.k, .int .i32 m.n, .int .u8 m.e] TMm)).heap[wr.heap.size]? = some (eBx z.ef) := by
              rw [Below.heap_alloc _ _ _ (by simp)]
              exact hbx
            have hbm := heap_alloc_new (wr.alloc (.cells #[.int .i64 z.ef.s, .int .i64 z.ef.t, .int .i64 z.ef.p] TE)) (.cells #[.int .u8 m.s, .int .u8 m.p, .int .u8 m.k, .int .i32 m.n, .int .u8 m.e] TMm)
            rw [World.size_alloc] at hbm
            have hH : H2 wr.heap.size z m (W1.heap.size + 1) r ((wr.alloc (.cells #[.int .i64 z.ef.s, .int .i64 z.ef.t, .int .i64 z.ef.p] TE)).alloc (.cells #[.int .u8 m.s, .int .u8 m.p, .int .u8 m.k, .int .i32 m.n, .int .u8 m.e] TMm)) := H2.mk hbx2 hbm T7.out.rg
            obtain ⟨p0, p1, p2, p3, p4⟩ := hH.mc
            replace hH := Lib.hid hH
            have HG := Lib.hid (fun W (h : Tk w mb (outs r L) M (.slice a1 (ins r L).length c1) (effs (ins r L)) (W1.heap.size + 1) r W) => h.k.get z.ef)
            have HKy := Lib.hid (fun W (h : Tk w mb (outs r L) M (.slice a1 (ins r L).length c1) (effs (ins r L)) (W1.heap.size + 1) r W) => h.k.key z.ef)
            have hoz : orZ (outs r L) z.ef = z := by unfold orZ; rw [outs_some HP.out.srt hzO]; rfl
            have hhb : hasB (outs r L) z.ef = true := by unfold hasB; rw [outs_some HP.out.srt hzO]; rfl
            rw [hoz, hhb] at HG HKy
            have HIn : Hid (∀ W, W.heap[W1.heap.size + 1]? = some (rgBx r) → Calls Try.prog 30 #[mmA m, .pointer (some ⟨W1.heap.size + 1, 0, none⟩)] W fun e w' => e = .returned (.bool false) ∧ Below W.heap.size W w') := Lib.hid fun W hW => by
              have h := in_any m hmok r (W1.heap.size + 1) W hW
              rw [hzm, ← in_has r z.ky HR.out hzok.2.1, (outs_mem.1 hzO).2] at h
              exact h
            have HOf : Hid (∀ W, Calls Try.prog 26 #[mmA m] W fun e w' => e = .returned (.tuple #[efA z.ef, .string (tx z.ky), rpA z]) ∧ Below W.heap.size W w') := Lib.hid fun W => by
              have h := of_any m hmok W
              unfold Ofd at h
              rw [hzm] at h
              exact h
            have hq := eq_rp z
            have hq2 : ((tx z.ky).toList == (tx z.ky).toList) = true := by simp
            have hk1 : IntKind.i64.wrap ((k : Int) + 1) = (k : Int) + 1 := by rw [IntKind.wrap_i64]; omega
            clear hbx hbx2 hbm hal hal2 hgp hzm hmok hzok hwf hzO hz hoz hhb T6 A6
            go_wp2_with fail
            clear c0 c1' c2 hlk p0 p1 p2 p3 p4
            refine (HOf.out _).mono ?_
            rintro e V2 ⟨rfl, hb2⟩
            have hb3 := (alloc_b V2 (.cells #[.int .i64 z.ef.s, .int .i64 z.ef.t, .int .i64 z.ef.p] TE))
            have hb4 := hb2.trans ((hb3.trans ((alloc_b (V2.alloc (.cells #[.int .i64 z.ef.s, .int .i64 z.ef.t, .int .i64 z.ef.p] TE)) (.cells #[.int .i64 z.er, .int .i64 z.nm, .string (tx z.da)] TRp)).mono hb3.size)).mono hb2.size)
            have R4 : Rb ((V2.alloc (.cells #[.int .i64 z.ef.s, .int .i64 z.ef.t, .int .i64 z.ef.p] TE)).alloc (.cells #[.int .i64 z.er, .int .i64 z.nm, .string (tx z.da)] TRp)) (V2.heap.size + 1) z := by have h := heap_alloc_new (V2.alloc (.cells #[.int .i64 z.ef.s, .int .i64 z.ef.t, .int .i64 z.ef.p] TE)) (.cells #[.int .i64 z.er, .int .i64 z.nm, .string (tx z.da)] TRp); rw [World.size_alloc] at h; exact h
            have T8 := Lib.hid (T7.out.later hb4)
            have A8 := Lib.hid (A7.out.later hb4)
            have hH8 := hH.out.later hb4
            obtain ⟨d0, d1, d2⟩ := hH8.ec
            replace hH8 := Lib.hid hH8
            replace R4 := Lib.hid R4
            clear hb2 hb3 hb4 T7 A7 hH
            go_wp2_with fail
            clear d0 d1 d2
            generalize (V2.alloc (.cells #[.int .i64 z.ef.s, .int .i64 z.ef.t, .int .i64 z.ef.p] TE)).alloc (.cells #[.int .i64 z.er, .int .i64 z.nm, .string (tx z.da)] TRp) = V3 at *
            generalize V2.heap.size = p27 at *
            refine (HG.out _ T8.out).mono ?_
            rintro e V4 ⟨rfl, hb5, _⟩
            have hb6 := hb5.trans ((alloc_b V4 (.cells #[.int .i64 z.er, .int .i64 z.nm, .string (tx z.da)] TRp)).mono hb5.size)
            have T9 := Lib.hid (T8.out.later hb6)
            have A9 := Lib.hid (A8.out.later hb6)
            have hH9 := hH8.out.later hb6
            have R9 := Lib.hid (R4.out.later hb6)
            have Q9 : Rb (V4.alloc (.cells #[.int .i64 z.er, .int .i64 z.nm, .string (tx z.da)] TRp)) V4.heap.size z := heap_alloc_new V4 (.cells #[.int .i64 z.er, .int .i64 z.nm, .string (tx z.da)] TRp)
            obtain ⟨d0, d1, d2⟩ := hH9.ec
            replace hH9 := Lib.hid hH9
            replace Q9 := Lib.hid Q9
            clear hb5 hb6 T8 A8 hH8 R4
            go_wp2_with fail
            clear d0 d1 d2
            generalize V4.alloc (.cells #[.int .i64 z.er, .int .i64 z.nm, .string (tx z.da)] TRp) = V5 at *
            generalize V4.heap.size = p28 at *
            refine (HKy.out _ T9.out).mono ?_
            rintro e V6 ⟨rfl, hb7, _⟩
            have T10 := Lib.hid (T9.out.later hb7)
            have A10 := Lib.hid (A9.out.later hb7)
            have hH10 := hH9.out.later hb7
            have R10 := Lib.hid (R9.out.later hb7)
            have Q10 := Lib.hid (Q9.out.later hb7)
            obtain ⟨p0, p1, p2, p3, p4⟩ := hH10.mc
            clear hb7 T9 A9 hH9 R9 Q9
            go_wp2_with fail
            clear p0 p1 p2 p3 p4
            refine (HIn.out _ hH10.rg).mono ?_
            rintro e V7 ⟨rfl, hb8⟩
            have T11 := Lib.hid (T10.out.later hb8)
            have A11 := Lib.hid (A10.out.later hb8)
            obtain ⟨r0, r1, r2⟩ := (R10.out.later hb8).cells
            obtain ⟨t0, t1, t2⟩ := (Q10.out.later hb8).cells
            clear hb8 T10 A10 hH10 R10 Q10 HG HKy HIn HOf
            go_wp2
            go_roundw
            case rel => exact ⟨k + 1, by go_num, by omega, T11, A11⟩
            case measure => simp [intOf]; omega
          · obtain rfl : k = (outs r L).length := by omega
            have hne := F1.out.ne
            clear A6 hlt hkl
            rcases Nat.eq_zero_or_pos (ins r L).length with hn0 | hn0
            · generalize hnn : (ins r L).length = n at *
              subst hn0
              go_wp2_with fail
              refine (HW.out _).mono ?_
              rintro e V ⟨rfl, hbV⟩
              go_wp2
              go_ret
              exact ⟨rfl, T6.out.k.bel.trans (hbV.mono T6.out.k.bel.size)⟩
            · obtain ⟨z, hz⟩ : ∃ z, (ins r L)[0]? = some z := ⟨_, List.getElem?_eq_getElem hn0⟩
              have hzI := List.mem_of_getElem? hz
              obtain ⟨m, hgp, hzm, hmok, hzok, hwf⟩ := HP.out.mem z (ins_mem.1 hzI).1
              obtain ⟨g, off, rfl, c0, c1', c2⟩ := fs_at T6.out.a (effs_at hz)
              simp only [Nat.zero_mul, Nat.add_zero] at c0 c1' c2
              have hlk := mp_look1 T6.out.mp z.ef hwf
              rw [hgp, Option.getD_some] at hlk
              have hgn : Hid (getL (outs r L) z.ef = none) := Lib.hid (outs_none HP.out.srt hzI)
              have HOf : Hid (∀ W, Calls Try.prog 26 #[mmA m] W fun e w' => e = .returned (.tuple #[efA z.ef, .string (tx z.ky), rpA z]) ∧ Below W.heap.size W w') := Lib.hid fun W => by
                have h := of_any m hmok W
                unfold Ofd at h
                rw [hzm] at h
                exact h
              have hzok2 := Lib.hid hzok
              obtain ⟨o, ho⟩ : ∃ o, (outs r L).length = o := ⟨_, rfl⟩
              obtain ⟨n, hnn⟩ : ∃ n, (ins r L).length = n := ⟨_, rfl⟩
              obtain ⟨u, huu⟩ : ∃ u, M.length = u := ⟨_, rfl⟩
              have hsum : n + o = u := by have := HP.out.len; omega
              rw [hnn] at T6 hn0 ⊢
              rw [ho] at ho2
              obtain ⟨Q, hQ⟩ : ∃ Q : Int, 200 - ((o + 1 : Nat) : Int) = Q := ⟨_, rfl⟩
              have hlo : o < 200 := by omega
              have g1 : ((n : Int) == 0) = false := by simp; omega
              have g2 : (n == 0) = false := by simp; omega
              have g3 : ((n : Int) = 0) = False := by simp; omega
              have g4 : (n = 0) = False := by simp; omega
              have g5 : (0 : Int) < (n : Int) := by omega
              have g6 : 0 < n := hn0
              have w1 : IntKind.i64.wrap (200 - (u : Int)) = 200 - (u : Int) := by rw [IntKind.wrap_i64]; omega
              have w2 : IntKind.i64.wrap (200 - (u : Int) + (n : Int)) = 200 - (u : Int) + (n : Int) := by rw [IntKind.wrap_i64]; omega
              have w3 : IntKind.i64.wrap (200 - (u : Int) + (n : Int) - 1) = Q := by rw [IntKind.wrap_i64]; omega
              have hmb : Hid (∀ W, MpIs W mb M → ∀ ty : TypeId, (Builtin.len_ #[TMp] ty #[.map (some mb)]).run Try.prog W = .ok (.int .i64 u) W) := Lib.hid fun W h ty => by rw [← huu]; exact mp_len h ty
              have hrm : Hid (∀ W, Wk w.heap.size w w.heap.size 200 (insL (outs r L) z) W → Calls Try.prog 31 #[.pointer (some ⟨w.heap.size, 0, none⟩)] W fun e W' => e = .returned (.int .i64 Q) ∧ Below W.heap.size W W' ∧ Wk w.heap.size w w.heap.size 200 (insL (outs r L) z) W') := Lib.hid fun W h => by
                have h2 := h.room
                rw [insL_len, ho, hQ] at h2
                exact h2
              have hqq : (Q == Q) = true := by simp
              have hli : Hid (((outs r L).length : Int) < 200) := Lib.hid (by omega)
              replace hQ := Lib.hid hQ
              replace hnn := Lib.hid hnn
              replace ho := Lib.hid ho
              replace huu := Lib.hid huu
              clear hgp hzm hmok hzok hwf hzI hz hsum hn0
              go_wp2_with fail
              clear c0 c1' c2 hlk
              refine (HOf.out _).mono ?_
              rintro e V2 ⟨rfl, hb2⟩
              have hb3 := (alloc_b V2 (.cells #[.int .i64 z.ef.s, .int .i64 z.ef.t, .int .i64 z.ef.p] TE))
              have hb4 := hb2.trans ((hb3.trans ((alloc_b (V2.alloc (.cells #[.int .i64 z.ef.s, .int .i64 z.ef.t, .int .i64 z.ef.p] TE)) (.cells #[.int .i64 z.er, .int .i64 z.nm, .string (tx z.da)] TRp)).mono hb3.size)).mono hb2.size)
              have R4 : Rb ((V2.alloc (.cells #[.int .i64 z.ef.s, .int .i64 z.ef.t, .int .i64 z.ef.p] TE)).alloc (.cells #[.int .i64 z.er, .int .i64 z.nm, .string (tx z.da)] TRp)) (V2.heap.size + 1) z := by have h := heap_alloc_new (V2.alloc (.cells #[.int .i64 z.ef.s, .int .i64 z.ef.t, .int .i64 z.ef.p] TE)) (.cells #[.int .i64 z.er, .int .i64 z.nm, .string (tx z.da)] TRp); rw [World.size_alloc] at h; exact h
              have E4 : ((V2.alloc (.cells #[.int .i64 z.ef.s, .int .i64 z.ef.t, .int .i64 z.ef.p] TE)).alloc (.cells #[.int .i64 z.er, .int .i64 z.nm, .string (tx z.da)] TRp)).heap[V2.heap.size]? = some (eBx z.ef) := by
                rw [Below.heap_alloc _ _ _ (by simp)]
                exact heap_alloc_new V2 (.cells #[.int .i64 z.ef.s, .int .i64 z.ef.t, .int .i64 z.ef.p] TE)
              have T8 := T6.out.later hb4
              have hlw : w.heap.size < V2.heap.size := Nat.lt_of_lt_of_le T6.out.k.lt hb2.size
              have x0 := cell_of_row _ _ 0 _ TRg _ T8.rg
              have x1 := cell_of_row _ _ 1 _ TRg _ T8.rg
              have HT := Lib.hid (T8.k.take r HR.out)
              replace T8 := Lib.hid T8
              clear hb2 hb3 hb4 T6 HOf
              go_wp2_with fail
              clear x0 x1
              refine HT.out.mono ?_
              rintro e V4 ⟨v4, rfl, hF4, hk4, hbut⟩
              rw [ins_outs] at hF4
              rw [outs_outs] at hk4
              obtain ⟨a4, c4, e4⟩ := hF4.form
              replace e4 : v4 = .slice a4 0 c4 := e4
              subst e4
              have M4 := T8.out.mp.kept (hbut.block _ T8.out.mp.lt hne (fun e => by cases e))
              have E5 := (hbut.block _ (Array.getElem?_eq_some_iff.1 E4).1 (by omega) (fun e => by cases e)).trans E4
              have R5 : Rb V4 (V2.heap.size + 1) z := (hbut.block _ (Array.getElem?_eq_some_iff.1 R4).1 (by omega) (fun e => by cases e)).trans R4
              obtain ⟨r0, r1, r2⟩ := R5.cells
              have d0 := cell_of_row _ _ 0 _ TE _ E5
              have d1 := cell_of_row _ _ 1 _ TE _ E5
              have d2 := cell_of_row _ _ 2 _ TE _ E5
              have HPt := Lib.hid (hk4.put z hzok2.out hgn.out hli.out)
              replace M4 := Lib.hid M4
              clear hF4 hk4 hbut E4 E5 R4 R5 T8 HT
              go_wp2_with fail
              clear r0 r1 r2 d0 d1 d2
              refine HPt.out.mono ?_
              rintro e V5 ⟨rfl, hk5, hfr⟩
              have M5 : MpIs V5 mb M := by
                obtain ⟨⟨es, clk, hm, _⟩, _⟩ := id M4.out
                exact M4.out.kept ((hfr mb _ hm hne (fun cur e => by cases e)).trans hm.symm)
              have HRm := Lib.hid (hrm.out _ hk5)
              clear hk5 hfr HPt M4
              go_wp2_with fail
              refine HRm.out.mono ?_
              rintro e V6 ⟨rfl, hb6, hk6⟩
              have hln := hmb.out _ (M5.later hb6)
              have HE := Lib.hid (fun V7 (hb7 : Below V6.heap.size V6 V7) => hk6.bel.trans (hb7.mono hk6.bel.size))
              clear hb6 hk6 M5 HRm
              go_wp2_with fail
              refine (HW.out _).mono ?_
              rintro e V7 ⟨rfl, hb7⟩
              go_wp2
              go_ret
              exact ⟨rfl, HE.out _ hb7⟩
  · have hg : ¬ ((x.toNat : Int) < 97 + max c d % 26) := by rw [HY.out]; omega
    have hgd := decide_eq_false hg
    have hb0 : (ByteArray.mk #[x])[0]'(Nat.zero_lt_one) = x := rfl
    go_enter Try.func6, Try.ntmps6
    go_wp2_with fail
    refine HFi.out.mono ?_
    rintro r W1 ⟨L, M, mb, rfl, F0⟩
    have cv1 := conv_one W1 x _ HX.out
    have F1 := Lib.hid F0
    clear F0 HFi
    have HP := Lib.hid F1.out.pl
    have HT := Lib.hid (take_tk (V := (W1.alloc (.cells #[.int .u8 (97 + min c d % 26)] 5)).alloc (.cells #[.string ⟨#[x]⟩, .string ⟨#[]⟩] TRg)) (q := W1.heap.size + 1) (r := ⟨[x], []⟩) (F1.out.later ((alloc_b W1 _).alloc (by simp) _)) hR1.out
      (by have h := heap_alloc_new (W1.alloc (.cells #[.int .u8 (97 + min c d % 26)] 5)) (.cells #[.string ⟨#[x]⟩, .string ⟨#[]⟩] TRg); rw [World.size_alloc] at h; exact h)
      (by have := F1.out.k.lt; omega))
    go_wp2_with fail
    refine HT.out.mono ?_
    rintro e W3 ⟨a1, c1, rfl, T0⟩
    have HR0 := hR1
    generalize hr : Rng.Rg.mk [x] [] = r at T0 HR0 ⊢
    have HR := HR0
    have T1 := Lib.hid T0
    have hl1 := ins_outs_len r L
    have hl2 := HP.out.len
    have hl3 : (L.length : Int) ≤ 200 := by obtain ⟨v, hd⟩ := F1.out.k.ex; exact hd.len
    have hl4 : IntKind.i64.wrap (((ins r L).length : Int) + ((outs r L).length : Int)) = (M.length : Int) := by rw [IntKind.wrap_i64]; omega
    clear T0 HT hr cv1 hg hgd hb0 hlt hl2
    go_wp2_with fail
    refine T1.out.k.len.mono ?_
    rintro e W4 ⟨rfl, hb, _⟩
    have T2 := Lib.hid (T1.out.later hb)
    have hln := mp_len T2.out.mp
    clear hb T1
    go_wp2
    clear hln
    clear hl4
    go_loopw [89] (fun s89 wr => ∃ k : Nat, s89 = .int .i64 k ∧ k ≤ (ins r L).length ∧ Hid (Tk w mb (outs r L) M (.slice a1 (ins r L).length c1) (effs (ins r L)) (W1.heap.size + 1) r wr)) (fun s89 _ => (ins r L).length - (intOf s89).toNat)
    case atStart => exact ⟨0, rfl, Nat.zero_le _, T2⟩
    case round =>
      obtain ⟨k, rfl, hkl, T3⟩ := hrel
      clear T2
      by_cases hlt : k < (ins r L).length
      · obtain ⟨z, hz⟩ : ∃ z, (ins r L)[k]? = some z := ⟨_, List.getElem?_eq_getElem hlt⟩
        have hzI := List.mem_of_getElem? hz
        obtain ⟨m, hgp, hzm, hmok, hzok, hwf⟩ := HP.out.mem z (ins_mem.1 hzI).1
        obtain ⟨g, off, rfl, c0, c1', c2⟩ := fs_at T3.out.a (effs_at hz)
        have hal := alloc_b wr (.cells #[.int .i64 z.ef.s, .int .i64 z.ef.t, .int .i64 z.ef.p] TE)
        have hlk := mp_look (T3.out.later hal).mp z.ef hwf
        rw [hgp] at hlk
        have hbx := heap_alloc_new wr (.cells #[.int .i64 z.ef.s, .int .i64 z.ef.t, .int .i64 z.ef.p] TE)
        have hal2 := hal.trans ((alloc_b _ (.cells #[.int .u8 m.s, .int .u8 m.p, .int .u8 m.k, .int .i32 m.n, .int .u8 m.e] TMm)).mono hal.size)
        have T4 := Lib.hid (T3.out.later hal2)
        have hbx2 : ((wr.alloc (.cells #[.int .i64 z.ef.s, .int .i64 z.ef.t, .int .i64 z.ef.p] TE)).alloc (.cells #[.int .u8 m.s, .int .u8 m.p, .int .u8 m.k, .int .i32 m.n, .int .u8 m.e] TMm)).heap[wr.heap.size]? = some (eBx z.ef) := by
          rw [Below.heap_alloc _ _ _ (by simp)]
          exact hbx
        have hbm := heap_alloc_new (wr.alloc (.cells #[.int .i64 z.ef.s, .int .i64 z.ef.t, .int .i64 z.ef.p] TE)) (.cells #[.int .u8 m.s, .int .u8 m.p, .int .u8 m.k, .int .i32 m.n, .int .u8 m.e] TMm)
        rw [World.size_alloc] at hbm
        obtain ⟨y', hy⟩ : ∃ y, (ins r L)[k - 1]? = some y := ⟨_, List.getElem?_eq_getElem (by omega)⟩
        obtain ⟨g', off', e', y0, y1, y2⟩ := fs_at T4.out.a (effs_at hy)
        injection e' with e'
        injection e' with e1 e2
        subst e1 e2
        have hH := Lib.hid (H1.mk hbx2 hbm ⟨y0, y1, y2⟩ T4.out.rg (Below.refl _ _))
        have HG := Lib.hid (fun W (h : Tk w mb (outs r L) M (.slice (some ⟨g, off, none⟩) (ins r L).length c1) (effs (ins r L)) (W1.heap.size + 1) r W) => h.k.get z.ef)
        have hoz : orZ (outs r L) z.ef = zEn := by unfold orZ; rw [outs_none HP.out.srt hzI]; rfl
        have hhb : hasB (outs r L) z.ef = false := by unfold hasB; rw [outs_none HP.out.srt hzI]; rfl
        rw [hoz, hhb] at HG
        have HIn : Hid (∀ W, W.heap[W1.heap.size + 1]? = some (rgBx r) → Calls Try.prog 30 #[mmA m, .pointer (some ⟨W1.heap.size + 1, 0, none⟩)] W fun e w' => e = .returned (.bool true) ∧ Below W.heap.size W w') := Lib.hid fun W hW => by
          have h := in_any m hmok r (W1.heap.size + 1) W hW
          rw [hzm, ← in_has r z.ky HR.out hzok.2.1, (ins_mem.1 hzI).2] at h
          exact h
        have HZ := Lib.hid hz
        have HYk := Lib.hid hy
        have HLT := Lib.hid hlt
        clear hbx hbx2 hbm hal hal2 hgp hzm hmok hzok hwf hzI hz hy y0 y1 y2 hoz hhb T3
        go_wp2_with fail
        clear c0 c1' c2 hlk
        refine (HG.out _ T4.out).mono ?_
        rintro e V1 ⟨rfl, hb, _⟩
        have hb2 := hb.trans ((alloc_b V1 (.cells #[.int .i64 0, .int .i64 0, .string (tx [])] TRp)).mono hb.size)
        have T5 := Lib.hid (T4.out.later hb2)
        have H5 := Lib.hid (hH.out.later hb2)
        clear hb hb2 T4 hH
        go_wp2
        generalize hV2 : V1.alloc (.cells #[.int .i64 0, .int .i64 0, .string (tx [])] TRp) = V2 at T5 H5 ⊢
        clear hV2
        have hH := Lib.hid (H1.mk H5.out.bx H5.out.mx H5.out.pr H5.out.rg (Below.refl _ _) : H1 V2 wr.heap.size z.ef m g off (k - 1) y'.ef (W1.heap.size + 1) r V2)
        have HK := Lib.hid (fun (W : World) (h : H1 V2 wr.heap.size z.ef m g off (k - 1) y'.ef (W1.heap.size + 1) r W) => h.s27)
        clear H5
        by_cases hk0 : 0 < k
        · obtain ⟨l, hl⟩ : ∃ l, k = l + 1 := ⟨k - 1, by omega⟩
          have hkl1 : k - 1 = l := by omega
          rw [hkl1] at hH HK HYk
          have hord := srt_ord (ins_srt HP.out.srt) HYk.out (show (ins r L)[l + 1]? = some z by rw [← hl]; exact HZ.out)
          have HOr : Hid (∀ W, Calls Try.prog 25 #[efA y'.ef, efA z.ef] W fun r w' => r = .returned (.int .i64 (-1)) ∧ Below W.heap.size W w') := Lib.hid fun W => by
            have h := Eff.order_any y'.ef.s y'.ef.t y'.ef.p z.ef.s z.ef.t z.ef.p W
            rwa [show Eff.ordV y'.ef.s y'.ef.t y'.ef.p z.ef.s z.ef.t z.ef.p = -1 from (ord_val y'.ef z.ef).trans (if_pos (ord_neg.1 hord))] at h
          have hd : decide (0 < (k : Int)) = true := decide_eq_true (by omega)
          have hd2 : decide (0 < k) = true := decide_eq_true hk0
          have hd3 : (0 < k) = True := eq_true hk0
          have hj0 : (0 : Int) ≤ (l : Int) := by omega
          have hj1 : (l : Int) < ((ins r L).length : Int) := by omega
          have hjl : l < (ins r L).length := by omega
          have hw1 : IntKind.i64.wrap ((k : Int) - 1) = (l : Int) := by rw [IntKind.wrap_i64]; omega
          clear hord hl hkl1 hk0
          go_region_held3 (S27 V2 wr.heap.size z.ef m g off l y'.ef (W1.heap.size + 1) r) (first | exact HK.out _ (hH.out.later (Below.refl _ _).drew) | exact HK.out _ (by assumption) | assumption)
            (first
              | (go_at_call 25; refine (HOr.out _).mono ?_; rintro e w2 ⟨rfl, hbel⟩; have hn := HK.out _ (H1.later (s27_h1 (by assumption)) hbel); clear hbel)
              | (go_at_call 30; refine (HIn.out _ (s27_h1 (by assumption)).rg).mono ?_; rintro e w2 ⟨rfl, hbel⟩; have hn := HK.out _ (H1.later (s27_h1 (by assumption)) hbel); clear hbel))
          rename_i hn0 _
          have T6 := Lib.hid (T5.out.later (s27_h1 hn).bel)
          have hlI : (ins r L).length ≤ 200 := by omega
          have hltk := HLT.out
          clear hd hd2 hd3 hw1 hn hn0 hH HK HOr HIn T5
          go_wp2
          go_roundw
          case rel => exact ⟨k + 1, by go_num, by omega, T6⟩
          case measure => simp [intOf]; omega
        · have hk00 : k = 0 := by omega
          subst hk00
          have hd : decide (0 < ((0 : Nat) : Int)) = false := rfl
          refine wp_region_held_drew (S := (S27 V2 wr.heap.size z.ef m g off (0 - 1) y'.ef (W1.heap.size + 1) r)) (by kernel_rfl) (HK.out _ (hH.out.later (Below.refl _ _).drew)) (fun hS => ?_)
          try simp only [List.getElem_toArray, List.getElem_cons_succ, List.getElem_cons_zero, Act.put, List.setIfInBounds_toArray, List.set_cons_zero, List.set_cons_succ]
          refine wpAnyH_take (i := 0) (v := (.bool true)) rfl (by kernel_rfl) (by kernel_rfl) (by kernel_rfl) (fun _ _ _ h => h) (Or.inl ⟨by kernel_rfl, by intro w' hSw; obtain ⟨s0, s1, s2, s3, s4, s5, s6, s7, _⟩ := hSw; go_simp⟩) hS ?_
          try simp only [List.getElem_toArray, List.getElem_cons_succ, List.getElem_cons_zero, Act.put, List.setIfInBounds_toArray, List.set_cons_zero, List.set_cons_succ]
          refine wpAnyH_take (i := 1) (v := (.bool false)) rfl (by kernel_rfl) (by kernel_rfl) (by kernel_rfl) (fun _ _ _ h => h) (Or.inl ⟨by kernel_rfl, by intro w' hSw; obtain ⟨s0, s1, s2, s3, s4, s5, s6, s7, _⟩ := hSw; go_simp⟩) hS ?_
          try simp only [List.getElem_toArray, List.getElem_cons_succ, List.getElem_cons_zero, Act.put, List.setIfInBounds_toArray, List.set_cons_zero, List.set_cons_succ]
          refine wpAnyH_take (i := 2) (v := (.bool false)) rfl (by kernel_rfl) (by kernel_rfl) (by kernel_rfl) (fun _ _ _ h => h) (Or.inl ⟨by kernel_rfl, by intro w' hSw; obtain ⟨s0, s1, s2, s3, s4, s5, s6, s7, _⟩ := hSw; go_simp⟩) hS ?_
          try simp only [List.getElem_toArray, List.getElem_cons_succ, List.getElem_cons_zero, Act.put, List.setIfInBounds_toArray, List.set_cons_zero, List.set_cons_succ]
          refine wpAnyH_take (i := 3) (v := (.func (.func 30) #[] #[.pointer (some ⟨W1.heap.size + 1, 0, none⟩)])) rfl (by kernel_rfl) (by kernel_rfl) (by kernel_rfl) (fun _ _ _ h => h) (Or.inl ⟨by kernel_rfl, by intro w' hSw; obtain ⟨s0, s1, s2, s3, s4, s5, s6, s7, _⟩ := hSw; go_simp⟩) hS ?_
          try simp only [List.getElem_toArray, List.getElem_cons_succ, List.getElem_cons_zero, Act.put, List.setIfInBounds_toArray, List.set_cons_zero, List.set_cons_succ]
          refine wpAnyH_take (i := 4) (v := (mmA m)) rfl (by kernel_rfl) (by kernel_rfl) (by kernel_rfl) (fun _ _ _ h => h) (Or.inl ⟨by kernel_rfl, by intro w' hSw; obtain ⟨s0, s1, s2, s3, s4, s5, s6, s7, _⟩ := hSw; go_simp⟩) hS ?_
          try simp only [List.getElem_toArray, List.getElem_cons_succ, List.getElem_cons_zero, Act.put, List.setIfInBounds_toArray, List.set_cons_zero, List.set_cons_succ]
          refine wpAnyH_ready (rs := [5]) (by kernel_rfl) (by simp) ?_
          refine AllReadyH.cons rfl (fun K hK => ?_) AllReadyH.nil
          go_simp
          go_at_call 30
          refine (HIn.out _ (s27_h1 hS).rg).mono ?_
          rintro e w2 ⟨rfl, hbel⟩
          have hn := HK.out _ (H1.later (s27_h1 hS) hbel)
          refine hK.out _ _ (hn) (fun hS => ?_)
          clear hK K
          try simp only [List.getElem_toArray, List.getElem_cons_succ, List.getElem_cons_zero, Act.put, List.setIfInBounds_toArray, List.set_cons_zero, List.set_cons_succ]
          refine wpAnyH_take (i := 6) (v := (.bool false)) rfl (by kernel_rfl) (by kernel_rfl) (by kernel_rfl) (fun _ _ _ h => h) (Or.inl ⟨by kernel_rfl, by intro w' hSw; obtain ⟨s0, s1, s2, s3, s4, s5, s6, s7, _⟩ := hSw; go_simp⟩) hS ?_
          try simp only [List.getElem_toArray, List.getElem_cons_succ, List.getElem_cons_zero, Act.put, List.setIfInBounds_toArray, List.set_cons_zero, List.set_cons_succ]
          refine wpAnyH_take (i := 7) (v := (.bool false)) rfl (by kernel_rfl) (by kernel_rfl) (by kernel_rfl) (fun _ _ _ h => h) (Or.inl ⟨by kernel_rfl, by intro w' hSw; obtain ⟨s0, s1, s2, s3, s4, s5, s6, s7, _⟩ := hSw; go_simp⟩) hS ?_
          try simp only [List.getElem_toArray, List.getElem_cons_succ, List.getElem_cons_zero, Act.put, List.setIfInBounds_toArray, List.set_cons_zero, List.set_cons_succ]
          refine wpAnyH_take (i := 8) (v := (.bool false)) rfl (by kernel_rfl) (by kernel_rfl) (by kernel_rfl) (fun _ _ _ h => h) (Or.inl ⟨by kernel_rfl, by intro w' hSw; obtain ⟨s0, s1, s2, s3, s4, s5, s6, s7, _⟩ := hSw; go_simp⟩) hS ?_
          try simp only [List.getElem_toArray, List.getElem_cons_succ, List.getElem_cons_zero, Act.put, List.setIfInBounds_toArray, List.set_cons_zero, List.set_cons_succ]
          refine wpAnyH_take (i := 9) (v := (.bool false)) rfl (by kernel_rfl) (by kernel_rfl) (by kernel_rfl) (fun _ _ _ h => h) (Or.inl ⟨by kernel_rfl, by intro w' hSw; obtain ⟨s0, s1, s2, s3, s4, s5, s6, s7, _⟩ := hSw; go_simp⟩) hS ?_
          try simp only [List.getElem_toArray, List.getElem_cons_succ, List.getElem_cons_zero, Act.put, List.setIfInBounds_toArray, List.set_cons_zero, List.set_cons_succ]
          refine wpAnyH_take (i := 10) (v := (.bool false)) rfl (by kernel_rfl) (by kernel_rfl) (by kernel_rfl) (fun _ _ _ h => h) (Or.inl ⟨by kernel_rfl, by intro w' hSw; obtain ⟨s0, s1, s2, s3, s4, s5, s6, s7, _⟩ := hSw; go_simp⟩) hS ?_
          try simp only [List.getElem_toArray, List.getElem_cons_succ, List.getElem_cons_zero, Act.put, List.setIfInBounds_toArray, List.set_cons_zero, List.set_cons_succ]
          refine wpAnyH_take (i := 11) (v := (.bool false)) rfl (by kernel_rfl) (by kernel_rfl) (by kernel_rfl) (fun _ _ _ h => h) (Or.inl ⟨by kernel_rfl, by intro w' hSw; obtain ⟨s0, s1, s2, s3, s4, s5, s6, s7, _⟩ := hSw; go_simp⟩) hS ?_
          try simp only [List.getElem_toArray, List.getElem_cons_succ, List.getElem_cons_zero, Act.put, List.setIfInBounds_toArray, List.set_cons_zero, List.set_cons_succ]
          refine wpAnyH_take (i := 12) (v := (.int .i64 ((0 : Nat) : Int))) rfl (by kernel_rfl) (by kernel_rfl) (by kernel_rfl) (fun _ _ _ h => h) (Or.inl ⟨by kernel_rfl, by intro w' hSw; obtain ⟨s0, s1, s2, s3, s4, s5, s6, s7, _⟩ := hSw; go_simp⟩) hS ?_
          try simp only [List.getElem_toArray, List.getElem_cons_succ, List.getElem_cons_zero, Act.put, List.setIfInBounds_toArray, List.set_cons_zero, List.set_cons_succ]
          refine wpAnyH_take (i := 13) (v := (.bool false)) rfl (by kernel_rfl) (by kernel_rfl) (by kernel_rfl) (fun _ _ _ h => h) (Or.inl ⟨by kernel_rfl, by intro w' hSw; obtain ⟨s0, s1, s2, s3, s4, s5, s6, s7, _⟩ := hSw; go_simp⟩) hS ?_
          try simp only [List.getElem_toArray, List.getElem_cons_succ, List.getElem_cons_zero, Act.put, List.setIfInBounds_toArray, List.set_cons_zero, List.set_cons_succ]
          refine wpAnyH_take (i := 14) (v := (.bool false)) rfl (by kernel_rfl) (by kernel_rfl) (by kernel_rfl) (fun _ _ _ h => h) (Or.inl ⟨by kernel_rfl, by intro w' hSw; obtain ⟨s0, s1, s2, s3, s4, s5, s6, s7, _⟩ := hSw; go_simp⟩) hS ?_
          try simp only [List.getElem_toArray, List.getElem_cons_succ, List.getElem_cons_zero, Act.put, List.setIfInBounds_toArray, List.set_cons_zero, List.set_cons_succ]
          refine wpAnyH_take (i := 15) (v := undef) rfl (by kernel_rfl) (by kernel_rfl) (by kernel_rfl) (fun _ _ _ h => h) (Or.inr ⟨by kernel_rfl, rfl⟩) hS ?_
          try simp only [List.getElem_toArray, List.getElem_cons_succ, List.getElem_cons_zero, Act.put, List.setIfInBounds_toArray, List.set_cons_zero, List.set_cons_succ]
          refine wpAnyH_take (i := 16) (v := undef) rfl (by kernel_rfl) (by kernel_rfl) (by kernel_rfl) (fun _ _ _ h => h) (Or.inr ⟨by kernel_rfl, rfl⟩) hS ?_
          try simp only [List.getElem_toArray, List.getElem_cons_succ, List.getElem_cons_zero, Act.put, List.setIfInBounds_toArray, List.set_cons_zero, List.set_cons_succ]
          refine wpAnyH_take (i := 17) (v := undef) rfl (by kernel_rfl) (by kernel_rfl) (by kernel_rfl) (fun _ _ _ h => h) (Or.inr ⟨by kernel_rfl, rfl⟩) hS ?_
          try simp only [List.getElem_toArray, List.getElem_cons_succ, List.getElem_cons_zero, Act.put, List.setIfInBounds_toArray, List.set_cons_zero, List.set_cons_succ]
          refine wpAnyH_take (i := 18) (v := undef) rfl (by kernel_rfl) (by kernel_rfl) (by kernel_rfl) (fun _ _ _ h => h) (Or.inr ⟨by kernel_rfl, rfl⟩) hS ?_
          try simp only [List.getElem_toArray, List.getElem_cons_succ, List.getElem_cons_zero, Act.put, List.setIfInBounds_toArray, List.set_cons_zero, List.set_cons_succ]
          refine wpAnyH_take (i := 19) (v := undef) rfl (by kernel_rfl) (by kernel_rfl) (by kernel_rfl) (fun _ _ _ h => h) (Or.inr ⟨by kernel_rfl, rfl⟩) hS ?_
          try simp only [List.getElem_toArray, List.getElem_cons_succ, List.getElem_cons_zero, Act.put, List.setIfInBounds_toArray, List.set_cons_zero, List.set_cons_succ]
          refine wpAnyH_take (i := 20) (v := undef) rfl (by kernel_rfl) (by kernel_rfl) (by kernel_rfl) (fun _ _ _ h => h) (Or.inr ⟨by kernel_rfl, rfl⟩) hS ?_
          try simp only [List.getElem_toArray, List.getElem_cons_succ, List.getElem_cons_zero, Act.put, List.setIfInBounds_toArray, List.set_cons_zero, List.set_cons_succ]
          refine wpAnyH_take (i := 21) (v := undef) rfl (by kernel_rfl) (by kernel_rfl) (by kernel_rfl) (fun _ _ _ h => h) (Or.inr ⟨by kernel_rfl, rfl⟩) hS ?_
          try simp only [List.getElem_toArray, List.getElem_cons_succ, List.getElem_cons_zero, Act.put, List.setIfInBounds_toArray, List.set_cons_zero, List.set_cons_succ]
          refine wpAnyH_take (i := 22) (v := undef) rfl (by kernel_rfl) (by kernel_rfl) (by kernel_rfl) (fun _ _ _ h => h) (Or.inr ⟨by kernel_rfl, rfl⟩) hS ?_
          try simp only [List.getElem_toArray, List.getElem_cons_succ, List.getElem_cons_zero, Act.put, List.setIfInBounds_toArray, List.set_cons_zero, List.set_cons_succ]
          refine wpAnyH_take (i := 23) (v := (.bool false)) rfl (by kernel_rfl) (by kernel_rfl) (by kernel_rfl) (fun _ _ _ h => h) (Or.inl ⟨by kernel_rfl, by intro w' hSw; obtain ⟨s0, s1, s2, s3, s4, s5, s6, s7, _⟩ := hSw; go_simp⟩) hS ?_
          try simp only [List.getElem_toArray, List.getElem_cons_succ, List.getElem_cons_zero, Act.put, List.setIfInBounds_toArray, List.set_cons_zero, List.set_cons_succ]
          refine wpAnyH_take (i := 24) (v := (.bool false)) rfl (by kernel_rfl) (by kernel_rfl) (by kernel_rfl) (fun _ _ _ h => h) (Or.inl ⟨by kernel_rfl, by intro w' hSw; obtain ⟨s0, s1, s2, s3, s4, s5, s6, s7, _⟩ := hSw; go_simp⟩) hS ?_
          try simp only [List.getElem_toArray, List.getElem_cons_succ, List.getElem_cons_zero, Act.put, List.setIfInBounds_toArray, List.set_cons_zero, List.set_cons_succ]
          refine wpAnyH_done (by kernel_rfl) ?_ _
          clear hS
          have T6 := Lib.hid (T5.out.later (s27_h1 hn).bel)
          have hlI : (ins r L).length ≤ 200 := by omega
          have hltk := HLT.out
          clear hn hH HK HIn T5
          go_wp2
          go_roundw
          case rel => exact ⟨0 + 1, by go_num, by omega, T6⟩
          case measure => simp [intOf]; omega
      · obtain rfl : k = (ins r L).length := by omega
        go_wp2_with fail
        refine T3.out.k.all.mono ?_
        rintro e W5 ⟨v5, rfl, hF5, hb5, _⟩
        obtain ⟨a5, c5, e5⟩ := hF5.form
        rw [List.length_map] at e5
        subst e5
        have T5 := Lib.hid (T3.out.later hb5)
        have A5 := Lib.hid hF5.fs
        have ho2 : (outs r L).length ≤ 200 := by omega
        clear hF5 hb5 T3 hlt hkl
        go_wp2
        go_loopw [135] (fun s135 wr => ∃ k : Nat, s135 = .int .i64 k ∧ k ≤ (outs r L).length ∧ Hid (Tk w mb (outs r L) M (.slice a1 (ins r L).length c1) (effs (ins r L)) (W1.heap.size + 1) r wr) ∧ Hid (Fs wr (.slice a5 (outs r L).length c5) (effs (outs r L)))) (fun s135 _ => (outs r L).length - (intOf s135).toNat)
        case atStart => exact ⟨0, rfl, Nat.zero_le _, T5, A5⟩
        case round =>
          obtain ⟨k, rfl, hkl, T6, A6⟩ := hrel
          clear T5 A5
          by_cases hlt : k < (outs r L).length
          · obtain ⟨z, hz⟩ : ∃ z, (outs r L)[k]? = some z := ⟨_, List.getElem?_eq_getElem hlt⟩
            have hzO := List.mem_of_getElem? hz
            obtain ⟨m, hgp, hzm, hmok, hzok, hwf⟩ := HP.out.mem z (outs_mem.1 hzO).1
            obtain ⟨g, off, rfl, c0, c1', c2⟩ := fs_at A6.out (effs_at hz)
            have hal := alloc_b wr (.cells #[.int .i64 z.ef.s, .int .i64 z.ef.t, .int .i64 z.ef.p] TE)
            have hlk := mp_look (T6.out.later hal).mp z.ef hwf
            rw [hgp] at hlk
            have hbx := heap_alloc_new wr (.cells #[.int .i64 z.ef.s, .int .i64 z.ef.t, .int .i64 z.ef.p] TE)
            have hal2 := hal.trans ((alloc_b _ (.cells #[.int .u8 m.s, .int .u8 m.p, .int .u8 m.k, .int .i32 m.n, .int .u8 m.e] TMm)).mono hal.size)
            have T7 := Lib.hid (T6.out.later hal2)
            have A7 := Lib.hid (A6.out.later hal2)
            have hbx2 : ((wr.alloc (.cells #[.int .i64 z.ef.s, .int .i64 z.ef.t, .int .i64 z.ef.p] TE)).alloc (.cells #[.int .u8 m.s, .int .u8 m.p, .int .u8 m.k, .int .i32 m.n, .int .u8 m.e] TMm)).heap[wr.heap.size]? = some (eBx z.ef) := by
              rw [Below.heap_alloc _ _ _ (by simp)]
              exact hbx
            have hbm := heap_alloc_new (wr.alloc (.cells #[.int .i64 z.ef.s, .int .i64 z.ef.t, .int .i64 z.ef.p] TE)) (.cells #[.int .u8 m.s, .int .u8 m.p, .int .u8 m.k, .int .i32 m.n, .int .u8 m.e] TMm)
            rw [World.size_alloc] at hbm
            have hH : H2 wr.heap.size z m (W1.heap.size + 1) r ((wr.alloc (.cells #[.int .i64 z.ef.s, .int .i64 z.ef.t, .int .i64 z.ef.p] TE)).alloc (.cells #[.int .u8 m.s, .int .u8 m.p, .int .u8 m.k, .int .i32 m.n, .int .u8 m.e] TMm)) := H2.mk hbx2 hbm T7.out.rg
            obtain ⟨p0, p1, p2, p3, p4⟩ := hH.mc
            replace hH := Lib.hid hH
            have HG := Lib.hid (fun W (h : Tk w mb (outs r L) M (.slice a1 (ins r L).length c1) (effs (ins r L)) (W1.heap.size + 1) r W) => h.k.get z.ef)
            have HKy := Lib.hid (fun W (h : Tk w mb (outs r L) M (.slice a1 (ins r L).length c1) (effs (ins r L)) (W1.heap.size + 1) r W) => h.k.key z.ef)
            have hoz : orZ (outs r L) z.ef = z := by unfold orZ; rw [outs_some HP.out.srt hzO]; rfl
            have hhb : hasB (outs r L) z.ef = true := by unfold hasB; rw [outs_some HP.out.srt hzO]; rfl
            rw [hoz, hhb] at HG HKy
            have HIn : Hid (∀ W, W.heap[W1.heap.size + 1]? = some (rgBx r) → Calls Try.prog 30 #[mmA m, .pointer (some ⟨W1.heap.size + 1, 0, none⟩)] W fun e w' => e = .returned (.bool false) ∧ Below W.heap.size W w') := Lib.hid fun W hW => by
              have h := in_any m hmok r (W1.heap.size + 1) W hW
              rw [hzm, ← in_has r z.ky HR.out hzok.2.1, (outs_mem.1 hzO).2] at h
              exact h
            have HOf : Hid (∀ W, Calls Try.prog 26 #[mmA m] W fun e w' => e = .returned (.tuple #[efA z.ef, .string (tx z.ky), rpA z]) ∧ Below W.heap.size W w') := Lib.hid fun W => by
              have h := of_any m hmok W
              unfold Ofd at h
              rw [hzm] at h
              exact h
            have hq := eq_rp z
            have hq2 : ((tx z.ky).toList == (tx z.ky).toList) = true := by simp
            have hk1 : IntKind.i64.wrap ((k : Int) + 1) = (k : Int) + 1 := by rw [IntKind.wrap_i64]; omega
            clear hbx hbx2 hbm hal hal2 hgp hzm hmok hzok hwf hzO hz hoz hhb T6 A6
            go_wp2_with fail
            clear c0 c1' c2 hlk p0 p1 p2 p3 p4
            refine (HOf.out _).mono ?_
            rintro e V2 ⟨rfl, hb2⟩
            have hb3 := (alloc_b V2 (.cells #[.int .i64 z.ef.s, .int .i64 z.ef.t, .int .i64 z.ef.p] TE))
            have hb4 := hb2.trans ((hb3.trans ((alloc_b (V2.alloc (.cells #[.int .i64 z.ef.s, .int .i64 z.ef.t, .int .i64 z.ef.p] TE)) (.cells #[.int .i64 z.er, .int .i64 z.nm, .string (tx z.da)] TRp)).mono hb3.size)).mono hb2.size)
            have R4 : Rb ((V2.alloc (.cells #[.int .i64 z.ef.s, .int .i64 z.ef.t, .int .i64 z.ef.p] TE)).alloc (.cells #[.int .i64 z.er, .int .i64 z.nm, .string (tx z.da)] TRp)) (V2.heap.size + 1) z := by have h := heap_alloc_new (V2.alloc (.cells #[.int .i64 z.ef.s, .int .i64 z.ef.t, .int .i64 z.ef.p] TE)) (.cells #[.int .i64 z.er, .int .i64 z.nm, .string (tx z.da)] TRp); rw [World.size_alloc] at h; exact h
            have T8 := Lib.hid (T7.out.later hb4)
            have A8 := Lib.hid (A7.out.later hb4)
            have hH8 := hH.out.later hb4
            obtain ⟨d0, d1, d2⟩ := hH8.ec
            replace hH8 := Lib.hid hH8
            replace R4 := Lib.hid R4
            clear hb2 hb3 hb4 T7 A7 hH
            go_wp2_with fail
            clear d0 d1 d2
            generalize (V2.alloc (.cells #[.int .i64 z.ef.s, .int .i64 z.ef.t, .int .i64 z.ef.p] TE)).alloc (.cells #[.int .i64 z.er, .int .i64 z.nm, .string (tx z.da)] TRp) = V3 at *
            generalize V2.heap.size = p27 at *
            refine (HG.out _ T8.out).mono ?_
            rintro e V4 ⟨rfl, hb5, _⟩
            have hb6 := hb5.trans ((alloc_b V4 (.cells #[.int .i64 z.er, .int .i64 z.nm, .string (tx z.da)] TRp)).mono hb5.size)
            have T9 := Lib.hid (T8.out.later hb6)
            have A9 := Lib.hid (A8.out.later hb6)
            have hH9 := hH8.out.later hb6
            have R9 := Lib.hid (R4.out.later hb6)
            have Q9 : Rb (V4.alloc (.cells #[.int .i64 z.er, .int .i64 z.nm, .string (tx z.da)] TRp)) V4.heap.size z := heap_alloc_new V4 (.cells #[.int .i64 z.er, .int .i64 z.nm, .string (tx z.da)] TRp)
            obtain ⟨d0, d1, d2⟩ := hH9.ec
            replace hH9 := Lib.hid hH9
            replace Q9 := Lib.hid Q9
            clear hb5 hb6 T8 A8 hH8 R4
            go_wp2_with fail
            clear d0 d1 d2
            generalize V4.alloc (.cells #[.int .i64 z.er, .int .i64 z.nm, .string (tx z.da)] TRp) = V5 at *
            generalize V4.heap.size = p28 at *
            refine (HKy.out _ T9.out).mono ?_
            rintro e V6 ⟨rfl, hb7, _⟩
            have T10 := Lib.hid (T9.out.later hb7)
            have A10 := Lib.hid (A9.out.later hb7)
            have hH10 := hH9.out.later hb7
            have R10 := Lib.hid (R9.out.later hb7)
            have Q10 := Lib.hid (Q9.out.later hb7)
            obtain ⟨p0, p1, p2, p3, p4⟩ := hH10.mc
            clear hb7 T9 A9 hH9 R9 Q9
            go_wp2_with fail
            clear p0 p1 p2 p3 p4
            refine (HIn.out _ hH10.rg).mono ?_
            rintro e V7 ⟨rfl, hb8⟩
            have T11 := Lib.hid (T10.out.later hb8)
            have A11 := Lib.hid (A10.out.later hb8)
            obtain ⟨r0, r1, r2⟩ := (R10.out.later hb8).cells
            obtain ⟨t0, t1, t2⟩ := (Q10.out.later hb8).cells
            clear hb8 T10 A10 hH10 R10 Q10 HG HKy HIn HOf
            go_wp2
            go_roundw
            case rel => exact ⟨k + 1, by go_num, by omega, T11, A11⟩
            case measure => simp [intOf]; omega
          · obtain rfl : k = (outs r L).length := by omega
            have hne := F1.out.ne
            clear A6 hlt hkl
            rcases Nat.eq_zero_or_pos (ins r L).length with hn0 | hn0
            · generalize hnn : (ins r L).length = n at *
              subst hn0
              go_wp2_with fail
              refine (HW.out _).mono ?_
              rintro e V ⟨rfl, hbV⟩
              go_wp2
              go_ret
              exact ⟨rfl, T6.out.k.bel.trans (hbV.mono T6.out.k.bel.size)⟩
            · obtain ⟨z, hz⟩ : ∃ z, (ins r L)[0]? = some z := ⟨_, List.getElem?_eq_getElem hn0⟩
              have hzI := List.mem_of_getElem? hz
              obtain ⟨m, hgp, hzm, hmok, hzok, hwf⟩ := HP.out.mem z (ins_mem.1 hzI).1
              obtain ⟨g, off, rfl, c0, c1', c2⟩ := fs_at T6.out.a (effs_at hz)
              simp only [Nat.zero_mul, Nat.add_zero] at c0 c1' c2
              have hlk := mp_look1 T6.out.mp z.ef hwf
              rw [hgp, Option.getD_some] at hlk
              have hgn : Hid (getL (outs r L) z.ef = none) := Lib.hid (outs_none HP.out.srt hzI)
              have HOf : Hid (∀ W, Calls Try.prog 26 #[mmA m] W fun e w' => e = .returned (.tuple #[efA z.ef, .string (tx z.ky), rpA z]) ∧ Below W.heap.size W w') := Lib.hid fun W => by
                have h := of_any m hmok W
                unfold Ofd at h
                rw [hzm] at h
                exact h
              have hzok2 := Lib.hid hzok
              obtain ⟨o, ho⟩ : ∃ o, (outs r L).length = o := ⟨_, rfl⟩
              obtain ⟨n, hnn⟩ : ∃ n, (ins r L).length = n := ⟨_, rfl⟩
              obtain ⟨u, huu⟩ : ∃ u, M.length = u := ⟨_, rfl⟩
              have hsum : n + o = u := by have := HP.out.len; omega
              rw [hnn] at T6 hn0 ⊢
              rw [ho] at ho2
              obtain ⟨Q, hQ⟩ : ∃ Q : Int, 200 - ((o + 1 : Nat) : Int) = Q := ⟨_, rfl⟩
              have hlo : o < 200 := by omega
              have g1 : ((n : Int) == 0) = false := by simp; omega
              have g2 : (n == 0) = false := by simp; omega
              have g3 : ((n : Int) = 0) = False := by simp; omega
              have g4 : (n = 0) = False := by simp; omega
              have g5 : (0 : Int) < (n : Int) := by omega
              have g6 : 0 < n := hn0
              have w1 : IntKind.i64.wrap (200 - (u : Int)) = 200 - (u : Int) := by rw [IntKind.wrap_i64]; omega
              have w2 : IntKind.i64.wrap (200 - (u : Int) + (n : Int)) = 200 - (u : Int) + (n : Int) := by rw [IntKind.wrap_i64]; omega
              have w3 : IntKind.i64.wrap (200 - (u : Int) + (n : Int) - 1) = Q := by rw [IntKind.wrap_i64]; omega
              have hmb : Hid (∀ W, MpIs W mb M → ∀ ty : TypeId, (Builtin.len_ #[TMp] ty #[.map (some mb)]).run Try.prog W = .ok (.int .i64 u) W) := Lib.hid fun W h ty => by rw [← huu]; exact mp_len h ty
              have hrm : Hid (∀ W, Wk w.heap.size w w.heap.size 200 (insL (outs r L) z) W → Calls Try.prog 31 #[.pointer (some ⟨w.heap.size, 0, none⟩)] W fun e W' => e = .returned (.int .i64 Q) ∧ Below W.heap.size W W' ∧ Wk w.heap.size w w.heap.size 200 (insL (outs r L) z) W') := Lib.hid fun W h => by
                have h2 := h.room
                rw [insL_len, ho, hQ] at h2
                exact h2
              have hqq : (Q == Q) = true := by simp
              have hli : Hid (((outs r L).length : Int) < 200) := Lib.hid (by omega)
              replace hQ := Lib.hid hQ
              replace hnn := Lib.hid hnn
              replace ho := Lib.hid ho
              replace huu := Lib.hid huu
              clear hgp hzm hmok hzok hwf hzI hz hsum hn0
              go_wp2_with fail
              clear c0 c1' c2 hlk
              refine (HOf.out _).mono ?_
              rintro e V2 ⟨rfl, hb2⟩
              have hb3 := (alloc_b V2 (.cells #[.int .i64 z.ef.s, .int .i64 z.ef.t, .int .i64 z.ef.p] TE))
              have hb4 := hb2.trans ((hb3.trans ((alloc_b (V2.alloc (.cells #[.int .i64 z.ef.s, .int .i64 z.ef.t, .int .i64 z.ef.p] TE)) (.cells #[.int .i64 z.er, .int .i64 z.nm, .string (tx z.da)] TRp)).mono hb3.size)).mono hb2.size)
              have R4 : Rb ((V2.alloc (.cells #[.int .i64 z.ef.s, .int .i64 z.ef.t, .int .i64 z.ef.p] TE)).alloc (.cells #[.int .i64 z.er, .int .i64 z.nm, .string (tx z.da)] TRp)) (V2.heap.size + 1) z := by have h := heap_alloc_new (V2.alloc (.cells #[.int .i64 z.ef.s, .int .i64 z.ef.t, .int .i64 z.ef.p] TE)) (.cells #[.int .i64 z.er, .int .i64 z.nm, .string (tx z.da)] TRp); rw [World.size_alloc] at h; exact h
              have E4 : ((V2.alloc (.cells #[.int .i64 z.ef.s, .int .i64 z.ef.t, .int .i64 z.ef.p] TE)).alloc (.cells #[.int .i64 z.er, .int .i64 z.nm, .string (tx z.da)] TRp)).heap[V2.heap.size]? = some (eBx z.ef) := by
                rw [Below.heap_alloc _ _ _ (by simp)]
                exact heap_alloc_new V2 (.cells #[.int .i64 z.ef.s, .int .i64 z.ef.t, .int .i64 z.ef.p] TE)
              have T8 := T6.out.later hb4
              have hlw : w.heap.size < V2.heap.size := Nat.lt_of_lt_of_le T6.out.k.lt hb2.size
              have x0 := cell_of_row _ _ 0 _ TRg _ T8.rg
              have x1 := cell_of_row _ _ 1 _ TRg _ T8.rg
              have HT := Lib.hid (T8.k.take r HR.out)
              replace T8 := Lib.hid T8
              clear hb2 hb3 hb4 T6 HOf
              go_wp2_with fail
              clear x0 x1
              refine HT.out.mono ?_
              rintro e V4 ⟨v4, rfl, hF4, hk4, hbut⟩
              rw [ins_outs] at hF4
              rw [outs_outs] at hk4
              obtain ⟨a4, c4, e4⟩ := hF4.form
              replace e4 : v4 = .slice a4 0 c4 := e4
              subst e4
              have M4 := T8.out.mp.kept (hbut.block _ T8.out.mp.lt hne (fun e => by cases e))
              have E5 := (hbut.block _ (Array.getElem?_eq_some_iff.1 E4).1 (by omega) (fun e => by cases e)).trans E4
              have R5 : Rb V4 (V2.heap.size + 1) z := (hbut.block _ (Array.getElem?_eq_some_iff.1 R4).1 (by omega) (fun e => by cases e)).trans R4
              obtain ⟨r0, r1, r2⟩ := R5.cells
              have d0 := cell_of_row _ _ 0 _ TE _ E5
              have d1 := cell_of_row _ _ 1 _ TE _ E5
              have d2 := cell_of_row _ _ 2 _ TE _ E5
              have HPt := Lib.hid (hk4.put z hzok2.out hgn.out hli.out)
              replace M4 := Lib.hid M4
              clear hF4 hk4 hbut E4 E5 R4 R5 T8 HT
              go_wp2_with fail
              clear r0 r1 r2 d0 d1 d2
              refine HPt.out.mono ?_
              rintro e V5 ⟨rfl, hk5, hfr⟩
              have M5 : MpIs V5 mb M := by
                obtain ⟨⟨es, clk, hm, _⟩, _⟩ := id M4.out
                exact M4.out.kept ((hfr mb _ hm hne (fun cur e => by cases e)).trans hm.symm)
              have HRm := Lib.hid (hrm.out _ hk5)
              clear hk5 hfr HPt M4
              go_wp2_with fail
              refine HRm.out.mono ?_
              rintro e V6 ⟨rfl, hb6, hk6⟩
              have hln := hmb.out _ (M5.later hb6)
              have HE := Lib.hid (fun V7 (hb7 : Below V6.heap.size V6 V7) => hk6.bel.trans (hb7.mono hk6.bel.size))
              clear hb6 hk6 M5 HRm
              go_wp2_with fail
              refine (HW.out _).mono ?_
              rintro e V7 ⟨rfl, hb7⟩
              go_wp2
              go_ret
              exact ⟨rfl, HE.out _ hb7⟩
theorem takes_law (a : Option Addr) (len cap : Nat) (S : Nat → Mm) (c d : Int) (w : World) (h : IsMm w a len cap S) (h1 : (Lit.int .u8 c).wf = true) (h2 : (Lit.int .u8 d).wf = true) :
    Calls Try.prog 6 #[.slice a len cap, .int .u8 c, .int .u8 d] w fun r w' => r = .returned (.bool true) ∧ Below w.heap.size w w' :=
  takes_any a len cap S c d w (bounds_u8 h1).1 (bounds_u8 h1).2 (bounds_u8 h2).1 (bounds_u8 h2).2 h
end Go.Proofs.Ytbgjiokocjnjhaa.Ded
