/- The document's Values. -/
import Derived.Test.YtffiooclkchoiaaP31
namespace Go.Proofs.Ytffiooclkchoiaa.Prp
open Go.RowKit Go.Lib
open Bal (TB bOk ckB ordV eqB eqB_t eqB_f eq_b alloc_b check_any order_any rcheck_any rorder_any)
set_option linter.unusedVariables false
set_option linter.unusedSimpArgs false
set_option maxRecDepth 100000

/-! Plain facts. -/
def endV (es : List Et) : Int := es.foldl (fun m e => max m e.s) (-1)
theorem end_snoc (es : List Et) (e : Et) : endV (es ++ [e]) = max (endV es) e.s := by simp [endV]
theorem top_end {b : Int} (hb : 0 ≤ b) (es : List Et) : topN b es = (endV es - b + 1).toNat := by
  have key : ∀ (es : List Et) (N : Nat) (m : Int), N = (m - b + 1).toNat → es.foldl (fun N x => max N (x.s - b + 1).toNat) N = (es.foldl (fun m e => max m e.s) m - b + 1).toNat := by
    intro es
    induction es with
    | nil => intro N m h; exact h
    | cons x r ih =>
      intro N m h
      rw [List.foldl_cons, List.foldl_cons]
      exact ih _ _ (by omega)
  exact key es 0 (-1) (by omega)
def bst (k : Int) (es : List Et) : Et := es.foldl (pick k) zE
theorem bst_snoc (k : Int) (es : List Et) (e : Et) : bst k (es ++ [e]) = pick k (bst k es) e := by simp [bst]
theorem bst_best (b : Int) (j : Nat) (es : List Et) : (bst (b + j) es).v = (bestF b es j).v := by
  have key : ∀ (es : List Et) (z y : Et), z.r = y.r → z.m = y.m → z.v = y.v → (es.foldl (pick (b + j)) z).v = (es.foldl (pick (b + j)) y).v := by
    intro es
    induction es with
    | nil => intro z y _ _ h; exact h
    | cons x r ih =>
      intro z y h1 h2 h3
      rw [List.foldl_cons, List.foldl_cons]
      have : pick (b + j) z x = x ∧ pick (b + j) y x = x ∨ pick (b + j) z x = z ∧ pick (b + j) y x = y := by
        unfold pick
        rw [h1, h2]
        by_cases h : (decide (x.s = b + (j : Int)) && gtB x.r x.m y.r y.m) = true
        · exact .inl ⟨if_pos h, if_pos h⟩
        · exact .inr ⟨if_neg h, if_neg h⟩
      rcases this with ⟨e1, e2⟩ | ⟨e1, e2⟩
      · rw [e1, e2]
      · rw [e1, e2]; exact ih z y h1 h2 h3
  exact key es _ _ rfl rfl rfl
theorem app_take {A L : List Et} {j : Nat} {e : Et} (h : L[j]? = some e) : A ++ L.take (j + 1) = (A ++ L.take j) ++ [e] := by
  rw [List.take_add_one, h, List.append_assoc]; rfl
abbrev ecA (e : Et) : Array Value := #[.int .i64 e.s, .int .i64 e.r, .int .i64 e.m, .string e.v]
theorem ebox_set {W : World} {q : Nat} {x y : Et} (h : W.heap[q]? = some (.cells (ecA x) TE (0, 0))) :
    ((((W.setCell ⟨q, 0, none⟩ (.int .i64 y.s)).setCell ⟨q, 1, none⟩ (.int .i64 y.r)).setCell ⟨q, 2, none⟩ (.int .i64 y.m)).setCell ⟨q, 3, none⟩ (.string y.v)).heap[q]? = some (.cells (ecA y) TE (0, 0)) ∧
    Keeps (fun j => j = q) W ((((W.setCell ⟨q, 0, none⟩ (.int .i64 y.s)).setCell ⟨q, 1, none⟩ (.int .i64 y.r)).setCell ⟨q, 2, none⟩ (.int .i64 y.m)).setCell ⟨q, 3, none⟩ (.string y.v)) :=
  ⟨Go.heap_setCell_same _ q 3 _ TE _ (Go.heap_setCell_same _ q 2 _ TE _ (Go.heap_setCell_same _ q 1 _ TE _ (Go.heap_setCell_same W q 0 _ TE _ h))),
    ((((Keeps.refl (fun j => j = q) W).setCell (p := ⟨q, 0, none⟩) (.inl rfl) _).setCell (p := ⟨q, 1, none⟩) (.inl rfl) _).setCell (p := ⟨q, 2, none⟩) (.inl rfl) _).setCell (p := ⟨q, 3, none⟩) (.inl rfl) _⟩

set_option maxHeartbeats 8000000 in
theorem rvalues_any {base : Nat} {w : World} {b : Nat} {vs : Nat → Value} {s : St} (x : Rx base w b vs s) :
    Calls Try.prog 17 #[.pointer (some ⟨b, 0, none⟩)] w fun e w' => ∃ v, e = .returned (.tuple #[v, .int .i64 (valE s)]) ∧ OwE w.heap.size (valL s) v w' ∧ Below w.heap.size w w' := by
  have hV := Lib.hid x.valid
  have hRd := Lib.hid x.ready
  unfold valE valL
  cases hr : rdy s with
  | false =>
    rw [hr] at hRd
    have hN := Lib.hid (fun W => OwE.nil w.heap.size W)
    clear x hr
    go_enter Try.func17, Try.ntmps17
    go_wp2_with (first
      | (go_at_call 35; refine hV.out.mono ?_; rintro e w' ⟨rfl, rfl⟩)
      | (go_at_call 20; refine hRd.out.mono ?_; rintro e w5 ⟨rfl, hb5⟩))
    go_ret2
    exact ⟨_, rfl, hN.out _, hb5⟩
  | true =>
    rw [hr] at hRd
    simp only [if_true]
    obtain ⟨n, hn⟩ := Int.eq_ofNat_of_zero_le (show 0 ≤ s.n by have := x.ok.n1; omega)
    have h7 := x.ok.n7
    obtain ⟨_, _, hE7⟩ := to_7 x.ok hn
    have hbd := beg_bd x.ok
    obtain ⟨BG, hBG⟩ : ∃ BG, BG = beg s := ⟨_, rfl⟩
    obtain ⟨N, hN⟩ : ∃ N, N = topN BG (allK s.P 7) := ⟨_, rfl⟩
    have hNe := top_end (b := BG) (by rw [hBG]; exact hbd.1) (allK s.P 7)
    have hNl : N ≤ 4096 := by rw [hN]; exact top_le (by rw [hBG]; exact hbd.1) fun e he => (all_mem x.ok 7 e he).1.2.1
    obtain ⟨B, hB⟩ : ∃ B : Nat → Et, B = fun j => ⟨BG + j, s.r, s.m, (bestF BG (allK s.P 7) j).v⟩ := ⟨_, rfl⟩
    have hVV : valsOf s = lst N B := by rw [hB, hN, hBG]; rfl
    rw [hVV]
    rw [← hN] at hNe
    have hBn : Hid (∀ j : Nat, (⟨BG + j, s.r, s.m, (bst (BG + j) (allK s.P n)).v⟩ : Et) = B j) := Lib.hid fun j => by rw [hB, hE7, bst_best]
    have hEn : Hid (endV (allK s.P n) = endV (allK s.P 7)) := Lib.hid (by rw [hE7])
    have hmx : max s.f (upK s.P 7) = BG := by rw [hBG]; rfl
    have hUp := Lib.hid (fun W (h : Rx base W b vs s ∧ Below w.heap.size w W) => h.1.upto)
    have hX := Lib.hid (fun W (hb : Below w.heap.size w W) => (⟨x.later hb, hb⟩ : Rx base W b vs s ∧ Below w.heap.size w W))
    have hCl := Lib.hid (fun W (hb : Below w.heap.size w W) => (x.later hb).cells)
    have hPl := Lib.hid (fun W (hb : Below w.heap.size w W) k (hk : k < 7) => show W.cell? ⟨b, 12 + k, none⟩ = some (vs k) ∧ OwE base (s.P k).l (vs k) W from ⟨((x.later hb).place k hk).2.1, (x.later hb).lst k hk⟩)
    have hln := Lib.hid (lst_len7 x.ok)
    have hblt := x.lt
    rw [hn] at hCl h7
    have hBb : 0 ≤ BG ∧ BG ≤ 4096 := by rw [hBG]; exact ⟨hbd.1, hbd.2.1⟩
    clear hB hN hBG hbd hVV hr hn x hE7
    generalize upK s.P 7 = U at *
    obtain ⟨EN, hEN⟩ : ∃ EN, EN = endV (allK s.P 7) := ⟨_, rfl⟩
    rw [← hEN] at hNe hEn
    clear hEN
    have hK : Hid (∀ W, Rx base W b vs s ∧ Below w.heap.size w W → W.cell? ⟨b, 4, none⟩ = some (.int .i64 s.f) ∧ (Rx base W b vs s ∧ Below w.heap.size w W)) := Lib.hid fun W h => ⟨h.1.cells.2.2.2.2, h⟩
    generalize hsf : s.f = sf at *
    generalize hsr : s.r = sr at *
    generalize hsm : s.m = sm at *
    replace hsf := Lib.hid hsf
    replace hsr := Lib.hid hsr
    replace hsm := Lib.hid hsm
    go_enter Try.func17, Try.ntmps17
    go_wp2_with (first
      | (go_at_call 35; refine hV.out.mono ?_; rintro e w' ⟨rfl, rfl⟩)
      | (go_at_call 20; refine hRd.out.mono ?_; rintro e w5 ⟨rfl, hb5⟩))
    have d1 := (hCl.out w5 hb5).2.1
    go_loopw [4, 5] (fun ev iv wr => ∃ k : Nat, k ≤ n ∧ ev = .int .i64 (endV (allK s.P k)) ∧ iv = .int .i64 k ∧ w5 = wr) (fun _ i _ => n - nOf i)
    case atStart => exact ⟨0, by omega, rfl, rfl, rfl⟩
    case round =>
      obtain ⟨k, hk, rfl, rfl, hw⟩ := hrel
      subst hw
      by_cases hlt : k < n
      · have i1 : decide ((k : Int) < (n : Int)) = true := by simp; omega
        have i2 : (k : Int) < 7 := by omega
        have i3 : (0 : Int) ≤ (k : Nat) := by omega
        obtain ⟨p0, hOk⟩ := hPl.out w5 hb5 k (by omega)
        have hnx : allK s.P (k + 1) = allK s.P k ++ (s.P k).l := rfl
        have hl := hln.out k
        have hst : endV (allK s.P k) = endV (allK s.P k ++ (s.P k).l.take 0) := by simp
        rw [hst]
        replace hnx := Lib.hid hnx
        generalize (s.P k).l = Lk at *
        generalize allK s.P k = Ak at *
        obtain ⟨lp, lc, hvk⟩ := rows_form hOk
        rw [hvk] at p0 hOk
        obtain ⟨ln, hlnn⟩ : ∃ ln, ln = Lk.length := ⟨_, rfl⟩
        rw [← hlnn] at p0 hl hOk
        replace hlnn := Lib.hid hlnn
        clear hvk hst
        as_aux_lemma =>
          go_wp2
          go_loopw [4, 6] (fun ev jv wr => ∃ j : Nat, j ≤ ln ∧ ev = .int .i64 (endV (Ak ++ Lk.take j)) ∧ jv = .int .i64 j ∧ w5 = wr) (fun _ i _ => ln - nOf i)
          case atStart => exact ⟨0, by omega, rfl, rfl, rfl⟩
          case round =>
            obtain ⟨j, hj, rfl, rfl, hw⟩ := hrel
            subst hw
            by_cases hjl : j < ln
            · obtain ⟨e, he⟩ : ∃ e, Lk[j]? = some e := ⟨_, List.getElem?_eq_getElem (by rw [← hlnn.out]; exact hjl)⟩
              obtain ⟨g, cap', hv', hg1, hg2, hcs⟩ := hOk.cells (by rw [← hlnn.out]; omega)
              injection hv' with ha hl2 hcap
              clear hl2 hcap
              subst ha
              obtain ⟨e0, _, _, _⟩ := hcs j e he
              have hen : endV (Ak ++ Lk.take (j + 1)) = max (endV (Ak ++ Lk.take j)) e.s := by rw [app_take he, end_snoc]
              replace hen := Lib.hid hen
              have z1 : (0 : Int) ≤ (j : Nat) := by omega
              have z2 : (j : Int) < (ln : Nat) := by omega
              have z3 : decide ((j : Int) < (ln : Int)) = true := by simpa using z2
              generalize endV (Ak ++ Lk.take j) = E1 at *
              generalize e.s = es at *
              clear hcs he
              as_aux_lemma =>
                go_wp2
                go_roundw
                case rel => exact ⟨j + 1, by omega, by rw [hen.out], by go_num, (by first | rfl | trivial)⟩
                case measure => simp [nOf]; omega
            · obtain rfl : j = ln := by omega
              have z3 : decide ((j : Int) < (j : Int)) = false := by simp
              rw [show Lk.take j = Lk by rw [hlnn.out, List.take_length], ← hnx.out]
              generalize hG : endV (allK s.P (k + 1)) = E1 at *
              replace hG := Lib.hid hG
              as_aux_lemma =>
                go_wp2
                go_roundw
                case rel => exact ⟨k + 1, by omega, by rw [hG.out], by go_num, (by first | rfl | trivial)⟩
                case measure => simp [nOf]; omega
      · obtain rfl : n = k := by omega
        have i1 : decide ((n : Int) < (n : Int)) = false := by simp
        rw [hEn.out]
        clear hEn
        as_aux_lemma =>
          go_wp2
          go_region_held3 (fun W => W.cell? ⟨b, 4, none⟩ = some (.int .i64 sf) ∧ (Rx base W b vs s ∧ Below w.heap.size w W))
            (first | exact hK.out _ (hX.out _ (hb5.trans ((Below.refl w5.heap.size w5).drew.mono hb5.size))) | exact hK.out _ (by assumption) | assumption)
            ((go_at_call 22; refine (hUp.out _ (by assumption : _ ∧ (Rx base _ b vs s ∧ Below w.heap.size w _)).2).mono ?_; rintro e w2 ⟨rfl, rfl⟩; have hx2 := (by assumption : _ ∧ (Rx base _ b vs s ∧ Below w.heap.size w _)).2))
          have hb2 := hx2.2
          clear hx2 hUp hK hX hRd hV d1 hmx
          have hst0 : OwE w.heap.size (lst 0 B) (.slice none 0 0) w5.drew := OwE.nil _ _
          have hb2' : Below w.heap.size w w5.drew := hb2
          generalize w5.drew = w6 at *
          clear hb5 hb2
          go_wp2
          go_loopw [7, 8] (fun ov sv wr => ∃ (j : Nat) (oa : Option Addr) (oc : Nat), j ≤ N ∧ sv = .int .i64 (BG + j) ∧ ov = .slice oa j oc ∧ OwE w.heap.size (lst j B) (.slice oa j oc) wr ∧ Below w.heap.size w wr) (fun _ sv _ => (BG + N - intOf sv).toNat)
          case atStart => exact ⟨0, none, 0, by omega, by simp, rfl, hst0, hb2'⟩
          case round =>
            clear hst0 hb2'
            obtain ⟨j, oa, oc, hj, rfl, rfl, hO, hbj⟩ := hrel
            by_cases hjN : j < N
            · have i1 : decide (BG + (j : Nat) ≤ EN) = true := decide_eq_true (by omega)
              have hA := heap_alloc_new wr (.cells (ecA zE) TE)
              have hAb := alloc_b wr (.cells (ecA zE) TE)
              have hBj := Lib.hid (hBn.out j)
              obtain ⟨SL, hSL⟩ : ∃ SL, SL = BG + ((j : Nat) : Int) := ⟨_, rfl⟩
              rw [← hSL] at i1 hBj ⊢
              have hwr : IntKind.i64.wrap (SL + 1) = SL + 1 := by rw [IntKind.wrap_i64]; omega
              have hSn : SL + 1 = BG + ((j + 1 : Nat) : Int) := by rw [hSL]; omega
              replace hSn := Lib.hid hSn
              have hbt := hbj
              have hOt := Lib.hid (fun W (hb : Below wr.heap.size wr W) => hO.later hb)
              have hbW := Lib.hid (fun W (hb : Below wr.heap.size wr W) => hbj.trans (hb.mono hbj.size))
              replace hSL := Lib.hid hSL
              clear hO hBn hbj
              as_aux_lemma =>
                go_wp2
                generalize (wr.alloc (.cells (ecA zE) TE)) = W5 at *
                generalize hqk : wr.heap.size = q at *
                generalize wr = Wk at *
                replace hqk := Lib.hid hqk
                go_loopw [10] (fun iv W => ∃ k : Nat, k ≤ n ∧ iv = .int .i64 k ∧ Below q Wk W ∧ W.heap[q]? = some (.cells (ecA (bst SL (allK s.P k))) TE (0, 0))) (fun iv _ => n - nOf iv)
                case atStart => exact ⟨0, by omega, rfl, hAb, hA⟩
                case round =>
                  clear hA hAb
                  obtain ⟨k, hk, rfl, hB4, hq4⟩ := hrel
                  have hbw := hbW.out _ hB4
                  obtain ⟨_, d1, d2, d3, _⟩ := hCl.out _ hbw
                  by_cases hlt : k < n
                  · have k1 : decide ((k : Int) < (n : Int)) = true := by simp; omega
                    have k2 : (k : Int) < 7 := by omega
                    have k3 : (0 : Int) ≤ (k : Nat) := by omega
                    have hnx : allK s.P (k + 1) = allK s.P k ++ (s.P k).l := rfl
                    have hst : allK s.P k = allK s.P k ++ (s.P k).l.take 0 := by simp
                    have hl := hln.out k
                    rw [hst] at hq4
                    have hPk := Lib.hid (fun W (hb : Below q Wk W) => hPl.out W (hbW.out W hb) k (by omega))
                    have hCk := Lib.hid (fun W (hb : Below q Wk W) => (hCl.out W (hbW.out W hb)).2.1)
                    replace hnx := Lib.hid hnx
                    generalize (s.P k).l = Lk at *
                    generalize allK s.P k = Ak at *
                    obtain ⟨lp, lc, hvk⟩ := rows_form (hPk.out _ hB4).2
                    rw [hvk] at hPk
                    obtain ⟨ln, hlnn⟩ : ∃ ln, ln = Lk.length := ⟨_, rfl⟩
                    rw [← hlnn] at hPk hl
                    replace hlnn := Lib.hid hlnn
                    clear hvk hst hbw d1 d2 d3
                    have d1 := hCk.out _ hB4
                    as_aux_lemma =>
                      go_wp2
                      go_loopw [11] (fun jv W => ∃ p : Nat, p ≤ ln ∧ jv = .int .i64 p ∧ Below q Wk W ∧ W.heap[q]? = some (.cells (ecA (bst SL (Ak ++ Lk.take p))) TE (0, 0))) (fun jv _ => ln - nOf jv)
                      case atStart => exact ⟨0, by omega, rfl, hB4, hq4⟩
                      case round =>
                        clear hB4 hq4 d1
                        obtain ⟨p, hp, rfl, hB5, hq5⟩ := hrel
                        obtain ⟨p0, hOk⟩ := hPk.out _ hB5
                        by_cases hpl : p < ln
                        · obtain ⟨e, he⟩ : ∃ e, Lk[p]? = some e := ⟨_, List.getElem?_eq_getElem (by rw [← hlnn.out]; exact hpl)⟩
                          obtain ⟨g, cap', hv', hg1, hg2, hcs⟩ := hOk.cells (by rw [← hlnn.out]; omega)
                          injection hv' with ha hl2 hcap
                          clear hl2 hcap
                          subst ha
                          obtain ⟨e0, e1, e2, e3⟩ := hcs p e he
                          have hbs : bst SL (Ak ++ Lk.take (p + 1)) = pick SL (bst SL (Ak ++ Lk.take p)) e := by rw [app_take he, bst_snoc]
                          generalize bst SL (Ak ++ Lk.take p) = G at *
                          obtain ⟨es, er, em, ev⟩ := e
                          simp only at e0 e1 e2 e3
                          have z1 : (0 : Int) ≤ (p : Nat) := by omega
                          have z2 : (p : Int) < (ln : Nat) := by omega
                          have z3 : decide ((p : Int) < (ln : Int)) = true := by simpa using z2
                          have hab := alloc_b wr (.cells (ecA ⟨es, er, em, ev⟩) TE)
                          have hax := heap_alloc_new wr (.cells (ecA ⟨es, er, em, ev⟩) TE)
                          have hqlt := (Array.getElem?_eq_some_iff.1 hq5).1
                          have hqa := (hab.block q hqlt).trans hq5
                          have hBa : Below q Wk (wr.alloc (.cells (ecA ⟨es, er, em, ev⟩) TE)) := hB5.trans (hab.mono (by rw [← hqk.out]; exact hB5.size))
                          have x0 := cell_of_row _ _ 0 _ TE _ hax
                          have x1 := cell_of_row _ _ 1 _ TE _ hax
                          have x2 := cell_of_row _ _ 2 _ TE _ hax
                          have y1 := cell_of_row _ _ 1 _ TE _ hqa
                          have y2 := cell_of_row _ _ 2 _ TE _ hqa
                          clear hcs he hOk
                          by_cases hs : es = SL
                          · have hpk : pick SL G ⟨es, er, em, ev⟩ = if gtB er em G.r G.m then ⟨es, er, em, ev⟩ else G := by
                              unfold pick
                              rw [decide_eq_true hs, Bool.true_and]
                            have hOr := Lib.hid (fun W => rorder_any er em G.r G.m W)
                            have ho := ord_gt er em G.r G.m
                            rw [hpk] at hbs
                            clear hpk
                            have hFn : Hid (∀ W, Below (wr.alloc (.cells (ecA ⟨es, er, em, ev⟩) TE)).heap.size (wr.alloc (.cells (ecA ⟨es, er, em, ev⟩) TE)) W → (W.cell? ⟨wr.heap.size, 0, none⟩ = some (.int .i64 es) ∧ W.cell? ⟨wr.heap.size, 1, none⟩ = some (.int .i64 er) ∧ W.cell? ⟨wr.heap.size, 2, none⟩ = some (.int .i64 em) ∧ W.cell? ⟨wr.heap.size, 3, none⟩ = some (.string ev)) ∧
                                Below q Wk W ∧ W.heap[q]? = some (.cells (ecA G) TE (0, 0))) := Lib.hid fun W hb => by
                              have hr := (hb.block _ (Array.getElem?_eq_some_iff.1 hax).1).trans hax
                              refine ⟨⟨cell_of_row _ _ 0 _ TE _ hr, cell_of_row _ _ 1 _ TE _ hr, cell_of_row _ _ 2 _ TE _ hr, cell_of_row _ _ 3 _ TE _ hr⟩, hBa.trans (hb.mono ?_), (hb.block q (by have := hab.size; omega)).trans hqa⟩
                              have := hB5.size
                              have := hab.size
                              have := hqk.out
                              omega
                            generalize ordV er em G.r G.m = o at *
                            clear hab hax hqa
                            replace hBa := Lib.hid hBa
                            replace hB5 := Lib.hid hB5
                            replace hq5 := Lib.hid hq5
                            subst hs
                            cases hGT : gtB er em G.r G.m with
                            | true =>
                              rw [hGT] at ho hbs
                              rw [if_pos rfl] at hbs
                              replace hbs := Lib.hid hbs
                              clear hGT
                              as_aux_lemma =>
                                go_wp2_with (go_at_call 37; refine (hOr.out _).mono ?_; rintro e w7 ⟨rfl, hb7⟩; obtain ⟨⟨x0', x1', x2', x3'⟩, hB7, hq7⟩ := hFn.out _ hb7; have c0 := cell_of_row _ _ 0 _ TE _ hq7; have c1 := cell_of_row _ _ 1 _ TE _ hq7; have c2 := cell_of_row _ _ 2 _ TE _ hq7; have c3 := cell_of_row _ _ 3 _ TE _ hq7; have fz := fun i => frozen_of_row w7 q i _ TE hq7; have hB7' := Lib.hid hB7; have hq7' := Lib.hid hq7; clear hB7 hq7)
                                go_roundw
                                case rel =>
                                  obtain ⟨hr, hK⟩ := ebox_set (y := ⟨es, er, em, ev⟩) hq7'.out
                                  exact ⟨p + 1, by omega, by go_num, hB7'.out.trans (hK.below (by rw [← hqk.out]; exact hB7'.out.size) fun i e => by subst e; exact Nat.le_refl _), by rw [hbs.out]; exact hr⟩
                                case measure => simp [nOf]; omega
                            | false =>
                              rw [hGT] at ho hbs
                              rw [if_neg (by simp)] at hbs
                              replace hbs := Lib.hid hbs
                              clear hGT
                              as_aux_lemma =>
                                go_wp2_with (go_at_call 37; refine (hOr.out _).mono ?_; rintro e w7 ⟨rfl, hb7⟩; obtain ⟨_, hB7, hq7⟩ := hFn.out _ hb7; have hB7' := Lib.hid hB7; have hq7' := Lib.hid hq7; clear hB7 hq7)
                                go_roundw
                                case rel => exact ⟨p + 1, by omega, by go_num, hB7'.out, by rw [hbs.out]; exact hq7'.out⟩
                                case measure => simp [nOf]; omega
                          · have hpk : pick SL G ⟨es, er, em, ev⟩ = G := by
                              unfold pick
                              rw [decide_eq_false hs]
                              rfl
                            rw [hpk] at hbs
                            have hs1 : (es == SL) = false := by simpa using hs
                            have hs2 : decide (es = SL) = false := by simpa using hs
                            replace hbs := Lib.hid hbs
                            replace hBa := Lib.hid hBa
                            replace hqa := Lib.hid hqa
                            clear hpk hB5 hq5 hax hab
                            as_aux_lemma =>
                              go_wp2
                              go_roundw
                              case rel => exact ⟨p + 1, by omega, by go_num, hBa.out, by rw [hbs.out]; exact hqa.out⟩
                              case measure => simp [nOf]; omega
                        · obtain rfl : p = ln := by omega
                          have z3 : decide ((p : Int) < (p : Int)) = false := by simp
                          rw [show Lk.take p = Lk by rw [hlnn.out, List.take_length], ← hnx.out] at hq5
                          replace hB5 := Lib.hid hB5
                          replace hq5 := Lib.hid hq5
                          clear hOk
                          as_aux_lemma =>
                            go_wp2
                            go_roundw
                            case rel => exact ⟨k + 1, by omega, by go_num, hB5.out, hq5.out⟩
                            case measure => simp [nOf]; omega
                  · obtain rfl : k = n := by omega
                    have k1 : decide ((k : Int) < (k : Int)) = false := by simp
                    have y3 : wr.cell? ⟨q, 3, none⟩ = some (.string (bst SL (allK s.P k)).v) := cell_of_row _ _ 3 _ TE _ hq4
                    have hql := (Array.getElem?_eq_some_iff.1 hq4).1
                    generalize bst SL (allK s.P k) = G at *
                    obtain ⟨V, hV⟩ : ∃ V, V = G.v := ⟨_, rfl⟩
                    rw [← hV] at y3 hBj
                    obtain ⟨y, hy⟩ : ∃ y : Et, y = ⟨SL, sr, sm, V⟩ := ⟨_, rfl⟩
                    have hyB : y = B j := by rw [hy]; exact hBj.out
                    have hab : Below wr.heap.size wr (wr.drew.alloc (.cells #[.int .i64 SL, .int .i64 sr, .int .i64 sm, .string V] TE)) := below2 ((Below.refl wr.heap.size wr).drew) (alloc_b wr.drew _)
                    have hIa : IsE (wr.drew.alloc (.cells #[.int .i64 SL, .int .i64 sr, .int .i64 sm, .string V] TE)) (.slice (some ⟨wr.heap.size, 0, none⟩) 1 1) [y] := is_one (by rw [hy]; exact heap_alloc_new wr.drew _) 1
                    have hOa := (hOt.out _ hB4).later hab
                    have hsz := Nat.le_trans hbw.size hab.size
                    have hblt4 := World.block_lt_of_cell? wr _ d2
                    have hne : Value.ownBlock (.slice oa j oc) ≠ some q := fun e => by have := (World.ownsRow.lt (hOt.out _ (Below.refl _ _)) q e).2; have := hqk.out; omega
                    have hSa := Lib.hid (show (wr.drew.alloc (.cells #[.int .i64 SL, .int .i64 sr, .int .i64 sm, .string V] TE)).cell? ⟨b, 2, none⟩ = some (.int .i64 sr) ∧ (wr.drew.alloc (.cells #[.int .i64 SL, .int .i64 sr, .int .i64 sm, .string V] TE)).cell? ⟨b, 3, none⟩ = some (.int .i64 sm) ∧ (wr.drew.alloc (.cells #[.int .i64 SL, .int .i64 sr, .int .i64 sm, .string V] TE)).cell? ⟨q, 3, none⟩ = some (.string V) from
                      ⟨(hab.cell (p := ⟨b, 2, none⟩) hblt4).trans d2, (hab.cell (p := ⟨b, 3, none⟩) hblt4).trans d3, (hab.cell (p := ⟨q, 3, none⟩) hql).trans y3⟩)
                    have hfin : Hid (∀ v' w8, OwE w.heap.size (lst j B ++ [y]) v' w8 → (wr.drew.alloc (.cells #[.int .i64 SL, .int .i64 sr, .int .i64 sm, .string V] TE)).grownBy w8 (Value.ownBlock (.slice oa j oc)) → OwE w.heap.size (lst (j + 1) B) v' w8 ∧ Below w.heap.size w w8 ∧ (w8.cell? ⟨b, 2, none⟩ = some (.int .i64 sr) ∧ w8.cell? ⟨b, 3, none⟩ = some (.int .i64 sm) ∧ w8.cell? ⟨q, 3, none⟩ = some (.string V))) := Lib.hid fun v' w8 hO hg => by
                      have hb := own_below hOa hg (hbw.trans (hab.mono hbw.size)) (Nat.le_refl _)
                      obtain ⟨_, _, r2, r3, _⟩ := hCl.out w8 hb
                      refine ⟨by rw [lst_succ, ← hyB]; exact hO, hb, r2, r3, ?_⟩
                      have hq8 : w8.heap[q]? = wr.heap[q]? := (hg.block q (Nat.lt_of_lt_of_le hql hab.size) (Ne.symm hne)).trans (hab.block q hql)
                      exact cell_of_row _ _ 3 _ TE _ (hq8.trans hq4) |>.trans (by rw [hV]; rfl)
                    have hll : (lst j B).length ≤ 10000 := by rw [lst_len]; omega
                    have hy1 : [y].length ≤ 10000 := by simp
                    replace hIa := Lib.hid hIa
                    replace hOa := Lib.hid hOa
                    replace hSL := Lib.hid (show SL < BG + N by rw [hSL.out]; omega)
                    clear hab hyB hbw hOt hbW hB4 hq4 hBj hbt hy hV hne hql hblt4
                    as_aux_lemma =>
                      go_wp2
                      refine wp_region_held_drew (S := (fun W => W.cell? ⟨b, 2, none⟩ = some (.int .i64 sr) ∧ W.cell? ⟨b, 3, none⟩ = some (.int .i64 sm) ∧ W.cell? ⟨q, 3, none⟩ = some (.string V))) (by kernel_rfl) (⟨d2, d3, y3⟩) (fun hS => ?_)
                      try simp only [List.getElem_toArray, List.getElem_cons_succ, List.getElem_cons_zero, Act.put, List.setIfInBounds_toArray, List.set_cons_zero, List.set_cons_succ]
                      refine wpAnyH_take (i := 0) (v := (.slice oa j oc)) rfl (by kernel_rfl) (by kernel_rfl) (by kernel_rfl) (fun _ _ _ h => h) (Or.inl ⟨by kernel_rfl, by intro w' hSw; obtain ⟨s0, s1, s2⟩ := hSw; go_simp⟩) hS ?_
                      try simp only [List.getElem_toArray, List.getElem_cons_succ, List.getElem_cons_zero, Act.put, List.setIfInBounds_toArray, List.set_cons_zero, List.set_cons_succ]
                      refine wpAnyH_take (i := 1) (v := (.int .i64 SL)) rfl (by kernel_rfl) (by kernel_rfl) (by kernel_rfl) (fun _ _ _ h => h) (Or.inl ⟨by kernel_rfl, by intro w' hSw; obtain ⟨s0, s1, s2⟩ := hSw; go_simp⟩) hS ?_
                      try simp only [List.getElem_toArray, List.getElem_cons_succ, List.getElem_cons_zero, Act.put, List.setIfInBounds_toArray, List.set_cons_zero, List.set_cons_succ]
                      refine wpAnyH_take (i := 2) (v := (.pointer (some ⟨b, 0, none⟩))) rfl (by kernel_rfl) (by kernel_rfl) (by kernel_rfl) (fun _ _ _ h => h) (Or.inl ⟨by kernel_rfl, by intro w' hSw; obtain ⟨s0, s1, s2⟩ := hSw; go_simp⟩) hS ?_
                      try simp only [List.getElem_toArray, List.getElem_cons_succ, List.getElem_cons_zero, Act.put, List.setIfInBounds_toArray, List.set_cons_zero, List.set_cons_succ]
                      refine wpAnyH_take (i := 3) (v := (.pointer (some ⟨b, 0, none⟩))) rfl (by kernel_rfl) (by kernel_rfl) (by kernel_rfl) (fun _ _ _ h => h) (Or.inl ⟨by kernel_rfl, by intro w' hSw; obtain ⟨s0, s1, s2⟩ := hSw; go_simp⟩) hS ?_
                      try simp only [List.getElem_toArray, List.getElem_cons_succ, List.getElem_cons_zero, Act.put, List.setIfInBounds_toArray, List.set_cons_zero, List.set_cons_succ]
                      refine wpAnyH_take (i := 4) (v := (.pointer (some ⟨b, 2, none⟩))) rfl (by kernel_rfl) (by kernel_rfl) (by kernel_rfl) (fun _ _ _ h => h) (Or.inl ⟨by kernel_rfl, by intro w' hSw; obtain ⟨s0, s1, s2⟩ := hSw; go_simp⟩) hS ?_
                      try simp only [List.getElem_toArray, List.getElem_cons_succ, List.getElem_cons_zero, Act.put, List.setIfInBounds_toArray, List.set_cons_zero, List.set_cons_succ]
                      refine wpAnyH_take (i := 5) (v := (.agg #[.int .i64 sr, .int .i64 sm])) rfl (by kernel_rfl) (by kernel_rfl) (by kernel_rfl) (fun _ _ _ h => h) (Or.inl ⟨by kernel_rfl, by intro w' hSw; obtain ⟨s0, s1, s2⟩ := hSw; go_simp⟩) hS ?_
                      try simp only [List.getElem_toArray, List.getElem_cons_succ, List.getElem_cons_zero, Act.put, List.setIfInBounds_toArray, List.set_cons_zero, List.set_cons_succ]
                      refine wpAnyH_take (i := 6) (v := (.pointer (some ⟨q, 3, none⟩))) rfl (by kernel_rfl) (by kernel_rfl) (by kernel_rfl) (fun _ _ _ h => h) (Or.inl ⟨by kernel_rfl, by intro w' hSw; obtain ⟨s0, s1, s2⟩ := hSw; go_simp⟩) hS ?_
                      try simp only [List.getElem_toArray, List.getElem_cons_succ, List.getElem_cons_zero, Act.put, List.setIfInBounds_toArray, List.set_cons_zero, List.set_cons_succ]
                      refine wpAnyH_take (i := 7) (v := (.string V)) rfl (by kernel_rfl) (by kernel_rfl) (by kernel_rfl) (fun _ _ _ h => h) (Or.inl ⟨by kernel_rfl, by intro w' hSw; obtain ⟨s0, s1, s2⟩ := hSw; go_simp⟩) hS ?_
                      try simp only [List.getElem_toArray, List.getElem_cons_succ, List.getElem_cons_zero, Act.put, List.setIfInBounds_toArray, List.set_cons_zero, List.set_cons_succ]
                      refine wpAnyH_take (i := 8) (v := (.agg #[.int .i64 SL, .int .i64 sr, .int .i64 sm, .string V])) rfl (by kernel_rfl) (by kernel_rfl) (by kernel_rfl) (fun _ _ _ h => h) (Or.inl ⟨by kernel_rfl, by intro w' hSw; obtain ⟨s0, s1, s2⟩ := hSw; go_simp⟩) hS ?_
                      try simp only [List.getElem_toArray, List.getElem_cons_succ, List.getElem_cons_zero, Act.put, List.setIfInBounds_toArray, List.set_cons_zero, List.set_cons_succ]
                      refine wpAnyH_ready (rs := [9]) (by kernel_rfl) (by simp) ?_
                      refine AllReadyH.cons rfl (fun K hK => ?_) AllReadyH.nil
                      go_simp
                      refine hK.out _ _ hSa.out (fun hS => ?_)
                      clear hK K
                      try simp only [List.getElem_toArray, List.getElem_cons_succ, List.getElem_cons_zero, Act.put, List.setIfInBounds_toArray, List.set_cons_zero, List.set_cons_succ]
                      refine wpAnyH_ready (rs := [10]) (by kernel_rfl) (by simp) ?_
                      refine AllReadyH.cons rfl (fun K hK => ?_) AllReadyH.nil
                      refine step_append_l rfl (.tmp 103) (.tmp 112) rfl w.heap.size (.slice oa j oc) (.slice (some ⟨wr.heap.size, 0, none⟩) 1 1) (lst j B) [y] (by simp [Act.eval]) (by simp [Act.eval]) hOa.out hIa.out hll hy1 hsz ?_
                      intro v' w8 hO8 hg8 hv8
                      obtain ⟨hO9, hb9, hS9⟩ := hfin.out _ _ hO8 hg8
                      obtain ⟨a8, m8, c8, rfl, hm8⟩ := owe_form hO9
                      rw [lst_len] at hm8
                      subst hm8
                      replace hO9 := Lib.hid hO9
                      replace hb9 := Lib.hid hb9
                      clear hO8 hg8 hv8
                      refine hK.out _ _ hS9 (fun hS => ?_)
                      clear hK K
                      try simp only [List.getElem_toArray, List.getElem_cons_succ, List.getElem_cons_zero, Act.put, List.setIfInBounds_toArray, List.set_cons_zero, List.set_cons_succ]
                      refine wpAnyH_ready (rs := [11]) (by kernel_rfl) (by simp) ?_
                      refine AllReadyH.cons rfl (fun K hK => ?_) AllReadyH.nil
                      go_simp
                      refine hK.out _ _ hS9 (fun hS => ?_)
                      clear hK K
                      try simp only [List.getElem_toArray, List.getElem_cons_succ, List.getElem_cons_zero, Act.put, List.setIfInBounds_toArray, List.set_cons_zero, List.set_cons_succ]
                      refine wpAnyH_done (by kernel_rfl) ?_ _
                      clear hS
                      go_wp2
                      go_roundw
                      case rel => exact ⟨j + 1, a8, c8, by omega, by rw [← hSn.out], rfl, hO9.out, hb9.out⟩
                      case measure => have := hSL.out; simp [intOf]; omega
            · obtain rfl : j = N := by omega
              have i1 : decide (BG + (j : Nat) ≤ EN) = false := decide_eq_false (by omega)
              replace hO := Lib.hid hO
              as_aux_lemma =>
                go_wp2
                go_ret2
                exact ⟨_, rfl, hO.out, hbj⟩
end Go.Proofs.Ytffiooclkchoiaa.Prp
