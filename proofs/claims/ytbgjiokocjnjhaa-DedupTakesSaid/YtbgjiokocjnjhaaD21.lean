/- filled: a table and a map of what it has to remember. -/
import Derived.Test.YtbgjiokocjnjhaaD20
namespace Go.Proofs.Ytbgjiokocjnjhaa.Ded
open Go.RowKit Go.Lib Go.Shelf
open Rng (tx tx_of)
open Eff (TE effOk)
set_option linter.unusedVariables false
set_option linter.unusedSimpArgs false
set_option maxRecDepth 100000

theorem min100 (a n : Nat) (h : min a 100 = n) (ts : Array TypeId) (t : TypeId) (w : World) :
    (Builtin.min_ ts t #[.int .i64 a, .int .i64 100]).run Try.prog w = .ok (.int .i64 n) w := by
  have e : (if (100 : Int) < (a : Int) then (100 : Int) else (a : Int)) = (n : Int) := by split <;> omega
  have h3 := run_min_int2 (P := Try.prog) w ts t .i64 .i64 a 100
  rw [h3, e]
/-- What a table has to remember. -/
structure Fl (B : Nat) (w : World) (b : Nat) (n : Int) (mb : Nat) (L : List En) (M : List (Ef × Mm)) (W : World) : Prop where
  k : Wk B w b n L W
  mp : MpIs W mb M
  rel : ∀ e, getL L e = (getP M e).map enM
  len : L.length = M.length
  ok : ∀ p ∈ M, MmOk p.2 ∧ (enM p.2).ef = p.1
  hmb : B ≤ mb
variable {B : Nat} {w W : World} {b mb : Nat} {n : Int} {L : List En} {M : List (Ef × Mm)}
theorem Fl.later {W' : World} (h : Fl B w b n mb L M W) (hb : Below W.heap.size W W') : Fl B w b n mb L M W' := ⟨h.k.later hb, h.mp.later hb, h.rel, h.len, h.ok, h.hmb⟩
theorem Fl.ne (h : Fl B w b n mb L M W) : mb ≠ b := by
  rintro rfl
  obtain ⟨v, hd⟩ := h.k.ex
  obtain ⟨⟨es, c, hm, _⟩, _⟩ := h.mp
  rw [hd.blk] at hm
  cases hm
/-- The map alone is written. -/
theorem Wk.map {W' : World} (h : Wk B w b n L W) {es : Array MapEntry} {c : Nat} (hm : W.heap[mb]? = some (.map es c)) (hB : B ≤ mb) (hg : W.grownBy W' (some mb)) : Wk B w b n L W' := by
  have hle := h.le
  obtain ⟨v, hd⟩ := h.ex
  have hlt : mb < W.heap.size := (Array.getElem?_eq_some_iff.1 hm).1
  refine ⟨⟨v, hd.kept fun k hk hkk => hg.block k hk (fun e => ?_)⟩, h.bel.grown hg hle (fun k e => ?_)⟩
  · injection e with e
    subst e
    rcases hkk with rfl | hkk
    · rw [hd.blk] at hm; cases hm
    · obtain ⟨cur, hc⟩ := hd.row.cells k _ hkk hm
      cases hc
  · injection e with e
    omega
theorem getP_app {M : List (Ef × Mm)} {e : Ef} {m : Mm} (hg : getP M e = none) (f : Ef) : getP (M ++ [(e, m)]) f = if f = e then some m else getP M f := by
  unfold getP at *
  rw [List.find?_append]
  by_cases hf : f = e
  · subst hf
    rw [Option.map_eq_none_iff] at hg
    rw [hg]
    simp
  · rw [if_neg hf]
    cases hq : M.find? (fun p => decide (p.1 = f)) with
    | some p => simp
    | none =>
      have : ¬ e = f := fun c => hf c.symm
      simp [this]
theorem orNone {α : Type} (o : Option α) (h : ∀ x, o ≠ some x) : o = none := by
  cases o with
  | none => rfl
  | some x => exact absurd rfl (h x)
/-- A new memo. -/
theorem Fl.put (h : Fl B w b n mb L M W) (m : Mm) (hm : MmOk m) (hg : getP M (enM m).ef = none) (hn : (M.length : Int) < n) :
    ∃ W1, (Instr.mapUpdate TMp (.map (some mb)) (efA (enM m).ef) (mmA m)).run Try.prog W = .ok () W1 ∧ W1.heap.size = W.heap.size ∧ (∀ k, k ≠ mb → W1.heap[k]? = W.heap[k]?) ∧ MpIs W1 mb (M ++ [((enM m).ef, m)]) ∧ Wk B w b n L W1 := by
  obtain ⟨W1, hr, h1, h2, h3⟩ := mp_put h.mp (enM m).ef m (enM_wf m hm) hg
  obtain ⟨⟨es, c, hmm, _⟩, _⟩ := h.mp
  refine ⟨W1, hr, h3, fun k hk => ?_, h1, h.k.map hmm h.hmb h2⟩
  rcases Nat.lt_or_ge k W.heap.size with hlt | hge
  · exact h2.block k hlt (fun e => hk (by injection e))
  · rw [Array.getElem?_eq_none hge, Array.getElem?_eq_none (by omega)]
theorem Fl.get (h : Fl B w b n mb L M W) {e : Ef} (hg : getP M e = none) : getL L e = none := by rw [h.rel, hg]; rfl
theorem Fl.fin (h : Fl B w b n mb L M W) (m : Mm) (hm : MmOk m) (hg : getP M (enM m).ef = none) {W2 : World} (hk : Wk B w b n (insL L (enM m)) W2) (hp : MpIs W2 mb (M ++ [((enM m).ef, m)])) : Fl B w b n mb (insL L (enM m)) (M ++ [((enM m).ef, m)]) W2 := by
  obtain ⟨v, hd⟩ := h.k.ex
  refine ⟨hk, hp, fun e => ?_, by rw [insL_len, h.len]; simp, fun p hpp => ?_, h.hmb⟩
  · rw [get_insL hd.srt (h.get hg), getP_app hg, h.rel]
    split <;> rfl
  · rcases List.mem_append.1 hpp with h1 | h1
    · exact h.ok p h1
    · simp only [List.mem_singleton] at h1
      subst h1
      exact ⟨hm, rfl⟩
theorem Fl.room (h : Fl B w b n mb L M W) : (M.length : Int) ≤ n ∧ n ≤ 2048 := by
  obtain ⟨v, hd⟩ := h.k.ex
  have := hd.len
  have := h.len
  have := hd.max
  omega
def Fld (n : Int) (w : World) (r : Ending) (w' : World) : Prop := ∃ L M mb, r = .returned (.tuple #[.pointer (some ⟨w.heap.size, 0, none⟩), .map (some mb), .bool true]) ∧ Fl w.heap.size w w.heap.size n mb L M w'
/-- A memo's cells. -/
theorem mm_at {W : World} {a : Option Addr} {len cap : Nat} {S : Nat → Mm} (h : IsMm W a len cap S) {k : Nat} (hk : k < len) :
    ∃ g off, a = some ⟨g, off, none⟩ ∧ W.cell? ⟨g, off + k * 5, none⟩ = some (.int .u8 (S k).s) ∧ W.cell? ⟨g, off + k * 5 + 1, none⟩ = some (.int .u8 (S k).p) ∧ W.cell? ⟨g, off + k * 5 + 2, none⟩ = some (.int .u8 (S k).k) ∧ W.cell? ⟨g, off + k * 5 + 3, none⟩ = some (.int .i32 (S k).n) ∧ W.cell? ⟨g, off + k * 5 + 4, none⟩ = some (.int .u8 (S k).e) := by
  obtain ⟨g, off, e, _, hc⟩ := h.cell (by omega)
  exact ⟨g, off, e, hc k hk 0 (by omega), hc k hk 1 (by omega), hc k hk 2 (by omega), hc k hk 3 (by omega), hc k hk 4 (by omega)⟩
/-- The boxes of a round: the effect, the reply, the memo. -/
structure BX (wr W2 : World) (x : En) (m : Mm) (W : World) : Prop where
  e : W.heap[W2.heap.size]? = some (eBx x.ef)
  r : W.heap[W2.heap.size + 1]? = some (.cells #[.int .i64 x.er, .int .i64 x.nm, .string (tx x.da)] TRp (0, 0))
  m : W.heap[wr.heap.size]? = some (.cells #[.int .u8 m.s, .int .u8 m.p, .int .u8 m.k, .int .i32 m.n, .int .u8 m.e] TMm (0, 0))
theorem BX.kept {wr W2 W W' : World} {x : En} {m : Mm} (h : BX wr W2 x m W) {mb : Nat} (hk : ∀ k, k ≠ mb → W'.heap[k]? = W.heap[k]?) (h1 : mb < wr.heap.size) (h2 : wr.heap.size ≤ W2.heap.size) : BX wr W2 x m W' :=
  ⟨(hk _ (by omega)).trans h.e, (hk _ (by omega)).trans h.r, (hk _ (by omega)).trans h.m⟩
theorem BX.later {wr W2 W W' : World} {x : En} {m : Mm} (h : BX wr W2 x m W) (hb : Below W.heap.size W W') : BX wr W2 x m W' :=
  ⟨(hb.block _ (Array.getElem?_eq_some_iff.1 h.e).1).trans h.e, (hb.block _ (Array.getElem?_eq_some_iff.1 h.r).1).trans h.r, (hb.block _ (Array.getElem?_eq_some_iff.1 h.m).1).trans h.m⟩
theorem BX.cells {wr W2 W : World} {x : En} {m : Mm} (h : BX wr W2 x m W) :
    W.cell? ⟨W2.heap.size, 0, none⟩ = some (.int .i64 x.ef.s) ∧ W.cell? ⟨W2.heap.size, 1, none⟩ = some (.int .i64 x.ef.t) ∧ W.cell? ⟨W2.heap.size, 2, none⟩ = some (.int .i64 x.ef.p) ∧
    W.cell? ⟨W2.heap.size + 1, 0, none⟩ = some (.int .i64 x.er) ∧ W.cell? ⟨W2.heap.size + 1, 1, none⟩ = some (.int .i64 x.nm) ∧ W.cell? ⟨W2.heap.size + 1, 2, none⟩ = some (.string (tx x.da)) :=
  ⟨cell_of_row W _ 0 _ TE _ h.e, cell_of_row W _ 1 _ TE _ h.e, cell_of_row W _ 2 _ TE _ h.e, cell_of_row W _ 0 _ TRp _ h.r, cell_of_row W _ 1 _ TRp _ h.r, cell_of_row W _ 2 _ TRp _ h.r⟩
theorem BX.new {wr W2 : World} {x : En} {m : Mm} (hm : W2.heap[wr.heap.size]? = some (.cells #[.int .u8 m.s, .int .u8 m.p, .int .u8 m.k, .int .i32 m.n, .int .u8 m.e] TMm (0, 0))) :
    BX wr W2 x m ((W2.alloc (.cells #[.int .i64 x.ef.s, .int .i64 x.ef.t, .int .i64 x.ef.p] TE)).alloc (.cells #[.int .i64 x.er, .int .i64 x.nm, .string (tx x.da)] TRp)) := by
  have h2 := heap_alloc_new (W2.alloc (.cells #[.int .i64 x.ef.s, .int .i64 x.ef.t, .int .i64 x.ef.p] TE)) (.cells #[.int .i64 x.er, .int .i64 x.nm, .string (tx x.da)] TRp)
  rw [World.size_alloc] at h2
  have hlt := (Array.getElem?_eq_some_iff.1 hm).1
  refine ⟨?_, h2, ?_⟩
  · rw [Below.heap_alloc _ _ _ (by simp)]
    exact heap_alloc_new _ _
  · rw [Below.heap_alloc _ _ _ (by simp; omega), Below.heap_alloc _ _ _ hlt]
    exact hm
theorem mp_fr {W W' : World} {mb b : Nat} {M : List (Ef × Mm)} (h : MpIs W mb M) (hf : Fr W W' b) (hne : mb ≠ b) : MpIs W' mb M := by
  obtain ⟨⟨es, c, hm, he⟩, hw, hn⟩ := h
  exact ⟨⟨es, c, hf mb _ hm hne (fun cur e => by cases e), he⟩, hw, hn⟩
set_option maxHeartbeats 4000000 in
theorem filled_any (n : Nat) (hn : n ≤ 2048) (a : Option Addr) (len cap : Nat) (S : Nat → Mm) (w : World) (h : IsMm w a len cap S) :
    Calls Try.prog 23 #[.int .i64 (n : Nat), .slice a len cap] w (Fld n w) := by
  obtain ⟨c, hc⟩ : ∃ c, min len 100 = c := ⟨_, rfl⟩
  have hmin := min100 _ _ hc
  have hcl : c ≤ len := by omega
  have hlc := h.fit.1
  have hcap := h.fit.2
  have q0 : (c : Int) ≤ (cap : Int) := by omega
  have HNew := Lib.hid (Wk.new w n (by omega) (by omega))
  have HM := Lib.hid h
  clear h hc
  go_enter Try.func23, Try.ntmps23
  go_wp2_with fail
  refine HNew.out.mono ?_
  rintro r W1 ⟨rfl, h1⟩
  have hF : Fl w.heap.size w w.heap.size n W1.heap.size [] [] (W1.alloc (.map #[] 0)) :=
    ⟨h1.later (alloc_b _ _), ⟨⟨#[], 0, heap_alloc_new _ _, rfl⟩, (fun p hp => by cases hp), List.nodup_nil⟩, fun e => rfl, rfl, (fun p hp => by cases hp), h1.le⟩
  replace hF := Lib.hid hF
  have hmm := @run_makeMap Try.prog
  clear h1 HNew
  go_wp2
  go_loopw [32] (fun s32 wr => ∃ (k : Nat) (L : List En) (M : List (Ef × Mm)), s32 = .int .i64 k ∧ k ≤ c ∧ Hid (Fl w.heap.size w w.heap.size n W1.heap.size L M wr)) (fun s32 _ => c - (intOf s32).toNat)
  case atStart => exact ⟨0, [], [], rfl, Nat.zero_le _, hF⟩
  case round =>
    obtain ⟨k, L, M, rfl, hkc, F1⟩ := hrel
    clear hF hmm hmin
    by_cases hlt : k < c
    · obtain ⟨g, off, rfl, m0, m1, m2, m3, m4⟩ := mm_at (HM.out.later F1.out.k.bel) (show k < len by omega)
      have hmm := HM.out.rng k
      generalize S k = m at *
      have hmk := Lib.hid hmm
      have hal := alloc_b wr (.cells #[.int .u8 m.s, .int .u8 m.p, .int .u8 m.k, .int .i32 m.n, .int .u8 m.e] TMm)
      have HO := Lib.hid (of_any m hmm (wr.alloc (.cells #[.int .u8 m.s, .int .u8 m.p, .int .u8 m.k, .int .i32 m.n, .int .u8 m.e] TMm)))
      have hmbx := heap_alloc_new wr (.cells #[.int .u8 m.s, .int .u8 m.p, .int .u8 m.k, .int .i32 m.n, .int .u8 m.e] TMm)
      replace hmbx := Lib.hid hmbx
      have F1a := Lib.hid (F1.out.later hal)
      have hwf := enM_wf m hmm
      have hok := Lib.hid (enM_ok m hmm)
      have hfin := Lib.hid (fun (W : World) (L : List En) (M : List (Ef × Mm)) (F : Fl w.heap.size w w.heap.size n W1.heap.size L M W) (hg : getP M (enM m).ef = none) (W2 : World) (hk : Wk w.heap.size w w.heap.size n (insL L (enM m)) W2) (hp : MpIs W2 W1.heap.size (M ++ [((enM m).ef, m)])) => F.fin m hmm hg hk hp)
      have hput := Lib.hid (fun (W : World) (L : List En) (M : List (Ef × Mm)) (F : Fl w.heap.size w w.heap.size n W1.heap.size L M W) (hg : getP M (enM m).ef = none) (hn : (M.length : Int) < n) => F.put m hmm hg hn)
      have hmw := Lib.hid F1.out.mp.lt
      have hwr : wr.heap.size < (wr.alloc (.cells #[.int .u8 m.s, .int .u8 m.p, .int .u8 m.k, .int .i32 m.n, .int .u8 m.e] TMm)).heap.size := by simp
      unfold Ofd at HO
      have hrelx := Lib.hid F1.out.rel
      generalize hx : enM m = x at *
      have hrm := F1.out.room
      obtain ⟨hrm1, hrm2⟩ := hrm
      clear hmm hal F1
      go_wp2_with fail
      clear m0 m1 m2 m3 m4
      refine HO.out.mono ?_
      rintro r W2 ⟨rfl, hb⟩
      have F2 := Lib.hid (F1a.out.later hb)
      have hm2 := (hb.block _ hwr).trans hmbx.out
      have hsz2 : Hid (wr.heap.size ≤ W2.heap.size) := Lib.hid (by have := hb.size; omega)
      have hb3 : Below W2.heap.size W2 ((W2.alloc (.cells #[.int .i64 x.ef.s, .int .i64 x.ef.t, .int .i64 x.ef.p] TE)).alloc (.cells #[.int .i64 x.er, .int .i64 x.nm, .string (tx x.da)] TRp)) := (alloc_b _ _).alloc (by simp) _
      have B3 := Lib.hid (BX.new (x := x) hm2)
      replace hm2 := Lib.hid hm2
      clear hb hwr HO F1a hmbx
      cases hg : getP M x.ef with
      | some m' =>
        have hlk := mp_look (F2.out.later hb3).mp x.ef hwf
        rw [hg] at hlk
        have hb4 := hb3.trans ((alloc_b _ (.cells #[.int .u8 m'.s, .int .u8 m'.p, .int .u8 m'.k, .int .i32 m'.n, .int .u8 m'.e] TMm)).mono hb3.size)
        have F4 := Lib.hid (F2.out.later hb4)
        have hgl := Lib.hid (show getL L x.ef = some (enM m') by rw [hrelx.out, hg]; rfl)
        clear hb3 hb4 F2 B3 hg hfin hput hrelx hwf
        go_wp2_with fail
        clear hlk
        refine (F4.out.k.have x _ hok.out hgl.out).mono ?_
        rintro r W6 ⟨rfl, hb, _⟩
        have F6 := Lib.hid (F4.out.later hb)
        clear hb F4 hgl hok
        go_wp2_with fail
        have hl6 := F6.out.k.len
        rw [F6.out.len] at hl6
        refine hl6.mono ?_
        rintro r W7 ⟨rfl, hb, _⟩
        have F7 := Lib.hid (F6.out.later hb)
        clear hb hl6 F6
        have hln := mp_len F7.out.mp
        go_wp2_with fail
        have hl7 := F7.out.k.room
        rw [F7.out.len] at hl7
        refine hl7.mono ?_
        rintro r W8 ⟨rfl, hb, _⟩
        have F8 := Lib.hid (F7.out.later hb)
        clear hb hl7 F7 hln
        have hln := mp_len F8.out.mp
        go_wp2
        go_roundw
        case rel => exact ⟨k + 1, _, _, by go_num, by omega, F8⟩
        case measure => simp [intOf]; omega
      | none =>
        have hlk := mp_look (F2.out.later hb3).mp x.ef hwf
        rw [hg] at hlk
        have hb4 := hb3.trans ((alloc_b _ (.cells #[.int .u8 0, .int .u8 0, .int .u8 0, .int .i32 0, .int .u8 0] TMm)).mono hb3.size)
        have F4 := Lib.hid (F2.out.later hb4)
        have B4 := Lib.hid (B3.out.later (alloc_b _ (.cells #[.int .u8 0, .int .u8 0, .int .u8 0, .int .i32 0, .int .u8 0] TMm)))
        have hgl := Lib.hid (show getL L x.ef = none by rw [hrelx.out, hg]; rfl)
        have hgn := Lib.hid hg
        have hln := mp_len F4.out.mp
        clear hb3 hb4 F2 B3 hg hrelx hwf
        by_cases hfl : (M.length : Int) = (n : Int)
        · have hd1 : ((M.length : Int) == (n : Int)) = true := by simpa using hfl
          have HFl := Lib.hid hfl
          clear hfl hfin hput
          go_wp2_with fail
          clear hlk hln
          obtain ⟨v4, hd4⟩ := F4.out.k.ex
          refine (put_full x hd4 hok.out hgl.out (by have := HFl.out; have := F4.out.len; omega)).mono ?_
          rintro r W6 ⟨rfl, hb⟩
          have F6 := Lib.hid (F4.out.later hb)
          clear hb F4 hgl hok hd4 hd1
          go_wp2_with fail
          have hl6 := F6.out.k.len
          rw [F6.out.len] at hl6
          refine hl6.mono ?_
          rintro r W7 ⟨rfl, hb, _⟩
          have F7 := Lib.hid (F6.out.later hb)
          clear hb hl6 F6
          have hln := mp_len F7.out.mp
          go_wp2_with fail
          have hl7 := F7.out.k.room
          rw [F7.out.len] at hl7
          refine hl7.mono ?_
          rintro r W8 ⟨rfl, hb, _⟩
          have F8 := Lib.hid (F7.out.later hb)
          clear hb hl7 F7 hln
          have hln := mp_len F8.out.mp
          go_wp2
          go_roundw
          case rel => exact ⟨k + 1, _, _, by go_num, by omega, F8⟩
          case measure => simp [intOf]; omega
        · have hd1 : ((M.length : Int) == (n : Int)) = false := by simpa using hfl
          obtain ⟨W5, hr5, hs5, ho5, hmp5, hk5⟩ := hput.out _ _ _ F4.out hgn.out (by omega)
          have B5 := Lib.hid (B4.out.kept ho5 hmw.out hsz2.out)
          have hLn : (L.length : Int) < (n : Int) := by have := F4.out.len; omega
          have KP := Lib.hid (hk5.put x hok.out hgl.out hLn)
          have HF := Lib.hid (fun (W6 : World) (h6 : Wk w.heap.size w w.heap.size n (insL L x) W6) (hfr : Fr W5 W6 w.heap.size) => hfin.out _ _ _ F4.out hgn.out W6 h6 (mp_fr hmp5 hfr F4.out.ne))
          obtain ⟨d0, d1, d2, d3, d4, d5⟩ := B5.out.cells
          have e0 := cell_of_row W2 _ 0 _ TMm _ hm2.out
          have e1 := cell_of_row W2 _ 1 _ TMm _ hm2.out
          have e2 := cell_of_row W2 _ 2 _ TMm _ hm2.out
          have e3 := cell_of_row W2 _ 3 _ TMm _ hm2.out
          have e4 := cell_of_row W2 _ 4 _ TMm _ hm2.out
          have hlt2 : wr.heap.size < W2.heap.size := (Array.getElem?_eq_some_iff.1 hm2.out).1
          have hlt3 : wr.heap.size < W2.heap.size + 1 := by omega
          have hlt4 : wr.heap.size < W2.heap.size + 1 + 1 := by omega
          clear hs5 ho5 hmp5 hk5 hfl hLn hput hfin B4 hgl hgn
          go_wp2_with fail
          clear hlk hln hr5 hd1 d0 d1 d2 d3 d4 d5 e0 e1 e2 e3 e4 hlt2 hlt3 hlt4 F4
          refine KP.out.mono ?_
          rintro r W6 ⟨rfl, h6, hfr⟩
          have F6 := HF.out W6 h6 hfr
          generalize M ++ [(x.ef, m)] = M' at F6
          generalize insL L x = L' at F6
          clear h6 hfr HF KP hrm1 hrm2
          obtain ⟨hrm1, hrm2⟩ := F6.room
          replace F6 := Lib.hid F6
          go_wp2_with fail
          have hl6 := F6.out.k.len
          rw [F6.out.len] at hl6
          refine hl6.mono ?_
          rintro r W7 ⟨rfl, hb, _⟩
          have F7 := Lib.hid (F6.out.later hb)
          clear hb hl6 F6
          have hln := mp_len F7.out.mp
          go_wp2_with fail
          have hl7 := F7.out.k.room
          rw [F7.out.len] at hl7
          refine hl7.mono ?_
          rintro r W8 ⟨rfl, hb, _⟩
          have F8 := Lib.hid (F7.out.later hb)
          clear hb hl7 F7 hln
          have hln := mp_len F8.out.mp
          go_wp2
          go_roundw
          case rel => exact ⟨k + 1, _, _, by go_num, by omega, F8⟩
          case measure => simp [intOf]; omega
    · obtain rfl : k = c := by omega
      have hE : Hid (Fld n w (.returned (.tuple #[.pointer (some ⟨w.heap.size, 0, none⟩), .map (some W1.heap.size), .bool true])) wr) := Lib.hid ⟨L, M, W1.heap.size, rfl, F1.out⟩
      go_wp2
      exact bodyPost_ret (v := .tuple #[.pointer (some ⟨w.heap.size, 0, none⟩), .map (some W1.heap.size), .bool true]) (by simp [results, Try.results23, go_sem]) rfl hE.out
end Go.Proofs.Ytbgjiokocjnjhaa.Ded
