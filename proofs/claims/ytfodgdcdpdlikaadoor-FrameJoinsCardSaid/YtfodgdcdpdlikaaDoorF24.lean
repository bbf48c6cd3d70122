/- The walk of FrameReads. -/
import Derived.Test.YtfodgdcdpdlikaaDoorF23
import Derived.Test.YtfodgdcdpdlikaaDoorF20
import Derived.Test.YtfodgdcdpdlikaaDoorF16
import Derived.HandedShaped
namespace Go.Proofs.YtfodgdcdpdlikaaDoor.Frame
open Go.RowKit Go.ChangeShapes
open Crc (Hv more more_lt ret_u32)
set_option linter.unusedVariables false
set_option linter.unusedSimpArgs false

def NextP (w : World) (X N : Int) (E : Nat) (D : List Nat) (e : Ending) (w' : World) : Prop :=
  ∃ a cap, e = .returned (.tuple #[.agg #[.int .i64 X, .slice a D.length cap], .int .i64 N, .int .i64 (E : Nat)]) ∧ Mine w' w.heap.size (.slice a D.length cap) D ∧ Below w.heap.size w w'
theorem nextp {w : World} {b : List Nat} {x : Int} {e : Ending} {w' : World} (h : NextA w b x e w') : NextP w (lkX (lkE b x) x.toNat) (lkN (lkE b x) x.toNat (restC (b.drop x.toNat))) (lkE b x) (lkC (lkE b x) (restC (b.drop x.toNat))) e w' := by
  obtain ⟨v, h1, h2, h3⟩ := h
  obtain ⟨a, cap, rfl⟩ := h2.form
  exact ⟨a, cap, h1, h2, h3⟩
/-- Bytes that one may write into. -/
def Loose (B : Nat) (w : World) (a : Option Addr) (n : Nat) : Prop :=
  ∀ p, p < n → ∃ h off, a = some ⟨h, off, none⟩ ∧ B ≤ h ∧ (∃ z, w.cell? ⟨h, off + p, none⟩ = some (.int .u8 z)) ∧ w.frozen? ⟨h, off + p, none⟩ = false
theorem Mine.loose {w : World} {B : Nat} {a : Option Addr} {n cap : Nat} {c : List Nat} (h : Mine w B (.slice a n cap) c) : Loose B w a c.length := by
  intro p hp
  obtain ⟨_, a', cap', e, _, hc⟩ := h.bs
  injection e with e1 e2 e3
  subst e1 e2 e3
  rcases h.own.2 with ⟨_, h0⟩ | ⟨g, cap2, cur, e, hbg, hg, _⟩
  · omega
  · injection e with e1 _ _
    subst e1
    obtain ⟨b, off, ha, hF, hcell⟩ := hc (by omega)
    injection ha with ha
    injection ha with e1 e2 _
    subst e1 e2
    exact ⟨_, _, rfl, hbg, ⟨_, hcell p hp⟩, by rw [Nat.zero_add]; exact blk_frozen hg p⟩
theorem Frs.wide {T : TypeId} {w : World} {base base' : Nat} {v : Value} {L : List (List Nat)} (h : Frs T w base v L) (hb : base' ≤ base) : Frs T w base' v L := by
  obtain ⟨zs, h1, h2, h3, h4⟩ := h.ex
  exact ⟨zs, rows_base h1 hb, h2, h3, fun z hz => (h4 z hz).wide hb⟩
/-- What the loops keep. -/
structure Inv (w : World) (a3 : Option Addr) (L : List (List Nat)) (wr : World) : Prop where
  bel : Below w.heap.size w wr
  rows : ∀ j, j < L.length → ∃ g a' cap', a3 = some ⟨g, 0, none⟩ ∧ wr.cell? ⟨g, j * 2 + 1, none⟩ = some (.slice a' (L.getD j []).length cap') ∧ Loose w.heap.size wr a' (L.getD j []).length
theorem Inv.start {w wr : World} {T : TypeId} {a3 : Option Addr} {cap3 : Nat} {L : List (List Nat)} {B : Nat} (hb : Below w.heap.size w wr) (h : Frs T wr B (.slice a3 L.length cap3) L) (hB : w.heap.size ≤ B) : Inv w a3 L wr := by
  refine ⟨hb, fun j hj => ?_⟩
  obtain ⟨g, a', cap', e, _, _, e1, hm⟩ := h.at_ j hj
  refine ⟨g, a', cap', e, e1, fun p hp => ?_⟩
  obtain ⟨h, off, q1, q2, q3⟩ := hm.loose p hp
  exact ⟨h, off, q1, Nat.le_trans hB q2, q3⟩
theorem Inv.set {w wr : World} {a3 : Option Addr} {L : List (List Nat)} (h : Inv w a3 L wr) {p : Addr} {z : Int} (hp : wr.cell? p = some (.int .u8 z)) (hw : w.heap.size ≤ p.block) (z' : Int) : Inv w a3 L (wr.setCell p (.int .u8 z')) := by
  refine ⟨h.bel.setCell hw _, fun j hj => ?_⟩
  obtain ⟨g, a', cap', e, e1, hl⟩ := h.rows j hj
  refine ⟨g, a', cap', e, ?_, fun q hq => ?_⟩
  · rw [World.cell?_setCell_other _ _ _ _ (fun e2 => by subst e2; rw [hp] at e1; cases e1)]
    exact e1
  · obtain ⟨k, off, q1, q2, q3, q4⟩ := hl q hq
    exact ⟨k, off, q1, q2, someInt_setCell q3 _ _, by rw [World.frozen?_setCell]; exact q4⟩
theorem Inv.drewN {w wr : World} {a3 : Option Addr} {L : List (List Nat)} (h : Inv w a3 L wr) (n : Nat) : Inv w a3 L (wr.drewN n) := ⟨drewN_b h.bel n, h.rows⟩
theorem reads_long (a : Option Addr) (len cap : Nat) (x n : Int) (w : World) (hH : Hv w) (h : 3000 < len) :
    Calls Tryd.prog 4 #[.slice a len cap, .int .i64 x, .int .i64 n] w fun e w' => e = .returned (.bool true) ∧ Below w.heap.size w w' := by
  have hd : decide ((3000 : Int) < (len : Int)) = true := by simp; omega
  go_enter Tryd.func4, Tryd.ntmps4
  go_wp2_with (go_at_call 11; refine (works_any _ hH).mono ?_; rintro e w1 ⟨rfl, hb⟩)
  go_ret
  exact ⟨rfl, hb⟩
set_option maxRecDepth 100000 in
set_option maxHeartbeats 4000000 in
theorem reads_go (a : Option Addr) (cap : Nat) (b : List Nat) (x n : Int) (w : World) (hv : Bs w (Old w) (.slice a b.length cap) b) (hH : Hv w) (h : b.length ≤ 3000) :
    Calls Tryd.prog 4 #[.slice a b.length cap, .int .i64 x, .int .i64 n] w fun e w' => e = .returned (.bool true) ∧ Below w.heap.size w w' := by
  have hd : decide ((3000 : Int) < (b.length : Int)) = false := by simp; omega
  have HV := Lib.hid (fun W (hb : Below w.heap.size w W) => hv.kept (Same.of_below hb (fun k hk => hk)))
  have cv0 := bs_str hv
  have hFr : ∀ W (hb : Below w.heap.size w W), ∀ k, Old w k → k < W.heap.size := fun W hb k hk => Nat.lt_of_lt_of_le hk hb.size
  have HN1 := fun W (hb : Below w.heap.size w W) => (next_at _ (.slice a b.length cap) b x W (HV.out W hb) (hFr W hb) (hv_later hH hb) (by omega)).mono fun e w' h => nextp h
  have HN2 := fun W (hb : Below w.heap.size w W) => (rnext_at _ (.slice a b.length cap) b x W (HV.out W hb) (hFr W hb) (by omega)).mono fun e w' h => nextp h
  have HA1 := fun W (hb : Below w.heap.size w W) => all_any _ (.slice a b.length cap) b W (HV.out W hb) (hFr W hb) (hv_later hH hb) (by omega)
  have HA2 := fun W (hb : Below w.heap.size w W) => rall_any _ (.slice a b.length cap) b W (HV.out W hb) (hFr W hb) (by omega)
  have HC1 := fun W (hb : Below w.heap.size w W) => cut_any _ (.slice a b.length cap) b n W (HV.out W hb) (hFr W hb) (hv_later hH hb) (by omega)
  have HC2 := fun W (hb : Below w.heap.size w W) => rcut_any _ (.slice a b.length cap) b n W (HV.out W hb) (hFr W hb) (by omega)
  have HK1 := fun W (hb : Below w.heap.size w W) => check_is _ (.slice a b.length cap) b W (HV.out W hb) (hFr W hb) (hv_later hH hb) (by omega)
  have HK2 := fun W (hb : Below w.heap.size w W) => rcheck_is _ (.slice a b.length cap) b W (HV.out W hb) (hFr W hb) (by omega)
  have hln : (chain b).length ≤ 100000000 := by have := chain_tot b hv.1; have := len_tot (chain b); omega
  have hsh := Lib.hid (fun j (hj : j < (chain b).length) => (found_at (chain_eq b hv.1) j hj).2.2)
  generalize lkX (lkE b x) x.toNat = X at *
  generalize lkN (lkE b x) x.toNat (restC (b.drop x.toNat)) = N at *
  generalize lkC (lkE b x) (restC (b.drop x.toNat)) = D at *
  generalize lkE b x = E at *
  generalize chain b = L at *
  generalize tot L = T at *
  generalize cutN b n = K at *
  generalize cutE b n = KE at *
  generalize checkE b = C at *
  replace HN1 := Lib.hid HN1
  replace HN2 := Lib.hid HN2
  replace HA1 := Lib.hid HA1
  replace HA2 := Lib.hid HA2
  replace HC1 := Lib.hid HC1
  replace HC2 := Lib.hid HC2
  replace HK1 := Lib.hid HK1
  replace HK2 := Lib.hid HK2
  clear hv hFr
  have hb0 := Below.refl w.heap.size w
  go_enter Tryd.func4, Tryd.ntmps4
  go_wp2_with fail
  refine (HN1.out _ hb0).mono ?_
  rintro e w1 ⟨a1, cap1, rfl, hm1, hb1⟩
  have bel1 : Below w.heap.size w (w1.alloc (.cells #[.int .i64 X, .slice a1 D.length cap1] 32)) := hb1.trans (((Below.refl _ _).alloc (Nat.le_refl _) _).mono hb1.size)
  have B1 : Blk (w1.alloc (.cells #[.int .i64 X, .slice a1 D.length cap1] 32)) w1.heap.size [.int .i64 X, .slice a1 D.length cap1] 32 := heap_alloc_new w1 _
  have m1 := hm1.later ((Below.refl w1.heap.size w1).alloc (Nat.le_refl _) (.cells #[.int .i64 X, .slice a1 D.length cap1] 32))
  replace B1 := Lib.hid B1
  replace m1 := Lib.hid m1
  clear hm1 hb1
  go_wp2_with fail
  refine (HN2.out _ bel1).mono ?_
  rintro e w2 ⟨a2, cap2, rfl, hm2, hb2⟩
  have hb2' := hb2.trans (((Below.refl w2.heap.size w2).alloc (Nat.le_refl _) (.cells #[.int .i64 X, .slice a2 D.length cap2] 35)).mono hb2.size)
  have bel2 := bel1.trans (hb2'.mono bel1.size)
  have B2 : Blk (w2.alloc (.cells #[.int .i64 X, .slice a2 D.length cap2] 35)) w2.heap.size [.int .i64 X, .slice a2 D.length cap2] 35 := heap_alloc_new w2 _
  have m2 := hm2.later ((Below.refl w2.heap.size w2).alloc (Nat.le_refl _) (.cells #[.int .i64 X, .slice a2 D.length cap2] 35))
  have B1 := Lib.hid (B1.out.later hb2')
  have m1 := Lib.hid (m1.out.later hb2')
  replace B2 := Lib.hid B2
  replace m2 := Lib.hid m2
  clear hm2 hb2 hb2'
  go_wp2_with fail
  refine (HA1.out _ bel2).mono ?_
  rintro e w3 ⟨u3, rfl, hf3, hb3⟩
  obtain ⟨a3, cap3, rfl⟩ := hf3.form
  have bel3 := bel2.trans (hb3.mono bel2.size)
  go_wp2_with fail
  refine (HA2.out _ bel3).mono ?_
  rintro e w4 ⟨u4, rfl, hf4, hb4⟩
  obtain ⟨a4, cap4, rfl⟩ := hf4.form
  have bel4 := bel3.trans (hb4.mono bel3.size)
  go_wp2_with fail
  refine (HC1.out _ bel4).mono ?_
  rintro e w5 ⟨rfl, hb5⟩
  have bel5 := bel4.trans (hb5.mono bel4.size)
  go_wp2_with fail
  refine (HC2.out _ bel5).mono ?_
  rintro e w6 ⟨rfl, hb6⟩
  have bel6 := bel5.trans (hb6.mono bel5.size)
  have hb46 := hb5.trans (hb6.mono hb5.size)
  have hb36 := hb4.trans (hb46.mono hb4.size)
  have hb26 := hb3.trans (hb36.mono hb3.size)
  have f3 := Lib.hid (hf3.later hb36)
  have f4 := Lib.hid (hf4.later hb46)
  have B1 := B1.out.later hb26
  have B2 := B2.out.later hb26
  have m1 := m1.out.later hb26
  have m2 := m2.out.later hb26
  have c1 := B1.cell 0 _ rfl
  have c2 := B1.cell 1 _ rfl
  have c3 := B2.cell 0 _ rfl
  have c4 := B2.cell 1 _ rfl
  have cv1 := bs_str m1.bs
  have cv2 := bs_str m2.bs
  have hws : w.heap.size ≤ w3.heap.size := bel3.size
  have hbs : w.heap.size ≤ (w2.alloc (.cells #[.int .i64 X, .slice a2 D.length cap2] 35)).heap.size := bel2.size
  clear B1 B2 m1 m2 hf3 hf4 hb3 hb4 hb5 hb6 hb46 hb36 hb26
  have g3 := f3.out.wide hbs
  have HS := Lib.hid (same_is _ _ _ _ _ L w6 g3 (f4.out.wide hws) hln)
  clear g3
  go_wp2_with fail
  refine HS.out.mono ?_
  rintro e w7 ⟨rfl, hb7⟩
  have bel7 := bel6.trans (hb7.mono bel6.size)
  go_wp2_with fail
  refine (HK1.out _ bel7).mono ?_
  rintro e w8 ⟨rfl, hb8⟩
  have bel8 := bel7.trans (hb8.mono bel7.size)
  go_wp2_with fail
  refine (HK2.out _ bel8).mono ?_
  rintro e w9 ⟨rfl, hb9⟩
  have bel9 := bel8.trans (hb9.mono bel8.size)
  have hb69 := (hb7.trans (hb8.mono hb7.size)).trans (hb9.mono (hb7.trans (hb8.mono hb7.size)).size)
  have I9 := Inv.start bel9 (f3.out.later hb69) hbs
  clear c1 c2 c3 c4 cv1 cv2 f3 f4 HN1 HN2 HA1 HA2 HC1 HC2 HK1 HK2 HS hb7 hb8 hb9 hb69 cv0
  go_wp2_with fail
  go_loopw [22] (fun i wr => ∃ j : Nat, j ≤ L.length ∧ i = .int .i64 j ∧ Inv w a3 L wr) (fun i _ => L.length - (intOf i).toNat)
  case atStart => exact ⟨0, Nat.zero_le _, rfl, I9⟩
  case round =>
    obtain ⟨j, hj, rfl, hI⟩ := hrel
    clear B1 B2 m1 m2 bel1 bel2 bel3 bel4 bel5 bel6 bel7 bel8 bel9 I9
    by_cases hlt : j < L.length
    · obtain ⟨g0, _, _, rfl, _⟩ := hI.rows j hlt
      go_wp2
      go_loopw [23] (fun i wr => ∃ p : Nat, p ≤ (L.getD j []).length ∧ i = .int .i64 p ∧ Inv w (some ⟨g0, 0, none⟩) L wr) (fun i _ => (L.getD j []).length - (intOf i).toNat)
      case atStart => exact ⟨0, Nat.zero_le _, rfl, hI⟩
      case round =>
        obtain ⟨p, hp, rfl, hIr⟩ := hrel
        obtain ⟨g, a', cap', e, e1, hl⟩ := hIr.rows j hlt
        injection e with e
        injection e with e _ _
        subst e
        by_cases hlp : p < (L.getD j []).length
        · obtain ⟨h', off, rfl, q2, ⟨z, q3⟩, q4⟩ := hl p hlp
          have hIs := fun z' => hIr.set q3 q2 z'
          have hdl := hsh.out j hlt
          generalize (L.getD j []).length = dl at *
          clear hl hI
          go_wp2
          go_roundw
          case rel => exact ⟨p + 1, by omega, by go_num, hIs _⟩
          case measure => simp [intOf]; omega
        · obtain rfl : p = (L.getD j []).length := by omega
          clear hl hI
          go_wp2
          go_roundw
          case rel => exact ⟨j + 1, by omega, by go_num, hIr⟩
          case measure => simp [intOf]; omega
    · obtain rfl : j = L.length := by omega
      have cv := bs_str (HV.out _ hI.bel)
      have hHr := hv_later hH hI.bel
      have belr := hI.bel
      go_wp2_with (go_at_call 11; refine (works_any _ hHr).mono ?_; rintro e w10 ⟨rfl, hb10⟩)
      go_ret
      exact ⟨rfl, belr.trans (hb10.mono belr.size)⟩
theorem w_frameReads (a : Option Addr) (len cap : Nat) (z : List Int) (x n : Int) (w : World) (w0 : IsRow .u8 w a len cap z) (w1 : (Lit.int .i64 x).wf = true) (w2 : (Lit.int .i64 n).wf = true) (hH : Hv w) :
    Calls Tryd.prog 4 #[.slice a len cap, .int .i64 x, .int .i64 n] w fun e w' => e = .returned (.bool true) ∧ Below w.heap.size w w' := by
  obtain ⟨l, rfl, hv⟩ := row_bs w0
  rcases Nat.lt_or_ge 3000 l.length with h | h
  · exact reads_long a l.length cap x n w hH h
  · exact reads_go a cap l x n w hv hH h
end Go.Proofs.YtfodgdcdpdlikaaDoor.Frame
