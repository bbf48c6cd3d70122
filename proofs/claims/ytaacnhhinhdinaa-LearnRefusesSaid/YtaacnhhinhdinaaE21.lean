/- strings.Repeat at this program; Learn that is refused; what LearnRefuses tries. -/
import Derived.Test.YtaacnhhinhdinaaE18
import Derived.Shelf.Strings.Repeat
namespace Go.Proofs.Ytaacnhhinhdinaa.Lrn
open Go.RowKit Go.Maps Go.Lib Go.ChangeShapes
open Bal (TB bOk ckB ordV eqB eqB_t eqB_f eq_b alloc_b)
set_option linter.unusedVariables false
set_option linter.unusedSimpArgs false
set_option maxRecDepth 20000

def rep_ren : Go.Shelf.Ren := ⟨fun | 99 => 50 | 105 => 28 | 165 => 51 | 166 => 52 | 169 => 54 | 170 => 53 | 206 => 66 | 212 => 49 | 240 => 67 | 241 => 68 | 263 => 64 | 264 => 65 | 276 => 87 | 277 => 88 | n => n, fun | 0 => 0 | 3 => 3 | 4 => 4 | 5 => 5 | 9 => 9 | 20 => 20 | 37 => 44 | 46 => 92 | 109 => 93 | 51 => 46 | 53 => 47 | 70 => 96 | 72 => 98 | 75 => 101 | 76 => 102 | 80 => 104 | 127 => 118 | 146 => 114 | 148 => 116 | 164 => 132 | n => n, fun | n => n⟩
theorem rep_lays : Go.Proofs.Lays.n105 Try.prog rep_ren := {
  mixed := by kernel_rfl
  f99 := Try.func50.trans (congrArg some (by kernel_rfl))
  f105 := Try.func28.trans (congrArg some (by kernel_rfl))
  f165 := Try.func51.trans (congrArg some (by kernel_rfl))
  f166 := Try.func52.trans (congrArg some (by kernel_rfl))
  f169 := Try.func54.trans (congrArg some (by kernel_rfl))
  f170 := Try.func53.trans (congrArg some (by kernel_rfl))
  f206 := Try.func66.trans (congrArg some (by kernel_rfl))
  f212 := Try.func49.trans (congrArg some (by kernel_rfl))
  f240 := Try.func67.trans (congrArg some (by kernel_rfl))
  f241 := Try.func68.trans (congrArg some (by kernel_rfl))
  f263 := Try.func64.trans (congrArg some (by kernel_rfl))
  f264 := Try.func65.trans (congrArg some (by kernel_rfl))
  f276 := Try.func87.trans (congrArg some (by kernel_rfl))
  f277 := Try.func88.trans (congrArg some (by kernel_rfl))
  t0 := Try.underlying0
  a0 := Try.isAgg0
  z0 := Try.sizeOf0
  v0 := Try.zeroValue0
  t3 := Try.underlying3
  a3 := Try.isAgg3
  z3 := Try.sizeOf3
  v3 := Try.zeroValue3
  t4 := Try.underlying4
  a4 := Try.isAgg4
  z4 := Try.sizeOf4
  v4 := Try.zeroValue4
  t5 := Try.underlying5
  a5 := Try.isAgg5
  z5 := Try.sizeOf5
  v5 := Try.zeroValue5
  t9 := Try.underlying9
  a9 := Try.isAgg9
  z9 := Try.sizeOf9
  v9 := Try.zeroValue9
  t20 := Try.underlying20
  a20 := Try.isAgg20
  z20 := Try.sizeOf20
  v20 := Try.zeroValue20
  t37 := Try.underlying44
  a37 := Try.isAgg44
  z37 := Try.sizeOf44
  v37 := Try.zeroValue44
  t46 := Try.underlying92
  a46 := Try.isAgg92
  z46 := Try.sizeOf92
  v46 := Try.zeroValue92
  t51 := Try.underlying46
  a51 := Try.isAgg46
  z51 := Try.sizeOf46
  v51 := Try.zeroValue46
  t53 := Try.underlying47
  a53 := Try.isAgg47
  z53 := Try.sizeOf47
  v53 := Try.zeroValue47
  t70 := Try.underlying96
  a70 := Try.isAgg96
  z70 := Try.sizeOf96
  v70 := Try.zeroValue96
  t72 := Try.underlying98
  a72 := Try.isAgg98
  z72 := Try.sizeOf98
  v72 := Try.zeroValue98
  t75 := Try.underlying101
  a75 := Try.isAgg101
  z75 := Try.sizeOf101
  v75 := Try.zeroValue101
  t76 := Try.underlying102
  a76 := Try.isAgg102
  z76 := Try.sizeOf102
  v76 := Try.zeroValue102
  t109 := Try.underlying93
  a109 := Try.isAgg93
  z109 := Try.sizeOf93
  v109 := Try.zeroValue93
  t127 := Try.underlying118
  a127 := Try.isAgg118
  z127 := Try.sizeOf118
  v127 := Try.zeroValue118
  t146 := Try.underlying114
  a146 := Try.isAgg114
  z146 := Try.sizeOf114
  v146 := Try.zeroValue114
  t148 := Try.underlying116
  a148 := Try.isAgg116
  z148 := Try.sizeOf116
  v148 := Try.zeroValue116
  t164 := Try.underlying132
  a164 := Try.isAgg132
  z164 := Try.sizeOf132
  v164 := Try.zeroValue132 }
theorem rep_extra : Builder.Extra Try.prog rep_ren where
  sizeBuilder := by kernel_rfl
  liesBuilder := by kernel_rfl
  t5 := rep_lays.t5
  a5 := rep_lays.a5
  z5 := rep_lays.z5
  v5 := rep_lays.v5
  infoByte := by kernel_rfl
  cellsByte := by kernel_rfl
  sizeByte := by kernel_rfl
  neB5 := by decide
theorem repL_one (b : UInt8) : ∀ c : Nat, Lib.repeatL [b] c = List.replicate c b
  | 0 => rfl
  | c + 1 => by
    show [b] ++ Lib.repeatL [b] c = _
    rw [repL_one b c, List.replicate_succ]
    rfl

theorem rep_any (b : UInt8) (c : Nat) (w : World) (hc : c ≤ 1000000) :
    Calls Try.prog 28 #[.string ⟨#[b]⟩, .int .i64 (c : Nat)] w fun e w' => ∃ V : ByteArray, e = .returned (.string V) ∧ V.size = c ∧ Below w.heap.size w w' := by
  have h := Any.strings_Repeat rep_lays rep_extra ⟨#[b]⟩ c w (by omega) (by show 1 * c ≤ _; omega)
  rw [show ((⟨#[b]⟩ : ByteArray).data.toList) = [b] from rfl, repL_one] at h
  exact h.mono fun e w' ⟨he, hb⟩ => ⟨_, he, by show (List.replicate c b).toArray.size = c; simp, hb⟩
/-- Learn where the slot or the value is refused: nothing is touched. -/
theorem learn_ref {sb mb : Nat} {s : St} (k : Int) (v : ByteArray) (w : World) (x : Ax w sb mb s) (hc : ckV s.b k v ≠ 0) {z : Int} (hz : ckV s.b k v = z) :
    Calls Try.prog 16 #[.pointer (some ⟨sb, 0, none⟩), .int .i64 k, .string v] w fun e w' => e = .returned (.int .i64 z) ∧ w = w' := by
  have HV := Lib.hid x.valid
  have HC := Lib.hid (chk_any k v w x)
  rw [hz] at hc HC
  have hz1 : (z == 0) = false := by simpa using hc
  have hz2 : (z = 0) = False := by simpa using hc
  clear hc hz x
  go_enter Try.func16, Try.ntmps16
  go_wp2_with (first
    | (go_at_call 29; refine HV.out.mono ?_; rintro e w' ⟨rfl, rfl⟩)
    | (go_at_call 32; refine HC.out.mono ?_; rintro e w' ⟨rfl, rfl⟩))
  go_ret
  exact ⟨rfl, rfl⟩
theorem q_left {P : Program} {f : FuncId} {args : Array Value} {w : World} {n : Nat} {v : Value} (h : Calls P f args (w.drewN n) fun e w' => e = .returned v ∧ w.drewN n = w') :
    Calls P f args (w.drewN n) fun e w'' => e = .returned v ∧ ∃ m, w'' = w.drewN m := h.mono fun _ _ ⟨he, hm⟩ => ⟨he, n, hm.symm⟩

/-! What is tried. -/
structure Tr where
  nd : Int
  r : Int
  m : Int
  k : Int
  v : ByteArray
  e : Int
abbrev nS : ByteArray := ⟨#[]⟩
abbrev vS : ByteArray := ⟨#[118]⟩
def trL (x1 x2 x3 x4 x5 x6 : Int) (V : ByteArray) : List Tr :=
  [⟨x1, 1, 0, 9, nS, 2⟩, ⟨x2, 1, 0, 9, nS, 2⟩, ⟨0, 0, 0, 9, nS, 2⟩, ⟨0, x3, 0, 9, nS, 2⟩, ⟨0, x4, 0, 9, nS, 2⟩, ⟨0, 1, x1, 9, nS, 2⟩, ⟨0, 1, x2, 9, nS, 2⟩,
   ⟨0, 1, 0, x5, nS, 2⟩, ⟨0, 1, 0, x2, nS, 2⟩, ⟨0, 1, 0, 9, V, 11⟩, ⟨0, 1, 0, 4, V, 11⟩, ⟨0, 1, 0, -1, V, 2⟩, ⟨0, 1, 0, 4, nS, 8⟩, ⟨0, 1, 0, x6, vS, 8⟩]
def trs (n m : Nat) (V : ByteArray) : List Tr := trL ((n + m : Nat) : Int) (-1 - (m : Int)) (1073741825 + (m : Int)) (-(m : Int)) (4096 + (m : Int)) ((m % 5 : Nat) : Int) V
def s5 (n : Nat) : St := ⟨n, 5, []⟩
/-- Each is refused; and by Learn too, where it isn't for the node or the ballot. -/
structure TrOk (n : Nat) (t : Tr) : Prop where
  e : addE (s5 n) t.nd t.r t.m t.k t.v = t.e
  off : ¬ addOn (s5 n) t.nd t.r t.m t.k t.v
  l : (t.k < 0 ∨ 4096 ≤ t.k ∨ 65536 < t.v.size ∨ t.k < 5) → ckV 5 t.k t.v = t.e ∧ ckV 5 t.k t.v ≠ 0
theorem tr_vote {n : Nat} {t : Tr} (h : ¬ isVote n t.nd t.r t.m) (he : t.e = 2) (hk : t.k = 9) (hv : t.v = nS) : TrOk n t := by
  refine ⟨?_, fun h2 => h h2.1, fun h2 => ?_⟩
  · unfold addE
    rw [show (s5 n).n = (n : Int) from rfl, if_neg h, he]
  · rw [hk, hv] at h2
    rcases h2 with h2 | h2 | h2 | h2
    · omega
    · omega
    · exact absurd h2 (by decide)
    · omega
theorem tr_check {n : Nat} (hn : 1 ≤ n) {t : Tr} (h0 : t.nd = 0) (h1 : t.r = 1) (h2 : t.m = 0) (hc : ckV 5 t.k t.v = t.e) (he : t.e ≠ 0) : TrOk n t := by
  have hv : isVote n t.nd t.r t.m := by rw [h0, h1, h2]; exact ⟨⟨by omega, by omega⟩, by omega, by omega, by omega, by omega⟩
  have hc2 : ckV (s5 n).b t.k t.v = t.e := hc
  refine ⟨?_, fun h => he (by rw [← hc]; exact h.2.1), fun _ => ⟨hc, by rw [hc]; exact he⟩⟩
  unfold addE
  rw [show (s5 n).n = (n : Int) from rfl, if_pos hv, hc2, if_neg he]
theorem ck_range {k : Int} {v : ByteArray} (h : ¬ (0 ≤ k ∧ k < 4096)) : ckV 5 k v = 2 := if_neg h
theorem ck_long {k : Int} {v : ByteArray} (h : 0 ≤ k ∧ k < 4096) (hv : 65536 < v.size) : ckV 5 k v = 11 := by unfold ckV; rw [if_pos h, if_pos hv]
theorem ck_below {k : Int} {v : ByteArray} (h : 0 ≤ k ∧ k < 5) (hv : v.size ≤ 65536) : ckV 5 k v = 8 := by unfold ckV; rw [if_pos (by omega), if_neg (by omega), if_pos h.2]
theorem trs_ok (n m : Nat) (V : ByteArray) (hn : 1 ≤ n ∧ n ≤ 7) (hV : V.size = 65537) : ∀ t ∈ trs n m V, TrOk n t := by
  intro t ht
  have h5 : m % 5 < 5 := Nat.mod_lt _ (by decide)
  unfold trs trL at ht
  simp only [List.mem_cons, List.not_mem_nil, or_false] at ht
  rcases ht with rfl | rfl | rfl | rfl | rfl | rfl | rfl | rfl | rfl | rfl | rfl | rfl | rfl | rfl
  · exact tr_vote (fun h => by have := h.1; simp only at this; omega) rfl rfl rfl
  · exact tr_vote (fun h => by have := h.1; simp only at this; omega) rfl rfl rfl
  · exact tr_vote (fun h => by have := h.2.1; simp only at this; omega) rfl rfl rfl
  · exact tr_vote (fun h => by have := h.2.2.1; simp only at this; omega) rfl rfl rfl
  · exact tr_vote (fun h => by have := h.2.1; simp only at this; omega) rfl rfl rfl
  · exact tr_vote (fun h => by have := h.2.2.2.2; simp only at this; omega) rfl rfl rfl
  · exact tr_vote (fun h => by have := h.2.2.2.1; simp only at this; omega) rfl rfl rfl
  · exact tr_check hn.1 rfl rfl rfl (ck_range (by simp only; omega)) (show (2 : Int) ≠ 0 by decide)
  · exact tr_check hn.1 rfl rfl rfl (ck_range (by simp only; omega)) (show (2 : Int) ≠ 0 by decide)
  · exact tr_check hn.1 rfl rfl rfl (ck_long (by simp only; omega) (by simp only; omega)) (show (11 : Int) ≠ 0 by decide)
  · exact tr_check hn.1 rfl rfl rfl (ck_long (by simp only; omega) (by simp only; omega)) (show (11 : Int) ≠ 0 by decide)
  · exact tr_check hn.1 rfl rfl rfl (ck_range (by simp only; omega)) (show (2 : Int) ≠ 0 by decide)
  · exact tr_check hn.1 rfl rfl rfl (ck_below (by simp only; omega) (by decide)) (show (8 : Int) ≠ 0 by decide)
  · exact tr_check hn.1 rfl rfl rfl (ck_below (by simp only; omega) (show vS.size ≤ 65536 by decide)) (show (8 : Int) ≠ 0 by decide)
def tc (t : Tr) : List Value := [.int .i64 t.nd, .int .i64 t.r, .int .i64 t.m, .int .i64 t.k, .string t.v, .int .i64 t.e]
def flat (L : List Tr) : List Value := L.flatMap tc
theorem flat_cons (e : Tr) (L : List Tr) : flat (e :: L) = tc e ++ flat L := rfl
theorem flat_at : ∀ (L : List Tr) (i j : Nat) (e : Tr), L[i]? = some e → j < 6 → (flat L)[i * 6 + j]? = (tc e)[j]?
  | [], i, j, e, h, _ => by simp at h
  | x :: L, 0, j, e, h, hj => by
    simp only [List.getElem?_cons_zero, Option.some.injEq] at h
    subst h
    rw [flat_cons, Nat.zero_mul, Nat.zero_add, List.getElem?_append_left (by show j < 6; omega)]
  | x :: L, i + 1, j, e, h, hj => by
    rw [List.getElem?_cons_succ] at h
    rw [flat_cons, List.getElem?_append_right (by show 6 ≤ _; omega), ← flat_at L i j e h hj]
    congr 1
    show (i + 1) * 6 + j - 6 = _
    omega
abbrev TTr : TypeId := 64
structure TrB (W : World) (g : Nat) (L : List Tr) : Prop where
  blk : W.heap[g]? = some (.cells (flat L).toArray TTr (0, 0))
theorem TrB.lt {W : World} {g : Nat} {L : List Tr} (h : TrB W g L) : g < W.heap.size := (Array.getElem?_eq_some_iff.1 h.blk).1
theorem TrB.later {W W' : World} {g : Nat} {L : List Tr} (h : TrB W g L) (hb : Below W.heap.size W W') : TrB W' g L := ⟨(hb.block g h.lt).trans h.blk⟩
theorem TrB.cells {W : World} {g : Nat} {L : List Tr} (h : TrB W g L) {i : Nat} {e : Tr} (he : L[i]? = some e) :
    W.cell? ⟨g, i * 6, none⟩ = some (.int .i64 e.nd) ∧ W.cell? ⟨g, i * 6 + 1, none⟩ = some (.int .i64 e.r) ∧ W.cell? ⟨g, i * 6 + 2, none⟩ = some (.int .i64 e.m) ∧ W.cell? ⟨g, i * 6 + 3, none⟩ = some (.int .i64 e.k) ∧ W.cell? ⟨g, i * 6 + 4, none⟩ = some (.string e.v) ∧ W.cell? ⟨g, i * 6 + 5, none⟩ = some (.int .i64 e.e) := by
  have key : ∀ j, j < 6 → W.cell? ⟨g, i * 6 + j, none⟩ = (tc e)[j]? := fun j hj => by
    rw [← flat_at L i j e he hj]
    simp [World.cell?, h.blk]
  exact ⟨key 0 (by omega), key 1 (by omega), key 2 (by omega), key 3 (by omega), key 4 (by omega), key 5 (by omega)⟩
theorem TrB.one {W : World} {g : Nat} {e : Tr} (h : TrB W g [e]) :
    W.cell? ⟨g, 0, none⟩ = some (.int .i64 e.nd) ∧ W.cell? ⟨g, 1, none⟩ = some (.int .i64 e.r) ∧ W.cell? ⟨g, 2, none⟩ = some (.int .i64 e.m) ∧ W.cell? ⟨g, 3, none⟩ = some (.int .i64 e.k) ∧ W.cell? ⟨g, 4, none⟩ = some (.string e.v) ∧ W.cell? ⟨g, 5, none⟩ = some (.int .i64 e.e) := by
  have := h.cells (i := 0) (e := e) rfl
  simpa using this
theorem WAt.trb {w W W' : World} {sb mb g : Nat} {s : St} {L : List Tr} (h : WAt w sb mb s W) (hk : Keeps (KL sb mb) W W') (hg : TrB W g L) : TrB W' g L :=
  ⟨(hk.block g hg.lt (h.ax.apart hg.blk (by decide))).trans hg.blk⟩

/-! The end. -/
theorem s5_new (n : Nat) : forE 5 = 0 ∧ forS (newS n) 5 = s5 n := ⟨rfl, rfl⟩
theorem s5_3 (n : Nat) : forE 3 = 0 ∧ forS (s5 n) 3 = s5 n := ⟨rfl, rfl⟩
theorem s5_bad (n : Nat) {u : Int} (h : ¬ (0 ≤ u ∧ u ≤ 4096)) : forE u = 3 ∧ forS (s5 n) u = s5 n := ⟨if_neg h, if_neg h⟩
theorem s5_upto (n : Nat) : uptoV (s5 n) = 5 := upTo_open _ _ _ rfl
theorem s5_open (n : Nat) : opnL (s5 n) = [] := rfl
def kV (V : ByteArray) : Kn := ⟨true, V, 0, 0, ⟨#[]⟩, 0⟩
def s6 (n : Nat) (V : ByteArray) : St := ⟨n, 5, [⟨4095, kV V⟩]⟩
def s7 (n : Nat) (V : ByteArray) : St := ⟨n, 4095, [⟨4095, kV V⟩]⟩
def s8 (n : Nat) : St := ⟨n, 4096, []⟩
theorem s6_learn (n : Nat) (V : ByteArray) (h : V.size ≤ 65536) : lrnE (s5 n) 4095 V = 0 ∧ lrnS (s5 n) 4095 V = s6 n V := by
  have h1 : ckV (s5 n).b 4095 V = 0 := by
    show ckV 5 4095 V = 0
    unfold ckV
    rw [if_pos (by omega), if_neg (by omega), if_neg (by omega)]
  have h2 : lrnE (s5 n) 4095 V = 0 := by
    unfold lrnE
    rw [if_pos h1, if_neg (by show ¬ refV zK V = true; unfold refV; simp)]
  refine ⟨h2, ?_⟩
  unfold lrnS
  rw [if_pos h2]
  rfl
theorem s7_for (n : Nat) (V : ByteArray) : forE 4095 = 0 ∧ forS (s6 n V) 4095 = s7 n V := ⟨rfl, rfl⟩
theorem s7_upto (n : Nat) (V : ByteArray) : uptoV (s7 n V) = 4096 := rfl
theorem s8_for (n : Nat) (V : ByteArray) : forE 4096 = 0 ∧ forS (s7 n V) 4096 = s8 n := ⟨rfl, rfl⟩
theorem s8_upto (n : Nat) : uptoV (s8 n) = 4096 := rfl
theorem s8_at (n : Nat) : at' (s8 n) 4095 = zK := rfl
end Go.Proofs.Ytaacnhhinhdinaa.Lrn
