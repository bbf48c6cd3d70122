/- The document's log: Copy, Prefix, Gaps. -/
import Derived.Test.YtgeejkedljhcoaaT23
import Derived.Test.YtgeejkedljhcoaaT15
namespace Go.Proofs.Ytgeejkedljhcoaa.Slt
open Go.RowKit Go.Maps Go.Lib
set_option linter.unusedVariables false
set_option linter.unusedSimpArgs false
set_option maxRecDepth 20000

theorem step_append_c {ops : Array Oper} {o : Oper} {a : Act} {w : World} {K : Act → World → Prop} {Q : Exit → Act → World → Prop} {E : Prop} (hgd : o.guard = none) (s x : Operand)
    (ho : o.op = .call { callee := .builtin .append, args := #[s, x], argTypes := #[TRKs, TRKs] })
    (base : Nat) (v : Value) (L : List Et) (hs : a.eval s = v) (hown : OwK base L v w) (ad : Addr) (c : Nat) (N : List Et) (hx : a.eval x = .slice (some ad) N.length c)
    (hc : ∀ j u, (flatK N)[j]? = some u → w.cell? (ad.add j) = some u) (hn : L.length + N.length ≤ 100000) (hbase : base ≤ w.heap.size)
    (h : ∀ v' w', OwK base (L ++ N) v' w' → w.grownBy w' v.ownBlock → K (a.put o.dst v') w') :
    if Region.wanted o (yielded ops a.tmps) = true then Oper.wp Try.prog o a w K Q else E := by
  have hw : Region.wanted o (yielded ops a.tmps) = true := by simp [Region.wanted, hgd]
  rw [if_pos hw]
  obtain ⟨v', w', hrun, h1, h2⟩ := run_append_k base w o.type v L hown ad c N hc hn hbase
  unfold Oper.wp execOp
  simp only [ho, resolve, invoke, builtin, Sem.run_bind, Sem.run_pure, Result.andThen_ok, List.map_toArray, List.map_cons, List.map_nil, hs, hx, hrun]
  exact h v' w' h1 h2
def RCop (w : World) (s : St) (e : Ending) (w' : World) : Prop :=
  ∃ rb' L' v', e = .returned (.pointer (some ⟨rb', 0, none⟩)) ∧ Rx w' rb' s L' v' ∧ w.heap.size ≤ rb' ∧ Below w.heap.size w w' ∧ Up w.heap.size v'
set_option maxHeartbeats 4000000 in
theorem rcopy_any {rb : Nat} {s : St} {L : List Et} {vl : Value} (w : World) (x : Rx w rb s L vl) :
    Calls Try.prog 23 #[.pointer (some ⟨rb, 0, none⟩)] w (RCop w s) := by
  have HV := Lib.hid x.valid
  obtain ⟨a, cap, rfl⟩ := x.form
  have hlen := x.len
  have x1 := (x.alloc (.cells #[] TRK)).drew
  obtain ⟨c0, c1, c2⟩ := x1.cells
  obtain ⟨p0, p1, p2⟩ := x.drew.cells
  have hb1 := (alloc_b w (.cells #[] TRK)).drew
  have hown : OwK w.heap.size [] (.slice (some ⟨w.heap.size, 0, none⟩) 0 0) (w.alloc (.cells #[] TRK)).drew := by
    refine ⟨rfl, .inr ⟨w.heap.size, 0, #[], rfl, Nat.le_refl _, ?_, Nat.le_refl _, Nat.zero_le _, rfl, rfl⟩⟩
    exact heap_alloc_new w (.cells #[] TRK)
  have hsz : w.heap.size ≤ (w.alloc (.cells #[] TRK)).drew.heap.size := hb1.size
  have hfin : Hid (∀ W v', OwK w.heap.size L v' W → Below w.heap.size w W → RCop w s (.returned (.pointer (some ⟨W.heap.size, 0, none⟩))) (W.alloc (.cells #[.bool true, .int .i64 s.b, v'] TRL))) := Lib.hid fun W v' hO hB =>
    ⟨W.heap.size, L, v', rfl, ⟨heap_alloc_new _ _, rows_base (rows_later hO (alloc_b _ _)) (Nat.zero_le _), x.rel, x.ok⟩, hB.size, hB.alloc hB.size _, OwK.ups hO⟩
  have hX := Lib.hid x
  have hb1' := Lib.hid hb1
  have hown' := Lib.hid hown
  have hsz' := Lib.hid hsz
  cases a with
  | some ad =>
    have hc : Hid (∀ j u, (flatK L)[j]? = some u → (w.alloc (.cells #[] TRK)).drew.cell? (ad.add j) = some u) := Lib.hid (fun j u hu => by
      have hp : 0 < L.length := by
        cases L with
        | nil => simp [flatK] at hu
        | cons y r => simp
      obtain ⟨g, cap', hv, _, _, hc, _⟩ := x1.row.cells hp
      injection hv with h1 _ _
      injection h1 with h1
      subst h1
      rw [addr_add, Nat.zero_add]
      exact hc j u hu)
    clear hown x1 x hb1 hsz
    go_enter Try.func23, Try.ntmps23
    go_wp2_with (go_at_call 42; refine HV.out.mono ?_; rintro e w' ⟨rfl, rfl⟩)
    go_region_law (refine step_append_c rfl (.tmp 10) (.tmp 14) rfl w.heap.size (.slice (some ⟨w.heap.size, 0, none⟩) 0 0) [] (by simp [Act.eval, Act.put]) hown'.out ad cap L (by simp [Act.eval, Act.put]) hc.out (by show 0 + L.length ≤ 100000; omega) hsz'.out ?_; intro v' w' hO hg; have hB' : Below w.heap.size w w' := own_below hown'.out hg hb1'.out (Nat.le_refl _); have hF := Lib.hid (hfin.out w' v' hO hB'); obtain ⟨a', c', rfl⟩ := rows_form hO; obtain ⟨r0, r1, r2⟩ := (hX.out.later hB').cells; replace hO := Lib.hid hO; replace hB' := Lib.hid hB')
    all_goals
      simp only [List.getElem_toArray, List.getElem_cons_succ, List.getElem_cons_zero]
      go_frame
      go_wp2
      go_ret
      exact hF.out
  | none =>
    have hL : L = [] := by
      cases L with
      | nil => rfl
      | cons y r =>
        obtain ⟨g, cap', hv, _⟩ := x1.row.cells (by simp)
        injection hv with h1 _ _
        cases h1
    subst hL
    have hF := Lib.hid (hfin.out _ _ hown hb1)
    have hsz2 : (w.alloc (.cells #[] TRK)).drew.heap.size = w.heap.size + 1 := World.size_alloc _ _
    rw [hsz2] at hF
    clear hown hfin x1 x hb1
    go_enter Try.func23, Try.ntmps23
    go_wp2_with (go_at_call 42; refine HV.out.mono ?_; rintro e w' ⟨rfl, rfl⟩)
    go_region
    all_goals
      go_wp2
      go_ret
      exact hF.out

/-! Prefix. -/
theorem pre_take {s : St} (h : OkS s) (k : Nat) (hk : s.b + (k : Nat) < uptoV s) : (preV s).take (k + 1) = (preV s).take k ++ [gK (getM s.M (s.b + (k : Nat)))] := by
  have := pre_get h k
  rw [if_pos hk] at this
  rw [List.take_add_one, this]
  rfl
/-- An append of a text, the length a letter. -/
theorem wpList_append_t {ops : Array Oper} {rest : List Oper} {o : Oper} {a : Act} {w : World} {Q : Exit → Act → World → Prop} (hgd : o.guard = none) (s x : Operand)
    (ho : o.op = .call { callee := .builtin .append, args := #[s, x], argTypes := #[TSs, TSs] })
    (base : Nat) (v : Value) (m : Nat) (xs : List Value) (hs : a.eval s = v) (hown : w.ownsRow base TK 1 v m xs) (g c : Nat) (y : ByteArray) (hx : a.eval x = .slice (some ⟨g, 0, none⟩) 1 c) (hc : w.heap[g]? = some (.cells #[.string y] TK (0, 0)))
    (hn : m ≤ 100000) (hbase : base ≤ w.heap.size)
    (h : ∀ v' w', w'.ownsRow base TK 1 v' (m + 1) (xs ++ [.string y]) → w.grownBy w' v.ownBlock → wpList Try.prog ops Q rest (a.put o.dst v') w') :
    wpList Try.prog ops Q (o :: rest) a w := by
  refine wpList_plain hgd fun K hK => ?_
  obtain ⟨i0, hi, hz0, hz1, hz2⟩ := info_p info_s
  obtain ⟨v', w', hrun, h1, h2, _, h4⟩ := run_append_own_at (P := Try.prog) w base TSs o.type TK i0 _ 1 16 Try.underlying43 hi hz0 hz1 hz2 rfl (by decide) v m xs hown ⟨g, 0, none⟩ 1 c [.string y] rfl
    (fun j u hu => by rw [addr_add, Nat.zero_add, cell_of_row w g j _ TK _ hc]; simpa using hu) (fun u hu => by simp at hu; subst hu; rfl) (by unfold maxLen; omega) (by omega) hbase
  unfold Oper.wp execOp
  simp only [ho, resolve, invoke, builtin, Sem.run_bind, Sem.run_pure, Result.andThen_ok, List.map_toArray, List.map_cons, List.map_nil, hs, hx, hrun]
  exact hK _ _ (h v' w' h1 h2)
set_option maxHeartbeats 2000000 in
theorem rprefix_any {rb : Nat} {s : St} {L : List Et} {vl : Value} (w : World) (x : Rx w rb s L vl) :
    Calls Try.prog 39 #[.pointer (some ⟨rb, 0, none⟩)] w fun e w' => ∃ v, e = .returned v ∧ OwS w.heap.size (preV s) v w' ∧ Below w.heap.size w w' := by
  have HU := Lib.hid (rupto_any w x)
  have HB := Lib.hid (rbase_any w x)
  have HG := Lib.hid (fun k W (hb : Below w.heap.size w W) => rget_any k W (x.later hb) rfl)
  have hle := upto_le x.ok
  have hb0 := x.ok.hb
  have htk := Lib.hid (fun k hk => pre_take x.ok k hk)
  have hpl := pre_len x.ok
  have hall := Lib.hid (show (preV s).take (uptoV s - s.b).toNat = preV s from List.take_of_length_le (by omega))
  have hlt2 : Hid (∀ k : Nat, s.b + (k : Nat) ≤ uptoV s → ((preV s).take k).length = k ∧ k ≤ 4096) := Lib.hid fun k hk => ⟨by rw [List.length_take]; omega, by omega⟩
  clear x hpl
  generalize preV s = PV at *
  generalize uptoV s = U at *
  generalize s.b = b at *
  go_enter Try.func39, Try.ntmps39
  go_wp2_with (first
    | (go_at_call 37; refine HU.out.mono ?_; rintro e w' ⟨rfl, rfl⟩)
    | (go_at_call 38; refine HB.out.mono ?_; rintro e w' ⟨rfl, rfl⟩))
  go_loopw [3, 5] (fun v i wr => ∃ k : Nat, b + (k : Nat) ≤ U ∧ i = .int .i64 (b + (k : Nat)) ∧ OwS w.heap.size (PV.take k) v wr ∧ Below w.heap.size w wr) (fun _ i _ => 4097 - nOf i)
  case atStart => exact ⟨0, by omega, by rw [show b + ((0 : Nat) : Int) = b by omega], OwS.nil _ _, Below.refl _ _⟩
  case round =>
    obtain ⟨k, hk, rfl, hO, hB⟩ := hrel
    obtain ⟨l1, l2⟩ := hlt2.out k hk
    obtain ⟨i, hi⟩ : ∃ i, b + (k : Nat) = i := ⟨_, rfl⟩
    obtain ⟨va, vm, vc, rfl⟩ : ∃ a m c, u3 = .slice a m c := by
      obtain ⟨a, c, e⟩ := rows_form hO
      exact ⟨a, _, c, e⟩
    have hvm : vm = k := by
      obtain ⟨a, c, e⟩ := rows_form hO
      rw [l1] at e
      injection e
    subst hvm
    have hOr : wr.ownsRow w.heap.size TK 1 (.slice va vm vc) vm (txts (PV.take vm)) := by have := hO; unfold OwS at this; rw [l1] at this; exact this
    rw [hi] at hk ⊢
    have hgt := htk.out vm
    rw [hi] at hgt
    have hin := Lib.hid (show i + 1 = b + ((vm + 1 : Nat) : Int) by omega)
    have hi2 := Lib.hid hi
    have hi3 : 0 ≤ i ∧ i ≤ 4096 := by omega
    clear hi hO l1
    by_cases hlt : i < U
    · have b1 : decide (i < U) = true := decide_eq_true hlt
      have hw : IntKind.i64.wrap (i + 1) = i + 1 := by rw [IntKind.wrap_i64]; omega
      have HGi := Lib.hid (HG.out i wr hB)
      have hgt2 := Lib.hid (hgt hlt)
      generalize (getM s.M i).isSome = p at *
      generalize gK (getM s.M i) = T at *
      have hOa := Lib.hid (rows_later hOr (alloc_b wr (.cells #[.string T] TK)))
      have hca := Lib.hid (heap_alloc_new wr (.cells #[.string T] TK))
      have hBa := Lib.hid (hB.alloc hB.size (.cells #[.string T] TK))
      have hsza := Lib.hid (show w.heap.size ≤ (wr.alloc (.cells #[.string T] TK)).heap.size from hBa.out.size)
      clear hOr hgt
      go_wp2_with (first
        | (go_at_call 36; refine HGi.out.mono ?_; rintro e w' ⟨rfl, rfl⟩)
        | (at_builtin; refine wpList_append_t rfl _ _ rfl w.heap.size _ vm _ rfl hOa.out wr.heap.size _ T rfl hca.out (by omega) hsza.out ?_; intro v5 w5 hO5 hg5))
      go_roundw
      case rel => exact ⟨vm + 1, by rw [← hin.out]; omega, by rw [hin.out], by rw [hgt2.out]; unfold OwS; rw [List.length_append, txts_app, (hlt2.out vm (by rw [hi2.out]; omega)).1]; exact hO5, own_below hOa.out hg5 hBa.out (Nat.le_refl _)⟩
      case measure => simp [nOf]; omega
    · have hiU : i = U := by omega
      have b1 : decide (i < U) = false := decide_eq_false hlt
      have hfin := Lib.hid (show OwS w.heap.size PV (.slice va vm vc) wr by
        have h1 : vm = (U - b).toNat := by have := hi2.out; omega
        have h2 := hall.out
        rw [← h1] at h2
        rw [h2] at hOr
        have h3 := (hlt2.out vm (by rw [hi2.out]; omega)).1
        rw [h2] at h3
        unfold OwS
        rw [h3]
        exact hOr)
      clear hOr hgt hlt hiU HG
      go_wp2
      go_ret
      exact ⟨_, rfl, hfin.out, hB⟩

/-! Gaps. -/
/-- The slots from n on, k of them, that have no value. -/
def nh (M : List Et) (n : Int) : Nat → List Int
  | 0 => []
  | k + 1 => nh M n k ++ (if (getM M (n + (k : Nat))).isSome then [] else [n + (k : Nat)])
theorem nh_mem (M : List Et) (n : Int) : ∀ (k : Nat) (x : Int), x ∈ nh M n k ↔ n ≤ x ∧ x < n + (k : Nat) ∧ (getM M x).isSome = false
  | 0, x => by
    show x ∈ [] ↔ _
    constructor
    · intro h; cases h
    · rintro ⟨a, b, _⟩; omega
  | k + 1, x => by
    show x ∈ nh M n k ++ _ ↔ _
    rw [List.mem_append, nh_mem M n k x]
    constructor
    · rintro (⟨a, b, c⟩ | h)
      · exact ⟨a, by omega, c⟩
      · split at h
        · cases h
        · rename_i hc
          rw [List.mem_singleton] at h
          subst h
          exact ⟨by omega, by omega, by simpa using hc⟩
    · rintro ⟨a, b, c⟩
      by_cases hx : x = n + (k : Nat)
      · right
        rw [← hx, if_neg (by rw [c]; decide)]
        exact List.mem_singleton_self _
      · exact .inl ⟨a, by omega, c⟩
theorem nh_srt (M : List Et) (n : Int) : ∀ k : Nat, (nh M n k).Pairwise (· < ·)
  | 0 => List.Pairwise.nil
  | k + 1 => by
    show (nh M n k ++ _).Pairwise _
    rw [List.pairwise_append]
    refine ⟨nh_srt M n k, ?_, fun a ha b hb => ?_⟩
    · split
      · exact List.Pairwise.nil
      · exact List.pairwise_singleton _ _
    · have := ((nh_mem M n k a).1 ha).2.1
      split at hb
      · cases hb
      · rw [List.mem_singleton] at hb; omega
theorem nh_len (M : List Et) (n : Int) : ∀ k : Nat, (nh M n k).length ≤ k
  | 0 => Nat.le_refl 0
  | k + 1 => by
    show (nh M n k ++ _).length ≤ _
    have := nh_len M n k
    rw [List.length_append]
    split <;> simp <;> omega
/-- The greatest slot among the first j. -/
structure Tp (L : List Et) (j : Nat) (t : Int) : Prop where
  low : 0 ≤ t
  all : ∀ i e, i < j → L[i]? = some e → e.s ≤ t
  one : t = 0 ∨ ∃ i e, i < j ∧ L[i]? = some e ∧ e.s = t
theorem Tp.next {L : List Et} {j : Nat} {t : Int} (h : Tp L j t) {e : Et} (he : L[j]? = some e) : Tp L (j + 1) (max t e.s) := by
  refine ⟨by have := h.low; omega, fun i x hi hx => ?_, ?_⟩
  · by_cases hij : i = j
    · rw [hij, he] at hx; cases hx; omega
    · have := h.all i x (by omega) hx; omega
  · by_cases hm : t ≤ e.s
    · exact .inr ⟨j, e, by omega, he, by omega⟩
    · rcases h.one with h1 | ⟨i, x, hi, hx, hs⟩
      · exact .inl (by omega)
      · exact .inr ⟨i, x, by omega, hx, by omega⟩
theorem tp_gap {s : St} {L : List Et} (hr : RelL s L) (h : OkS s) {t : Int} (ht : Tp L L.length t) : gapV s = nh s.M s.b (t - s.b).toNat := by
  refine srt_ext (gap_srt h) (nh_srt _ _ _) fun x => ?_
  rw [gap_mem h, nh_mem]
  have hb := h.hb
  have hup : ∀ j, (getM s.M j).isSome = true → j ≤ t := fun j hj => by
    cases hg : getM s.M j with
    | none => rw [hg] at hj; cases hj
    | some e =>
      have h1 := (getN_iff hr.nd j e).1 (by rw [hr.eq]; exact hg)
      obtain ⟨i, hi⟩ := List.getElem?_of_mem h1.1
      have := ht.all i e (List.getElem?_eq_some_iff.1 hi).1 hi
      omega
  constructor
  · rintro ⟨a, b, j, c, d⟩
    have := hup j d
    exact ⟨a, by omega, b⟩
  · rintro ⟨a, b, c⟩
    refine ⟨a, c, t, by omega, ?_⟩
    rcases ht.one with h1 | ⟨i, e, hi, he, hs⟩
    · omega
    · have := (getN_iff hr.nd e.s e).2 ⟨List.mem_of_getElem? he, rfl⟩
      rw [hr.eq] at this
      rw [← hs, this]
      rfl
theorem rmax_n (a b x : Int) (h : max a b = x) (ts : Array TypeId) (t : TypeId) (w : World) :
    (Builtin.max_ ts t #[.int .i64 a, .int .i64 b]).run Try.prog w = .ok (.int .i64 x) w := by
  have h3 := run_max_int2 (P := Try.prog) w ts t .i64 .i64 a b
  rw [h3]
  congr 2
  split <;> omega
end Go.Proofs.Ytgeejkedljhcoaa.Slt
