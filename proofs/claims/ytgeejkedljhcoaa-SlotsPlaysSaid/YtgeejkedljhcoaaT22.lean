/- The document's log: Get, has, Upto, Put. -/
import Derived.Test.YtgeejkedljhcoaaT21
namespace Go.Proofs.Ytgeejkedljhcoaa.Slt
open Go.RowKit Go.Maps Go.Lib
set_option linter.unusedVariables false
set_option linter.unusedSimpArgs false
set_option maxRecDepth 20000

set_option maxHeartbeats 2000000 in
theorem rget_any {rb : Nat} {s : St} {L : List Et} {vl : Value} (k : Int) (w : World) (x : Rx w rb s L vl) {r : Option Et} (hr : getM s.M k = r) :
    Calls Try.prog 36 #[.pointer (some ⟨rb, 0, none⟩), .int .i64 k] w fun e w' => e = .returned (.tuple #[.string (gK r), .bool r.isSome]) ∧ w = w' := by
  have hV := Lib.hid x.valid
  obtain ⟨_, _, c2⟩ := x.cells
  obtain ⟨a, cap, rfl⟩ := x.form
  have hlen := x.len
  have hD : Hid (∀ i e, L[i]? = some e → ∃ g, a = some ⟨g, 0, none⟩ ∧ w.cell? ⟨g, i * 2, none⟩ = some (.int .i64 e.s) ∧ w.cell? ⟨g, i * 2 + 1, none⟩ = some (.string e.k)) := Lib.hid fun i e he => by
    obtain ⟨g, cap', hv, hg, hc⟩ := x.row.at he
    injection hv with h1 _ _
    exact ⟨g, h1, hc⟩
  have hyes : Hid (∀ e ∈ L, e.s = k → r = some e) := Lib.hid fun e he hk => by
    have := (getN_iff x.rel.nd k e).2 ⟨he, hk⟩
    rw [x.rel.eq, hr] at this
    exact this
  have hnon : Hid ((∀ e ∈ L, e.s ≠ k) → r = none) := Lib.hid fun h => by
    have := get_none.2 h
    rw [x.rel.eq, hr] at this
    exact this
  clear x hr
  obtain ⟨n, hn⟩ : ∃ n, L.length = n := ⟨_, rfl⟩
  rw [hn] at c2 hlen
  replace hn := Lib.hid hn
  go_enter Try.func36, Try.ntmps36
  go_wp2_with (go_at_call 42; refine hV.out.mono ?_; rintro e w' ⟨rfl, rfl⟩)
  go_loop [6] (fun i => ∃ j : Nat, j ≤ n ∧ i = .int .i64 j ∧ ∀ i, i < j → ∀ e, L[i]? = some e → e.s ≠ k) (fun i => n - nOf i)
  case atStart => exact ⟨0, Nat.zero_le _, rfl, fun i h => by omega⟩
  case round =>
    obtain ⟨j, hj, rfl, hall⟩ := hrel
    replace hall := Lib.hid hall
    by_cases hlt : j < n
    · obtain ⟨e, he⟩ : ∃ e, L[j]? = some e := ⟨_, List.getElem?_eq_getElem (by rw [hn.out]; exact hlt)⟩
      obtain ⟨g, rfl, d0, d1⟩ := hD.out j e he
      have hmem := Lib.hid (List.mem_of_getElem? he)
      have he' := Lib.hid he
      obtain ⟨es, ek⟩ := e
      simp only at d0 d1
      have i0 : decide ((j : Int) < (n : Int)) = true := by simp; omega
      have i1 : 0 ≤ (j : Int) := by omega
      have i2 : (j : Int) < (n : Int) := by omega
      have i3 : IntKind.i64.wrap ((j : Int) + 1) = (j : Int) + 1 := by rw [IntKind.wrap_i64]; omega
      clear he
      by_cases hk : es = k
      · have hr := hyes.out _ hmem.out hk
        subst hr
        have q1 : (es == k) = true := by simpa using hk
        clear hD hyes hnon
        subst hk
        go_wp2
        go_ret2
        exact ⟨rfl, rfl⟩
      · have q1 : (es == k) = false := by simpa using hk
        have q2 : (es = k) = False := by simpa using hk
        have hk' := Lib.hid hk
        clear hk
        go_wp2
        go_round
        case rel => exact ⟨j + 1, by omega, by go_num, fun i hi e he => by
          rcases Nat.lt_or_ge i j with h | h
          · exact hall.out i h e he
          · have : i = j := by omega
            subst this
            rw [he'.out] at he
            injection he with he
            rw [← he]
            exact hk'.out⟩
        case measure => simp [nOf]; omega
    · have hjl : j = n := by omega
      have hr := hnon.out fun e he => by
        obtain ⟨i, hi⟩ := List.getElem?_of_mem he
        exact hall.out i (by have := (List.getElem?_eq_some_iff.1 hi).1; have := hn.out; omega) e hi
      subst hr
      have i2 : decide ((j : Int) < (n : Int)) = false := by simp; omega
      clear hD hyes hnon hlt
      subst hjl
      go_wp2
      go_ret2
      exact ⟨rfl, rfl⟩
theorem rhas_any {rb : Nat} {s : St} {L : List Et} {vl : Value} (k : Int) (w : World) (x : Rx w rb s L vl) {r : Option Et} (hr : getM s.M k = r) :
    Calls Try.prog 57 #[.pointer (some ⟨rb, 0, none⟩), .int .i64 k] w fun e w' => e = .returned (.bool r.isSome) ∧ w = w' := by
  have HG := Lib.hid (rget_any k w x hr)
  clear x hr
  generalize r.isSome = b at *
  generalize gK r = q at *
  go_enter Try.func57, Try.ntmps57
  go_wp2_with (go_at_call 36; refine HG.out.mono ?_; rintro e w' ⟨rfl, rfl⟩)
  go_ret
  exact ⟨rfl, rfl⟩
set_option maxHeartbeats 1000000 in
theorem rupto_any {rb : Nat} {s : St} {L : List Et} {vl : Value} (w : World) (x : Rx w rb s L vl) :
    Calls Try.prog 37 #[.pointer (some ⟨rb, 0, none⟩)] w fun e w' => e = .returned (.int .i64 (uptoV s)) ∧ w = w' := by
  have hV := Lib.hid x.valid
  have hb := x.ok.hb
  have hlt := Lib.hid (fun k (h : (getM s.M k).isSome = true) => (x.ok.has h).2)
  have hH := Lib.hid (fun (k : Int) => rhas_any k w x rfl)
  have hu : Hid (uptoV s = upTo s.M s.b (4096 - s.b).toNat) := Lib.hid rfl
  obtain ⟨_, c1, _⟩ := x.cells
  clear x
  generalize s.b = b at *
  generalize uptoV s = U at *
  go_enter Try.func37, Try.ntmps37
  go_wp2_with (go_at_call 42; refine hV.out.mono ?_; rintro e w' ⟨rfl, rfl⟩)
  go_loop [3] (fun i => ∃ k : Int, b ≤ k ∧ k ≤ 4096 ∧ i = .int .i64 k ∧ U = upTo s.M k (4096 - k).toNat) (fun i => 4096 - nOf i)
  case atStart => exact ⟨b, Int.le_refl _, hb.2, rfl, hu.out⟩
  case round =>
    obtain ⟨k, hk0, hk1, rfl, hU⟩ := hrel
    have hl := Lib.hid (hH.out k)
    have hck := hlt.out k
    have htrue := fun (j : Nat) (h : (getM s.M k).isSome = true) => upTo_yes s.M k j h
    have hfalse := fun (j : Nat) (h : (getM s.M k).isSome = false) => upTo_no s.M k j h
    have hw : IntKind.i64.wrap (k + 1) = k + 1 := by rw [IntKind.wrap_i64]; omega
    generalize (getM s.M k).isSome = c at *
    cases c with
    | true =>
      have hk2 : k < 4096 := hck rfl
      have hU2 : U = upTo s.M (k + 1) (4096 - (k + 1)).toNat := by
        rw [hU, show (4096 - k).toNat = (4096 - (k + 1)).toNat + 1 by omega]
        exact htrue _ rfl
      replace hU2 := Lib.hid hU2
      clear hU hck htrue hfalse hH hlt
      go_wp2_with (go_at_call 57; refine hl.out.mono ?_; rintro e w' ⟨rfl, rfl⟩)
      go_round
      case rel => exact ⟨k + 1, by omega, by omega, rfl, hU2.out⟩
      case measure => simp [nOf]; omega
    | false =>
      have hU2 : U = k := by rw [hU]; exact hfalse _ rfl
      replace hU2 := Lib.hid hU2
      clear hU hck htrue hfalse hH hlt
      go_wp2_with (go_at_call 57; refine hl.out.mono ?_; rintro e w' ⟨rfl, rfl⟩)
      go_ret
      exact ⟨by rw [hU2.out]; rfl, rfl⟩

/-! Put. -/
theorem OwK.ne {base : Nat} {L : List Et} {v : Value} {w : World} {rb : Nat} {c : Array Value} (h : OwK base L v w) (hb : w.heap[rb]? = some (.cells c TRL (0, 0))) : ∀ k, v.ownBlock = some k → k ≠ rb := by
  rintro k hk rfl
  rcases h.2 with ⟨rfl, _⟩ | ⟨g, cap, cur, rfl, _, hg, _⟩
  · cases hk
  · injection hk with hk
    subst hk
    rw [hb] at hg
    injection hg with hg
    injection hg with _ hg
    exact absurd hg (by decide)
theorem Stopp {p : Prop} (h : id p) : p := h
/-- The row's block is none of an older one. -/
def Up (base : Nat) (v : Value) : Prop := ∀ i, v.ownBlock = some i → base ≤ i
theorem OwK.up {base b0 : Nat} {L : List Et} {v : Value} {w : World} (h : OwK b0 L v w) (hu : Up base v) : OwK base L v w := by
  rcases h with ⟨h0, ⟨h1, h2⟩ | ⟨g, cap, cur, h1, _, h3⟩⟩
  · exact ⟨h0, .inl ⟨h1, h2⟩⟩
  · exact ⟨h0, .inr ⟨g, cap, cur, h1, hu g (by rw [h1]; rfl), h3⟩⟩
theorem OwK.ups {base : Nat} {L : List Et} {v : Value} {w : World} (h : OwK base L v w) : Up base v := fun i hi => (World.ownsRow.lt h i hi).1
def RPut (base : Nat) (w : World) (rb : Nat) (s : St) (vl : Value) (k : Int) (v : ByteArray) (e : Ending) (w' : World) : Prop :=
  e = .returned (.int .i64 (putE s k v)) ∧ ∃ L' v', Rx w' rb (putS s k v) L' v' ∧ Keeps (fun i => i = rb ∨ vl.ownBlock = some i) w w' ∧ Up base v'
theorem put_same {s : St} (h : OkS s) {k : Int} {v : ByteArray} {j : Int} (hg : getM s.M k = some ⟨j, v⟩) : (⟨s.b, putM s.M ⟨k, v⟩⟩ : St) = s := by
  obtain ⟨b, M⟩ := s
  have hk : j = k := get_key hg
  have : putM M ⟨k, v⟩ = M := ext_M (srt_put h.srt _) h.srt fun i => by
    rw [get_put h.srt]
    split
    · rename_i e; rw [e, ← hk]; rw [← hk] at hg; exact hg.symm
    · rfl
  rw [show (⟨b, M⟩ : St).M = M from rfl, this]
set_option maxHeartbeats 2000000 in
theorem rput_any {rb : Nat} {s : St} {L : List Et} {vl : Value} (k : Int) (v : ByteArray) (w : World) (x : Rx w rb s L vl) {base : Nat} (hbs0 : base ≤ w.heap.size) (hup0 : Up base vl) :
    Calls Try.prog 17 #[.pointer (some ⟨rb, 0, none⟩), .int .i64 k, .string v] w (RPut base w rb s vl k v) := by
  have hup := Lib.hid hup0
  have hbs : Hid (base ≤ (w.alloc (.cells (eA ⟨k, v⟩) TRK)).heap.size) := Lib.hid (by rw [World.size_alloc]; omega)
  clear hup0 hbs0
  have HV := Lib.hid x.valid
  have hno : Hid (putE s k v ≠ 0 → RPut base w rb s vl k v (.returned (.int .i64 (putE s k v))) w) := Lib.hid fun h0 => ⟨rfl, L, vl, by rw [put_no h0]; exact x, Keeps.refl _ _, hup.out⟩
  obtain ⟨_, c1, c2⟩ := x.cells
  by_cases h0 : k < 0
  · have b0 : decide (k < 0) = true := decide_eq_true h0
    have e : putE s k v = 2 := by
      have : ckV s.b k v = 2 := if_neg (by omega)
      unfold putE; rw [this, if_neg (by decide)]
    rw [e] at hno
    clear h0 x e
    go_enter Try.func17, Try.ntmps17
    go_wp2_with (go_at_call 42; refine HV.out.mono ?_; rintro e w' ⟨rfl, rfl⟩)
    go_ret
    exact hno.out (by decide)
  · have b0 : decide (k < 0) = false := decide_eq_false h0
    by_cases h1 : 4096 ≤ k
    · have b1 : decide (4096 ≤ k) = true := decide_eq_true h1
      have e : putE s k v = 2 := by
        have : ckV s.b k v = 2 := if_neg (by omega)
        unfold putE; rw [this, if_neg (by decide)]
      rw [e] at hno
      clear h0 h1 x e
      go_enter Try.func17, Try.ntmps17
      go_wp2_with (go_at_call 42; refine HV.out.mono ?_; rintro e w' ⟨rfl, rfl⟩)
      go_ret
      exact hno.out (by decide)
    · have b1 : decide (4096 ≤ k) = false := decide_eq_false h1
      by_cases hv : 65536 < v.size
      · have b2 : decide (65536 < v.size) = true := decide_eq_true hv
        have b3 : decide ((65536 : Int) < (v.size : Int)) = true := decide_eq_true (by omega)
        have e : putE s k v = 11 := by
          have : ckV s.b k v = 11 := by unfold ckV; rw [if_pos (by omega), if_pos hv]
          unfold putE; rw [this, if_neg (by decide)]
        rw [e] at hno
        clear h0 h1 hv x e
        go_enter Try.func17, Try.ntmps17
        go_wp2_with (go_at_call 42; refine HV.out.mono ?_; rintro e w' ⟨rfl, rfl⟩)
        go_ret
        exact hno.out (by decide)
      · have b2 : decide (65536 < v.size) = false := decide_eq_false hv
        have b3 : decide ((65536 : Int) < (v.size : Int)) = false := decide_eq_false (by omega)
        by_cases hk : k < s.b
        · have b4 : decide (k < s.b) = true := decide_eq_true hk
          have e : putE s k v = 8 := by
            have : ckV s.b k v = 8 := by unfold ckV; rw [if_pos (by omega), if_neg hv, if_pos hk]
            unfold putE; rw [this, if_neg (by decide)]
          rw [e] at hno
          clear h0 h1 hv hk x e
          generalize s.b = b at *
          go_enter Try.func17, Try.ntmps17
          go_wp2_with (go_at_call 42; refine HV.out.mono ?_; rintro e w' ⟨rfl, rfl⟩)
          go_ret
          exact hno.out (by decide)
        · have b4 : decide (k < s.b) = false := decide_eq_false hk
          have hc : ckV s.b k v = 0 := by unfold ckV; rw [if_pos (by omega), if_neg hv, if_neg hk]
          obtain ⟨r, hr⟩ : ∃ r, getM s.M k = r := ⟨_, rfl⟩
          have HG := Lib.hid (rget_any k w x hr)
          have he : putE s k v = if refV r v then 9 else 0 := by unfold putE; rw [if_pos hc, hr]
          have hX := Lib.hid x
          have hrr := Lib.hid hr
          clear hc h0 h1 hv hk hr
          cases r with
          | none =>
            have e0 : putE s k v = 0 := he
            have hok := ok_puts x.ok k v
            rw [put_ok e0] at hok
            have hrel := Lib.hid (x.rel.put x.ok ⟨k, v⟩ hrr.out)
            have hlen := x.len
            have hne := Lib.hid (x.row.ne x.box)
            have hfin : Hid (∀ W v', W.heap[rb]? = some (.cells #[.bool true, .int .i64 s.b, v'] TRL (0, 0)) → OwK base (L ++ [⟨k, v⟩]) v' W → Keeps (fun i => i = rb ∨ vl.ownBlock = some i) w W → RPut base w rb s vl k v (.returned (.int .i64 0)) W) := Lib.hid fun W v' g1 g2 g3 =>
              ⟨by rw [e0], _, v', by rw [put_ok e0]; exact ⟨g1, rows_base g2 (Nat.zero_le _), hrel.out, hok⟩, g3, g2.ups⟩
            have hO2 := Lib.hid ((rows_later (x.row.up hup.out) (alloc_b w (.cells (eA ⟨k, v⟩) TRK)) : OwK base L vl (w.alloc (.cells (eA ⟨k, v⟩) TRK))))
            have hca := Lib.hid (heap_alloc_new w (.cells (eA ⟨k, v⟩) TRK))
            have hlt := Lib.hid x.lt
            have hbx := Lib.hid x.box
            obtain ⟨a, cap, rfl⟩ := x.form
            simp only [Option.isSome_none, gK] at HG
            clear x he e0 hno hok hX
            go_enter Try.func17, Try.ntmps17
            go_wp2_with (first
              | (go_at_call 42; refine HV.out.mono ?_; rintro e w' ⟨rfl, rfl⟩)
              | (go_at_call 36; refine HG.out.mono ?_; rintro e w' ⟨rfl, rfl⟩)
              | (at_builtin; refine Stopp ?_))
            change wpList _ _ _ _ _ _
            refine wpList_append_k rfl _ _ rfl base _ L rfl hO2.out w.heap.size _ ⟨k, v⟩ rfl hca.out (by omega) hbs.out ?_
            intro v5 w5 hO5 hg5
            obtain ⟨a5, m5, c5, rfl⟩ : ∃ a m c, v5 = .slice a m c := by
              obtain ⟨a, c, e⟩ := rows_form hO5
              exact ⟨a, _, c, e⟩
            have hb5 : w5.heap[rb]? = some (.cells #[.bool true, .int .i64 s.b, .slice a L.length cap] TRL (0, 0)) := (hg5.block rb (by rw [World.size_alloc]; have := hlt.out; omega) (fun e => hne.out rb e.symm rfl)).trans ((Below.heap_alloc _ _ _ hlt.out).trans hbx.out)
            have f5 := frozen_of_row w5 rb 2 _ TRL hb5
            have ce5 := cell_of_row w5 rb 2 _ TRL _ hb5
            replace hO5 := Lib.hid hO5
            replace hg5 := Lib.hid hg5
            replace hb5 := Lib.hid hb5
            go_wp2
            go_ret
            refine hfin.out _ _ (Go.heap_setCell_same w5 rb 2 _ TRL _ hb5.out) (rows_kept hO5.out fun i hi => Below.heap_setCell _ _ _ _ (hO5.out.ne hb5.out i hi)) ?_
            exact ((Keeps.of_below (F := fun i => i = rb ∨ (Value.slice a L.length cap).ownBlock = some i) (alloc_b w (.cells (eA ⟨k, v⟩) TRK))).grown hg5.out (fun g hg => .inl (.inr hg))).setCell (p := ⟨rb, 2, none⟩) (.inl (.inl rfl)) _
          | some q =>
            obtain ⟨qs, qv⟩ := q
            have ht := tl_eq qv v
            have hr9 : refV (some ⟨qs, qv⟩) v = !eqT qv v := rfl
            rw [hr9] at he
            simp only [Option.isSome_some, gK] at HG
            cases hz : eqT qv v with
            | true =>
              rw [hz] at ht he
              have e0 : putE s k v = 0 := he
              have hqv : qv = v := of_decide_eq_true hz
              have hsame := put_same x.ok (k := k) (v := v) (j := qs) (by have := hrr.out; rw [hqv] at this; exact this)
              have hfin : Hid (RPut base w rb s vl k v (.returned (.int .i64 0)) w) := Lib.hid ⟨by rw [e0], L, vl, by rw [put_ok e0, hsame]; exact x, Keeps.refl _ _, hup.out⟩
              clear he e0 hr9 x hX hno hqv hsame hz hrr
              go_enter Try.func17, Try.ntmps17
              go_wp2_with (first
                | (go_at_call 42; refine HV.out.mono ?_; rintro e w' ⟨rfl, rfl⟩)
                | (go_at_call 36; refine HG.out.mono ?_; rintro e w' ⟨rfl, rfl⟩))
              go_ret
              exact hfin.out
            | false =>
              rw [hz] at ht he
              have e0 : putE s k v = 9 := he
              rw [e0] at hno
              clear he e0 hr9 x hX hz hrr
              go_enter Try.func17, Try.ntmps17
              go_wp2_with (first
                | (go_at_call 42; refine HV.out.mono ?_; rintro e w' ⟨rfl, rfl⟩)
                | (go_at_call 36; refine HG.out.mono ?_; rintro e w' ⟨rfl, rfl⟩))
              go_ret
              exact hno.out (by decide)
end Go.Proofs.Ytgeejkedljhcoaa.Slt
