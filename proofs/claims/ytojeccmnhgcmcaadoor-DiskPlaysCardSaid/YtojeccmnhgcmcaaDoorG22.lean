/- The document's All, Check, Cut; same. -/
import Derived.Test.YtojeccmnhgcmcaaDoorG21
namespace Go.Proofs.YtojeccmnhgcmcaaDoor.Frame
open Go.RowKit Go.ChangeShapes
open Crc (Hv more more_lt ret_u32)
set_option linter.unusedVariables false
set_option linter.unusedSimpArgs false

theorem len_tot (L : List (List Nat)) : L.length ≤ tot L := by
  induction L with
  | nil => exact Nat.zero_le _
  | cons c L ih => show L.length + 1 ≤ 8 + c.length + tot L; omega
theorem Frs.later {T : TypeId} {w w' : World} {base : Nat} {v : Value} {L : List (List Nat)} (h : Frs T w base v L) (hb : Below w.heap.size w w') : Frs T w' base v L := by
  obtain ⟨zs, h1, h2, h3, h4⟩ := h.ex
  exact ⟨zs, rows_later h1 hb, h2, h3, fun z hz => (h4 z hz).later hb⟩
theorem nextE_zero {w : World} {k : Nat} {c : List Nat} {e : Ending} {w' : World} (h : NextE w k 0 c e w') : ∃ a cap, e = .returned (.tuple #[.agg #[.int .i64 (k : Nat), .slice a c.length cap], .int .i64 ((k + (8 + c.length) : Nat) : Int), .int .i64 0]) ∧ Mine w' w.heap.size (.slice a c.length cap) c ∧ Below w.heap.size w w' := by
  obtain ⟨v, h1, h2, h3⟩ := h
  unfold lkX lkN at h1
  unfold lkC at h2
  rw [if_pos rfl, if_pos rfl] at h1
  rw [if_pos rfl] at h2
  obtain ⟨a, cap, rfl⟩ := h2.form
  exact ⟨a, cap, h1, h2, h3⟩
theorem nextE_other {w : World} {k E : Nat} {c : List Nat} {e : Ending} {w' : World} (hE : E ≠ 0) (h : NextE w k E c e w') : ∃ a cap, e = .returned (.tuple #[.agg #[.int .i64 0, .slice a 0 cap], .int .i64 0, .int .i64 (E : Nat)]) ∧ Below w.heap.size w w' := by
  obtain ⟨v, h1, h2, h3⟩ := h
  unfold lkX lkN at h1
  unfold lkC at h2
  rw [if_neg hE, if_neg hE] at h1
  rw [if_neg hE] at h2
  obtain ⟨a, cap, rfl⟩ := h2.form
  exact ⟨a, cap, h1, h3⟩
/-- The next record is taken up. -/
theorem frs_snoc {T : TypeId} (hT : T ≠ 5) {w w' : World} {base m : Nat} {u u' v : Value} {P : List (List Nat)} {c : List Nat} {zs : List Zz} (how : w.ownsRow base T 2 u P.length (flat zs)) (hz1 : zs.map (fun z => z.2.1) = P) (hz2 : ∀ (i : Nat) (h : i < zs.length), (zs[i]).1 = tot (P.take i)) (hm : ∀ z ∈ zs, Mine w base z.2.2 z.2.1)
    (hv : Mine w m v c) (hmb : base ≤ m) (hum : ∀ k, u.ownBlock = some k → k < m) (ho : w'.ownsRow base T 2 u' (P.length + 1) (flat zs ++ [.int .i64 (tot P : Nat), v])) (hg : w.grownBy w' u.ownBlock) : Frs T w' base u' (P ++ [c]) := by
  have hzl : zs.length = P.length := by rw [← hz1, List.length_map]
  refine ⟨zs ++ [(tot P, c, v)], ?_, ?_, ?_, ?_⟩
  · rw [flat_app, List.length_append]; exact ho
  · rw [List.map_append, hz1]; rfl
  · intro i hi
    rw [List.getElem_append]
    split
    · rename_i h; rw [hz2 i h, List.take_append_of_le_length (by omega)]
    · rename_i h
      rw [List.length_append] at hi
      have hi2 : i = P.length := by simp at hi; omega
      subst hi2
      rw [List.take_append_of_le_length (Nat.le_refl _), List.take_length]
      simp [hzl]
  · intro z hz
    rcases List.mem_append.1 hz with hz | hz
    · have m3 := hm z hz
      exact ⟨own_kept m3.own fun k hk => hg.block k (own_lt m3.own k hk).2 (rows_ne m3.own how (fun e => hT e.symm) hk), m3.h8⟩
    · rw [List.mem_singleton] at hz
      subst hz
      exact Mine.wide (base := m) ⟨own_kept hv.own fun k hk => hg.block k (own_lt hv.own k hk).2 (fun e => by have h1 := (own_lt hv.own k hk).1; have h2 := hum k e.symm; omega), hv.h8⟩ hmb
abbrev TRF : TypeId := 69
theorem trf_ne : TRF ≠ 5 := by decide
theorem frs_nil (T : TypeId) (w : World) (base : Nat) : Frs T w base (.slice none 0 0) [] := ⟨[], ⟨rfl, .inl ⟨rfl, rfl⟩⟩, rfl, fun i h => absurd h (by simp), fun z hz => absurd hz List.not_mem_nil⟩
theorem Frs.form {T : TypeId} {w : World} {base : Nat} {v : Value} {L : List (List Nat)} (h : Frs T w base v L) : ∃ a cap, v = .slice a L.length cap := by
  obtain ⟨zs, h1, _⟩ := h.ex
  exact rows_form h1
set_option maxHeartbeats 2000000 in
theorem rall_any (F : Nat → Prop) (v : Value) (b : List Nat) (w : World) (hv : Bs w F v b) (hF : ∀ k, F k → k < w.heap.size) (hlen : b.length ≤ 100000000) :
    Calls Tryd.prog 44 #[v] w fun e w' => ∃ u, e = .returned (.tuple #[u, .int .i64 (tot (chain b) : Nat)]) ∧ Frs TRF w' w.heap.size u (chain b) ∧ Below w.heap.size w w' := by
  have HV := Lib.hid hv
  obtain ⟨h8, a, cap, rfl, _⟩ := hv
  have htot := chain_tot b h8
  obtain ⟨C, hC⟩ : ∃ C, chain b = C := ⟨_, rfl⟩
  rw [hC] at htot ⊢
  replace hC := Lib.hid hC
  go_enter Tryd.func44, Tryd.ntmps44
  go_wp2
  go_loopw [4, 5] (fun u i wr => ∃ (P : List (List Nat)) (k : Nat), k ≤ b.length ∧ i = .int .i64 k ∧ k = tot P ∧ C = P ++ chain (b.drop k) ∧ Frs TRF wr w.heap.size u P ∧ Below w.heap.size w wr) (fun _ i _ => b.length - (intOf i).toNat)
  case atStart => exact ⟨[], 0, Nat.zero_le _, rfl, rfl, hC.out.symm, frs_nil _ _ _, Below.refl _ _⟩
  case round =>
    obtain ⟨P, k, hk, rfl, hkP, hch, hfr, hbel⟩ := hrel
    have hvr := HV.out.kept (Same.of_below hbel hF)
    have hFr : ∀ k, F k → k < wr.heap.size := fun k hk => Nat.lt_of_lt_of_le (hF k hk) hbel.size
    have hNX := rnext_at F (.slice a b.length cap) b (k : Nat) wr hvr hFr hlen
    unfold NextA at hNX
    rw [lkE_in hk, Int.toNat_natCast] at hNX
    obtain ⟨ua, ucap, rfl⟩ := hfr.form
    by_cases he : restE (b.drop k) = 0
    · have hok := ok_of he
      have hle : k + (8 + (restC (b.drop k)).length) ≤ b.length := by have h1 := hok.len; have h2 := hok.fit; have h3 := hok.ge; rw [List.length_drop] at h2 h3; omega
      have hcc := chain_ok he
      rw [List.drop_drop] at hcc
      rw [hcc] at hch
      rw [he] at hNX
      have hPn : P.length ≤ 100000000 := by have := len_tot P; omega
      generalize restC (b.drop k) = c at *
      have HN := Lib.hid hNX
      have HCH := Lib.hid hch
      have HKP := Lib.hid hkP
      have Hfr := Lib.hid hfr
      clear hNX he hch hcc hkP hfr hok
      go_wp2_with fail
      refine HN.out.mono ?_
      rintro e w2 hNE
      obtain ⟨a2, cap2, rfl, hm2, hb2⟩ := nextE_zero hNE
      have hb3 : Below w2.heap.size w2 (w2.alloc (.cells #[.int .i64 (k : Nat), .slice a2 c.length cap2] TRF)) := (Below.refl _ _).alloc (Nat.le_refl _) _
      have hb4 : Below w2.heap.size w2 ((w2.alloc (.cells #[.int .i64 (k : Nat), .slice a2 c.length cap2] TRF)).alloc (.cells #[.int .i64 (k : Nat), .slice a2 c.length cap2] TRF)) := hb3.alloc hb3.size _
      have hbr4 := hb2.trans (hb4.mono hb2.size)
      have bel4 := hbel.trans (hbr4.mono hbel.size)
      obtain ⟨zs, how, hz1, hz2, hmz⟩ := (Hfr.out).ex
      have how4 := Lib.hid (rows_later how hbr4)
      have B4 : Blk ((w2.alloc (.cells #[.int .i64 (k : Nat), .slice a2 c.length cap2] TRF)).alloc (.cells #[.int .i64 (k : Nat), .slice a2 c.length cap2] TRF)) (w2.heap.size + 1) [.int .i64 (k : Nat), .slice a2 c.length cap2] TRF := by
        have := heap_alloc_new (w2.alloc (.cells #[.int .i64 (k : Nat), .slice a2 c.length cap2] TRF)) (.cells #[.int .i64 (k : Nat), .slice a2 c.length cap2] TRF)
        rwa [World.size_alloc] at this
      have HS := Lib.hid (fun (u' : Value) (w5 : World) (h1 : w5.ownsRow w.heap.size TRF 2 u' (P.length + 1) (flat zs ++ [.int .i64 (k : Nat), .slice a2 c.length cap2])) (h2 : ((w2.alloc (.cells #[.int .i64 (k : Nat), .slice a2 c.length cap2] TRF)).alloc (.cells #[.int .i64 (k : Nat), .slice a2 c.length cap2] TRF)).grownBy w5 (Value.ownBlock (.slice ua P.length ucap))) =>
        (⟨frs_snoc trf_ne how4.out hz1 hz2 (fun z hz => (hmz z hz).later hbr4) (hm2.later hb4) hbel.size (fun k hk => (rows_lt how k hk).2) (by rw [← HKP.out]; exact h1) h2, bel4.grown h2 bel4.size (fun g hg => (rows_lt how g hg).1)⟩ : Frs TRF w5 w.heap.size u' (P ++ [c]) ∧ Below w.heap.size w w5))
      have b0 := B4.cell 0 _ rfl
      have b1 := B4.cell 1 _ rfl
      clear hz1 hz2 hmz how
      go_wp2_with (first
        | (refine wpList_append_z 60 TRF Tryd.underlying60 info_rf rfl _ _ rfl w.heap.size _ zs P.length rfl how4.out (w2.heap.size + 1) 1 (k : Nat) a2 c.length cap2 rfl b0 b1 hPn bel4.size ?_; intro v5 w5 ho5 hg5 _; obtain ⟨hf5, hbe5⟩ := HS.out _ _ ho5 hg5; clear ho5 hg5))
      go_roundw
      case rel => exact ⟨P ++ [c], k + (8 + c.length), hle, by go_num, by rw [tot_app, tot_one, ← HKP.out], by rw [HCH.out, List.append_assoc, List.singleton_append], hf5, hbe5⟩
      case measure => simp [intOf]; omega
    · have hne := chain_no he
      rw [hne, List.append_nil] at hch
      have hE0 : ((restE (b.drop k) : Nat) : Int) ≠ 0 := by omega
      have hE1 : (((restE (b.drop k) : Nat) : Int) != 0) = true := by simpa using hE0
      have hNX2 := Lib.hid hNX
      have HE := Lib.hid he
      subst hch
      replace hkP := Lib.hid hkP
      generalize restE (b.drop k) = E at *
      clear hNX he hne hE0
      go_wp2_with fail
      refine hNX2.out.mono ?_
      rintro e w2 hNE
      obtain ⟨a2, cap2, rfl, hb2⟩ := nextE_other HE.out hNE
      have hb3 : Below wr.heap.size wr (w2.alloc (.cells #[.int .i64 0, .slice a2 0 cap2] TRF)) := hb2.trans (((Below.refl _ _).alloc (Nat.le_refl _) _).mono hb2.size)
      have hfr3 := Lib.hid (hfr.later hb3)
      have bel3 := hbel.trans (hb3.mono hbel.size)
      clear hNE hfr
      go_wp2
      go_ret2
      rw [← hkP.out]
      exact ⟨_, rfl, hfr3.out, bel3⟩
end Go.Proofs.YtojeccmnhgcmcaaDoor.Frame
