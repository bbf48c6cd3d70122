/- The walk of CrcTables. -/
import Derived.Test.YtnpkdieblejliaaDoorK15
import Derived.Deep.RegionHeld3
namespace Go.Proofs.YtnpkdieblejliaaDoor.Crc
open Go.RowKit Go.ChangeShapes
set_option linter.unusedVariables false

theorem eight_split (r i : Nat) (hi : i < 256) : stps 8 (r ^^^ i) = r / 256 ^^^ stps 8 (r % 256 ^^^ i) := by
  have h := split_bits r 8
  have e : stps 8 (r / 2 ^ 8 * 2 ^ 8) = r / 256 := by
    simp only [stps]
    rw [show r / 2 ^ 8 * 2 ^ 8 = 2 * (2 * (2 * (2 * (2 * (2 * (2 * (2 * (r / 256)))))))) by omega]
    simp only [stp_two]
  rw [show stps 8 (r ^^^ i) = stps 8 ((r / 2 ^ 8 * 2 ^ 8) ^^^ (r % 2 ^ 8) ^^^ i) by rw [← h], Nat.xor_assoc, stps_xor, e]
theorem more_one (s i : Nat) : more s [i] = inv (stps 8 (inv s ^^^ i)) := by
  simp only [more, takes, List.foldl_cons, List.foldl_nil, takeB]
theorem tab_cell {w : World} {g : Nat} (h : Blk w g tab 34) (i : Nat) (hi : i < 256) : w.cell? ⟨g, i, none⟩ = some (.int .u32 (stps 8 i : Nat)) :=
  h.cell i _ (by unfold tab; rw [fill_get _ _ _ _ hi, if_pos hi])
theorem nat_u8 {a : Int} (h : (Lit.int .u8 a).wf = true) : ∃ n : Nat, a = n ∧ n < 256 := by
  have hb := bounds_u8 h
  obtain ⟨n, rfl⟩ := Int.eq_ofNat_of_zero_le hb.1
  exact ⟨n, rfl, by omega⟩
theorem more_new (s i M : Nat) (hM : more s [i] = M) (hs : s < 4294967296) (hi : i < 256) (w : World) (hH : Hv w) :
    Calls Tryd.prog 16 #[.int .u32 s, .slice (some ⟨w.heap.size, 0, none⟩) 1 1] (w.alloc (.cells #[.int .u8 i] 5)).drew fun e w' => e = .returned (.int .u32 M) ∧ (w.alloc (.cells #[.int .u8 i] 5)).drew = w' := by
  subst hM
  exact more_any s hs _ [i] _ ((bs_new w [i] 5 (0, 0) (by intro c hc; rcases List.mem_singleton.1 hc with rfl; exact hi)).later (Below.refl _ _).drew) (by simp) ((hH.alloc _).later (Below.refl _ _).drew)
theorem WAt.drew {w wr : World} {g : Nat} (h : WAt w g wr) : WAt w g wr.drew := ⟨h.blk, h.bel.drew, h.hv, h.ge⟩
theorem held {w w' : World} {g a i k q Ta Ti Tk Tq : Nat} (h : WAt w g w') (ha : a < 256) (hi : i < 256) (hk : k < 256) (hq : q < 256) (ea : stps 8 a = Ta) (ei : stps 8 i = Ti) (ek : stps 8 k = Tk) (eq : stps 8 q = Tq) :
    w'.cell? ⟨g, a, none⟩ = some (.int .u32 Ta) ∧ w'.cell? ⟨g, i, none⟩ = some (.int .u32 Ti) ∧ w'.cell? ⟨g, k, none⟩ = some (.int .u32 Tk) ∧ w'.cell? ⟨g, 0, none⟩ = some (.int .u32 0) ∧ w'.cell? ⟨g, 128, none⟩ = some (.int .u32 3988292384) ∧ w'.cell? ⟨g, q, none⟩ = some (.int .u32 Tq) ∧ WAt w g w' := by
  have c4 := tab_cell h.blk 0 (by omega)
  have c5 := tab_cell h.blk 128 (by omega)
  rw [stps_zero] at c4
  rw [show stps 8 128 = 3988292384 by decide +kernel] at c5
  exact ⟨ea ▸ tab_cell h.blk a ha, ei ▸ tab_cell h.blk i hi, ek ▸ tab_cell h.blk k hk, c4, c5, eq ▸ tab_cell h.blk q hq, h⟩
set_option maxRecDepth 100000 in
set_option maxHeartbeats 2000000 in
theorem tables_go (i k s : Nat) (hi : i < 256) (hk : k < 256) (hs : s < 4294967296) (w : World) (hH : Hv w) :
    Calls Tryd.prog 11 #[.int .u8 i, .int .u8 k, .int .u32 s] w fun e w' => e = .returned (.bool true) ∧ Below w.heap.size w w' := by
  have hz := (zero_of_info zero256).1
  have hr := inv_any s hs
  have hrl := inv_lt s hs
  have hx1 := u8_xor_nat i k hi hk
  have ha : i ^^^ k < 256 := Nat.xor_lt_two_pow (n := 8) hi hk
  have hq : inv s % 256 ^^^ i < 256 := Nat.xor_lt_two_pow (n := 8) (show inv s % 256 < 2 ^ 8 by omega) hi
  have hx2 : bits .xor .u8 (((inv s : Nat) : Int) % 256) (i : Int) = ((inv s % 256 ^^^ i : Nat) : Int) := by
    rw [show ((inv s : Nat) : Int) % 256 = ((inv s % 256 : Nat) : Int) by omega]; exact u8_xor_nat (inv s % 256) i (by omega) hi
  have hw8 : IntKind.u8.wrap ((inv s : Nat) : Int) = ((inv s : Nat) : Int) % 256 := by rw [IntKind.wrap_u8']
  have hX := stps_xor 8 i k
  have hM := more_one s i
  rw [eight_split (inv s) i hi] at hM
  generalize inv s = r at *
  have hTi := stps_lt 8 i (by omega)
  have hTk := stps_lt 8 k (by omega)
  have hTq := stps_lt 8 (r % 256 ^^^ i) (by omega)
  have hx3 := u32_xor_nat _ _ hTi hTk
  rw [← hX] at hx3
  have hd8 : ((r : Int) / 256) = ((r / 256 : Nat) : Int) := by omega
  have hx4 : bits .xor .u32 ((r : Int) / 256) ((stps 8 (r % 256 ^^^ i) : Nat) : Int) = ((r / 256 ^^^ stps 8 (r % 256 ^^^ i) : Nat) : Int) := by
    rw [hd8]; exact u32_xor_nat (r / 256) _ (by omega) hTq
  have hXl : r / 256 ^^^ stps 8 (r % 256 ^^^ i) < 4294967296 := Nat.xor_lt_two_pow (n := 32) (show r / 256 < 2 ^ 32 by omega) hTq
  have hx5 := inv_any _ hXl
  rw [← hM] at hx5
  obtain ⟨M, hM2⟩ : ∃ M, more s [i] = M := ⟨_, rfl⟩
  rw [hM2] at hx5
  clear hd8
  have HMore := Lib.hid (more_new s i M hM2 hs hi)
  clear hX hM hM2
  generalize r % 256 ^^^ i = q at *
  generalize r / 256 ^^^ stps 8 q = x at *
  generalize i ^^^ k = a at *
  go_enter Tryd.func11, Tryd.ntmps11
  go_wp2_with (first
    | (go_at_call 26; refine (table_any _ hH).mono ?_; rintro e w1 ⟨rfl, hb1⟩; have Hw := Lib.hid (WAt.new hb1 hH))
    | (refine wpList_store_row rfl 34 _ _ rfl w1.heap.size tab rfl rfl 34 _ (heap_alloc_new w1 _) tab_hi tab_ho tab_one ?_))
  generalize (w1.alloc (.cells (fill (stps 8) 256 0) 34)).setRow w1.heap.size tab = W at *
  generalize w1.heap.size = g at *
  generalize ea : stps 8 a = Ta at *
  generalize ei : stps 8 i = Ti at *
  generalize ek : stps 8 k = Tk at *
  generalize eq : stps 8 q = Tq at *
  have HE : Hid (∀ w', WAt w g w' → w'.cell? ⟨g, a, none⟩ = some (.int .u32 Ta) ∧ w'.cell? ⟨g, i, none⟩ = some (.int .u32 Ti) ∧ w'.cell? ⟨g, k, none⟩ = some (.int .u32 Tk) ∧ w'.cell? ⟨g, 0, none⟩ = some (.int .u32 0) ∧ w'.cell? ⟨g, 128, none⟩ = some (.int .u32 3988292384) ∧ w'.cell? ⟨g, q, none⟩ = some (.int .u32 Tq) ∧ WAt w g w') :=
    fun w' h => held h ha hi hk hq ea ei ek eq
  clear ea ei ek eq
  have q1 : (a : Int) < 256 := by omega
  have q2 : (i : Int) < 256 := by omega
  have q3 : (k : Int) < 256 := by omega
  have q4 : (q : Int) < 256 := by omega
  have hw0 := Hw.out
  go_region_held3 (fun w' => w'.cell? ⟨g, a, none⟩ = some (.int .u32 Ta) ∧ w'.cell? ⟨g, i, none⟩ = some (.int .u32 Ti) ∧ w'.cell? ⟨g, k, none⟩ = some (.int .u32 Tk) ∧ w'.cell? ⟨g, 0, none⟩ = some (.int .u32 0) ∧ w'.cell? ⟨g, 128, none⟩ = some (.int .u32 3988292384) ∧ w'.cell? ⟨g, q, none⟩ = some (.int .u32 Tq) ∧ WAt w g w')
    ((first | exact HE.out _ hw0.drew | exact HE.out _ (hw0.alloc _).drew | exact HE.out _ (hw0.drew.alloc _) | exact HE.out _ (WAt.later (hw0.alloc _).drew (by assumption)) | exact HE.out _ (WAt.later (hw0.drew.alloc _) (by assumption)) | exact HE.out _ (WAt.later hw0.drew (by assumption)) | exact HE.out _ (WAt.later (by assumption) (by assumption)) | assumption))
    (first | (go_at_call 16; refine (HMore.out W hw0.hv).mono ?_; rintro e w2 ⟨rfl, rfl⟩) | (go_at_call 13; refine (works_any _ (hw0.alloc _).drew.hv).mono ?_; rintro e w3 ⟨rfl, hb3⟩))
  go_wp2
  go_ret
  rename_i hh
  exact ⟨rfl, hh.2.2.2.2.2.2.bel⟩
theorem w_crcTables (a0 : Int) (a1 : Int) (a2 : Int) (w0 : (Lit.int .u8 a0).wf = true) (w1 : (Lit.int .u8 a1).wf = true) (w2 : (Lit.int .u32 a2).wf = true) (w : World) (hH : Hv w) :
    Calls Tryd.prog 11 #[.int .u8 a0, .int .u8 a1, .int .u32 a2] w fun e w' => e = .returned (.bool true) ∧ Below w.heap.size w w' := by
  obtain ⟨i, rfl, hi⟩ := nat_u8 w0
  obtain ⟨k, rfl, hk⟩ := nat_u8 w1
  obtain ⟨s, rfl, hs⟩ := nat_u32 w2
  exact tables_go i k s hi hk hs w hH
end Go.Proofs.YtnpkdieblejliaaDoor.Crc
