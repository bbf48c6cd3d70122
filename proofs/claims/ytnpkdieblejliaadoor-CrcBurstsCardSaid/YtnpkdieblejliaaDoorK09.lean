/- Contracts of the texts: Hex, the program's and the document's. -/
import Derived.Test.YtnpkdieblejliaaDoorK08
import Derived.Laws.BytesString
namespace Go.Proofs.YtnpkdieblejliaaDoor.Crc
open Go.RowKit Go.ChangeShapes
set_option linter.unusedVariables false

/-! Texts as lists of bytes. -/
def bstr (l : List Nat) : ByteArray := ⟨(l.map UInt8.ofNat).toArray⟩
def u8s (l : List Nat) : Array Value := (l.map fun c : Nat => Value.int .u8 (c : Nat)).toArray
theorem foldl_push (l : List Nat) : ∀ s : ByteArray, (l.map fun c : Nat => (c : Int)).foldl (fun (r : ByteArray) n => r.push (UInt8.ofNat n.toNat)) s = ⟨s.data ++ (l.map UInt8.ofNat).toArray⟩ := by
  induction l with
  | nil => intro s; simp
  | cons c l ih =>
    intro s
    rw [List.map_cons, List.foldl_cons, ih]
    simp [ByteArray.push]
theorem str_some (w : World) (b off cap : Nat) (l : List Nat) (hc : ∀ i, i < l.length → w.cell? ⟨b, off + i, none⟩ = some (.int .u8 (l.getD i 0 : Nat))) :
    (convert 22 9 (.slice (some ⟨b, off, none⟩) l.length cap)).run Tryd.prog w = .ok (.string (bstr l)) w := by
  rw [run_convert_bytes_string w _ _ _ _ _ _ Tryd.underlying22 Tryd.underlying5 Tryd.underlying9]
  have hl : (loadCells ⟨b, off, none⟩ (l.map fun c : Nat => Value.int .u8 (c : Nat)).length).run Tryd.prog w = .ok (l.map fun c : Nat => Value.int .u8 (c : Nat)).toArray w :=
    run_loadCells_list (P := Tryd.prog) w ⟨b, off, none⟩ _ (fun j v hv => by
      have hadd : (⟨b, off, none⟩ : Addr).add j = ⟨b, off + j, none⟩ := by unfold Addr.add; split <;> simp_all
      have hj : j < l.length := by
        rcases Nat.lt_or_ge j l.length with h | h
        · exact h
        · rw [List.getElem?_eq_none (by simpa using h)] at hv; cases hv
      rw [hadd, hc j hj]
      rw [List.getElem?_map, List.getElem?_eq_getElem hj] at hv
      rw [List.getD_eq_getElem?_getD, List.getElem?_eq_getElem hj]
      exact hv)
  rw [List.length_map] at hl
  have e : (l.map fun c : Nat => Value.int .u8 (c : Nat)) = (l.map fun c : Nat => (c : Int)).map (Value.int .u8) := by rw [List.map_map]; rfl
  rw [e] at hl
  rw [run_bytesToString w _ _ _ _ hl, foldl_push]
  simp [bstr]
theorem str_none (w : World) (cap : Nat) : (convert 22 9 (.slice none 0 cap)).run Tryd.prog w = .ok (.string (bstr [])) w := by
  rw [run_convert_bytes_string w _ _ _ _ _ _ Tryd.underlying22 Tryd.underlying5 Tryd.underlying9]
  rfl

/-- A digit's byte. -/
def hexd (d : Nat) : Nat := if d < 10 then 48 + d else 87 + d
/-- The last k digits of s. -/
def hx (s : Nat) : Nat → List Nat
  | 0 => []
  | k + 1 => hexd (s / 16 ^ k % 16) :: hx s k
theorem hx_len (s k : Nat) : (hx s k).length = k := by induction k with | zero => rfl | succ k ih => simp [hx, ih]
theorem hex_index (d : Nat) (h : d < 16) (w : World) :
    (Instr.index 9 (.string ⟨#[48, 49, 50, 51, 52, 53, 54, 55, 56, 57, 97, 98, 99, 100, 101, 102]⟩) (.int .u32 d)).run Tryd.prog w = .ok (.int .u8 (hexd d : Nat)) w := by
  have h : d = 0 ∨ d = 1 ∨ d = 2 ∨ d = 3 ∨ d = 4 ∨ d = 5 ∨ d = 6 ∨ d = 7 ∨ d = 8 ∨ d = 9 ∨ d = 10 ∨ d = 11 ∨ d = 12 ∨ d = 13 ∨ d = 14 ∨ d = 15 := by omega
  rw [run_index_string w _ _ _ _ Tryd.underlying9, dif_pos ⟨by omega, by show (d : Int) < 16; omega⟩]
  simp only [Int.toNat_natCast]
  rcases h with rfl | rfl | rfl | rfl | rfl | rfl | rfl | rfl | rfl | rfl | rfl | rfl | rfl | rfl | rfl | rfl <;> rfl
/-- The cells of a text of which the last k digits are laid. -/
def hcs (s k : Nat) : List Nat := List.replicate (8 - k) 0 ++ hx s k
theorem hcs_len (s k : Nat) (h : k ≤ 8) : (hcs s k).length = 8 := by unfold hcs; rw [List.length_append, List.length_replicate, hx_len]; omega
theorem hcs_set (s k : Nat) (h : k < 8) : (u8s (hcs s k)).setIfInBounds (7 - k) (.int .u8 (hexd (s / 16 ^ k % 16) : Nat)) = u8s (hcs s (k + 1)) := by
  have e : 8 - k = (7 - k) + 1 := by omega
  have e2 : (hcs s k).set (7 - k) (hexd (s / 16 ^ k % 16)) = hcs s (k + 1) := by
    unfold hcs
    rw [e, List.replicate_succ', List.append_assoc, List.set_append_right _ _ (by simp), List.length_replicate, Nat.sub_self]
    show List.replicate (7 - k) 0 ++ _ = List.replicate (8 - (k + 1)) 0 ++ _
    rw [show 8 - (k + 1) = 7 - k by omega]
    rfl
  rw [← e2]
  unfold u8s
  rw [List.map_set, List.setIfInBounds_toArray]
theorem hcs_get (s k i : Nat) (h : k ≤ 8) (hi : i < 8) : (u8s (hcs s k))[i]? = some (.int .u8 ((hcs s k).getD i 0 : Nat)) := by
  have hl := hcs_len s k h
  unfold u8s
  rw [List.getElem?_toArray, List.getElem?_map, List.getElem?_eq_getElem (by omega), List.getD_eq_getElem?_getD, List.getElem?_eq_getElem (by omega)]
  rfl
/-- The text of s. -/
def hexs (s : Nat) : ByteArray := bstr (hx s 8)

/-- One digit out of the text of all. -/
theorem hex_cut (d : Nat) (h : d < 16) : (⟨#[48, 49, 50, 51, 52, 53, 54, 55, 56, 57, 97, 98, 99, 100, 101, 102]⟩ : ByteArray).extract d (d + 1) = bstr [hexd d] := by
  have h : d = 0 ∨ d = 1 ∨ d = 2 ∨ d = 3 ∨ d = 4 ∨ d = 5 ∨ d = 6 ∨ d = 7 ∨ d = 8 ∨ d = 9 ∨ d = 10 ∨ d = 11 ∨ d = 12 ∨ d = 13 ∨ d = 14 ∨ d = 15 := by omega
  rcases h with rfl | rfl | rfl | rfl | rfl | rfl | rfl | rfl | rfl | rfl | rfl | rfl | rfl | rfl | rfl | rfl <;> rfl
theorem bstr_app (l m : List Nat) : bstr l ++ bstr m = bstr (l ++ m) := by
  apply ByteArray.ext
  rw [ByteArray.data_append]
  simp [bstr]
theorem bstr_size (l : List Nat) : (bstr l).size = l.length := by simp [bstr, ByteArray.size]
theorem hex_get (d : Nat) (h : d < 16) : ((⟨#[48, 49, 50, 51, 52, 53, 54, 55, 56, 57, 97, 98, 99, 100, 101, 102]⟩ : ByteArray)[d]'h).toNat = hexd d := by
  have h : d = 0 ∨ d = 1 ∨ d = 2 ∨ d = 3 ∨ d = 4 ∨ d = 5 ∨ d = 6 ∨ d = 7 ∨ d = 8 ∨ d = 9 ∨ d = 10 ∨ d = 11 ∨ d = 12 ∨ d = 13 ∨ d = 14 ∨ d = 15 := by omega
  rcases h with rfl | rfl | rfl | rfl | rfl | rfl | rfl | rfl | rfl | rfl | rfl | rfl | rfl | rfl | rfl | rfl <;> rfl
/-- Where a text is being made. -/
structure HAt (w : World) (s k : Nat) (wr : World) : Prop where
  blk : Blk wr w.heap.size (u8s (hcs s k)) 52
  bel : Below w.heap.size w wr
theorem HAt.next {w wr : World} {s k : Nat} (h : HAt w s k wr) (hk : k < 8) : HAt w s (k + 1) (wr.setCell ⟨w.heap.size, 7 - k, none⟩ (.int .u8 (hexd (s / 16 ^ k % 16) : Nat))) := by
  refine ⟨?_, h.bel.setCell (by simp) _⟩
  have := h.blk.set (7 - k) (.int .u8 (hexd (s / 16 ^ k % 16) : Nat))
  rwa [hcs_set s k hk] at this

theorem hex_any (s : Nat) (hs : s < 4294967296) (w : World) :
    Calls Tryd.prog 24 #[.int .u32 s] w fun e w' => e = .returned (.string (hexs s)) ∧ Below w.heap.size w w' := by
  go_enter Tryd.func24, Tryd.ntmps24
  go_wp2
  go_loopw [0, 5] (fun x i wr => ∃ k : Nat, k ≤ 8 ∧ i = .int .i64 k ∧ x = .int .u32 (s / 16 ^ k : Nat) ∧ HAt w s k wr) (fun _ i _ => 8 - (intOf i).toNat)
  case atStart => exact ⟨0, Nat.zero_le _, rfl, by simp, ⟨heap_alloc_new _ _, (Below.refl _ _).alloc (Nat.le_refl _) _⟩⟩
  case round =>
    obtain ⟨k, hk, rfl, rfl, hm⟩ := hrel
    by_cases hlt : k < 8
    · have hq : s / 16 ^ k < 4294967296 := Nat.lt_of_le_of_lt (Nat.div_le_self _ _) hs
      have hd : s / 16 ^ k / 16 = s / 16 ^ (k + 1) := by rw [Nat.pow_succ, Nat.div_div_eq_div_mul]
      have hn := hm.next hlt
      have hc := hm.blk.cell (7 - k) _ (hcs_get s k (7 - k) hk (by omega))
      have hf := hm.blk.free (7 - k)
      generalize s / 16 ^ k = q at *
      have h15 := and15 q hq
      have hix := hex_index (q % 16) (by omega)
      have hi7 : (7 - (k : Int)).toNat = 7 - k := by omega
      have HN := Lib.hid hn
      have HD := Lib.hid hd
      clear hm hn hd
      go_wp2
      go_roundw
      case rel => exact ⟨k + 1, by omega, by go_num, by rw [← HD.out]; go_num, by rw [hex_get (q % 16) (by omega)]; exact HN.out⟩
      case measure => simp [intOf]; omega
    · obtain rfl : k = 8 := by omega
      have hstr := str_some wr w.heap.size 0 8 (hx s 8) (fun i hi => by
        have := hm.blk.cell i _ (hcs_get s 8 i (by omega) (by rw [hx_len] at hi; exact hi))
        rw [Nat.zero_add]
        exact this)
      rw [hx_len] at hstr
      have hb := hm.bel
      clear hm
      go_wp2
      go_ret
      exact ⟨rfl, hb⟩

theorem ref_hex_any (s : Nat) (hs : s < 4294967296) (w : World) :
    Calls Tryd.prog 25 #[.int .u32 s] w fun e w' => e = .returned (.string (hexs s)) ∧ w = w' := by
  go_enter Tryd.func25, Tryd.ntmps25
  go_wp2
  go_loop [0, 3, 4] (fun x o i => ∃ k : Nat, k ≤ 8 ∧ i = .int .i64 k ∧ x = .int .u32 (s / 16 ^ k : Nat) ∧ o = .string (bstr (hx s k))) (fun _ _ i => 8 - (intOf i).toNat)
  case atStart => exact ⟨0, Nat.zero_le _, rfl, by simp, rfl⟩
  case round =>
    obtain ⟨k, hk, rfl, rfl, rfl⟩ := hrel
    by_cases hlt : k < 8
    · have hq : s / 16 ^ k < 4294967296 := Nat.lt_of_le_of_lt (Nat.div_le_self _ _) hs
      have hd : s / 16 ^ k / 16 = s / 16 ^ (k + 1) := by rw [Nat.pow_succ, Nat.div_div_eq_div_mul]
      have hn : hx s (k + 1) = hexd (s / 16 ^ k % 16) :: hx s k := rfl
      generalize s / 16 ^ k = q at *
      have hcut := hex_cut (q % 16) (by omega)
      have hs1 : (bstr [hexd (q % 16)]).size = 1 := bstr_size _
      have hs2 : (bstr (hx s k)).size = k := by rw [bstr_size, hx_len]
      have happ : bstr [hexd (q % 16)] ++ bstr (hx s k) = bstr (hexd (q % 16) :: hx s k) := bstr_app _ _
      have HN := Lib.hid hn
      have HD := Lib.hid hd
      have HA := Lib.hid happ
      clear hn hd happ
      go_wp2
      go_round
      case rel => exact ⟨k + 1, by omega, by go_num, by rw [← HD.out]; go_num, by rw [HA.out, HN.out]⟩
      case measure => simp [intOf]; omega
    · obtain rfl : k = 8 := by omega
      go_wp2
      go_ret
      exact ⟨rfl, rfl⟩
end Go.Proofs.YtnpkdieblejliaaDoor.Crc
