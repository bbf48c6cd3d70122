/- Contracts of the texts: Parse, the program's and the document's. -/
import Derived.Test.YtnpkdieblejliaaDoorK09
import Derived.Shelf.Small.Strs
namespace Go.Proofs.YtnpkdieblejliaaDoor.Crc
open Go.RowKit Go.ChangeShapes
set_option linter.unusedVariables false

/-- The digit of a byte. -/
def dv (c : Nat) : Option Nat := if 48 ≤ c ∧ c ≤ 57 then some (c - 48) else if 97 ≤ c ∧ c ≤ 102 then some (c - 87) else none
theorem dv_lt {c d : Nat} (h : dv c = some d) : d < 16 := by
  unfold dv at h
  split at h
  · cases h; omega
  · split at h
    · cases h; omega
    · cases h
/-- The number that digits make. -/
def prs : Nat → List Nat → Option Nat
  | a, [] => some a
  | a, c :: l => match dv c with | some d => prs (a * 16 + d) l | none => none
/-- What a text is read as. -/
def prsS (l : List Nat) : Option Nat := if l.length = 8 then prs 0 l else none
def lst (s : ByteArray) : List Nat := s.data.toList.map UInt8.toNat
theorem lst_len (s : ByteArray) : (lst s).length = s.size := by unfold lst; rw [List.length_map]; rfl
theorem lst_lt (s : ByteArray) : ∀ c ∈ lst s, c < 256 := by
  intro c hc
  unfold lst at hc
  obtain ⟨b, _, rfl⟩ := List.mem_map.1 hc
  exact b.toNat_lt
theorem lst_drop (s : ByteArray) (k : Nat) (h : k < s.size) : (lst s).drop k = (s[k]).toNat :: (lst s).drop (k + 1) := by
  unfold lst
  have h' : k < s.data.toList.length := h
  rw [← List.map_drop, ← List.map_drop, List.drop_eq_getElem_cons h', List.map_cons]
  rfl
theorem bstr_lst (s : ByteArray) : bstr (lst s) = s := by
  apply ByteArray.ext
  apply Array.ext'
  simp [bstr, lst, List.map_map, Function.comp_def]
theorem lst_bstr (l : List Nat) (h : ∀ c ∈ l, c < 256) : lst (bstr l) = l := by
  unfold lst bstr
  rw [List.map_map]
  conv => rhs; rw [← List.map_id l]
  refine List.map_congr_left fun c hc => ?_
  have := h c hc
  simp
  omega

def idx_ren : Go.Shelf.Ren := ⟨fun | 137 => 35 | 217 => 37 | 266 => 38 | n => n, fun | 3 => 3 | 5 => 5 | 9 => 9 | n => n, fun | n => n⟩
theorem idx_lays : Go.Proofs.Lays.n137 Tryd.prog idx_ren := {
  mixed := by kernel_rfl
  f137 := Tryd.func35.trans (congrArg some (by kernel_rfl))
  f217 := Tryd.func37.trans (congrArg some (by kernel_rfl))
  f266 := Tryd.func38.trans (congrArg some (by kernel_rfl))
  t3 := Tryd.underlying3
  a3 := Tryd.isAgg3
  z3 := Tryd.sizeOf3
  v3 := Tryd.zeroValue3
  t5 := Tryd.underlying5
  a5 := Tryd.isAgg5
  z5 := Tryd.sizeOf5
  v5 := Tryd.zeroValue5
  t9 := Tryd.underlying9
  a9 := Tryd.isAgg9
  z9 := Tryd.sizeOf9
  v9 := Tryd.zeroValue9 }
theorem idx_all : ∀ n : Fin 256, Lib.indexByte [48, 49, 50, 51, 52, 53, 54, 55, 56, 57, 97, 98, 99, 100, 101, 102] (UInt8.ofNat n) = (match dv n with | some d => (d : Int) | none => -1) := by decide +kernel
theorem idx_eq (b : UInt8) : Lib.indexByte [48, 49, 50, 51, 52, 53, 54, 55, 56, 57, 97, 98, 99, 100, 101, 102] ((b.toNat : Int).toNat.toUInt8) = (match dv b.toNat with | some d => (d : Int) | none => -1) := by
  have h := idx_all ⟨b.toNat, b.toNat_lt⟩
  rw [Int.toNat_natCast]
  exact h
theorem idx_yes (b : UInt8) (d : Nat) (h : dv b.toNat = some d) (w : World) :
    Calls Tryd.prog 35 #[.string ⟨#[48, 49, 50, 51, 52, 53, 54, 55, 56, 57, 97, 98, 99, 100, 101, 102]⟩, .int .u8 (b.toNat : Nat)] w fun e w' => e = .returned (.int .i64 d) ∧ w = w' := by
  refine (Any.strings_IndexByte idx_lays _ _ w).mono fun e w' ⟨h1, h2⟩ => ⟨?_, h2.symm⟩
  rw [h1]
  have := idx_eq b
  rw [h] at this
  exact congrArg (fun x => Ending.returned (.int .i64 x)) this
theorem idx_no (b : UInt8) (h : dv b.toNat = none) (w : World) :
    Calls Tryd.prog 35 #[.string ⟨#[48, 49, 50, 51, 52, 53, 54, 55, 56, 57, 97, 98, 99, 100, 101, 102]⟩, .int .u8 (b.toNat : Nat)] w fun e w' => e = .returned (.int .i64 (-1)) ∧ w = w' := by
  refine (Any.strings_IndexByte idx_lays _ _ w).mono fun e w' ⟨h1, h2⟩ => ⟨?_, h2.symm⟩
  rw [h1]
  have := idx_eq b
  rw [h] at this
  exact congrArg (fun x => Ending.returned (.int .i64 x)) this

def pv (o : Option Nat) : Nat := match o with | some n => n | none => 0
def pe (o : Option Nat) : Nat := match o with | some _ => 0 | none => 10
theorem or_low (a d : Nat) (ha : a < 268435456) (hd : d < 16) : bits .or .u32 ((a : Int) * 16) (d : Int) = ((a * 16 + d : Nat) : Int) := by
  have e : ((a : Int) * 16) = ((a * 16 : Nat) : Int) := by omega
  rw [e, u32_or_nat _ _ (by omega) (by omega)]
  congr 1
  have := Nat.two_pow_add_eq_or_of_lt (i := 4) (b := d) (by omega) a
  rw [show 2 ^ 4 * a = a * 16 by omega] at this
  exact this.symm
theorem pow16 (k : Nat) (h : k < 8) : 16 ^ k * 16 ≤ 4294967296 := by
  have : 16 ^ (k + 1) ≤ 16 ^ 8 := Nat.pow_le_pow_right (by omega) (by omega)
  rw [Nat.pow_succ] at this
  exact this
theorem prs_step {a c d : Nat} {l : List Nat} (h : dv c = some d) : prs a (c :: l) = prs (a * 16 + d) l := by show (match dv c with | some d => prs (a * 16 + d) l | none => none) = _; rw [h]
theorem prs_stop {a c : Nat} {l : List Nat} (h : dv c = none) : prs a (c :: l) = none := by show (match dv c with | some d => prs (a * 16 + d) l | none => none) = _; rw [h]

theorem parse_len (s : ByteArray) (h : ¬ s.size = 8) (w : World) :
    Calls Tryd.prog 22 #[.string s] w fun e w' => e = .returned (.tuple #[.int .u32 0, .int .i64 10]) ∧ w = w' := by
  have hd : ((s.size : Int) != 8) = true := by rw [bne_iff_ne]; omega
  go_enter Tryd.func22, Tryd.ntmps22
  go_wp2
  go_ret2
  exact ⟨rfl, rfl⟩
/-- What is known of the first k bytes. -/
def PAt (s : ByteArray) (a k : Nat) : Prop := prs 0 (lst s) = prs a ((lst s).drop k) ∧ a < 16 ^ k
theorem PAt.next {s : ByteArray} {a k d : Nat} (h : PAt s a k) (hk : k < s.size) (hd : dv (s[k]).toNat = some d) : PAt s (a * 16 + d) (k + 1) := by
  refine ⟨?_, ?_⟩
  · rw [h.1, lst_drop s k hk, prs_step hd]
  · have := dv_lt hd
    have := h.2
    rw [Nat.pow_succ]
    omega
theorem PAt.stop {s : ByteArray} {a k : Nat} (h : PAt s a k) (hk : k < s.size) (hd : dv (s[k]).toNat = none) : prs 0 (lst s) = none := by
  rw [h.1, lst_drop s k hk, prs_stop hd]
theorem PAt.all {s : ByteArray} {a k : Nat} (h : PAt s a k) (hk : k = s.size) : prs 0 (lst s) = some a := by
  rw [h.1, List.drop_eq_nil_of_le (by rw [lst_len]; omega)]; rfl

theorem parse_eight (s : ByteArray) (h : s.size = 8) (w : World) :
    Calls Tryd.prog 22 #[.string s] w fun e w' => e = .returned (.tuple #[.int .u32 (pv (prs 0 (lst s)) : Nat), .int .i64 (pe (prs 0 (lst s)) : Nat)]) ∧ w = w' := by
  have hd : ((s.size : Int) != 8) = false := by rw [bne_eq_false_iff_eq]; omega
  have hs1 : s.size ≤ 8 := by omega
  have hs2 : 8 ≤ s.size := by omega
  have hst : PAt s 0 0 := ⟨rfl, by decide⟩
  clear h
  have HST := Lib.hid hst
  clear hst
  go_enter Tryd.func22, Tryd.ntmps22
  go_wp2
  go_loop [4, 12] (fun t i => ∃ a k : Nat, k ≤ s.size ∧ i = .int .i64 k ∧ t = .int .u32 a ∧ PAt s a k) (fun _ i => s.size - (intOf i).toNat)
  case atStart => exact ⟨0, 0, Nat.zero_le _, rfl, rfl, HST.out⟩
  case round =>
    obtain ⟨a, k, hk, rfl, rfl, hp⟩ := hrel
    by_cases hlt : k < s.size
    · have hp16 := pow16 k (by omega)
      have ha := hp.2
      have ha2 : a < 268435456 := by omega
      clear hp16 ha
      cases hdv : dv (s[k]).toNat with
      | some d =>
        have hn := hp.next hlt hdv
        have hd16 := dv_lt hdv
        have hor := or_low a d ha2 hd16
        have hw : IntKind.u32.wrap (d : Int) = d := by rw [IntKind.wrap_u32']; omega
        have HN := Lib.hid hn
        have HD := Lib.hid hdv
        clear hn hdv hp
        go_wp2_with (go_at_call 35; refine (idx_yes _ d HD.out _).mono ?_; rintro e w' ⟨rfl, rfl⟩)
        go_round
        case rel => exact ⟨a * 16 + d, k + 1, by omega, by go_num, by go_num, HN.out⟩
        case measure => simp [intOf]; omega
      | none =>
        have hn := hp.stop hlt hdv
        have HN := Lib.hid hn
        have HD := Lib.hid hdv
        clear hn hdv hp
        go_wp2_with (go_at_call 35; refine (idx_no _ HD.out _).mono ?_; rintro e w' ⟨rfl, rfl⟩)
        go_ret2
        exact ⟨by rw [HN.out]; rfl, rfl⟩
    · have hn := hp.all (by omega)
      have HN := Lib.hid hn
      clear hn hp
      go_wp2
      go_ret2
      exact ⟨by rw [HN.out]; rfl, rfl⟩

theorem parse_any (s : ByteArray) (w : World) :
    Calls Tryd.prog 22 #[.string s] w fun e w' => e = .returned (.tuple #[.int .u32 (pv (prsS (lst s)) : Nat), .int .i64 (pe (prsS (lst s)) : Nat)]) ∧ w = w' := by
  unfold prsS
  rw [lst_len]
  by_cases h : s.size = 8
  · rw [if_pos h]; exact parse_eight s h w
  · rw [if_neg h]; exact parse_len s h w

/-! The document's. -/
theorem ref_parse_len (s : ByteArray) (h : ¬ s.size = 8) (w : World) :
    Calls Tryd.prog 23 #[.string s] w fun e w' => e = .returned (.tuple #[.int .u32 0, .int .i64 10]) ∧ w = w' := by
  have hd : ((s.size : Int) != 8) = true := by rw [bne_iff_ne]; omega
  go_enter Tryd.func23, Tryd.ntmps23
  go_wp2
  go_ret2
  exact ⟨rfl, rfl⟩
theorem dv_cases (c : Nat) : (48 ≤ c ∧ c ≤ 57 ∧ dv c = some (c - 48)) ∨ (97 ≤ c ∧ c ≤ 102 ∧ dv c = some (c - 87)) ∨ (c < 48 ∧ dv c = none) ∨ (57 < c ∧ c < 97 ∧ dv c = none) ∨ (102 < c ∧ dv c = none) := by
  unfold dv
  by_cases h1 : 48 ≤ c ∧ c ≤ 57
  · left; rw [if_pos h1]; exact ⟨h1.1, h1.2, rfl⟩
  · rw [if_neg h1]
    by_cases h2 : 97 ≤ c ∧ c ≤ 102
    · right; left; rw [if_pos h2]; exact ⟨h2.1, h2.2, rfl⟩
    · rw [if_neg h2]
      by_cases h3 : c < 48
      · exact .inr (.inr (.inl ⟨h3, rfl⟩))
      · by_cases h4 : c < 97
        · exact .inr (.inr (.inr (.inl ⟨by omega, h4, rfl⟩)))
        · exact .inr (.inr (.inr (.inr ⟨by omega, rfl⟩)))
theorem ref_parse_eight (s : ByteArray) (h : s.size = 8) (w : World) :
    Calls Tryd.prog 23 #[.string s] w fun e w' => e = .returned (.tuple #[.int .u32 (pv (prs 0 (lst s)) : Nat), .int .i64 (pe (prs 0 (lst s)) : Nat)]) ∧ w = w' := by
  have hd : ((s.size : Int) != 8) = false := by rw [bne_eq_false_iff_eq]; omega
  have hs1 : s.size ≤ 8 := by omega
  have hs2 : 8 ≤ s.size := by omega
  have hst : PAt s 0 0 := ⟨rfl, by decide⟩
  clear h
  have HST := Lib.hid hst
  clear hst
  go_enter Tryd.func23, Tryd.ntmps23
  go_wp2
  go_loop [4, 5] (fun t i => ∃ a k : Nat, k ≤ s.size ∧ i = .int .i64 k ∧ t = .int .u32 a ∧ PAt s a k) (fun _ i => s.size - (intOf i).toNat)
  case atStart => exact ⟨0, 0, Nat.zero_le _, rfl, rfl, HST.out⟩
  case round =>
    obtain ⟨a, k, hk, rfl, rfl, hp⟩ := hrel
    by_cases hlt : k < s.size
    · have hp16 := pow16 k (by omega)
      have ha := hp.2
      have ha2 : a < 268435456 := by omega
      clear hp16 ha
      rcases dv_cases (s[k]).toNat with ⟨h1, h2, hdv⟩ | ⟨h1, h2, hdv⟩ | ⟨h1, hdv⟩ | ⟨h1, h2, hdv⟩ | ⟨h1, hdv⟩
      · have hn := hp.next hlt hdv
        have HN := Lib.hid hn
        have b1 : decide ((48 : Int) ≤ ((s[k]).toNat : Int)) = true := by simp; omega
        have b2 : decide (((s[k]).toNat : Int) ≤ 57) = true := by simp; omega
        clear hn hdv hp
        go_wp2
        go_round
        case rel => exact ⟨_, k + 1, by omega, by go_num, by go_num, HN.out⟩
        case measure => simp [intOf]; omega
      · have hn := hp.next hlt hdv
        have HN := Lib.hid hn
        have b1 : decide ((48 : Int) ≤ ((s[k]).toNat : Int)) = true := by simp; omega
        have b2 : decide (((s[k]).toNat : Int) ≤ 57) = false := by simp; omega
        have b3 : decide ((97 : Int) ≤ ((s[k]).toNat : Int)) = true := by simp; omega
        have b4 : decide (((s[k]).toNat : Int) ≤ 102) = true := by simp; omega
        clear hn hdv hp
        go_wp2
        go_round
        case rel => exact ⟨_, k + 1, by omega, by go_num, by go_num, HN.out⟩
        case measure => simp [intOf]; omega
      · have hn := hp.stop hlt hdv
        have HN := Lib.hid hn
        have b1 : decide ((48 : Int) ≤ ((s[k]).toNat : Int)) = false := by simp; omega
        have b3 : decide ((97 : Int) ≤ ((s[k]).toNat : Int)) = false := by simp; omega
        clear hn hdv hp
        go_wp2
        go_ret2
        exact ⟨by rw [HN.out]; rfl, rfl⟩
      · have hn := hp.stop hlt hdv
        have HN := Lib.hid hn
        have b1 : decide ((48 : Int) ≤ ((s[k]).toNat : Int)) = true := by simp; omega
        have b2 : decide (((s[k]).toNat : Int) ≤ 57) = false := by simp; omega
        have b3 : decide ((97 : Int) ≤ ((s[k]).toNat : Int)) = false := by simp; omega
        clear hn hdv hp
        go_wp2
        go_ret2
        exact ⟨by rw [HN.out]; rfl, rfl⟩
      · have hn := hp.stop hlt hdv
        have HN := Lib.hid hn
        have b1 : decide ((48 : Int) ≤ ((s[k]).toNat : Int)) = true := by simp; omega
        have b2 : decide (((s[k]).toNat : Int) ≤ 57) = false := by simp; omega
        have b3 : decide ((97 : Int) ≤ ((s[k]).toNat : Int)) = true := by simp; omega
        have b4 : decide (((s[k]).toNat : Int) ≤ 102) = false := by simp; omega
        clear hn hdv hp
        go_wp2
        go_ret2
        exact ⟨by rw [HN.out]; rfl, rfl⟩
    · have hn := hp.all (by omega)
      have HN := Lib.hid hn
      clear hn hp
      go_wp2
      go_ret2
      exact ⟨by rw [HN.out]; rfl, rfl⟩

theorem ref_parse_any (s : ByteArray) (w : World) :
    Calls Tryd.prog 23 #[.string s] w fun e w' => e = .returned (.tuple #[.int .u32 (pv (prsS (lst s)) : Nat), .int .i64 (pe (prsS (lst s)) : Nat)]) ∧ w = w' := by
  unfold prsS
  rw [lst_len]
  by_cases h : s.size = 8
  · rw [if_pos h]; exact ref_parse_eight s h w
  · rw [if_neg h]; exact ref_parse_len s h w
end Go.Proofs.YtnpkdieblejliaaDoor.Crc
