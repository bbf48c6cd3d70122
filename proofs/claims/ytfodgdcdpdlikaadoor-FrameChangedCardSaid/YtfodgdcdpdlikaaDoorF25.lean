/- A changed byte of a record, as plain lists. -/
import Derived.Test.YtfodgdcdpdlikaaDoorF16
namespace Go.Proofs.YtfodgdcdpdlikaaDoor.Frame
open Go.RowKit Go.ChangeShapes
open Crc
set_option linter.unusedVariables false
set_option linter.unusedSimpArgs false

theorem takes_set (x : Nat) : ∀ (l : List Nat) (r k : Nat), k < l.length → takes r (l.set k (l.getD k 0 ^^^ x)) = takes r l ^^^ stps (8 * (l.length - k)) x
  | [], r, k, h => absurd h (by simp)
  | c :: l, r, 0, h => by
    show takes (takeB r (c ^^^ x)) l = takes (takeB r c) l ^^^ _
    have e : takeB r (c ^^^ x) = takeB r c ^^^ stps 8 x := by
      unfold takeB
      rw [← Nat.xor_assoc, stps_xor]
    rw [e, takes_xor, ← stps_add]
    congr 2
    simp
    omega
  | c :: l, r, k + 1, h => by
    have ih := takes_set x l (takeB r c) k (by simpa using h)
    show takes (takeB r c) (l.set k (l.getD k 0 ^^^ x)) = takes (takeB r c) l ^^^ _
    rw [ih]
    congr 2
    simp
theorem more_set {l : List Nat} {k x : Nat} (hk : k < l.length) (h0 : 0 < x) (h8 : x < 256) : more 0 (l.set k (l.getD k 0 ^^^ x)) ≠ more 0 l := by
  intro h
  have h1 : takes (inv 0) (l.set k (l.getD k 0 ^^^ x)) = takes (inv 0) l := by
    have := congrArg inv h
    unfold more at this
    rwa [inv_inv, inv_inv] at this
  rw [takes_set x l _ k hk] at h1
  have h2 : stps (8 * (l.length - k)) x = 0 := by
    have := congrArg (fun z => takes (inv 0) l ^^^ z) h1
    simp only [Nat.xor_self] at this
    rwa [xor_xor] at this
  have := stps_inj0 _ x (by omega) h2
  omega
theorem xor_byte {a x : Nat} (ha : a < 256) (hx : x < 256) : a ^^^ x < 256 := Nat.xor_lt_two_pow (n := 8) ha hx
theorem xor_ne {a x : Nat} (hx : 0 < x) : a ^^^ x ≠ a := by
  intro h
  have := congrArg (fun z => a ^^^ z) h
  simp only [Nat.xor_self] at this
  rw [xor_xor] at this
  omega
theorem byt_set {l : List Nat} (h : Byt l) (k y : Nat) (hy : y < 256) : Byt (l.set k y) := by
  intro c hc
  rcases List.mem_or_eq_of_mem_set hc with h1 | h1
  · exact h c h1
  · omega
theorem getD_right (A B : List Nat) (k : Nat) : (A ++ B).getD (A.length + k) 0 = B.getD k 0 := by
  rw [List.getD_eq_getElem?_getD, List.getElem?_append_right (by omega), Nat.add_sub_cancel_left, ← List.getD_eq_getElem?_getD]
theorem getD_left (A B : List Nat) (k : Nat) (h : k < A.length) : (A ++ B).getD k 0 = A.getD k 0 := by
  rw [List.getD_eq_getElem?_getD, List.getElem?_append_left h, ← List.getD_eq_getElem?_getD]
theorem set_right (A B : List Nat) (k y : Nat) : (A ++ B).set (A.length + k) y = A ++ B.set k y := by
  rw [List.set_append_right _ _ (by omega), Nat.add_sub_cancel_left]
/-- The change of one byte. -/
def chg (l : List Nat) (k x : Nat) : List Nat := l.set k (l.getD k 0 ^^^ x)
theorem chg_len (l : List Nat) (k x : Nat) : (chg l k x).length = l.length := List.length_set
theorem chg_right (A B : List Nat) (k x : Nat) : chg (A ++ B) (A.length + k) x = A ++ chg B k x := by
  unfold chg; rw [getD_right, set_right]
theorem chg_left (A B : List Nat) (k x : Nat) (h : k < A.length) : chg (A ++ B) k x = chg A k x ++ B := by
  unfold chg; rw [getD_left _ _ _ h, List.set_append_left _ _ h]
theorem chg_byt {l : List Nat} (h : Byt l) (k x : Nat) (hx : x < 256) : Byt (chg l k x) := byt_set h _ _ (xor_byte (byte_lt h k) hx)
theorem rest_changed {c : List Nat} (h : c.length ≤ 65536) (h8 : Byt c) (m : List Nat) {q x : Nat} (hq : q < 4 + c.length) (h0 : 0 < x) (hx : x < 256) : restE (chg (rc c ++ m) (4 + q) x) = 13 := by
  have hml := more_lt 0 c (by omega) h8
  have e0 : rc c ++ m = be4 c.length ++ (be4 (more 0 c) ++ (c ++ m)) := by
    unfold rc; rw [List.append_assoc, List.append_assoc]
  have e1 : chg (rc c ++ m) (4 + q) x = be4 c.length ++ chg (be4 (more 0 c) ++ (c ++ m)) q x := by
    rw [e0]; exact chg_right (be4 c.length) _ q x
  have hlen : (chg (rc c ++ m) (4 + q) x).length = 8 + c.length + m.length := by rw [chg_len, List.length_append, rc_len]
  have hnum : num4 (chg (rc c ++ m) (4 + q) x) = c.length := by rw [e1]; exact num4_be4 c.length (by omega) _
  have hd4 : (chg (rc c ++ m) (4 + q) x).drop 4 = chg (be4 (more 0 c) ++ (c ++ m)) q x := by
    rw [e1, List.drop_append_of_le_length (Nat.le_of_eq (be4_len _).symm), List.drop_eq_nil_of_le (Nat.le_of_eq (be4_len _)), List.nil_append]
  have hd8 : (chg (rc c ++ m) (4 + q) x).drop 8 = (chg (be4 (more 0 c) ++ (c ++ m)) q x).drop 4 := by
    rw [← hd4, List.drop_drop]
  have key : more 0 (restC (chg (rc c ++ m) (4 + q) x)) ≠ num4 ((chg (rc c ++ m) (4 + q) x).drop 4) := by
    unfold restC
    rw [hnum, hd8, hd4]
    rcases Nat.lt_or_ge q 4 with hq4 | hq4
    · rw [chg_left _ _ _ _ (by rw [be4_len]; exact hq4)]
      have hl4 : (chg (be4 (more 0 c)) q x).length = 4 := chg_len _ _ _
      rw [List.drop_append_of_le_length (by omega), List.drop_eq_nil_of_le (by omega), List.nil_append, List.take_append_of_le_length (Nat.le_refl _), List.take_length]
      intro e
      have hb := be4_num4 (l := chg (be4 (more 0 c)) q x) (by omega) (chg_byt (be4_lt _) q x hx)
      rw [num4_append (by omega)] at e
      rw [← e, List.take_of_length_le (by omega)] at hb
      have hg := congrArg (fun l => l.getD q 0) hb
      have hq4' : q < (be4 (more 0 c)).length := hq4
      simp only [chg, List.getD_eq_getElem?_getD, List.getElem?_set_self hq4', Option.getD_some] at hg
      exact xor_ne h0 hg.symm
    · obtain ⟨p, rfl⟩ : ∃ p, q = 4 + p := ⟨q - 4, by omega⟩
      have e2 : chg (be4 (more 0 c) ++ (c ++ m)) (4 + p) x = be4 (more 0 c) ++ chg (c ++ m) p x := chg_right (be4 (more 0 c)) _ p x
      rw [e2, List.drop_append_of_le_length (Nat.le_of_eq (be4_len _).symm), List.drop_eq_nil_of_le (Nat.le_of_eq (be4_len _)), List.nil_append, chg_left _ _ _ _ (by omega), List.take_append_of_le_length (by rw [chg_len]; exact Nat.le_refl _), List.take_of_length_le (by rw [chg_len]; exact Nat.le_refl _), num4_be4 _ hml]
      exact more_set (by omega) h0 hx
  rw [restE_ge (by omega), hnum, if_neg (by omega), if_neg key]
theorem changed {L : List (List Nat)} (hb : ∀ c ∈ L, Byt c) (hs : ∀ c ∈ L, Short c) {n q x : Nat} (hn : n < L.length) (hq : q < 4 + (L.getD n []).length) (h0 : 0 < x) (hx : x < 256) :
    chain (chg (rcs L) (tot (L.take n) + (4 + q)) x) = L.take n ∧ restE ((chg (rcs L) (tot (L.take n) + (4 + q)) x).drop (tot (L.take n))) = 13 ∧ Byt (chg (rcs L) (tot (L.take n) + (4 + q)) x) := by
  have e2 : L.drop n = L.getD n [] :: L.drop (n + 1) := by
    rw [List.getD_eq_getElem?_getD, List.getElem?_eq_getElem hn]; exact List.drop_eq_getElem_cons hn
  have e3 : rcs L = rcs (L.take n) ++ (rc (L.getD n []) ++ rcs (L.drop (n + 1))) := by
    conv => lhs; rw [← List.take_append_drop n L, rcs_app, e2]
    rfl
  have hm := getD_mem hn
  have hl : (rcs (L.take n)).length = tot (L.take n) := rcs_len _
  have e4 : chg (rcs L) (tot (L.take n) + (4 + q)) x = rcs (L.take n) ++ chg (rc (L.getD n []) ++ rcs (L.drop (n + 1))) (4 + q) x := by
    rw [e3, ← hl]; exact chg_right _ _ _ _
  have h13 := rest_changed (hs _ hm) (hb _ hm) (rcs (L.drop (n + 1))) hq h0 hx
  have hbL := rcs_byt hb
  refine ⟨?_, ?_, chg_byt hbL _ _ hx⟩
  · rw [e4, chain_rcs _ (fun c hc => ⟨hb c (List.mem_of_mem_take hc), hs c (List.mem_of_mem_take hc)⟩), chain_no (by rw [h13]; decide), List.append_nil]
  · rw [e4, List.drop_append_of_le_length (by omega), List.drop_eq_nil_of_le (by omega), List.nil_append]
    exact h13
end Go.Proofs.YtfodgdcdpdlikaaDoor.Frame
