/- Plain: numbers of four bytes, records of bytes, and what is read of bytes. -/
import Derived.Test.YtojeccmnhgcmcaaDoorF02
namespace Go.Proofs.YtojeccmnhgcmcaaDoor.Frame
set_option linter.unusedVariables false
open Crc (more more_lt)

def be4 (n : Nat) : List Nat := [n / 16777216 % 256, n / 65536 % 256, n / 256 % 256, n % 256]
def num4 (l : List Nat) : Nat := l.getD 0 0 * 16777216 + l.getD 1 0 * 65536 + l.getD 2 0 * 256 + l.getD 3 0
theorem be4_len (n : Nat) : (be4 n).length = 4 := rfl
theorem be4_lt (n : Nat) : ∀ c ∈ be4 n, c < 256 := by
  intro c hc
  simp only [be4, List.mem_cons, List.not_mem_nil, or_false] at hc
  rcases hc with rfl | rfl | rfl | rfl <;> exact Nat.mod_lt _ (by decide)
theorem num4_be4 (n : Nat) (h : n < 4294967296) (m : List Nat) : num4 (be4 n ++ m) = n := by
  show n / 16777216 % 256 * 16777216 + n / 65536 % 256 * 65536 + n / 256 % 256 * 256 + n % 256 = n
  omega
theorem num4_lt {l : List Nat} (h : ∀ c ∈ l, c < 256) : num4 l < 4294967296 := by
  have h0 := byte_lt h 0
  have h1 := byte_lt h 1
  have h2 := byte_lt h 2
  have h3 := byte_lt h 3
  unfold num4
  omega
theorem be4_num4 {l : List Nat} (hl : 4 ≤ l.length) (h : ∀ c ∈ l, c < 256) : be4 (num4 l) = l.take 4 := by
  have h0 := byte_lt h 0
  have h1 := byte_lt h 1
  have h2 := byte_lt h 2
  have h3 := byte_lt h 3
  match l, hl with
  | a :: b :: c :: d :: l, _ =>
    have e0 : (a :: b :: c :: d :: l).getD 0 0 = a := rfl
    have e1 : (a :: b :: c :: d :: l).getD 1 0 = b := rfl
    have e2 : (a :: b :: c :: d :: l).getD 2 0 = c := rfl
    have e3 : (a :: b :: c :: d :: l).getD 3 0 = d := rfl
    rw [e0] at h0; rw [e1] at h1; rw [e2] at h2; rw [e3] at h3
    show [_, _, _, _] = [a, b, c, d]
    unfold num4
    rw [e0, e1, e2, e3]
    congr 1
    · omega
    · congr 1
      · omega
      · congr 1
        · omega
        · congr 1; omega
theorem num4_append {l : List Nat} (hl : 4 ≤ l.length) (m : List Nat) : num4 (l ++ m) = num4 l := by
  match l, hl with
  | a :: b :: c :: d :: l, _ => rfl
theorem num4_take {l : List Nat} {k : Nat} (hk : 4 ≤ k) : num4 (l.take k) = num4 l := by
  have e : ∀ i, i < 4 → (l.take k).getD i 0 = l.getD i 0 := fun i hi => by
    rw [List.getD_eq_getElem?_getD, List.getD_eq_getElem?_getD, List.getElem?_take_of_lt (by omega)]
  unfold num4
  rw [e 0 (by omega), e 1 (by omega), e 2 (by omega), e 3 (by omega)]

/-! Records. -/
def Byt (l : List Nat) : Prop := ∀ c ∈ l, c < 256
theorem Byt.app {l m : List Nat} (h : Byt l) (k : Byt m) : Byt (l ++ m) := fun c hc => (List.mem_append.1 hc).elim (h c) (k c)
theorem Byt.take {l : List Nat} (h : Byt l) (k : Nat) : Byt (l.take k) := fun c hc => h c (List.mem_of_mem_take hc)
theorem Byt.drop {l : List Nat} (h : Byt l) (k : Nat) : Byt (l.drop k) := fun c hc => h c (List.mem_of_mem_drop hc)
def rc (c : List Nat) : List Nat := be4 c.length ++ be4 (more 0 c) ++ c
theorem rc_len (c : List Nat) : (rc c).length = 8 + c.length := by unfold rc; rw [List.length_append, List.length_append, be4_len, be4_len]
theorem rc_byt {c : List Nat} (h : Byt c) : Byt (rc c) := Byt.app (Byt.app (be4_lt _) (be4_lt _)) h
def rcs : List (List Nat) → List Nat
  | [] => []
  | c :: L => rc c ++ rcs L
theorem rcs_app (L M : List (List Nat)) : rcs (L ++ M) = rcs L ++ rcs M := by
  induction L with
  | nil => rfl
  | cons c L ih => show rc c ++ rcs (L ++ M) = rc c ++ rcs L ++ rcs M; rw [ih, List.append_assoc]
theorem rcs_byt {L : List (List Nat)} (h : ∀ c ∈ L, Byt c) : Byt (rcs L) := by
  induction L with
  | nil => intro c hc; exact absurd hc List.not_mem_nil
  | cons c L ih => exact Byt.app (rc_byt (h c (List.mem_cons_self ..))) (ih fun d hd => h d (List.mem_cons_of_mem _ hd))
/-- How many bytes the records have. -/
def tot : List (List Nat) → Nat
  | [] => 0
  | c :: L => 8 + c.length + tot L
theorem rcs_len (L : List (List Nat)) : (rcs L).length = tot L := by
  induction L with
  | nil => rfl
  | cons c L ih => show (rc c ++ rcs L).length = _; rw [List.length_append, rc_len, ih]; rfl
theorem tot_app (L M : List (List Nat)) : tot (L ++ M) = tot L + tot M := by rw [← rcs_len, rcs_app, List.length_append, rcs_len, rcs_len]
theorem tot_take_succ (L : List (List Nat)) (k : Nat) (h : k < L.length) : tot (L.take (k + 1)) = tot (L.take k) + (8 + (L.getD k []).length) := by
  rw [List.take_succ_eq_append_getElem h, tot_app, List.getD_eq_getElem?_getD, List.getElem?_eq_getElem h]
  rfl

/-! What is read of the bytes from a place on. -/
def restE (r : List Nat) : Nat :=
  if r.length = 0 then 5 else if r.length < 8 then 10 else if 65536 < num4 r ∨ r.length - 8 < num4 r then 10
  else if more 0 ((r.drop 8).take (num4 r)) = num4 (r.drop 4) then 0 else 13
def restC (r : List Nat) : List Nat := (r.drop 8).take (num4 r)
theorem restE_ge {r : List Nat} (h : 8 ≤ r.length) : restE r = if 65536 < num4 r ∨ r.length - 8 < num4 r then 10 else if more 0 (restC r) = num4 (r.drop 4) then 0 else 13 := by
  unfold restE restC
  rw [if_neg (by omega), if_neg (by omega)]
structure Ok (r : List Nat) : Prop where
  ge : 8 ≤ r.length
  le : num4 r ≤ 65536
  fit : num4 r ≤ r.length - 8
  sum : more 0 (restC r) = num4 (r.drop 4)
theorem ok_of {r : List Nat} (h : restE r = 0) : Ok r := by
  unfold restE at h
  by_cases h1 : r.length = 0
  · rw [if_pos h1] at h; omega
  · rw [if_neg h1] at h
    by_cases h2 : r.length < 8
    · rw [if_pos h2] at h; omega
    · rw [if_neg h2] at h
      by_cases h3 : 65536 < num4 r ∨ r.length - 8 < num4 r
      · rw [if_pos h3] at h; omega
      · rw [if_neg h3] at h
        by_cases h4 : more 0 ((r.drop 8).take (num4 r)) = num4 (r.drop 4)
        · exact ⟨by omega, by omega, by omega, h4⟩
        · rw [if_neg h4] at h; omega
theorem of_ok {r : List Nat} (h : Ok r) : restE r = 0 := by
  have := h.ge
  have := h.le
  have := h.fit
  unfold restE
  rw [if_neg (by omega), if_neg (by omega), if_neg (by omega), if_pos (show more 0 ((r.drop 8).take (num4 r)) = _ from h.sum)]
theorem Ok.len {r : List Nat} (h : Ok r) : (restC r).length = num4 r := by
  have := h.ge
  have := h.fit
  unfold restC; rw [List.length_take, List.length_drop]; omega
theorem Ok.lt {r : List Nat} (h : Ok r) : (r.drop (8 + (restC r).length)).length < r.length := by
  have := h.ge
  rw [List.length_drop]; omega
/-- What is read is the record of what is found. -/
theorem Ok.eq {r : List Nat} (h : Ok r) (h8 : Byt r) : r = rc (restC r) ++ r.drop (8 + (restC r).length) := by
  have h1 := h.ge
  have h2 := h.len
  have e1 : be4 (restC r).length = r.take 4 := by rw [h2]; exact be4_num4 (by omega) h8
  have e2 : be4 (more 0 (restC r)) = (r.drop 4).take 4 := by rw [h.sum]; exact be4_num4 (by rw [List.length_drop]; omega) (h8.drop 4)
  unfold rc
  rw [e1, e2, h2]
  have a1 : r = r.take 4 ++ r.drop 4 := (List.take_append_drop 4 r).symm
  have a2 : r.drop 4 = (r.drop 4).take 4 ++ (r.drop 4).drop 4 := (List.take_append_drop 4 _).symm
  have a3 : (r.drop 4).drop 4 = r.drop 8 := by rw [List.drop_drop]
  have a4 : r.drop 8 = restC r ++ r.drop (8 + num4 r) := by
    unfold restC
    rw [← List.drop_drop, List.take_append_drop]
  rw [a3, a4] at a2
  rw [List.append_assoc, List.append_assoc]
  rw [← a2]
  exact a1
theorem rest_rc {c : List Nat} (h : c.length ≤ 65536) (h8 : Byt c) (m : List Nat) : Ok (rc c ++ m) ∧ restC (rc c ++ m) = c := by
  have e0 : num4 (rc c ++ m) = c.length := by
    unfold rc
    rw [List.append_assoc, List.append_assoc]
    exact num4_be4 _ (by omega) _
  have e1 : (rc c ++ m).drop 8 = c ++ m := by
    unfold rc
    rw [List.append_assoc]
    rw [List.drop_append_of_le_length (by rw [List.length_append, be4_len, be4_len]; omega), List.drop_eq_nil_of_le (by rw [List.length_append, be4_len, be4_len]; omega), List.nil_append]
  have e2 : restC (rc c ++ m) = c := by
    unfold restC
    rw [e0, e1, List.take_append_of_le_length (Nat.le_refl _), List.take_length]
  have e3 : num4 ((rc c ++ m).drop 4) = more 0 c := by
    have : (rc c ++ m).drop 4 = be4 (more 0 c) ++ (c ++ m) := by
      unfold rc
      rw [List.append_assoc, List.append_assoc, List.drop_append_of_le_length (Nat.le_of_eq (be4_len _).symm), List.drop_eq_nil_of_le (Nat.le_of_eq (be4_len _)), List.nil_append]
    rw [this]
    exact num4_be4 _ (more_lt 0 c (by omega) h8) _
  have e4 : (rc c ++ m).length = 8 + c.length + m.length := by rw [List.length_append, rc_len]
  refine ⟨⟨by omega, by omega, by omega, ?_⟩, e2⟩
  rw [e2, e3]

/-- All records from the place on. -/
def chain (r : List Nat) : List (List Nat) :=
  if h : restE r = 0 then restC r :: chain (r.drop (8 + (restC r).length)) else []
termination_by r.length
decreasing_by exact (ok_of h).lt
theorem chain_ok {r : List Nat} (h : restE r = 0) : chain r = restC r :: chain (r.drop (8 + (restC r).length)) := by rw [chain, dif_pos h]
theorem chain_no {r : List Nat} (h : ¬ restE r = 0) : chain r = [] := by rw [chain, dif_neg h]
theorem chain_rcs (L : List (List Nat)) (h : ∀ c ∈ L, Byt c ∧ c.length ≤ 65536) (m : List Nat) : chain (rcs L ++ m) = L ++ chain m := by
  induction L with
  | nil => rfl
  | cons c L ih =>
    have hc := h c (List.mem_cons_self ..)
    have := rest_rc hc.2 hc.1 (rcs L ++ m)
    show chain (rc c ++ rcs L ++ m) = _
    rw [List.append_assoc, chain_ok (of_ok this.1), this.2, ← rc_len, List.drop_append_of_le_length (Nat.le_refl _), List.drop_length, List.nil_append, ih fun d hd => h d (List.mem_cons_of_mem _ hd), List.cons_append]
/-- The records that are found, and what stands behind them. -/
def Found (r : List Nat) (L : List (List Nat)) : Prop := r = rcs L ++ r.drop (tot L) ∧ restE (r.drop (tot L)) ≠ 0 ∧ (∀ c ∈ L, Byt c ∧ c.length ≤ 65536) ∧ tot L ≤ r.length
theorem Found.none {r : List Nat} (h : ¬ restE r = 0) : Found r [] := by
  refine ⟨?_, h, fun c hc => absurd hc List.not_mem_nil, Nat.zero_le _⟩
  show r = [] ++ r.drop 0
  rw [List.nil_append, List.drop_zero]
theorem Found.more {r : List Nat} {L : List (List Nat)} (h8 : Byt r) (hk : Ok r) (h : Found (r.drop (8 + (restC r).length)) L) : Found r (restC r :: L) := by
  obtain ⟨i1, i2, i3, i4⟩ := h
  have e := hk.eq h8
  have et : tot (restC r :: L) = 8 + (restC r).length + tot L := by rw [tot]
  have er : rcs (restC r :: L) = rc (restC r) ++ rcs L := by rw [rcs]
  have hc8 : Byt (restC r) := (h8.drop _).take _
  have h1 := hk.ge
  have h2 := hk.fit
  have h3 := hk.len
  have h4 := hk.le
  rw [List.drop_drop] at i1 i2
  rw [List.length_drop] at i4
  unfold Found
  rw [et, er]
  generalize restC r = c at *
  refine ⟨?_, i2, ?_, by omega⟩
  · rw [List.append_assoc, ← i1]; exact e
  · intro d hd
    rcases List.mem_cons.1 hd with rfl | hd
    · exact ⟨hc8, by omega⟩
    · exact i3 d hd
theorem chain_found (n : Nat) : ∀ (r : List Nat), r.length ≤ n → Byt r → Found r (chain r) := by
  induction n with
  | zero =>
    intro r hn h8
    have h : ¬ restE r = 0 := fun h => by have := (ok_of h).ge; omega
    rw [chain_no h]
    exact Found.none h
  | succ n ih =>
    intro r hn h8
    by_cases h : restE r = 0
    · have hk := ok_of h
      have hlt := hk.lt
      rw [chain_ok h]
      exact Found.more h8 hk (ih _ (by omega) (h8.drop _))
    · rw [chain_no h]
      exact Found.none h
theorem chain_eq (r : List Nat) (h8 : Byt r) : Found r (chain r) := chain_found r.length r (Nat.le_refl _) h8
theorem chain_tot (r : List Nat) (h8 : Byt r) : tot (chain r) ≤ r.length := (chain_eq r h8).2.2.2
theorem chain_stop (r : List Nat) (h8 : Byt r) : restE (r.drop (tot (chain r))) ≠ 0 := (chain_eq r h8).2.1
theorem restE_cases (r : List Nat) : restE r = 0 ∨ restE r = 5 ∨ restE r = 10 ∨ restE r = 13 := by
  unfold restE
  split
  · exact .inr (.inl rfl)
  · split
    · exact .inr (.inr (.inl rfl))
    · split
      · exact .inr (.inr (.inl rfl))
      · split
        · exact .inl rfl
        · exact .inr (.inr (.inr rfl))
theorem restE_nil {r : List Nat} : restE r = 5 ↔ r.length = 0 := by
  constructor
  · intro h
    unfold restE at h
    by_cases h1 : r.length = 0
    · exact h1
    · rw [if_neg h1] at h
      split at h
      · omega
      · split at h
        · omega
        · split at h <;> omega
  · intro h; unfold restE; rw [if_pos h]
end Go.Proofs.YtojeccmnhgcmcaaDoor.Frame
