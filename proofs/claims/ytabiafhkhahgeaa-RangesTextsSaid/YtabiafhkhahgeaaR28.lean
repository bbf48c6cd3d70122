/- The document's Parse, as a plain function. -/
import Derived.Test.YtabiafhkhahgeaaR27
namespace Go.Proofs.Ytabiafhkhahgeaa.Rng
open Go.RowKit Go.Lib
set_option linter.unusedVariables false
set_option linter.unusedSimpArgs false
set_option maxRecDepth 100000

/-- Where the first comma is; the length, where there is none. -/
def com : List UInt8 → Nat
  | [] => 0
  | c :: l => if c = 44 then 0 else com l + 1
theorem com_le : ∀ l : List UInt8, com l ≤ l.length
  | [] => Nat.le_refl _
  | c :: l => by
    have := com_le l
    unfold com
    split
    · exact Nat.zero_le _
    · simp; omega
theorem com_before : ∀ (l : List UInt8) (k : Nat) (h : k < com l) (h2 : k < l.length), l[k] ≠ 44
  | [], k, h, h2 => absurd h2 (by simp)
  | c :: l, 0, h, h2 => by
    unfold com at h
    split at h
    · exact absurd h (Nat.lt_irrefl _)
    · assumption
  | c :: l, k + 1, h, h2 => by
    unfold com at h
    split at h
    · exact absurd h (Nat.not_lt_zero _)
    · exact com_before l k (by omega) (by simpa using h2)
theorem com_there : ∀ (l : List UInt8) (h : com l < l.length), l[com l] = 44
  | [], h => absurd h (by simp)
  | c :: l, h => by
    by_cases hc : c = 44
    · have e : com (c :: l) = 0 := by unfold com; rw [if_pos hc]
      simp only [e]
      exact hc
    · have e : com (c :: l) = com l + 1 := by rw [com, if_neg hc]
      have h2 : com l < l.length := by rw [e] at h; simpa using h
      have := com_there l h2
      simp only [e]
      exact this
theorem com_at : ∀ (f t : List UInt8), (∀ x ∈ f, x ≠ 44) → com (f ++ 44 :: t) = f.length
  | [], t, _ => by simp [com]
  | b :: f, t, h => by
    show com (b :: (f ++ 44 :: t)) = _
    rw [com, if_neg (h b List.mem_cons_self), com_at f t (fun x hx => h x (List.mem_cons_of_mem _ hx))]
    rfl
/-- What lies between the marks. -/
def cutR (l : List UInt8) : Rg := ⟨(l.take (com l)).drop 1, (l.take (l.length - 1)).drop (com l + 1)⟩
def rparseR (l : List UInt8) : Rg × Int :=
  if com l < 1 ∨ l.length < com l + 2 then (⟨[], []⟩, 10)
  else if (textR (cutR l)).2 = 0 ∧ (textR (cutR l)).1 = l then (cutR l, 0) else (⟨[], []⟩, 10)
theorem rparse_eq (l : List UInt8) : rparseR l = parseR l := by
  rcases parse_err l with h | h
  · obtain ⟨ho, ht⟩ := text_parse h
    have hp : parseR l = ((parseR l).1, 0) := Prod.ext rfl h
    generalize (parseR l).1 = r at *
    rw [hp]
    obtain ⟨h1, h2, _⟩ := (okR_iff r).1 ho
    subst ht
    have hc : com (txt r) = r.f.length + 1 := by
      unfold txt
      rw [com, if_neg (by decide), com_at _ _ (name_bytes h1 44 (by decide))]
    have hn : (txt r).length = r.f.length + r.t.length + 3 := by unfold txt; simp; omega
    have hr : cutR (txt r) = r := by
      obtain ⟨f, t⟩ := r
      unfold cutR
      rw [hc, hn]
      unfold txt
      have e1 : (List.take (f.length + 1) (91 :: (f ++ 44 :: (t ++ [41])))).drop 1 = f := by simp
      have e2 : (List.take (f.length + t.length + 3 - 1) (91 :: (f ++ 44 :: (t ++ [41])))).drop (f.length + 1 + 1) = t := by
        rw [List.drop_take, show f.length + 1 + 1 = (91 :: (f ++ [44])).length by simp,
          show (91 : UInt8) :: (f ++ 44 :: (t ++ [41])) = (91 :: (f ++ [44])) ++ (t ++ [41]) by simp, List.drop_left]
        rw [show f.length + t.length + 3 - 1 - (91 :: (f ++ [44])).length = t.length by simp]
        simp
      show Rg.mk _ _ = Rg.mk f t
      rw [e1, e2]
    unfold rparseR
    rw [hr, hc, hn, if_neg (by omega), textR_yes ho, if_pos ⟨rfl, rfl⟩]
  · rw [h]
    unfold rparseR
    split
    · rfl
    · split
      · rename_i hh
        obtain ⟨p, q⟩ := hh
        cases ho : okR (cutR l) with
        | false => rw [textR_no ho] at p; cases p
        | true =>
          rw [textR_yes ho] at q
          have := parse_text ho
          rw [show txt (cutR l) = l from q, h] at this
          cases congrArg Prod.snd this
      · rfl
theorem cutR_len (l : List UInt8) : (cutR l).f.length ≤ l.length ∧ (cutR l).t.length ≤ l.length := by
  unfold cutR
  simp
  omega
theorem tx_part (l : List UInt8) (i j : Nat) : (tx l).extract i j = tx ((l.take j).drop i) := by
  apply ByteArray.ext
  simp [tx, ByteArray.data_extract, List.drop_take]
end Go.Proofs.Ytabiafhkhahgeaa.Rng
