/- Items as plain lists of bytes: their texts, and what a reader takes of them. -/
import Derived.Test.YtllhgjenkchniaaDoorI08
namespace Go.Proofs.YtllhgjenkchniaaDoor.Ident
open Go.Lib
set_option linter.unusedVariables false

/-- An item. -/
structure It where
  a : Int
  b : Int
  p : Int
  m : Int
  i : Bool
  g : Int
def okIt (x : It) : Prop := 1 ≤ x.g ∧ x.g ≤ 7 ∧ ((x.m = 0 ∧ x.i = false ∧ effOk x.a x.b x.p) ∨ (1 ≤ x.m ∧ x.m ≤ 64 ∧ x.a = 0 ∧ x.b = 0 ∧ x.p = 0))
instance (x : It) : Decidable (okIt x) := by unfold okIt; infer_instance
def wayT (i : Bool) : List UInt8 := if i then [105, 110] else [111, 117, 116]
/-- The text of an item in front of its group. -/
def hdT (x : It) : List UInt8 := if x.m = 0 then effT x.a.toNat x.b.toNat x.p.toNat else 109 :: (decDigits x.m.toNat ++ 47 :: wayT x.i)
def itT (x : It) : List UInt8 := hdT x ++ 64 :: decDigits x.g.toNat

def way1 (r : Rd) : Rd := need [47] (numR ⟨trimPrefix r.rest [109], r.wrong⟩)
def wayI (r : Rd) : Bool := hasPrefix (way1 r).rest [105, 110]
def way2 (r : Rd) : Rd := ⟨trimPrefix (way1 r).rest [105, 110], (way1 r).wrong⟩
def way3 (r : Rd) : Rd := if wayI r then way2 r else need [111, 117, 116] (way2 r)
def wayM (r : Rd) : Int := numV (trimPrefix r.rest [109])
/-- Behind what stands in front of the group. -/
def itH (r : Rd) : Rd := if hasPrefix r.rest [109] then way3 r else effR r
def itG (r : Rd) : Rd := need [64] (itH r)
def itR (r : Rd) : Rd := numR (itG r)
def itX (r : Rd) : It := if hasPrefix r.rest [109] then ⟨0, 0, 0, wayM r, wayI r, numV (itG r).rest⟩ else ⟨effA r, effB r, (effP r : Nat), 0, false, numV (itG r).rest⟩

theorem wrong_num {r : Rd} (h : (numR r).wrong = false) : r.wrong = false := (numR_ok h).1
theorem itR_ok {r : Rd} (h : (itR r).wrong = false) (hk : okIt (itX r)) : r.wrong = false ∧ r.rest = itT (itX r) ++ (itR r).rest := by
  obtain ⟨h1, g, hg, e1⟩ := numR_ok h
  obtain ⟨h2, e2⟩ := need_ok h1
  have e2 : (itH r).rest = [64] ++ (itG r).rest := e2
  rw [e1] at e2
  have e2 : (itH r).rest = 64 :: decDigits g ++ (itR r).rest := by rw [e2]; rfl
  have hG : numV (itG r).rest = g := hg
  unfold itX at hk ⊢
  rw [hG] at hk ⊢
  unfold itH at h2 e2
  by_cases hp : hasPrefix r.rest [109] = true
  · rw [if_pos hp] at h2 e2 hk ⊢
    have hw : (way1 r).wrong = false ∧ (way1 r).rest = wayT (wayI r) ++ (way3 r).rest := by
      unfold way3 at h2 ⊢
      cases hi : wayI r with
      | true =>
        rw [hi] at h2
        refine ⟨h2, ?_⟩
        exact pre_ok hi
      | false =>
        rw [hi] at h2
        have h2 : (need [111, 117, 116] (way2 r)).wrong = false := h2
        obtain ⟨h3, e3⟩ := need_ok h2
        refine ⟨h3, ?_⟩
        have : (way2 r).rest = (way1 r).rest := by unfold way2; exact trim_no hi
        rw [← this]
        exact e3
    obtain ⟨h3, e3⟩ := hw
    obtain ⟨h4, e4⟩ := need_ok (p := [47]) (r := numR ⟨trimPrefix r.rest [109], r.wrong⟩) h3
    obtain ⟨h5, m, hm, e5⟩ := numR_ok h4
    refine ⟨h5, ?_⟩
    have e6 := pre_ok hp
    have hM : wayM r = m := hm
    have e4 : (numR ⟨trimPrefix r.rest [109], r.wrong⟩).rest = [47] ++ (way1 r).rest := e4
    have e5 : trimPrefix r.rest [109] = decDigits m ++ (numR ⟨trimPrefix r.rest [109], r.wrong⟩).rest := e5
    rw [hM] at hk ⊢
    obtain ⟨_, _, hk | hk⟩ := hk
    · exfalso
      have h0 : effOk 0 0 0 := hk.2.2
      unfold effOk at h0
      omega
    · have hm0 : ¬ (m : Int) = 0 := by have := hk.1; show ¬ _; simp only at this; omega
      unfold itT hdT
      simp only [Int.toNat_natCast]
      rw [if_neg hm0, e6, e5, e4, e3, e2]
      simp [List.append_assoc]
  · rw [if_neg hp] at h2 e2 hk ⊢
    obtain ⟨h3, hp1, hp3, a, b, ha, hb, e3⟩ := effR_ok h2
    refine ⟨h3, ?_⟩
    unfold itT hdT
    rw [if_pos rfl, ha, hb]
    simp only [Int.toNat_natCast]
    rw [e3, e2]
    simp [List.append_assoc]
theorem need_at (p x : List UInt8) (wr : Bool) : need p ⟨p ++ x, wr⟩ = ⟨x, wr⟩ := by
  obtain ⟨h1, h2⟩ := pre_app p x
  unfold need
  simp only [h1, h2, Bool.not_true, Bool.or_false]
theorem numR_at {n : Nat} (hn : n < 9223372036854775808) {x : List UInt8} (hx : ∀ c, x.head? = some c → isDig c = false) (wr : Bool) : numR ⟨decDigits n ++ x, wr⟩ = ⟨x, wr⟩ ∧ numV (decDigits n ++ x) = n := by
  obtain ⟨a1, a2, a3⟩ := num_dec hn hx
  unfold numR
  refine ⟨?_, a1⟩
  simp only [a2, a3, Bool.not_true, Bool.or_false]
theorem dec_head (u : Nat) : ∃ c l, decDigits u = c :: l ∧ isDig c = true := by
  cases e : decDigits u with
  | nil => exact absurd e (decDigits_ne u)
  | cons c l => exact ⟨c, l, rfl, decDigits_dig u c (by rw [e]; exact List.mem_cons_self)⟩
theorem itR_at (x : It) (hk : okIt x) : itX ⟨itT x, false⟩ = x ∧ itR ⟨itT x, false⟩ = ⟨[], false⟩ := by
  obtain ⟨a, b, p, m, i, g⟩ := x
  obtain ⟨hg1, hg7, hk⟩ := hk
  simp only at hg1 hg7 hk
  obtain ⟨gn, rfl⟩ := Int.eq_ofNat_of_zero_le (show 0 ≤ g by omega)
  have hh : ∀ (y : List UInt8) (c : UInt8), (64 :: y).head? = some c → isDig c = false := by intro y c hc; simp at hc; subst hc; decide
  have hs : ∀ (y : List UInt8) (c : UInt8), (47 :: y).head? = some c → isDig c = false := by intro y c hc; simp at hc; subst hc; decide
  obtain ⟨g1, g2⟩ := numR_at (n := gn) (by omega) (x := []) (by intro c hc; cases hc) false
  rw [List.append_nil] at g1 g2
  have hlast : ∀ r : Rd, itH r = ⟨64 :: decDigits gn, false⟩ → itG r = ⟨decDigits gn, false⟩ ∧ itR r = ⟨[], false⟩ := by
    intro r hr
    have e : itG r = ⟨decDigits gn, false⟩ := by unfold itG; rw [hr]; exact need_at [64] _ false
    refine ⟨e, ?_⟩
    unfold itR
    rw [e]
    exact g1
  rcases hk with ⟨rfl, rfl, ho⟩ | ⟨hm1, hm64, rfl, rfl, rfl⟩
  · have ho' := ho
    obtain ⟨h1, h2, h3, h4, h5, h6⟩ := ho'
    have et : itT ⟨a, b, p, 0, false, (gn : Int)⟩ = effT a.toNat b.toNat p.toNat ++ 64 :: decDigits gn := by unfold itT hdT; simp
    obtain ⟨e1, e2, e3, e4⟩ := effR_at a.toNat b.toNat p.toNat (by omega) (by omega) (by omega) (by omega) (64 :: decDigits gn) false
    have hp : hasPrefix (effT a.toNat b.toNat p.toNat ++ 64 :: decDigits gn) [109] = false := by
      obtain ⟨c, l, ec, hc⟩ := dec_head a.toNat
      unfold effT
      rw [ec]
      show hasPrefix (c :: _) [109] = false
      rw [pre_one]
      rw [beq_eq_false_iff_ne]
      rintro rfl
      revert hc
      decide
    obtain ⟨l1, l2⟩ := hlast ⟨effT a.toNat b.toNat p.toNat ++ 64 :: decDigits gn, false⟩ (by unfold itH; rw [if_neg (by simp [hp])]; exact e4)
    rw [et]
    refine ⟨?_, l2⟩
    unfold itX
    rw [if_neg (by simp [hp]), l1, e1, e2, e3, g2]
    rw [show ((a.toNat : Nat) : Int) = a by omega, show ((b.toNat : Nat) : Int) = b by omega, show ((p.toNat : Nat) : Int) = p by omega]
  · obtain ⟨mn, rfl⟩ := Int.eq_ofNat_of_zero_le (show 0 ≤ m by omega)
    have et : itT ⟨0, 0, 0, (mn : Int), i, (gn : Int)⟩ = 109 :: (decDigits mn ++ 47 :: (wayT i ++ 64 :: decDigits gn)) := by
      unfold itT hdT
      rw [if_neg (by show ¬ (mn : Int) = 0; omega)]
      simp [List.append_assoc]
    generalize hl : decDigits mn ++ 47 :: (wayT i ++ 64 :: decDigits gn) = l at *
    obtain ⟨p1, p2⟩ := pre_app [109] l
    have p1 : hasPrefix (109 :: l) [109] = true := p1
    have p2 : trimPrefix (109 :: l) [109] = l := p2
    obtain ⟨n1, n2⟩ := numR_at (n := mn) (by omega) (x := 47 :: (wayT i ++ 64 :: decDigits gn)) (hs _) false
    have w1 : way1 ⟨109 :: l, false⟩ = ⟨wayT i ++ 64 :: decDigits gn, false⟩ := by
      unfold way1
      simp only [p2]
      rw [← hl, n1]
      exact need_at [47] _ false
    have wI : wayI ⟨109 :: l, false⟩ = i := by
      unfold wayI
      rw [w1]
      cases i
      · rfl
      · exact (pre_app [105, 110] _).1
    have w3 : way3 ⟨109 :: l, false⟩ = ⟨64 :: decDigits gn, false⟩ := by
      unfold way3
      rw [wI]
      unfold way2
      rw [w1]
      cases i
      · show need [111, 117, 116] ⟨trimPrefix _ _, false⟩ = _
        rw [trim_no (by rfl)]
        exact need_at [111, 117, 116] _ false
      · show (⟨trimPrefix _ _, false⟩ : Rd) = _
        have := (pre_app [105, 110] (64 :: decDigits gn)).2
        rw [show wayT true ++ 64 :: decDigits gn = [105, 110] ++ 64 :: decDigits gn from rfl, this]
    obtain ⟨l1, l2⟩ := hlast ⟨109 :: l, false⟩ (by unfold itH; rw [if_pos p1]; exact w3)
    rw [et]
    refine ⟨?_, l2⟩
    unfold itX
    rw [if_pos p1, l1, wI, g2]
    unfold wayM
    rw [show (⟨109 :: l, false⟩ : Rd).rest = 109 :: l from rfl, p2, ← hl, n2]
/-- What a text is read as. -/
def pI (l : List UInt8) : Option It := if (itR ⟨l, false⟩).wrong = false ∧ (itR ⟨l, false⟩).rest = [] ∧ okIt (itX ⟨l, false⟩) then some (itX ⟨l, false⟩) else none
theorem pI_some {l : List UInt8} {x : It} (h : pI l = some x) : okIt x ∧ l = itT x := by
  unfold pI at h
  split at h
  · rename_i hh
    obtain ⟨h1, h2, h3⟩ := hh
    injection h with h
    obtain ⟨_, e⟩ := itR_ok h1 h3
    rw [h2, List.append_nil] at e
    rw [← h]
    exact ⟨h3, e⟩
  · cases h
theorem pI_text {x : It} (h : okIt x) : pI (itT x) = some x := by
  obtain ⟨e1, e2⟩ := itR_at x h
  unfold pI
  rw [e1, e2, if_pos ⟨rfl, rfl, h⟩]
theorem pI_none {l : List UInt8} (h : pI l = none) {x : It} (hk : okIt x) : l ≠ itT x := by
  intro e
  rw [e, pI_text hk] at h
  cases h
end Go.Proofs.YtllhgjenkchniaaDoor.Ident
