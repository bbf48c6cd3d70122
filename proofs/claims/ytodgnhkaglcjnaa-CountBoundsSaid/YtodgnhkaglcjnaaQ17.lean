/- Lists of deltas in memory: what is reserved, appends, an element taken out. -/
import Derived.Test.YtodgnhkaglcjnaaQ13
import Derived.Test.YtodgnhkaglcjnaaQ12
import Derived.Maps.AppendAt
import Derived.Laws.OwnMore
import Derived.OwnWalk
namespace Go.Proofs.Ytodgnhkaglcjnaa.Cnt
open Go.RowKit
set_option linter.unusedVariables false
set_option linter.unusedSimpArgs false
set_option maxRecDepth 20000

abbrev TD : TypeId := 45
abbrev TI : TypeId := 2
def ints (l : List Int) : List Value := l.map (fun n => Value.int .i64 n)
theorem ints_len (l : List Int) : (ints l).length = l.length := by simp [ints]
theorem ints_get {l : List Int} {i : Nat} (h : i < l.length) : (ints l)[i]? = some (.int .i64 l[i]) := by simp [ints, List.getElem?_map, List.getElem?_eq_getElem h]
theorem ints_one (l : List Int) : ∀ u ∈ ints l, u.oneCell' = true := by
  intro u hu
  obtain ⟨n, _, rfl⟩ := List.mem_map.1 hu
  rfl
def upS (l : List Int) : Int := (l.map (fun d => max d 0)).sum
def dnS (l : List Int) : Int := (l.map (fun d => max (-d) 0)).sum
theorem upS_app (l m : List Int) : upS (l ++ m) = upS l + upS m := by simp [upS]
theorem dnS_app (l m : List Int) : dnS (l ++ m) = dnS l + dnS m := by simp [dnS]
theorem upS_one (d : Int) : upS [d] = max d 0 := by simp [upS]
theorem dnS_one (d : Int) : dnS [d] = max (-d) 0 := by simp [dnS]
theorem upS_cons (d : Int) (l : List Int) : upS (d :: l) = max d 0 + upS l := by simp [upS]
theorem dnS_cons (d : Int) (l : List Int) : dnS (d :: l) = max (-d) 0 + dnS l := by simp [dnS]
theorem upS_pos (l : List Int) : 0 ≤ upS l := by
  induction l with
  | nil => simp [upS]
  | cons d l ih => have : upS (d :: l) = max d 0 + upS l := by simp [upS]
                   omega
theorem dnS_pos (l : List Int) : 0 ≤ dnS l := by
  induction l with
  | nil => simp [dnS]
  | cons d l ih => have : dnS (d :: l) = max (-d) 0 + dnS l := by simp [dnS]
                   omega
def Dl (l : List Int) : Prop := ∀ d ∈ l, -32768 ≤ d ∧ d ≤ 32767
theorem upS_le {l : List Int} (h : Dl l) : upS l ≤ 32768 * l.length := by
  induction l with
  | nil => simp [upS]
  | cons d l ih =>
    have : upS (d :: l) = max d 0 + upS l := by simp [upS]
    have h1 := h d List.mem_cons_self
    have h2 := ih (fun x hx => h x (List.mem_cons_of_mem _ hx))
    rw [List.length_cons]
    omega
theorem dnS_le {l : List Int} (h : Dl l) : dnS l ≤ 32768 * l.length := by
  induction l with
  | nil => simp [dnS]
  | cons d l ih =>
    have : dnS (d :: l) = max (-d) 0 + dnS l := by simp [dnS]
    have h1 := h d List.mem_cons_self
    have h2 := ih (fun x hx => h x (List.mem_cons_of_mem _ hx))
    rw [List.length_cons]
    omega
theorem split_at {l : List Int} {k : Nat} (h : k < l.length) : l = l.take k ++ (l[k] :: l.drop (k + 1)) := by
  rw [List.getElem_cons_drop h, List.take_append_drop]
def outK (l : List Int) (k : Nat) : List Int := l.take k ++ l.drop (k + 1)
theorem upS_out {l : List Int} {k : Nat} (h : k < l.length) : upS l = upS (outK l k) + max l[k] 0 := by
  conv => lhs; rw [split_at h]
  rw [upS_app, upS_cons, outK, upS_app]
  omega
theorem dnS_out {l : List Int} {k : Nat} (h : k < l.length) : dnS l = dnS (outK l k) + max (-l[k]) 0 := by
  conv => lhs; rw [split_at h]
  rw [dnS_app, dnS_cons, outK, dnS_app]
  omega
theorem outK_len {l : List Int} {k : Nat} (h : k < l.length) : (outK l k).length = l.length - 1 := by
  unfold outK
  rw [List.length_append, List.length_take, List.length_drop]
  omega
theorem outK_dl {l : List Int} (h : Dl l) (k : Nat) : Dl (outK l k) := by
  intro d hd
  rcases List.mem_append.1 hd with hd | hd
  · exact h d (List.mem_of_mem_take hd)
  · exact h d (List.mem_of_mem_drop hd)
theorem app_dl {l : List Int} (h : Dl l) {d : Int} (hd : -32768 ≤ d ∧ d ≤ 32767) : Dl (l ++ [d]) := by
  intro x hx
  rcases List.mem_append.1 hx with hx | hx
  · exact h x hx
  · rw [List.mem_singleton.1 hx]; exact hd
/-- A slice that is the call's own. -/
abbrev Ow (B : Nat) (v : Value) (l : List Int) (W : World) : Prop := W.ownsRow B TI 1 v l.length (ints l)
/-- Its form, and its cells. -/
theorem ow_form {B : Nat} {v : Value} {l : List Int} {W : World} (h : Ow B v l W) :
    (v = .slice none 0 0 ∧ l = []) ∨ ∃ g cap, v = .slice (some ⟨g, 0, none⟩) l.length cap ∧ B ≤ g ∧ g < W.heap.size ∧ l.length ≤ cap ∧ cap ≤ maxLen ∧ ∀ i (hi : i < l.length), W.cell? ⟨g, i, none⟩ = some (.int .i64 l[i]) := by
  obtain ⟨_, ⟨rfl, h0⟩ | ⟨g, cap, cur, rfl, hb, hh, hle, hm, hsz, hx⟩⟩ := h
  · exact Or.inl ⟨rfl, List.eq_nil_of_length_eq_zero h0⟩
  · refine Or.inr ⟨g, cap, rfl, hb, (Array.getElem?_eq_some_iff.1 hh).1, hle, hm, fun i hi => ?_⟩
    rw [cell_of_row W g i _ _ _ hh]
    have h1 := ints_get hi
    rw [← hx, List.getElem?_take, if_pos (by omega)] at h1
    simpa using h1
theorem ow_later {B : Nat} {v : Value} {l : List Int} {W W2 : World} (h : Ow B v l W) (hb : Below W.heap.size W W2) : Ow B v l W2 := by
  obtain ⟨h1, h2 | ⟨g, cap, cur, rfl, hb', hh, hr⟩⟩ := h
  · exact ⟨h1, Or.inl h2⟩
  · exact ⟨h1, Or.inr ⟨g, cap, cur, rfl, hb', (hb.block _ (Array.getElem?_eq_some_iff.1 hh).1).trans hh, hr⟩⟩
theorem ow_st {B : Nat} {v : Value} {l : List Int} {W W2 : World} {q : Nat} {a b c d e : Int} (h : Ow B v l W) (s : St W W2 q a b c d e) (hne : v.ownBlock ≠ some q) : Ow B v l W2 := by
  obtain ⟨h1, h2 | ⟨g, cap, cur, rfl, hb', hh, hr⟩⟩ := h
  · exact ⟨h1, Or.inl h2⟩
  · exact ⟨h1, Or.inr ⟨g, cap, cur, rfl, hb', (s.oth _ (fun e => hne (by rw [e]; rfl))).trans hh, hr⟩⟩
set_option maxHeartbeats 1000000 in
theorem reserved_any (B : Nat) (v : Value) (l : List Int) (w : World) (h : Ow B v l w) (hd : Dl l) (hl : l.length ≤ 100) :
    Calls Try.prog 32 #[v] w fun e w' => e = .returned (.tuple #[.int .i64 (upS l), .int .i64 (dnS l)]) ∧ Below w.heap.size w w' := by
  have hform : ∃ a cap, v = .slice a l.length cap ∧ (0 < l.length → ∃ g, a = some ⟨g, 0, none⟩ ∧ ∀ i (hi : i < l.length), w.cell? ⟨g, i, none⟩ = some (.int .i64 l[i])) := by
    rcases ow_form h with ⟨rfl, rfl⟩ | ⟨g, cap, rfl, _, _, _, _, hc⟩
    · exact ⟨none, 0, rfl, fun h0 => by simp at h0⟩
    · exact ⟨_, cap, rfl, fun _ => ⟨g, rfl, hc⟩⟩
  obtain ⟨a, cap, rfl, hc⟩ := hform
  have hstep : ∀ k (hk : k < l.length), upS (l.take (k + 1)) = upS (l.take k) + max l[k] 0 ∧ dnS (l.take (k + 1)) = dnS (l.take k) + max (-l[k]) 0 := fun k hk => by
    rw [List.take_succ_eq_append_getElem hk, upS_app, upS_one, dnS_app, dnS_one]
    exact ⟨rfl, rfl⟩
  have hbd : ∀ k, k ≤ l.length → 0 ≤ upS (l.take k) ∧ upS (l.take k) ≤ 4000000 ∧ 0 ≤ dnS (l.take k) ∧ dnS (l.take k) ≤ 4000000 := fun k hk => by
    have h1 := upS_le (l := l.take k) (fun d hd' => hd d (List.mem_of_mem_take hd'))
    have h2 := dnS_le (l := l.take k) (fun d hd' => hd d (List.mem_of_mem_take hd'))
    have h3 := upS_pos (l.take k)
    have h4 := dnS_pos (l.take k)
    rw [List.length_take] at h1 h2
    omega
  have hall : l.take l.length = l := List.take_length
  have hel : ∀ k (hk : k < l.length), -32768 ≤ l[k] ∧ l[k] ≤ 32767 := fun k hk => hd _ (List.getElem_mem hk)
  replace hc := Lib.hid hc
  replace hstep := Lib.hid hstep
  replace hbd := Lib.hid hbd
  replace hel := Lib.hid hel
  replace hall := Lib.hid hall
  clear h hd
  go_enter Try.func32, Try.ntmps32
  go_wp2_with fail
  go_loopw [4, 5, 10] (fun u d i wr => wr = w ∧ ∃ k : Nat, k ≤ l.length ∧ i = .int .i64 k ∧ u = .int .i64 (upS (l.take k)) ∧ d = .int .i64 (dnS (l.take k))) (fun _ _ i _ => l.length - (intOf i).toNat)
  case atStart => exact ⟨rfl, 0, Nat.zero_le _, rfl, rfl, rfl⟩
  case round =>
    obtain ⟨rfl, k, hk, rfl, rfl, rfl⟩ := hrel
    by_cases hlt : k < l.length
    · obtain ⟨g, rfl, hcell⟩ := hc.out (by omega)
      have p0 := hcell k hlt
      obtain ⟨s1, s2⟩ := hstep.out k hlt
      have hb1 := hbd.out k hk
      have hb2 := hel.out k hlt
      generalize upS (l.take k) = u0 at *
      generalize dnS (l.take k) = d0 at *
      generalize l[k] = D at *
      have m1 : ∀ (ts : Array TypeId) (t : TypeId) (W : World), (Builtin.max_ ts t #[.int .i64 D, .int .i64 0]).run Try.prog W = .ok (.int .i64 (max D 0)) W := fun ts t W => by
        rw [run_max_int2]; congr 2; split <;> omega
      have m2 : ∀ (ts : Array TypeId) (t : TypeId) (W : World), (Builtin.max_ ts t #[.int .i64 (-D), .int .i64 0]).run Try.prog W = .ok (.int .i64 (max (-D) 0)) W := fun ts t W => by
        rw [run_max_int2]; congr 2; split <;> omega
      have i1 : IntKind.i64.wrap (-D) = -D := i64w (by omega) (by omega)
      have i2 : IntKind.i64.wrap (u0 + max D 0) = u0 + max D 0 := i64w (by omega) (by omega)
      have i3 : IntKind.i64.wrap (d0 + max (-D) 0) = d0 + max (-D) 0 := i64w (by omega) (by omega)
      replace s1 := Lib.hid s1
      replace s2 := Lib.hid s2
      clear hb1 hb2 hcell
      generalize max D 0 = e1 at *
      generalize max (-D) 0 = e2 at *
      go_wp2_with fail
      go_roundw
      case rel => exact ⟨by first | trivial | rfl, k + 1, by omega, by go_num, by rw [s1.out], by rw [s2.out]⟩
      case measure => simp [intOf]; omega
    · obtain rfl : k = l.length := by omega
      clear hlt hk
      go_wp2_with fail
      go_ret2
      exact ⟨by rw [hall.out]; rfl, Below.refl _ _⟩
end Go.Proofs.Ytodgnhkaglcjnaa.Cnt
