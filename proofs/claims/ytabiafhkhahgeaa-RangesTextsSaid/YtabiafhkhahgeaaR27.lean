/- The document's Text and Has. -/
import Derived.Test.YtabiafhkhahgeaaR25
namespace Go.Proofs.Ytabiafhkhahgeaa.Rng
open Go.RowKit Go.Lib
set_option linter.unusedVariables false
set_option linter.unusedSimpArgs false
set_option maxRecDepth 100000

set_option maxHeartbeats 1000000 in
theorem rtext_any (r : Rg) (s1 : r.f.length ≤ 1000) (s2 : r.t.length ≤ 1000) (w : World) :
    Calls Try.prog 14 #[.agg #[.string (tx r.f), .string (tx r.t)]] w fun e w' => e = .returned (.tuple #[.string (tx (textR r).1), .int .i64 (textR r).2]) ∧ Below w.heap.size w w' := by
  have hK := fun W => ref_check r s1 s2 W
  have hr := Lib.hid (show textR r = if okR r then (91 :: (r.f ++ 44 :: (r.t ++ [41])), 0) else ([], 2) from rfl)
  have hx := bx_new w (tx r.f) (tx r.t)
  unfold okE at hK
  clear s1 s2
  cases ho : okR r with
  | false =>
    rw [ho] at hK hr
    replace hK := Lib.hid (show ∀ W, Calls Try.prog 18 #[.agg #[.string (tx r.f), .string (tx r.t)]] W (fun e w' => e = .returned (.int .i64 2) ∧ Below W.heap.size W w') from hK)
    clear ho
    generalize textR r = x at *
    generalize tx r.f = s at *
    generalize tx r.t = t at *
    have hc := hx.cells
    obtain ⟨c0, c1⟩ := hc
    go_enter Try.func14, Try.ntmps14
    go_wp2_with (go_at_call 18; refine (hK.out _).mono ?_; rintro e w3 ⟨rfl, hb3⟩; have hx3 := hx.later hb3)
    go_ret2
    exact ⟨by rw [hr.out]; rfl, hx3.bel⟩
  | true =>
    obtain ⟨e1, e2, _⟩ := (okR_iff r).1 ho
    have l1 : (tx r.f).size ≤ 16 := by rw [tx_size]; exact endOk_len e1
    have l2 : (tx r.t).size ≤ 16 := by rw [tx_size]; exact endOk_len e2
    rw [ho] at hK hr
    replace hK := Lib.hid (show ∀ W, Calls Try.prog 18 #[.agg #[.string (tx r.f), .string (tx r.t)]] W (fun e w' => e = .returned (.int .i64 0) ∧ Below W.heap.size W w') from hK)
    have hT : (⟨#[91]⟩ : ByteArray) ++ tx r.f ++ ⟨#[44]⟩ ++ tx r.t ++ ⟨#[41]⟩ = tx (91 :: (r.f ++ 44 :: (r.t ++ [41]))) := by
      show tx [91] ++ tx r.f ++ tx [44] ++ tx r.t ++ tx [41] = _
      rw [tx_app, tx_app, tx_app, tx_app]
      simp [List.append_assoc]
    replace hT := Lib.hid hT
    replace hr := Lib.hid (show textR r = (91 :: (r.f ++ 44 :: (r.t ++ [41])), 0) from hr.out)
    clear ho e1 e2
    generalize hy : tx (91 :: (r.f ++ 44 :: (r.t ++ [41]))) = y at *
    replace hy := Lib.hid hy
    generalize tx r.f = s at *
    generalize tx r.t = t at *
    obtain ⟨c0, c1⟩ := hx.cells
    have m1 : ¬ 9223372036854775807 < 1 + s.size := by omega
    have m2 : ¬ 9223372036854775807 < 1 + s.size + 1 := by omega
    have m3 : ¬ 9223372036854775807 < 1 + s.size + 1 + t.size := by omega
    have m4 : ¬ 9223372036854775807 < 1 + s.size + 1 + t.size + 1 := by omega
    go_enter Try.func14, Try.ntmps14
    go_wp2_with (go_at_call 18; refine (hK.out _).mono ?_; rintro e w3 ⟨rfl, hb3⟩; have hx3 := hx.later hb3; obtain ⟨d0, d1⟩ := hx3.cells)
    go_ret2
    exact ⟨by rw [hr.out, hy.out]; exact congrArg (fun z => Ending.returned (.tuple #[.string z, .int .i64 0])) hT.out, hx3.bel⟩
set_option maxHeartbeats 2000000 in
theorem rhas_any (r : Rg) (k : List UInt8) (s1 : shortR r = true) (hk : k.length ≤ 1000) (w : World) :
    Calls Try.prog 20 #[.agg #[.string (tx r.f), .string (tx r.t)], .string (tx k)] w fun e w' => e = .returned (.bool (hasR r k)) ∧ Below w.heap.size w w' := by
  have hr : hasR r k = (okR r && (nameOk k && (!bl k r.f && (r.t.isEmpty || bl k r.t)))) := by
    unfold hasR
    rw [le_not, cmp_hi]
    cases hn : nameOk k with
    | false => simp
    | true =>
      have : k.isEmpty = false := by
        cases k with
        | nil => have := (nameOk_len hn).1; simp at this
        | cons => rfl
      rw [this]
      simp [Bool.and_assoc]
  obtain ⟨l1, l2⟩ := short_lens s1
  have hC := fun W => ref_check r l1 l2 W
  unfold okE at hC
  have hN := fun W => ref_name k (by omega) W
  have f1 : Op.bytesLess (tx k).toList (tx r.f).toList = bl k r.f := by rw [tx_l, tx_l]; rfl
  have f2 : Op.bytesLess (tx k).toList (tx r.t).toList = bl k r.t := by rw [tx_l, tx_l]; rfl
  have e2 : ((tx r.t).toList == []) = r.t.isEmpty := by rw [tx_l]; cases r.t <;> rfl
  have e2' : (tx r.t).toList.isEmpty = r.t.isEmpty := by rw [tx_l]
  have hx := bx_new w (tx r.f) (tx r.t)
  clear s1 hk l1 l2
  generalize hasR r k = c at *
  generalize okR r = z at *
  generalize nameOk k = n at *
  generalize bl k r.f = b1 at *
  generalize bl k r.t = b2 at *
  generalize r.t.isEmpty = e at *
  generalize tx r.f = s at *
  generalize tx r.t = t at *
  generalize tx k = y at *
  replace hr := Lib.hid hr
  cases z
  case' true =>
    cases n
    case' true =>
      cases b1
      case' false => cases e
  all_goals
    have hC' := Lib.hid (show ∀ W, Calls Try.prog 18 #[.agg #[.string s, .string t]] W (fun e w' => e = .returned (.int .i64 _) ∧ Below W.heap.size W w') from hC)
    clear hC
    obtain ⟨c0, c1⟩ := hx.cells
    replace hN := Lib.hid hN
    go_enter Try.func20, Try.ntmps20
    go_wp2_with (first
      | (go_at_call 18; refine (hC'.out _).mono ?_; rintro e w3 ⟨rfl, hb3⟩; have hx3 := hx.later hb3; obtain ⟨d0, d1⟩ := hx3.cells)
      | (go_at_call 35; refine (hN.out _).mono ?_; rintro e w' ⟨rfl, rfl⟩))
    go_ret
    exact ⟨by rw [hr.out]; rfl, hx3.bel⟩
end Go.Proofs.Ytabiafhkhahgeaa.Rng
