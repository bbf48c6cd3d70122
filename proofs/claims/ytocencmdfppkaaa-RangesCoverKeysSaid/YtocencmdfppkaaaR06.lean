/- checkAll: are all ranges of a slice valid? -/
import Derived.Test.YtocencmdfppkaaaR05
import Derived.LoopTactic
namespace Go.Proofs.Ytocencmdfppkaaa.Rng
open Go.RowKit Go.Lib
set_option linter.unusedVariables false
set_option linter.unusedSimpArgs false
set_option maxRecDepth 20000

/-- A slice that reads as a list of ranges. -/
def Rs (w : World) (v : Value) (l : List Rg) : Prop :=
  ∃ a cap, v = .slice a l.length cap ∧ (0 < l.length → ∃ b off, a = some ⟨b, off, none⟩ ∧ ∀ i r, l[i]? = some r → w.cell? ⟨b, off + i * 2, none⟩ = some (.string (tx r.f)) ∧ w.cell? ⟨b, off + i * 2 + 1, none⟩ = some (.string (tx r.t)))
theorem Rs.later {w w' : World} {v : Value} {l : List Rg} (h : Rs w v l) (hb : Below w.heap.size w w') : Rs w' v l := by
  obtain ⟨a, cap, rfl, hc⟩ := h
  refine ⟨a, cap, rfl, fun hp => ?_⟩
  obtain ⟨b, off, rfl, hd⟩ := hc hp
  refine ⟨b, off, rfl, fun i r hr => ?_⟩
  obtain ⟨h1, h2⟩ := hd i r hr
  have hlt : b < w.heap.size := World.block_lt_of_cell? w _ h1
  exact ⟨(hb.cell (p := ⟨b, off + i * 2, none⟩) hlt).trans h1, (hb.cell (p := ⟨b, off + i * 2 + 1, none⟩) hlt).trans h2⟩
theorem bad_rng (r : Rg) (w : World) :
    Calls Try.prog 56 #[.agg #[.string (tx r.f), .string (tx r.t)]] w fun e w' => e = .returned (.bool (!okR r)) ∧ Below w.heap.size w w' := by
  have hC := Lib.hid (fun W => check_any r W)
  have hx := bx_new w (tx r.f) (tx r.t)
  have hr := Lib.hid (show okE r = if okR r then 0 else 2 from rfl)
  generalize tx r.f = s at *
  generalize tx r.t = t at *
  generalize okR r = z at *
  generalize okE r = c at *
  have hc0 := hx.cells.1
  have hc1 := hx.cells.2
  cases z
  all_goals
    obtain rfl := hr.out
    go_enter Try.func56, Try.ntmps56
    go_wp2_with (go_at_call 17; refine (hC.out _).mono ?_; rintro e w1 ⟨rfl, hb1⟩; have hx1 := hx.later hb1)
    go_ret
    exact ⟨rfl, hx1.bel⟩
def SomeIdx (l : List Rg) (w : World) (e : Ending) (w' : World) : Prop := ∃ k : Int, e = .returned (.int .i64 k) ∧ decide (0 ≤ k) = !l.all okR ∧ Below w.heap.size w w'
set_option maxHeartbeats 1000000 in
theorem idx_any (v : Value) (l : List Rg) (w : World) (h : Rs w v l) (hl : l.length ≤ 1000) :
    Calls Try.prog 65 #[v, .func (.func 56) #[] #[]] w (SomeIdx l w) := by
  have hR := Lib.hid h
  obtain ⟨a, cap, rfl, hc⟩ := h
  replace hc := Lib.hid hc
  have hB := Lib.hid (fun r W => bad_rng r W)
  have hS : ∀ k (hk : k < l.length), (l.take k).all okR = true → okR l[k] = true → (l.take (k + 1)).all okR = true := by
    intro k hk h1 h2
    rw [List.take_succ_eq_append_getElem hk, List.all_append, h1]; simp [h2]
  have hF : ∀ k (hk : k < l.length), okR l[k] = false → l.all okR = false := fun k hk h => List.all_eq_false.2 ⟨l[k], List.getElem_mem hk, by simp [h]⟩
  have hE : (l.take l.length).all okR = true → l.all okR = true := by rw [List.take_length]; exact id
  replace hS := Lib.hid hS
  replace hF := Lib.hid hF
  replace hE := Lib.hid hE
  go_enter Try.func65, Try.ntmps65
  go_wp2
  go_loopw [5, 8] (fun i j wr => ∃ k : Nat, k ≤ l.length ∧ j = .int .i64 k ∧ (l.take k).all okR = true ∧ Below w.heap.size w wr) (fun _ j _ => l.length - (intOf j).toNat)
  case atStart => exact ⟨0, Nat.zero_le _, rfl, rfl, Below.refl _ _⟩
  case round =>
    obtain ⟨k, hk, rfl, hall, hb⟩ := hrel
    replace hall := Lib.hid hall
    by_cases hlt : k < l.length
    · obtain ⟨b, off, rfl, hd⟩ := hc.out (by omega)
      obtain ⟨d0, d1⟩ := hd k l[k] (List.getElem?_eq_getElem hlt)
      have hbl : b < w.heap.size := World.block_lt_of_cell? w _ d0
      have c0 := (hb.cell (p := ⟨b, off + k * 2, none⟩) hbl).trans d0
      have c1 := (hb.cell (p := ⟨b, off + k * 2 + 1, none⟩) hbl).trans d1
      have HB := Lib.hid (fun W => hB.out l[k] W)
      have hs := Lib.hid (hS.out k hlt hall.out)
      have hf := Lib.hid (hF.out k hlt)
      clear hd d0 d1
      generalize tx l[k].f = s at *
      generalize tx l[k].t = t at *
      cases ho : okR l[k]
      · have hf := Lib.hid (hf.out ho)
        rw [ho] at HB
        clear ho hs
        go_wp2_with (go_at_call 56; refine (HB.out _).mono ?_; rintro e w1 ⟨rfl, hb1⟩)
        go_ret
        exact ⟨(k : Nat), rfl, by rw [hf.out]; simp, hb.trans (hb1.mono hb.size)⟩
      · have hs := Lib.hid (hs.out ho)
        rw [ho] at HB
        clear ho hf
        go_wp2_with (go_at_call 56; refine (HB.out _).mono ?_; rintro e w1 ⟨rfl, hb1⟩)
        go_roundw
        case rel => exact ⟨k + 1, by omega, by go_num, hs.out, hb.trans (hb1.mono hb.size)⟩
        case measure => simp [intOf]; omega
    · obtain rfl : k = l.length := by omega
      have hn := Lib.hid (hE.out hall.out)
      clear hlt
      go_wp2
      go_ret
      exact ⟨-1, rfl, by rw [hn.out]; rfl, hb⟩
theorem contains_any (v : Value) (l : List Rg) (w : World) (h : Rs w v l) (hl : l.length ≤ 1000) :
    Calls Try.prog 55 #[v, .func (.func 56) #[] #[]] w fun e w' => e = .returned (.bool (!l.all okR)) ∧ Below w.heap.size w w' := by
  have hI := Lib.hid (idx_any v l w h hl)
  obtain ⟨a, cap, rfl, hc⟩ := h
  clear hc
  generalize l.length = n at *
  generalize hz : (!l.all okR) = z at *
  replace hz := Lib.hid hz
  go_enter Try.func55, Try.ntmps55
  go_wp2_with (go_at_call 65; refine hI.out.mono ?_; rintro e w1 ⟨k, rfl, hk, hb1⟩; rw [hz.out] at hk)
  go_ret
  exact ⟨by first | rfl | (rw [← hk]; rfl), hb1⟩
def okL (l : List Rg) : Int := if l.all okR then 0 else 2
theorem all_any (v : Value) (l : List Rg) (w : World) (h : Rs w v l) (hl : l.length ≤ 1000) :
    Calls Try.prog 38 #[v] w fun e w' => e = .returned (.int .i64 (okL l)) ∧ Below w.heap.size w w' := by
  have hI := Lib.hid (contains_any v l w h hl)
  have hr := Lib.hid (show okL l = if l.all okR then 0 else 2 from rfl)
  obtain ⟨a, cap, rfl, hc⟩ := h
  clear hc
  generalize l.length = n at *
  generalize okL l = c at *
  generalize l.all okR = z at *
  cases z
  all_goals
    obtain rfl := hr.out
    go_enter Try.func38, Try.ntmps38
    go_wp2_with (go_at_call 55; refine hI.out.mono ?_; rintro e w1 ⟨rfl, hb1⟩)
    go_ret
    exact ⟨rfl, hb1⟩
end Go.Proofs.Ytocencmdfppkaaa.Rng
