/- Plain facts: the first missing slot; what a move does; rows of 32 texts; the value of a move. -/
import Derived.Test.YtgeejkedljhcoaaT10
namespace Go.Proofs.Ytgeejkedljhcoaa.Slt
open Go.RowKit Go.Maps Go.Lib
set_option linter.unusedVariables false
set_option linter.unusedSimpArgs false
set_option maxRecDepth 100000

/-! The first missing slot. -/
theorem upTo_all (M : List Et) : ∀ (j : Nat) (i k : Int), i ≤ k → k < upTo M i j → (getM M k).isSome = true
  | 0, i, k, h1, h2 => by change k < i at h2; omega
  | j + 1, i, k, h1, h2 => by
    cases hi : (getM M i).isSome with
    | true =>
      rw [upTo_yes M i j hi] at h2
      by_cases e : k = i
      · rw [e]; exact hi
      · exact upTo_all M j (i + 1) k (by omega) h2
    | false =>
      rw [upTo_no M i (j + 1) hi] at h2
      omega
theorem upTo_end (M : List Et) : ∀ (j : Nat) (i : Int), (getM M (upTo M i j)).isSome = false ∨ upTo M i j = i + j
  | 0, i => .inr (by show i = i + (0 : Nat); omega)
  | j + 1, i => by
    cases hi : (getM M i).isSome with
    | true =>
      rw [upTo_yes M i j hi]
      rcases upTo_end M j (i + 1) with h | h
      · exact .inl h
      · exact .inr (by omega)
    | false => rw [upTo_no M i (j + 1) hi]; exact .inl hi
theorem OkS.has {s : St} (h : OkS s) {k : Int} (hk : (getM s.M k).isSome = true) : s.b ≤ k ∧ k < 4096 := by
  cases hg : getM s.M k with
  | none => rw [hg] at hk; cases hk
  | some e =>
    obtain ⟨h1, h2⟩ := (get_iff h.srt _ _).1 hg
    obtain ⟨h3, h4, _⟩ := h.ent e h1
    omega
theorem OkS.size {s : St} (h : OkS s) {k : Int} {e : Et} (hk : getM s.M k = some e) : e.k.size ≤ 65536 := by
  obtain ⟨h1, h2⟩ := (get_iff h.srt _ _).1 hk
  exact (h.ent e h1).2.2
theorem upto_has {s : St} {k : Int} (h1 : s.b ≤ k) (h2 : k < uptoV s) : (getM s.M k).isSome = true := upTo_all _ _ _ _ h1 h2
theorem upto_not {s : St} (h : OkS s) : (getM s.M (uptoV s)).isSome = false := by
  have hb := h.hb
  rcases upTo_end s.M (4096 - s.b).toNat s.b with h1 | h1
  · exact h1
  · cases hc : (getM s.M (uptoV s)).isSome with
    | false => rfl
    | true =>
      have := (h.has hc).2
      unfold uptoV at this
      omega
theorem upto_ge {s : St} (h : OkS s) {u : Int} (hall : ∀ k, s.b ≤ k → k < u → (getM s.M k).isSome = true) : u ≤ uptoV s := by
  by_cases hu : u ≤ uptoV s
  · exact hu
  · have := hall (uptoV s) (upto_le h).1 (by omega)
    rw [upto_not h] at this
    cases this
theorem upto_eq {s : St} (h : OkS s) {u : Int} (hb : s.b ≤ u) (hall : ∀ k, s.b ≤ k → k < u → (getM s.M k).isSome = true) (hn : (getM s.M u).isSome = false) : uptoV s = u := by
  have h1 := upto_ge h hall
  by_cases e : uptoV s = u
  · exact e
  · have := upto_has hb (show u < uptoV s by omega)
    rw [hn] at this
    cases this

/-! What puts and jumps do to it. -/
theorem put_ok {s : St} {k : Int} {v : ByteArray} (h : putE s k v = 0) : putS s k v = ⟨s.b, putM s.M ⟨k, v⟩⟩ := by unfold putS; rw [if_pos h]
theorem put_no {s : St} {k : Int} {v : ByteArray} (h : putE s k v ≠ 0) : putS s k v = s := by unfold putS; rw [if_neg h]
theorem put_b (s : St) (k : Int) (v : ByteArray) : (putS s k v).b = s.b := by unfold putS; split <;> rfl
theorem put_get {s : St} (h : OkS s) {k : Int} {v : ByteArray} (h0 : putE s k v = 0) (j : Int) : getM (putS s k v).M j = if j = k then some ⟨k, v⟩ else getM s.M j := by
  rw [put_ok h0]
  exact get_put h.srt ⟨k, v⟩ j
theorem put_upto {s : St} (h : OkS s) (k : Int) (v : ByteArray) : uptoV s ≤ uptoV (putS s k v) := by
  by_cases h0 : putE s k v = 0
  · refine upto_ge (ok_puts h k v) fun j h1 h2 => ?_
    rw [put_b] at h1
    rw [put_get h h0]
    split
    · rfl
    · exact upto_has h1 h2
  · rw [put_no h0]; exact Int.le_refl _
theorem rs_get {s : St} (h : OkS s) (u j : Int) : getM (rsS s u).M j = if u ≤ j then getM s.M j else none := get_fr h.srt u j
theorem rs_upto {s : St} (h : OkS s) {u : Int} (hu : u ≤ uptoV s) : uptoV (rsS s u) = uptoV s := by
  have hle := upto_le h
  refine upto_eq (ok_rs h (by omega)) (by show max s.b u ≤ _; omega) (fun k h1 h2 => ?_) ?_
  · change max s.b u ≤ k at h1
    rw [rs_get h, if_pos (by omega)]
    exact upto_has (by omega) h2
  · rw [rs_get h]
    split
    · exact upto_not h
    · rename_i h1; exact absurd hu h1
theorem put_val {s : St} {k : Int} {v : ByteArray} (hk : 0 ≤ k ∧ k < 4096) (hv : v.size ≤ 65536) : putE s k v = if k < s.b then 8 else if refV (getM s.M k) v then 9 else 0 := by
  unfold putE ckV
  rw [if_pos hk, if_neg (show ¬ 65536 < v.size by omega)]
  by_cases h1 : k < s.b
  · rw [if_pos h1, if_neg (by decide), if_pos h1]
  · rw [if_neg h1, if_pos rfl, if_neg h1]

/-! Rows of 32 texts. -/
abbrev T32 : TypeId := 49
def evC (ev : Nat → ByteArray) : Array Value := ((List.range 32).map fun i => Value.string (ev i)).toArray
def upd (ev : Nat → ByteArray) (k : Nat) (v : ByteArray) (j : Nat) : ByteArray := if j = k then v else ev j
theorem ev_size (ev : Nat → ByteArray) : (evC ev).size = 32 := by simp [evC]
theorem ev_get (ev : Nat → ByteArray) (i : Nat) (h : i < 32) : (evC ev)[i]? = some (.string (ev i)) := by simp [evC, h]
theorem ev_set (ev : Nat → ByteArray) (k : Nat) (v : ByteArray) (h : k < 32) : (evC ev).setIfInBounds k (.string v) = evC (upd ev k v) := by
  apply Array.ext_getElem?
  intro i
  rw [Array.getElem?_setIfInBounds]
  rcases Nat.lt_or_ge i 32 with hi | hi
  · rw [ev_get _ i hi, ev_get _ i hi, ev_size]
    unfold upd
    by_cases h1 : k = i
    · subst h1; rw [if_pos rfl, if_pos h, if_pos rfl]
    · rw [if_neg h1, if_neg (fun e => h1 e.symm)]
  · have e1 : (evC ev)[i]? = none := by rw [Array.getElem?_eq_none_iff, ev_size]; exact hi
    have e2 : (evC (upd ev k v))[i]? = none := by rw [Array.getElem?_eq_none_iff, ev_size]; exact hi
    rw [e1, e2, if_neg (by omega)]
theorem ev_index (ev : Nat → ByteArray) (k : Nat) (hk : k < 32) (w : World) : (Instr.index T32 (.agg (evC ev)) (.int .i64 k)).run Try.prog w = .ok (.string (ev k)) w := by
  have hsz : (Try.prog.info? TK).map (·.size) = some 1 := by kernel_rfl
  have hg := ev_get ev k hk
  simp [Instr.index, asIntOf, run_underlying Try.underlying49, run_underlying Try.underlying9, go_sem, hk, part, isAgg, hg]
theorem ev_hi (ev : Nat → ByteArray) : (Try.prog.info? T32).map (·.size) = some (evC ev).size := by rw [ev_size]; kernel_rfl

/-! The value of a move. -/
def valM (m : Mt) : ByteArray := ⟨#[UInt8.ofNat (97 + m.v % 3), UInt8.ofNat (48 + m.v % 2)]⟩
theorem val_size (m : Mt) : (valM m).size ≤ 65536 := by show 2 ≤ 65536; decide
theorem val_byte (n k : Nat) (h : n + k < 256) : ((UInt8.ofNat (n + k)).toNat : Int) = (n : Int) + (k : Int) := by
  have : (UInt8.ofNat (n + k)).toNat = n + k := by
    rw [UInt8.toNat_ofNat']
    exact Nat.mod_eq_of_lt (by omega)
  rw [this]
  omega
theorem conv_two (W : World) (g c : Nat) (b1 b2 : UInt8) (n1 n2 : Int) (h1 : n1 = (b1.toNat : Int)) (h2 : n2 = (b2.toNat : Int)) (c1 : W.cell? ⟨g, 0, none⟩ = some (.int .u8 n1)) (c2 : W.cell? ⟨g, 1, none⟩ = some (.int .u8 n2)) :
    (convert 58 9 (.slice (some ⟨g, 0, none⟩) 2 c)).run Try.prog W = .ok (.string ⟨#[b1, b2]⟩) W := by
  exact run_convert_bytes_back W 58 9 5 ⟨g, 0, none⟩ c [b1, b2] Try.underlying58 Try.underlying5 Try.underlying9 (fun j hj => by
    simp at hj
    match j, hj with
    | 0, _ => rw [addr_add, Nat.zero_add, c1, h1]; rfl
    | 1, _ => rw [addr_add, Nat.zero_add, c2, h2]; rfl)
set_option maxHeartbeats 1000000 in
theorem value_any (m : Mt) (hm : m.wf) (w : World) : Calls Try.prog 29 #[.agg (mA m)] w fun e w' => e = .returned (.string (valM m)) ∧ Below w.heap.size w w' := by
  have hb1 := val_byte 97 (m.v % 3) (by omega)
  have hb2 := val_byte 48 (m.v % 2) (by omega)
  unfold valM
  obtain ⟨k, s, v⟩ := m
  have hv : v ≤ 255 := hm.2.2
  simp only at hb1 hb2 ⊢
  have e1 : (v : Int).tmod 3 = ((v % 3 : Nat) : Int) := (Int.ofNat_tmod v 3).symm
  have e2 : (v : Int).tmod 2 = ((v % 2 : Nat) : Int) := (Int.ofNat_tmod v 2).symm
  have hl1 : v % 3 < 3 := Nat.mod_lt _ (by decide)
  have hl2 : v % 2 < 2 := Nat.mod_lt _ (by decide)
  generalize UInt8.ofNat (97 + v % 3) = b1 at *
  generalize UInt8.ofNat (48 + v % 2) = b2 at *
  generalize v % 3 = r at *
  generalize v % 2 = t at *
  have k1 : IntKind.u8.wrap (r : Int) = r := by rw [IntKind.wrap_u8]; omega
  have k2 : IntKind.u8.wrap (t : Int) = t := by rw [IntKind.wrap_u8]; omega
  have k3 : IntKind.u8.wrap (97 + (r : Int)) = 97 + (r : Int) := by rw [IntKind.wrap_u8]; omega
  have k4 : IntKind.u8.wrap (48 + (t : Int)) = 48 + (t : Int) := by rw [IntKind.wrap_u8]; omega
  have x1 := heap_alloc_new w (.cells #[.int .u8 (k : Nat), .int .u8 (s : Nat), .int .u8 (v : Nat)] TV)
  have y2 := cell_of_row _ _ 2 _ TV _ x1
  have hc := fun c => conv_two ((w.alloc (.cells #[.int .u8 (k : Nat), .int .u8 (s : Nat), .int .u8 (v : Nat)] TV)).alloc (.cells #[.int .u8 (97 + (r : Int)), .int .u8 (48 + (t : Int))] TU8)) (w.heap.size + 1) c b1 b2 _ _ hb1.symm hb2.symm
    (by have := cell_of_row _ _ 0 _ TU8 _ (heap_alloc_new (w.alloc (.cells #[.int .u8 (k : Nat), .int .u8 (s : Nat), .int .u8 (v : Nat)] TV)) (.cells #[.int .u8 (97 + (r : Int)), .int .u8 (48 + (t : Int))] TU8)); rw [World.size_alloc] at this; exact this)
    (by have := cell_of_row _ _ 1 _ TU8 _ (heap_alloc_new (w.alloc (.cells #[.int .u8 (k : Nat), .int .u8 (s : Nat), .int .u8 (v : Nat)] TV)) (.cells #[.int .u8 (97 + (r : Int)), .int .u8 (48 + (t : Int))] TU8)); rw [World.size_alloc] at this; exact this)
  have hbel := Lib.hid ((alloc_b w (.cells #[.int .u8 (k : Nat), .int .u8 (s : Nat), .int .u8 (v : Nat)] TV)).alloc (alloc_b w (.cells #[.int .u8 (k : Nat), .int .u8 (s : Nat), .int .u8 (v : Nat)] TV)).size (.cells #[.int .u8 (97 + (r : Int)), .int .u8 (48 + (t : Int))] TU8))
  clear hb1 hb2 hm x1
  go_enter Try.func29, Try.ntmps29
  go_wp2
  go_ret
  exact ⟨rfl, hbel.out⟩
end Go.Proofs.Ytgeejkedljhcoaa.Slt
