/- Several writers, readers and slices beside each other: what is known of all of them in a world. -/
import Derived.Test.YtnkmiigcglddmaaW10
namespace Go.Proofs.Ytnkmiigcglddmaa.Wire
open Go.RowKit Go.ChangeShapes
set_option linter.unusedVariables false
set_option linter.unusedSimpArgs false

/-- What is said of the blocks F of a world. -/
abbrev Asrt := (Nat → Prop) → World → Prop
/-- It stays where its blocks stay. -/
def Stable (A : Asrt) : Prop := ∀ (F G : Nat → Prop) (w w' : World), A F w → Same F w w' → w.heap.size ≤ w'.heap.size → (∀ k, F k → G k) → (∀ k, G k → k < w'.heap.size) → A G w'
def Wr (T : TypeId) (p : Nat) (l : List Nat) : Asrt := fun F w => ∃ v, WrAt T w p F v l
def Rd (T : TypeId) (mk : Bool → Value → Array Value) (p : Nat) (st : Option (List Nat)) : Asrt := fun F w => ∃ v, RdAt T mk w p F v st
def By (v : Value) (l : List Nat) : Asrt := fun F w => Bs w F v l ∧ ∀ k, F k → k < w.heap.size
/-- A slice of the call's own, which may be appended to or cleared. -/
def Ow (v : Value) (l : List Nat) : Asrt := fun F w => w.ownsRow 0 5 1 v l.length (bv l) ∧ (∀ c ∈ l, c < 256) ∧ (∀ g, v.ownBlock = some g → F g) ∧ ∀ k, F k → k < w.heap.size
theorem stable_wr (T : TypeId) (p : Nat) (l : List Nat) : Stable (Wr T p l) := fun F G w w' ⟨v, h⟩ hs hz hG hl => ⟨v, (h.kept hs hz).wide hG hl⟩
theorem stable_rd (T : TypeId) (mk : Bool → Value → Array Value) (p : Nat) (st : Option (List Nat)) : Stable (Rd T mk p st) := fun F G w w' ⟨v, h⟩ hs hz hG hl =>
  have k := h.kept hs hz
  ⟨v, k.blk, k.bs.wide (fun i hi => ⟨hG i hi.1, hi.2⟩), hG p k.fp, hl⟩
theorem stable_by (v : Value) (l : List Nat) : Stable (By v l) := fun F G w w' h hs hz hG hl => ⟨(h.1.kept hs).wide hG, hl⟩
theorem stable_ow (v : Value) (l : List Nat) : Stable (Ow v l) := fun F G w w' h hs hz hG hl => ⟨own_kept h.1 (fun k hk => hs k (h.2.2.1 k hk)), h.2.1, fun g hg => hG g (h.2.2.1 g hg), hl⟩

def All : List Asrt → (Nat → Prop) → World → Prop
  | [], _, _ => True
  | A :: L, G, w => ∃ F : Nat → Prop, (∀ k, F k → G k) ∧ A F w ∧ Stable A ∧ All L (fun k => G k ∧ ¬ F k) w
theorem All.frame : ∀ {L : List Asrt} {G G' : Nat → Prop} {w w' : World}, All L G w → Same G w w' → w.heap.size ≤ w'.heap.size → (∀ k, G k → G' k) → (∀ k, G k → k < w'.heap.size) → All L G' w'
  | [], _, _, _, _, _, _, _, _, _ => trivial
  | A :: L, G, G', w, w', ⟨F, hF, hA, hS, hL⟩, hs, hz, hG, hlt =>
    ⟨F, fun k hk => hG k (hF k hk), hS F F w w' hA (fun k hk => hs k (hF k hk)) hz (fun k hk => hk) (fun k hk => hlt k (hF k hk)), hS,
      hL.frame (fun k hk => hs k hk.1) hz (fun k hk => ⟨hG k hk.1, hk.2⟩) (fun k hk => hlt k hk.1)⟩
theorem All.mono {L : List Asrt} {G G' : Nat → Prop} {w : World} (h : All L G w) (hG : ∀ k, G k → G' k) (hlt : ∀ k, G k → k < w.heap.size) : All L G' w := h.frame (fun _ _ => rfl) (Nat.le_refl _) hG hlt
theorem All.swap {A B : Asrt} {L : List Asrt} {G : Nat → Prop} {w : World} (h : All (A :: B :: L) G w) (hlt : ∀ k, G k → k < w.heap.size) : All (B :: A :: L) G w := by
  obtain ⟨F1, h1, hA, hSA, F2, h2, hB, hSB, hL⟩ := h
  refine ⟨F2, fun k hk => (h2 k hk).1, hB, hSB, F1, fun k hk => ⟨h1 k hk, fun hk2 => (h2 k hk2).2 hk⟩, hA, hSA, hL.mono (fun k hk => ⟨⟨hk.1.1, hk.2⟩, hk.1.2⟩) (fun k hk => hlt k hk.1.1)⟩
/-- Since w0 all that was there is as it was, and what is new holds the things of L, apart from each other. -/
structure Has (w0 W : World) (L : List Asrt) : Prop where
  bel : Below w0.heap.size w0 W
  all : All L (New w0 W) W
theorem Has.start (w : World) : Has w w [] := ⟨Below.refl _ _, trivial⟩
theorem Has.swap {w0 W : World} {A B : Asrt} {L : List Asrt} (h : Has w0 W (A :: B :: L)) : Has w0 W (B :: A :: L) := ⟨h.bel, h.all.swap fun k hk => hk.2⟩
theorem Has.below {w0 W W' : World} {L : List Asrt} (h : Has w0 W L) (hb : Below W.heap.size W W') : Has w0 W' L :=
  ⟨h.bel.trans (hb.mono h.bel.size), h.all.frame (fun k hk => hb.block k hk.2) hb.size (fun k hk => ⟨hk.1, Nat.lt_of_lt_of_le hk.2 hb.size⟩) (fun k hk => Nat.lt_of_lt_of_le hk.2 hb.size)⟩
theorem Has.alloc {w0 W : World} {L : List Asrt} (h : Has w0 W L) (o : Obj) : Has w0 (W.alloc o) L := h.below ((Below.refl _ _).alloc (Nat.le_refl _) _)
theorem Has.drew {w0 W : World} {L : List Asrt} (h : Has w0 W L) : Has w0 W.drew L := h.below (Below.refl _ _).drew
theorem Has.drop {w0 W : World} {A : Asrt} {L : List Asrt} (h : Has w0 W (A :: L)) : Has w0 W L := by
  obtain ⟨hb, F, hF, hA, hS, hL⟩ := h
  exact ⟨hb, hL.mono (fun k hk => hk.1) (fun k hk => hk.1.2)⟩
theorem Has.add {w0 W W' : World} {A : Asrt} {L : List Asrt} (h : Has w0 W L) (hb : Below W.heap.size W W') (hS : Stable A) (hA : A (New W W') W') : Has w0 W' (A :: L) := by
  have h2 := h.below hb
  refine ⟨h2.bel, New W W', fun k hk => ⟨Nat.le_trans h.bel.size hk.1, hk.2⟩, hA, hS, ?_⟩
  exact h.all.frame (fun k hk => hb.block k hk.2) hb.size (fun k hk => ⟨⟨hk.1, Nat.lt_of_lt_of_le hk.2 hb.size⟩, fun hk2 => by have := hk2.1; have := hk.2; omega⟩) (fun k hk => Nat.lt_of_lt_of_le hk.2 hb.size)
/-- The first thing is changed; the others stay. -/
theorem Has.step {w0 W : World} {A : Asrt} {L : List Asrt} (h : Has w0 W (A :: L)) : ∃ F, A F W ∧ (∀ k, F k → k < W.heap.size) ∧ ∀ (A' : Asrt) (W' : World), Stable A' → A' (More F W W') W' → Keeps F W W' → Has w0 W' (A' :: L) := by
  obtain ⟨hb, F, hF, hA, hS, hL⟩ := h
  refine ⟨F, hA, fun k hk => (hF k hk).2, fun A' W' hS' hA' hk => ⟨?_, More F W W', fun k hk' => ?_, hA', hS', ?_⟩⟩
  · exact hb.trans (hk.below hb.size fun k hk => (hF k hk).1)
  · rcases hk' with hk' | hk'
    · exact ⟨(hF k hk').1, Nat.lt_of_lt_of_le (hF k hk').2 hk.size⟩
    · exact ⟨Nat.le_trans hb.size hk'.1, hk'.2⟩
  · refine hL.frame (fun k hk' => hk.block k hk'.1.2 hk'.2) hk.size (fun k hk' => ⟨⟨hk'.1.1, Nat.lt_of_lt_of_le hk'.1.2 hk.size⟩, ?_⟩) (fun k hk' => Nat.lt_of_lt_of_le hk'.1.2 hk.size)
    rintro (h1 | h1)
    · exact hk'.2 h1
    · have := hk'.1.2; have := h1.1; omega
/-- The first thing, as it is. -/
theorem Has.fst {w0 W : World} {A : Asrt} {L : List Asrt} (h : Has w0 W (A :: L)) : ∃ F, A F W ∧ ∀ k, F k → k < W.heap.size := by
  obtain ⟨hb, F, hF, hA, hS, hL⟩ := h; exact ⟨F, hA, fun k hk => (hF k hk).2⟩

/-! The program's writer. -/
def Hs (w0 : World) (x : Value) (L : List Asrt) (e : Ending) (w' : World) : Prop := e = .returned x ∧ Has w0 w' L
def pt (p : Nat) : Value := .pointer (some ⟨p, 0, none⟩)
theorem h_new (w0 W : World) (L : List Asrt) (h : Has w0 W L) : Calls Try.prog 14 #[] W fun e W' => ∃ p, e = .returned (.pointer (some ⟨p, 0, none⟩)) ∧ Has w0 W' (Wr TW p [] :: L) :=
  (new_any W).mono fun e W' ⟨he, hw, hb⟩ => ⟨_, he, h.add hb (stable_wr _ _ _) ⟨_, hw⟩⟩
theorem h_uint (w0 W : World) (L : List Asrt) (p : Nat) (l : List Nat) (n : Nat) (h : Has w0 W (Wr TW p l :: L)) (hn : n < 18446744073709551616) (hl : l.length ≤ 100000000) :
    Calls Try.prog 30 #[.pointer (some ⟨p, 0, none⟩), .int .u64 n] W (Hs w0 (.tuple #[]) (Wr TW p (l ++ digs n) :: L)) := by
  obtain ⟨F, ⟨v, hv⟩, _, hst⟩ := h.step
  exact (uint_any p F v l n W hv hn hl).mono fun e W' ⟨he, hw, hk⟩ => ⟨he, hst _ W' (stable_wr _ _ _) hw hk⟩
theorem h_int (w0 W : World) (L : List Asrt) (p : Nat) (l : List Nat) (a : Int) (h : Has w0 W (Wr TW p l :: L)) (ha : I64 a) (hl : l.length ≤ 100000000) :
    Calls Try.prog 31 #[.pointer (some ⟨p, 0, none⟩), .int .i64 a] W (Hs w0 (.tuple #[]) (Wr TW p (l ++ digs (zig a)) :: L)) := by
  obtain ⟨F, ⟨v, hv⟩, _, hst⟩ := h.step
  exact (int_any p F v l a W hv ha hl).mono fun e W' ⟨he, hw, hk⟩ => ⟨he, hst _ W' (stable_wr _ _ _) hw hk⟩
theorem h_bool (w0 W : World) (L : List Asrt) (p : Nat) (l : List Nat) (b : Bool) (h : Has w0 W (Wr TW p l :: L)) (hl : l.length ≤ 100000000) :
    Calls Try.prog 33 #[.pointer (some ⟨p, 0, none⟩), .bool b] W (Hs w0 (.tuple #[]) (Wr TW p (l ++ digs (if b then 1 else 0)) :: L)) := by
  obtain ⟨F, ⟨v, hv⟩, _, hst⟩ := h.step
  exact (bool_any p F v l b W hv hl).mono fun e W' ⟨he, hw, hk⟩ => ⟨he, hst _ W' (stable_wr _ _ _) hw hk⟩
theorem h_text (w0 W : World) (L : List Asrt) (p : Nat) (l : List Nat) (s : ByteArray) (h : Has w0 W (Wr TW p l :: L)) (hl : l.length ≤ 100000000) (hs : s.size ≤ 100000000) :
    Calls Try.prog 32 #[.pointer (some ⟨p, 0, none⟩), .string s] W (Hs w0 (.tuple #[]) (Wr TW p (l ++ (digs s.size ++ sb s)) :: L)) := by
  obtain ⟨F, ⟨v, hv⟩, _, hst⟩ := h.step
  exact (text_any p F v l s W hv hl (by omega) hs).mono fun e W' ⟨he, hw, hk⟩ => ⟨he, hst _ W' (stable_wr _ _ _) hw hk⟩
theorem h_bytes (w0 W : World) (L : List Asrt) (p : Nat) (l : List Nat) (h : Has w0 W (Wr TW p l :: L)) (hl : l.length ≤ 100000000) :
    Calls Try.prog 20 #[.pointer (some ⟨p, 0, none⟩)] W fun e W' => ∃ a c, e = .returned (.slice a l.length c) ∧ Has w0 W' (Ow (.slice a l.length c) l :: Wr TW p l :: L) := by
  obtain ⟨F, ⟨v, hv⟩, _⟩ := h.fst
  refine (bytes_any p F v l W hv hl).mono fun e W' ⟨v1, he, ho, hb⟩ => ?_
  obtain ⟨a, c, rfl⟩ := own_form ho
  refine ⟨a, c, he, h.add hb (stable_ow _ _) ⟨⟨ho.1, ?_⟩, hv.h8, fun g hg => own_lt ho g hg, fun k hk => hk.2⟩⟩
  rcases ho.2 with h1 | ⟨g, cap, cur, h1, _, h2⟩
  · exact .inl h1
  · exact .inr ⟨g, cap, cur, h1, Nat.zero_le _, h2⟩
theorem h_len (w0 W : World) (L : List Asrt) (p : Nat) (l : List Nat) (h : Has w0 W (Wr TW p l :: L)) :
    Calls Try.prog 17 #[.pointer (some ⟨p, 0, none⟩)] W fun e W' => e = .returned (.int .i64 (l.length : Nat)) ∧ W = W' := by
  obtain ⟨F, ⟨v, hv⟩, _⟩ := h.fst
  exact len_any p F v l W hv

/-! The program's reader. -/
theorem h_read (w0 W : World) (L : List Asrt) (F : Nat → Prop) (v : Value) (l : List Nat) (h : Has w0 W L) (hv : Bs W F v l) (hF : ∀ k, F k → k < W.heap.size) (hl : l.length ≤ 100000000) :
    Calls Try.prog 23 #[v] W fun e W' => ∃ p, e = .returned (.pointer (some ⟨p, 0, none⟩)) ∧ Has w0 W' (Rd TR mkP p (some l) :: L) ∧ Below W.heap.size W W' :=
  (read_any F v l W hv hF hl).mono fun e W' ⟨p, v', he, hr, hb⟩ => ⟨p, he, h.add hb (stable_rd _ _ _ _) ⟨v', hr⟩, hb⟩
theorem took_has {w0 W W' : World} {L : List Asrt} {F : Nat → Prop} {T : TypeId} {mk : Bool → Value → Array Value} {p : Nat} {x : Value} {st : Option (List Nat)} {e : Ending} (hF : ∀ k, F k → k < W.heap.size)
    (hst : ∀ (A' : Asrt) (W' : World), Stable A' → A' (More F W W') W' → Keeps F W W' → Has w0 W' (A' :: L)) (h : Took T mk W p F x st e W') : Hs w0 x (Rd T mk p st :: L) e W' := by
  obtain ⟨he, ⟨v, hr⟩, hk⟩ := h
  exact ⟨he, hst _ W' (stable_rd _ _ _ _) (stable_rd T mk p st F (More F W W') W' W' ⟨v, hr⟩ (fun _ _ => rfl) (Nat.le_refl _) (fun k hk => .inl hk) (More.lt hF hk.size)) hk⟩
theorem h_fail (w0 W : World) (L : List Asrt) (p : Nat) (st : Option (List Nat)) (h : Has w0 W (Rd TR mkP p st :: L)) :
    Calls Try.prog 34 #[.pointer (some ⟨p, 0, none⟩)] W (Hs w0 (.tuple #[]) (Rd TR mkP p none :: L)) := by
  obtain ⟨F, ⟨v, hv⟩, hF, hst⟩ := h.step
  exact (fail_any p F v st W hv).mono fun e W' ht => took_has hF hst ht
theorem h_left (w0 W : World) (L : List Asrt) (p : Nat) (st : Option (List Nat)) (h : Has w0 W (Rd TR mkP p st :: L)) :
    Calls Try.prog 25 #[.pointer (some ⟨p, 0, none⟩)] W fun e W' => e = .returned (.int .i64 ((st.getD []).length : Nat)) ∧ W = W' := by
  obtain ⟨F, ⟨v, hv⟩, _⟩ := h.fst
  exact left_any p F v st W hv
theorem h_end (w0 W : World) (L : List Asrt) (p : Nat) (st : Option (List Nat)) (h : Has w0 W (Rd TR mkP p st :: L)) :
    Calls Try.prog 27 #[.pointer (some ⟨p, 0, none⟩)] W fun e W' => e = .returned (.int .i64 (endE st)) ∧ W = W' := by
  obtain ⟨F, ⟨v, hv⟩, _⟩ := h.fst
  exact end_any p F v st W hv
theorem h_ruint (w0 W : World) (L : List Asrt) (p : Nat) (st st' : Option (List Nat)) (x : Nat) (hx : stepR 0 rdU st = (x, st')) (h : Has w0 W (Rd TR mkP p st :: L)) (hl : (st.getD []).length ≤ 1000000000) :
    Calls Try.prog 35 #[.pointer (some ⟨p, 0, none⟩)] W (Hs w0 (.int .u64 (x : Nat)) (Rd TR mkP p st' :: L)) := by
  obtain ⟨F, ⟨v, hv⟩, hF, hst⟩ := h.step
  have := ruint_any p F v st W hv hl
  rw [hx] at this
  exact this.mono fun e W' ht => took_has hF hst ht
theorem h_rint (w0 W : World) (L : List Asrt) (p : Nat) (st st' : Option (List Nat)) (x : Int) (hx : stepR 0 rdI st = (x, st')) (h : Has w0 W (Rd TR mkP p st :: L)) (hl : (st.getD []).length ≤ 1000000000) :
    Calls Try.prog 36 #[.pointer (some ⟨p, 0, none⟩)] W (Hs w0 (.int .i64 x) (Rd TR mkP p st' :: L)) := by
  obtain ⟨F, ⟨v, hv⟩, hF, hst⟩ := h.step
  have := rint_any p F v st W hv hl
  rw [hx] at this
  exact this.mono fun e W' ht => took_has hF hst ht
theorem h_rtext (w0 W : World) (L : List Asrt) (p : Nat) (st st' : Option (List Nat)) (x : List Nat) (hx : stepR [] rdT st = (x, st')) (h : Has w0 W (Rd TR mkP p st :: L)) (hl : (st.getD []).length ≤ 1000000000) :
    Calls Try.prog 37 #[.pointer (some ⟨p, 0, none⟩)] W (Hs w0 (.string (str x)) (Rd TR mkP p st' :: L)) := by
  obtain ⟨F, ⟨v, hv⟩, hF, hst⟩ := h.step
  have := rtext_any p F v st W hv hl
  rw [hx] at this
  exact this.mono fun e W' ht => took_has hF hst ht
theorem h_rbool (w0 W : World) (L : List Asrt) (p : Nat) (st st' : Option (List Nat)) (x : Bool) (hx : stepR false rdB st = (x, st')) (h : Has w0 W (Rd TR mkP p st :: L)) (hl : (st.getD []).length ≤ 1000000000) :
    Calls Try.prog 38 #[.pointer (some ⟨p, 0, none⟩)] W (Hs w0 (.bool x) (Rd TR mkP p st' :: L)) := by
  obtain ⟨F, ⟨v, hv⟩, hF, hst⟩ := h.step
  have := rbool_any p F v st W hv hl
  rw [hx] at this
  exact this.mono fun e W' ht => took_has hF hst ht
end Go.Proofs.Ytnkmiigcglddmaa.Wire
