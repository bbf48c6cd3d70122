/- The walk of AcceptAgrees. -/
import Derived.Test.YtdodnejfjpkbcaaA13
import Derived.Deep.CutRange
import Derived.Deep.WholeRow
import Derived.StillTailTactics
namespace Go.Proofs.Ytdodnejfjpkbcaa.Acc
open Go.RowKit Go.Maps Go.Lib
open Bal (TB alloc_b)
set_option linter.unusedVariables false
set_option linter.unusedSimpArgs false
set_option maxRecDepth 100000

theorem zero12 : (Try.prog.info? T12).map (fun i => (i.zero, i.size)) = some (some (.agg (Array.ofFn fun i : Fin 72 => if i.val % 6 = 0 ∨ i.val % 6 = 5 then .int .u64 0 else if i.val % 6 = 4 then .string ⟨#[]⟩ else .int .i64 0)), 72) := by kernel_rfl
def z12 : Array Value := Array.ofFn fun i : Fin 72 => if i.val % 6 = 0 ∨ i.val % 6 = 5 then .int .u64 0 else if i.val % 6 = 4 then .string ⟨#[]⟩ else .int .i64 0
theorem trc0 (n : Nat) : TrC n z12 sg0.Ts := by
  refine ⟨by simp [z12], fun k hk => ?_⟩
  have key : ∀ i, i < 72 → z12[i]? = some (if i % 6 = 0 ∨ i % 6 = 5 then .int .u64 0 else if i % 6 = 4 then .string ⟨#[]⟩ else .int .i64 0) := fun i hi => by
    unfold z12
    rw [Array.getElem?_ofFn, dif_pos hi]
  rw [key (k * 6) (by omega), key (k * 6 + 1) (by omega), key (k * 6 + 2) (by omega), key (k * 6 + 3) (by omega), key (k * 6 + 4) (by omega), key (k * 6 + 5) (by omega)]
  rw [if_pos (by omega), if_neg (by omega), if_neg (by omega), if_neg (by omega), if_neg (by omega), if_neg (by omega), if_neg (by omega), if_neg (by omega), if_pos (by omega), if_pos (by omega)]
  exact ⟨rfl, rfl, rfl, rfl, rfl, rfl⟩
def nOf : Value → Nat
  | .int _ k => k.toNat
  | _ => 0
theorem quo_any {n x : Nat} (h1 : 1 ≤ n) (h5 : n ≤ 5) (hx : x < 2 ^ n) (W : World) :
    Calls Try.prog 33 #[.int .u64 (x : Nat), .int .i64 (n : Nat)] W fun e W' => e = .returned (.tuple #[.bool (maj n x), .int .i64 0]) ∧ Below W.heap.size W W' := by
  have h2 : 2 ^ n ≤ 2 ^ 5 := Nat.pow_le_pow_right (by omega) h5
  have := Quo.is_any x (by omega) (n : Int) W
  rw [maj_ck h1 h5 hx] at this
  exact this
theorem stA_new (n : Nat) : newS n = stA n (sg0.As 0) := rfl
/-- The block n of a code. -/
def blockOf (n : Nat) : Code → Option Code
  | .block m c => if m = n then some (.block m c) else blockOf n c
  | .seq a b => match blockOf n a with
    | some c => some c
    | none => blockOf n b
  | .cond _ a b => match blockOf n a with
    | some c => some c
    | none => blockOf n b
  | .loop c => blockOf n c
  | .scope c => blockOf n c
  | _ => none
/-- A turn: the block 3 of AcceptAgrees. -/
noncomputable def codeB3 : Code := match Try.f5.body with
  | some c => (blockOf 3 c).getD .skip
  | none => .skip
theorem wp_of_eq {P : Program} {c c' : Code} {Q : Exit → Act → World → Prop} {a : Act} {w : World} (h : c = c') (hw : c.wp P Q a w) : c'.wp P Q a w := h ▸ hw
theorem wp_of_eq2 {P : Program} {c c' : Code} {Q : Exit → Act → World → Prop} {a a' : Act} {w : World} (h : c = c') (ha : a = a') (hw : c.wp P Q a w) : c'.wp P Q a' w := h ▸ ha ▸ hw
end Go.Proofs.Ytdodnejfjpkbcaa.Acc
