/- The walk of AcceptAgrees. -/
import Derived.Test.YtdodnejfjpkbcaaA20
import Derived.Test.YtdodnejfjpkbcaaA27
import Derived.Test.YtdodnejfjpkbcaaA28
import Derived.Test.YtdodnejfjpkbcaaA21
import Derived.Test.YtdodnejfjpkbcaaA22
import Derived.Test.YtdodnejfjpkbcaaA23
import Derived.Test.YtdodnejfjpkbcaaA24
import Derived.Deep.CutBlock
import Derived.Deep.CutRange
import Derived.Deep.WholeRow
namespace Go.Proofs.Ytdodnejfjpkbcaa.Acc
open Go.RowKit Go.Maps Go.Lib
open Bal (TB alloc_b)
set_option linter.unusedVariables false
set_option linter.unusedSimpArgs false
set_option maxRecDepth 100000

set_option maxHeartbeats 8000000 in
theorem turn_all (n g cap tb bb off len1 cap1 j TB' TN' : Nat) (TP' : Bool) (P : Nat → Nat × Nat) (σ : Sg) (w wr : World) (x0 x2 x3 x4 x7 x8 x9 x24 x25 x26 x27 x28 x29 x30 x31 x32 x33 x34 x35 x36 x37 x38 x39 x40 x41 x42 x43 x44 x45 x46 x47 x48 x49 x50 x51 x52 x53 x54 x55 x56 x57 x207 x13 x14 x15 x16 x17 x18 x19 x20 x21 x22 x23 x58 x59 x60 x61 x62 x63 x64 x65 x66 x67 x68 x69 x70 x71 x72 x73 x74 x75 x76 x77 x78 x79 x80 x81 x82 x83 x84 x85 x86 x87 x88 x89 x90 x91 x92 x93 x94 x95 x96 x97 x98 x99 x100 x101 x102 x103 x104 x105 x106 x107 x108 x109 x110 x111 x112 x113 x114 x115 x116 x117 x118 x119 x120 x121 x122 x123 x124 x125 x126 x127 x128 x129 x130 x131 x132 x133 x134 x135 x136 x137 x138 x139 x140 x141 x142 x143 x144 x145 x146 x147 x148 x149 x150 x151 x152 x153 x154 x155 x156 x157 x158 x159 x160 x161 x162 x163 x164 x165 x166 x167 x168 x169 x170 x171 x172 x173 x174 x175 x176 x177 x178 x179 x180 x181 x182 x183 x184 x185 x186 x187 x188 x189 x190 x191 x192 x193 x194 x195 x196 x197 x198 x199 x200 x201 x202 x203 x204 x205 x206 : Value) (Q : Exit → Act → World → Prop)
    (hn1 : 1 ≤ n) (hn5 : n ≤ 5) (hInv : Inv n σ) (hA : Ag w n (.slice (some ⟨g, 0, none⟩) n cap) P tb σ wr) (hlt : j < len1) (hl : len1 ≤ 150) (rb : TB' ≤ 255) (rn : TN' ≤ 255)
    (q0 : wr.cell? ⟨bb, off + j * 3, none⟩ = some (.int .u8 (TB' : Nat))) (q1 : wr.cell? ⟨bb, off + j * 3 + 1, none⟩ = some (.int .u8 (TN' : Nat))) (q2 : wr.cell? ⟨bb, off + j * 3 + 2, none⟩ = some (.bool TP'))
    
    (hQ : EndOK Q n g cap tb bb off len1 cap1 j P w x0 x2 x3 x4 x7 x8 x9 x24 x25 x26 x27 x28 x29 x30 x31 x32 x33 x34 x35 x36 x37 x38 x39 x40 x41 x42 x43 x44 x45 x46 x47 x48 x49 x50 x51 x52 x53 x54 x55 x56 x57 x207) :
    Code.wp Try.prog codeB3 Q ⟨#[x0, .slice (some ⟨bb, off, none⟩) len1 cap1, x2, x3, x4, .int .i64 (n : Nat), .slice (some ⟨g, 0, none⟩) n cap, x7, x8, x9, .pointer (some ⟨tb, 0, none⟩), .string σ.ch, .int .i64 (j : Nat), x13, x14, x15, x16, x17, x18, x19, x20, x21, x22, x23, x24, x25, x26, x27, x28, x29, x30, x31, x32, x33, x34, x35, x36, x37, x38, x39, x40, x41, x42, x43, x44, x45, x46, x47, x48, x49, x50, x51, x52, x53, x54, x55, x56, x57, x58, x59, x60, x61, x62, x63, x64, x65, x66, x67, x68, x69, x70, x71, x72, x73, x74, x75, x76, x77, x78, x79, x80, x81, x82, x83, x84, x85, x86, x87, x88, x89, x90, x91, x92, x93, x94, x95, x96, x97, x98, x99, x100, x101, x102, x103, x104, x105, x106, x107, x108, x109, x110, x111, x112, x113, x114, x115, x116, x117, x118, x119, x120, x121, x122, x123, x124, x125, x126, x127, x128, x129, x130, x131, x132, x133, x134, x135, x136, x137, x138, x139, x140, x141, x142, x143, x144, x145, x146, x147, x148, x149, x150, x151, x152, x153, x154, x155, x156, x157, x158, x159, x160, x161, x162, x163, x164, x165, x166, x167, x168, x169, x170, x171, x172, x173, x174, x175, x176, x177, x178, x179, x180, x181, x182, x183, x184, x185, x186, x187, x188, x189, x190, x191, x192, x193, x194, x195, x196, x197, x198, x199, x200, x201, x202, x203, x204, x205, x206, x207], []⟩ wr := by
  cases TP' with
  | false =>
    by_cases hp : (σ.As (TN' % n)).p ≤ TB' % 12 + 1
    · cases hm : maj n (σ.Ts (TB' % 12)).t with
      | true => exact turn_P2 n g cap tb bb off len1 cap1 j TB' TN' P σ w wr x0 x2 x3 x4 x7 x8 x9 x24 x25 x26 x27 x28 x29 x30 x31 x32 x33 x34 x35 x36 x37 x38 x39 x40 x41 x42 x43 x44 x45 x46 x47 x48 x49 x50 x51 x52 x53 x54 x55 x56 x57 x207 x13 x14 x15 x16 x17 x18 x19 x20 x21 x22 x23 x58 x59 x60 x61 x62 x63 x64 x65 x66 x67 x68 x69 x70 x71 x72 x73 x74 x75 x76 x77 x78 x79 x80 x81 x82 x83 x84 x85 x86 x87 x88 x89 x90 x91 x92 x93 x94 x95 x96 x97 x98 x99 x100 x101 x102 x103 x104 x105 x106 x107 x108 x109 x110 x111 x112 x113 x114 x115 x116 x117 x118 x119 x120 x121 x122 x123 x124 x125 x126 x127 x128 x129 x130 x131 x132 x133 x134 x135 x136 x137 x138 x139 x140 x141 x142 x143 x144 x145 x146 x147 x148 x149 x150 x151 x152 x153 x154 x155 x156 x157 x158 x159 x160 x161 x162 x163 x164 x165 x166 x167 x168 x169 x170 x171 x172 x173 x174 x175 x176 x177 x178 x179 x180 x181 x182 x183 x184 x185 x186 x187 x188 x189 x190 x191 x192 x193 x194 x195 x196 x197 x198 x199 x200 x201 x202 x203 x204 x205 x206 Q hn1 hn5 hInv hA hlt hl rb rn q0 q1 q2 hp hm hQ
      | false =>
        by_cases ha : (σ.As (TN' % n)).a = 0
        · exact turn_P3a n g cap tb bb off len1 cap1 j TB' TN' P σ w wr x0 x2 x3 x4 x7 x8 x9 x24 x25 x26 x27 x28 x29 x30 x31 x32 x33 x34 x35 x36 x37 x38 x39 x40 x41 x42 x43 x44 x45 x46 x47 x48 x49 x50 x51 x52 x53 x54 x55 x56 x57 x207 x13 x14 x15 x16 x17 x18 x19 x20 x21 x22 x23 x58 x59 x60 x61 x62 x63 x64 x65 x66 x67 x68 x69 x70 x71 x72 x73 x74 x75 x76 x77 x78 x79 x80 x81 x82 x83 x84 x85 x86 x87 x88 x89 x90 x91 x92 x93 x94 x95 x96 x97 x98 x99 x100 x101 x102 x103 x104 x105 x106 x107 x108 x109 x110 x111 x112 x113 x114 x115 x116 x117 x118 x119 x120 x121 x122 x123 x124 x125 x126 x127 x128 x129 x130 x131 x132 x133 x134 x135 x136 x137 x138 x139 x140 x141 x142 x143 x144 x145 x146 x147 x148 x149 x150 x151 x152 x153 x154 x155 x156 x157 x158 x159 x160 x161 x162 x163 x164 x165 x166 x167 x168 x169 x170 x171 x172 x173 x174 x175 x176 x177 x178 x179 x180 x181 x182 x183 x184 x185 x186 x187 x188 x189 x190 x191 x192 x193 x194 x195 x196 x197 x198 x199 x200 x201 x202 x203 x204 x205 x206 Q hn1 hn5 hInv hA hlt hl rb rn q0 q1 q2 hp hm ha hQ
        · exact turn_P3b n g cap tb bb off len1 cap1 j TB' TN' P σ w wr x0 x2 x3 x4 x7 x8 x9 x24 x25 x26 x27 x28 x29 x30 x31 x32 x33 x34 x35 x36 x37 x38 x39 x40 x41 x42 x43 x44 x45 x46 x47 x48 x49 x50 x51 x52 x53 x54 x55 x56 x57 x207 x13 x14 x15 x16 x17 x18 x19 x20 x21 x22 x23 x58 x59 x60 x61 x62 x63 x64 x65 x66 x67 x68 x69 x70 x71 x72 x73 x74 x75 x76 x77 x78 x79 x80 x81 x82 x83 x84 x85 x86 x87 x88 x89 x90 x91 x92 x93 x94 x95 x96 x97 x98 x99 x100 x101 x102 x103 x104 x105 x106 x107 x108 x109 x110 x111 x112 x113 x114 x115 x116 x117 x118 x119 x120 x121 x122 x123 x124 x125 x126 x127 x128 x129 x130 x131 x132 x133 x134 x135 x136 x137 x138 x139 x140 x141 x142 x143 x144 x145 x146 x147 x148 x149 x150 x151 x152 x153 x154 x155 x156 x157 x158 x159 x160 x161 x162 x163 x164 x165 x166 x167 x168 x169 x170 x171 x172 x173 x174 x175 x176 x177 x178 x179 x180 x181 x182 x183 x184 x185 x186 x187 x188 x189 x190 x191 x192 x193 x194 x195 x196 x197 x198 x199 x200 x201 x202 x203 x204 x205 x206 Q hn1 hn5 hInv hA hlt hl rb rn q0 q1 q2 hp hm ha hQ
    · exact turn_P1 n g cap tb bb off len1 cap1 j TB' TN' P σ w wr x0 x2 x3 x4 x7 x8 x9 x24 x25 x26 x27 x28 x29 x30 x31 x32 x33 x34 x35 x36 x37 x38 x39 x40 x41 x42 x43 x44 x45 x46 x47 x48 x49 x50 x51 x52 x53 x54 x55 x56 x57 x207 x13 x14 x15 x16 x17 x18 x19 x20 x21 x22 x23 x58 x59 x60 x61 x62 x63 x64 x65 x66 x67 x68 x69 x70 x71 x72 x73 x74 x75 x76 x77 x78 x79 x80 x81 x82 x83 x84 x85 x86 x87 x88 x89 x90 x91 x92 x93 x94 x95 x96 x97 x98 x99 x100 x101 x102 x103 x104 x105 x106 x107 x108 x109 x110 x111 x112 x113 x114 x115 x116 x117 x118 x119 x120 x121 x122 x123 x124 x125 x126 x127 x128 x129 x130 x131 x132 x133 x134 x135 x136 x137 x138 x139 x140 x141 x142 x143 x144 x145 x146 x147 x148 x149 x150 x151 x152 x153 x154 x155 x156 x157 x158 x159 x160 x161 x162 x163 x164 x165 x166 x167 x168 x169 x170 x171 x172 x173 x174 x175 x176 x177 x178 x179 x180 x181 x182 x183 x184 x185 x186 x187 x188 x189 x190 x191 x192 x193 x194 x195 x196 x197 x198 x199 x200 x201 x202 x203 x204 x205 x206 Q hn1 hn5 hInv hA hlt hl rb rn q0 q1 q2 hp hQ
  | true =>
    cases hm : maj n (σ.Ts (TB' % 12)).t with
    | false => exact turn_V1 n g cap tb bb off len1 cap1 j TB' TN' P σ w wr x0 x2 x3 x4 x7 x8 x9 x24 x25 x26 x27 x28 x29 x30 x31 x32 x33 x34 x35 x36 x37 x38 x39 x40 x41 x42 x43 x44 x45 x46 x47 x48 x49 x50 x51 x52 x53 x54 x55 x56 x57 x207 x13 x14 x15 x16 x17 x18 x19 x20 x21 x22 x23 x58 x59 x60 x61 x62 x63 x64 x65 x66 x67 x68 x69 x70 x71 x72 x73 x74 x75 x76 x77 x78 x79 x80 x81 x82 x83 x84 x85 x86 x87 x88 x89 x90 x91 x92 x93 x94 x95 x96 x97 x98 x99 x100 x101 x102 x103 x104 x105 x106 x107 x108 x109 x110 x111 x112 x113 x114 x115 x116 x117 x118 x119 x120 x121 x122 x123 x124 x125 x126 x127 x128 x129 x130 x131 x132 x133 x134 x135 x136 x137 x138 x139 x140 x141 x142 x143 x144 x145 x146 x147 x148 x149 x150 x151 x152 x153 x154 x155 x156 x157 x158 x159 x160 x161 x162 x163 x164 x165 x166 x167 x168 x169 x170 x171 x172 x173 x174 x175 x176 x177 x178 x179 x180 x181 x182 x183 x184 x185 x186 x187 x188 x189 x190 x191 x192 x193 x194 x195 x196 x197 x198 x199 x200 x201 x202 x203 x204 x205 x206 Q hn1 hn5 hInv hA hlt hl rb rn q0 q1 q2 hm hQ
    | true =>
      by_cases hbz : (σ.Ts (TB' % 12)).b = 0
      · exact turn_V2 n g cap tb bb off len1 cap1 j TB' TN' P σ w wr x0 x2 x3 x4 x7 x8 x9 x24 x25 x26 x27 x28 x29 x30 x31 x32 x33 x34 x35 x36 x37 x38 x39 x40 x41 x42 x43 x44 x45 x46 x47 x48 x49 x50 x51 x52 x53 x54 x55 x56 x57 x207 x13 x14 x15 x16 x17 x18 x19 x20 x21 x22 x23 x58 x59 x60 x61 x62 x63 x64 x65 x66 x67 x68 x69 x70 x71 x72 x73 x74 x75 x76 x77 x78 x79 x80 x81 x82 x83 x84 x85 x86 x87 x88 x89 x90 x91 x92 x93 x94 x95 x96 x97 x98 x99 x100 x101 x102 x103 x104 x105 x106 x107 x108 x109 x110 x111 x112 x113 x114 x115 x116 x117 x118 x119 x120 x121 x122 x123 x124 x125 x126 x127 x128 x129 x130 x131 x132 x133 x134 x135 x136 x137 x138 x139 x140 x141 x142 x143 x144 x145 x146 x147 x148 x149 x150 x151 x152 x153 x154 x155 x156 x157 x158 x159 x160 x161 x162 x163 x164 x165 x166 x167 x168 x169 x170 x171 x172 x173 x174 x175 x176 x177 x178 x179 x180 x181 x182 x183 x184 x185 x186 x187 x188 x189 x190 x191 x192 x193 x194 x195 x196 x197 x198 x199 x200 x201 x202 x203 x204 x205 x206 Q hn1 hn5 hInv hA hlt hl rb rn q0 q1 q2 hm hbz hQ
      · exact turn_V3 n g cap tb bb off len1 cap1 j TB' TN' P σ w wr x0 x2 x3 x4 x7 x8 x9 x24 x25 x26 x27 x28 x29 x30 x31 x32 x33 x34 x35 x36 x37 x38 x39 x40 x41 x42 x43 x44 x45 x46 x47 x48 x49 x50 x51 x52 x53 x54 x55 x56 x57 x207 x13 x14 x15 x16 x17 x18 x19 x20 x21 x22 x23 x58 x59 x60 x61 x62 x63 x64 x65 x66 x67 x68 x69 x70 x71 x72 x73 x74 x75 x76 x77 x78 x79 x80 x81 x82 x83 x84 x85 x86 x87 x88 x89 x90 x91 x92 x93 x94 x95 x96 x97 x98 x99 x100 x101 x102 x103 x104 x105 x106 x107 x108 x109 x110 x111 x112 x113 x114 x115 x116 x117 x118 x119 x120 x121 x122 x123 x124 x125 x126 x127 x128 x129 x130 x131 x132 x133 x134 x135 x136 x137 x138 x139 x140 x141 x142 x143 x144 x145 x146 x147 x148 x149 x150 x151 x152 x153 x154 x155 x156 x157 x158 x159 x160 x161 x162 x163 x164 x165 x166 x167 x168 x169 x170 x171 x172 x173 x174 x175 x176 x177 x178 x179 x180 x181 x182 x183 x184 x185 x186 x187 x188 x189 x190 x191 x192 x193 x194 x195 x196 x197 x198 x199 x200 x201 x202 x203 x204 x205 x206 Q hn1 hn5 hInv hA hlt hl rb rn q0 q1 q2 hm hbz hQ
set_option maxHeartbeats 40000000 in
theorem agrees_go (sz : Nat) (a1 : Option Addr) (len1 cap1 : Nat) (S : Nat → Tn) (w : World) (h0 : sz ≤ 255) (h1 : IsTn w a1 len1 cap1 S) :
    Calls Try.prog 5 #[.int .u8 (sz : Nat), .slice a1 len1 cap1] w (Yes w) := by
  by_cases hl : 150 < len1
  · have b1 : decide (150 < (len1 : Int)) = true := by simp; omega
    have b2 : decide (150 < len1) = true := by simp; omega
    clear hl h1
    go_enter Try.func5, Try.ntmps5
    go_wp2_with (go_at_call 13; refine (works_any _).mono ?_; rintro e w1 ⟨rfl, hb⟩)
    go_ret
    exact ⟨rfl, hb⟩
  · have b1 : decide (150 < (len1 : Int)) = false := by simp; omega
    have b2 : decide (150 < len1) = false := by simp; omega
    obtain ⟨n, hn⟩ : ∃ n, n = 1 + sz % 5 := ⟨_, rfl⟩
    have hn1 : 1 ≤ n := by omega
    have hn5 : n ≤ 5 := by omega
    have e1 : (sz : Int).tmod 5 = ((sz % 5 : Nat) : Int) := (Int.ofNat_tmod sz 5).symm
    have e2 : IntKind.i64.wrap (1 + ((sz % 5 : Nat) : Int)) = (n : Nat) := by rw [IntKind.wrap_i64]; omega
    have e3 : IntKind.u8.wrap ((sz % 5 : Nat) : Int) = ((sz % 5 : Nat) : Int) := by rw [IntKind.wrap_u8]; omega
    have e4 : IntKind.i64.wrap ((sz % 5 : Nat) : Int) = ((sz % 5 : Nat) : Int) := by rw [IntKind.wrap_i64]; omega
    generalize sz % 5 = r5 at *
    clear hn h0
    have hz := (zero_of_info zero12).1
    have HN := Lib.hid (fun W (hW : Below w.heap.size w W) => new_w n (by omega) w W hW)
    go_enter Try.func5, Try.ntmps5
    go_wp2
    go_loopw [6, 7] (fun v i wr => ∃ (k : Nat) (P : Nat → Nat × Nat), k ≤ n ∧ i = .int .i64 k ∧ OwP w.heap.size P k v wr ∧ (∀ i, i < k → WAt w (P i).1 (P i).2 (newS n) wr) ∧ (∀ i, i < k → ∀ j, j < k → i ≠ j → (P i).1 ≠ (P j).1 ∧ (P i).2 ≠ (P j).2) ∧ Below w.heap.size w wr)
      (fun _ i _ => n - (Go.Proofs.Ytdodnejfjpkbcaa.Acc.nOf i))
    case atStart => exact ⟨0, fun _ => (0, 0), Nat.zero_le _, rfl, OwP.nil _ _ _, fun i h => by omega, fun i h => by omega, Below.refl _ _⟩
    case round =>
      obtain ⟨k, P, hk, rfl, hO, hA, hI, hB⟩ := hrel
      by_cases hlt : k < n
      · have i1 : decide ((k : Int) < (n : Int)) = true := by simp; omega
        have i2 : (k : Int) < (n : Int) := by omega
        obtain ⟨va, vc, rfl⟩ := rows_form hO
        replace hO := Lib.hid hO
        replace hA := Lib.hid hA
        replace hI := Lib.hid hI
        go_wp2_with fail
        go_at_call 14
        refine (HN.out _ hB).mono ?_
        rintro e w1 ⟨sb, mb, rfl, hN1, hb1, hs1, hm1⟩
        have hP : ∀ i, i < k → upd P k (sb, mb) i = P i := fun i hi => upd_other _ _ (by omega)
        have hO1 : OwP w.heap.size (upd P k (sb, mb)) k (.slice va k vc) (w1.alloc (.cells #[.pointer (some ⟨sb, 0, none⟩)] TPt)) := by
          unfold OwP
          rw [ptrs_congr hP]
          exact rows_later (rows_later hO.out hb1) (alloc_b _ _)
        have hc1 := cell_of_row _ _ 0 _ TPt _ (heap_alloc_new w1 (.cells #[.pointer (some ⟨sb, 0, none⟩)] TPt))
        have hc2 : (w1.alloc (.cells #[.pointer (some ⟨sb, 0, none⟩)] TPt)).cell? ⟨w1.heap.size, 0, none⟩ = some (pV (upd P k (sb, mb) k).1) := by rw [upd_same]; exact hc1
        have hB1 : Below w.heap.size w (w1.alloc (.cells #[.pointer (some ⟨sb, 0, none⟩)] TPt)) := (hN1.alloc _).bel
        have hsz := hB1.size
        have hA1 : ∀ i, i < k + 1 → WAt w (upd P k (sb, mb) i).1 (upd P k (sb, mb) i).2 (newS n) w1 := fun i hi => by
          by_cases e : i = k
          · subst e; rw [upd_same]; exact hN1
          · rw [upd_other _ _ e]; exact (hA.out i (by omega)).later hb1
        have hI1 : ∀ i, i < k + 1 → ∀ j, j < k + 1 → i ≠ j → (upd P k (sb, mb) i).1 ≠ (upd P k (sb, mb) j).1 ∧ (upd P k (sb, mb) i).2 ≠ (upd P k (sb, mb) j).2 := fun i hi j hj hij => by
          by_cases e : i = k
          · subst e
            rw [upd_same, upd_other _ _ (fun e => hij e.symm)]
            have := (hA.out j (by omega)).ax.lt
            simp only
            omega
          · rw [upd_other _ _ e]
            by_cases e2 : j = k
            · subst e2
              rw [upd_same]
              have := (hA.out i (by omega)).ax.lt
              simp only
              omega
            · rw [upd_other _ _ e2]
              exact hI.out i (by omega) j (by omega) hij
        replace hO1 := Lib.hid hO1
        replace hc2 := Lib.hid hc2
        replace hB1 := Lib.hid hB1
        replace hsz := Lib.hid hsz
        replace hA1 := Lib.hid hA1
        replace hI1 := Lib.hid hI1
        clear hc1 hP hs1 hm1 hb1 hN1 hO hA hI
        go_wp2_with (at_builtin; refine wpList_append_p rfl _ _ rfl w.heap.size _ (upd P k (sb, mb)) k rfl hO1.out w1.heap.size _ rfl hc2.out (by omega) hsz.out ?_; intro v4 w4 hO4 hg4)
        have hap := Lib.hid (fun (i : Nat) (hi : i < k + 1) => row_apart hO1.out ((hA1.out i hi).alloc (.cells #[.pointer (some ⟨sb, 0, none⟩)] TPt)).ax (by decide))
        have hB4 : Below w.heap.size w w4 := own_below hO1.out hg4 hB1.out (Nat.le_refl _)
        have hK4 : Keeps (fun j => (Value.slice va k vc).ownBlock = some j) (w1.alloc (.cells #[.pointer (some ⟨sb, 0, none⟩)] TPt)) w4 := ⟨hg4.os, hg4.tape, hg4.output, hg4.size, fun j hj hn => hg4.block j hj (fun e => hn e.symm)⟩
        go_roundw
        case rel => exact ⟨k + 1, upd P k (sb, mb), by omega, by go_num, hO4, fun i hi => by
            have hw := (hA1.out i hi).alloc (.cells #[.pointer (some ⟨sb, 0, none⟩)] TPt)
            exact ⟨hw.ax.kept hK4 (fun e => (hap.out i hi _ e).1 rfl) (fun e => (hap.out i hi _ e).2 rfl), hB4, hw.hs, hw.hm⟩, hI1.out, hB4⟩
        case measure => simp [nOf]; omega
      · have hkn : k = n := by omega
        subst hkn
        have i1 : decide ((k : Int) < (k : Int)) = false := by simp
        have hAg : Ag w k _ P wr.heap.size sg0 (wr.alloc (.cells z12 T12)) :=
          ⟨rows_later hO (alloc_b _ _), fun i hi => (hA i hi).alloc _, hI, ⟨z12, heap_alloc_new _ _, trc0 k⟩, hB.size, hB.alloc hB.size _⟩
        change Ag w k _ P wr.heap.size sg0 (wr.alloc (.cells (Array.ofFn fun i : Fin 72 => if i.val % 6 = 0 ∨ i.val % 6 = 5 then .int .u64 0 else if i.val % 6 = 4 then .string ⟨#[]⟩ else .int .i64 0) T12)) at hAg
        generalize (Array.ofFn fun i : Fin 72 => if i.val % 6 = 0 ∨ i.val % 6 = 5 then Value.int .u64 0 else if i.val % 6 = 4 then Value.string ⟨#[]⟩ else Value.int .i64 0) = z at *
        clear hO hA hI hlt hk HN i1
        obtain ⟨g, cap, rfl, _, _⟩ := hAg.node hn1
        obtain ⟨n, hn⟩ : ∃ n, n = k := ⟨_, rfl⟩
        subst hn
        have h5 := Lib.hid h1
        go_wp2
        generalize wr.alloc (.cells z T12) = w0 at *
        generalize wr.heap.size = tb at *
        clear hB hz
        go_loopw [11, 12] (fun c i wr => ∃ (j : Nat) (σ : Sg), j ≤ len1 ∧ i = .int .i64 j ∧ c = .string σ.ch ∧ Inv n σ ∧ Ag w n (.slice (some ⟨g, 0, none⟩) n cap) P tb σ wr) (fun _ i _ => len1 - nOf i)
        case atStart => exact ⟨0, sg0, Nat.zero_le _, rfl, rfl, inv0 n, hAg⟩
        case round =>
          obtain ⟨j, σ, hj, rfl, rfl, hInv, hA⟩ := hrel
          clear hAg
          by_cases hlt : j < len1
          · -- A TURN
            obtain ⟨bb, off, rfl, hbb, hcell⟩ := h5.out.cell (by omega)
            obtain ⟨d0, d1, d2⟩ := hcell j hlt
            obtain ⟨rb, rn⟩ := h5.out.rng j
            generalize S j = tn at d0 d1 d2 rb rn
            obtain ⟨TB', TN', TP'⟩ := tn
            replace rb : TB' ≤ 255 := rb
            replace rn : TN' ≤ 255 := rn
            have q0 := (hA.bel.cell (p := ⟨bb, off + j * 3, none⟩) hbb).trans d0
            have q1 := (hA.bel.cell (p := ⟨bb, off + j * 3 + 1, none⟩) hbb).trans d1
            have q2 := (hA.bel.cell (p := ⟨bb, off + j * 3 + 2, none⟩) hbb).trans d2
            clear d0 d1 d2 hcell
            have z2 : (j : Int) < (len1 : Nat) := by omega
            have i3 : decide ((j : Int) < (len1 : Int)) = true := by simpa using z2
            have hall := Lib.hid hl
            go_upto_block 3 with fail
            refine wp_of_eq ?hc (turn_all n g cap tb bb off len1 cap1 j TB' TN' TP' P σ w wr _ _ _ _ _ _ _ _ _ _ _ _ _ _ _ _ _ _ _ _ _ _ _ _ _ _ _ _ _ _ _ _ _ _ _ _ _ _ _ _ _ _ _ _ _ _ _ _ _ _ _ _ _ _ _ _ _ _ _ _ _ _ _ _ _ _ _ _ _ _ _ _ _ _ _ _ _ _ _ _ _ _ _ _ _ _ _ _ _ _ _ _ _ _ _ _ _ _ _ _ _ _ _ _ _ _ _ _ _ _ _ _ _ _ _ _ _ _ _ _ _ _ _ _ _ _ _ _ _ _ _ _ _ _ _ _ _ _ _ _ _ _ _ _ _ _ _ _ _ _ _ _ _ _ _ _ _ _ _ _ _ _ _ _ _ _ _ _ _ _ _ _ _ _ _ _ _ _ _ _ _ _ _ _ _ _ _ _ _ _ _ _ _ _ _ _ _ _ _ _ _ _ _ hn1 hn5 hInv hA hlt (by omega) rb rn q0 q1 q2 ?hQ)
            case hc => kernel_rfl
            case hQ =>
              intro σ' W' hi ha v13 v14 v15 v16 v17 v18 v19 v20 v21 v22 v23 v58 v59 v60 v61 v62 v63 v64 v65 v66 v67 v68 v69 v70 v71 v72 v73 v74 v75 v76 v77 v78 v79 v80 v81 v82 v83 v84 v85 v86 v87 v88 v89 v90 v91 v92 v93 v94 v95 v96 v97 v98 v99 v100 v101 v102 v103 v104 v105 v106 v107 v108 v109 v110 v111 v112 v113 v114 v115 v116 v117 v118 v119 v120 v121 v122 v123 v124 v125 v126 v127 v128 v129 v130 v131 v132 v133 v134 v135 v136 v137 v138 v139 v140 v141 v142 v143 v144 v145 v146 v147 v148 v149 v150 v151 v152 v153 v154 v155 v156 v157 v158 v159 v160 v161 v162 v163 v164 v165 v166 v167 v168 v169 v170 v171 v172 v173 v174 v175 v176 v177 v178 v179 v180 v181 v182 v183 v184 v185 v186 v187 v188 v189 v190 v191 v192 v193 v194 v195 v196 v197 v198 v199 v200 v201 v202 v203 v204 v205 v206
              replace hi := Lib.hid hi
              replace ha := Lib.hid ha
              go_wp2
              go_roundw
              case rel => exact ⟨j + 1, σ', by omega, by go_num, rfl, hi.out, ha.out⟩
              case measure => simp [nOf]; omega
          · have hje : j = len1 := by omega
            subst hje
            have i1 : decide ((j : Int) < (j : Int)) = false := by simp
            have hbel := Lib.hid hA.bel
            clear hA h5 h1
            go_wp2_with (go_at_call 13; refine (works_any _).mono ?_; rintro e w1 ⟨rfl, hb⟩)
            go_ret
            exact ⟨rfl, below2 hbel.out hb⟩
theorem agrees_law (a0 : Int) (a1 : Option Addr) (len1 cap1 : Nat) (S : Nat → Tn) (w : World) (h0 : (Lit.int .u8 a0).wf = true) (h1 : IsTn w a1 len1 cap1 S) :
    Calls Try.prog 5 #[.int .u8 a0, .slice a1 len1 cap1] w (Yes w) := by
  have hb := bounds_u8 h0
  obtain ⟨n, rfl⟩ := Int.eq_ofNat_of_zero_le hb.1
  exact agrees_go n a1 len1 cap1 S w (by have := hb.2; omega) h1
end Go.Proofs.Ytdodnejfjpkbcaa.Acc
