
/- Package bank: what is seen where (Slots, Picture, Told), patches that may be. -/
import Derived.Test.YtflbedomkeophaaProg
import Derived.WalkKit
import Derived.WalkSpells
import Derived.WalkLawsBesides
import Derived.Lib.Hide
import Derived.Laws.Rows
import Derived.Lib.BitFns
namespace Go.Proofs.Ytflbedomkeophaa
open Go.RowKit
set_option linter.unusedSimpArgs false
set_option linter.unusedVariables false
set_option maxRecDepth 100000

/-- A bit of a byte. -/
def bitP (a m : Int) : Bool := bits .and .u8 a m != 0
/-- The bank of slot k. -/
def slB (A B : Int) (k : Nat) : Nat :=
  if B % 2 = 0 then
    (match k with
     | 0 => 8 + (if bitP A 16 = true then 1 else 0) + (if bitP B 4 = true then 2 else 0)
     | 1 => 5
     | 2 => 2
     | _ => (A % 8).toNat)
  else (([[0, 1, 2, 3], [4, 5, 6, 7], [4, 5, 6, 3], [4, 7, 6, 3]] : List (List Nat)).getD (B / 2 % 4).toNat []).getD k 0
abbrev slV (A B : Int) : Value := .agg #[.int .i64 (slB A B 0 : Nat), .int .i64 (slB A B 1 : Nat), .int .i64 (slB A B 2 : Nat), .int .i64 (slB A B 3 : Nat)]
abbrev pgV (A B : Int) : Value := .agg #[.int .u8 A, .int .u8 B]
def isBankP (b : Int) : Bool := decide (0 ≤ b) && decide (b < 12)

theorem b_isbank (b : Int) (w : World) : Calls Try.prog 30 #[.int .i64 b] w fun e w' => e = .returned (.bool (isBankP b)) ∧ w = w' := by
  go_enter Try.func30, Try.ntmps30
  go_wp2
  all_goals
    go_ret
    exact ⟨by unfold isBankP; congr 2; first | (simp_all <;> omega), rfl⟩

theorem b_parted (a : Int) (w : World) (h0 : 0 ≤ a) (h1 : a < 65536) : Calls Try.prog 29 #[.int .u16 a] w fun e w' => e = .returned (.tuple #[.int .i64 (a / 16384), .int .i64 (a % 16384)]) ∧ w = w' := by
  go_enter Try.func29, Try.ntmps29
  go_wp2
  go_ret2
  exact ⟨rfl, rfl⟩
theorem b_picture (A B : Int) (w : World) : Calls Try.prog 12 #[pgV A B] w fun e w' => e = .returned (.int .i64 (if bitP A 8 = true then 7 else 5)) ∧ Below w.heap.size w w' := by
  unfold pgV bitP
  cases h : (bits .and .u8 A 8 != 0)
  all_goals
    go_enter Try.func12, Try.ntmps12
    go_wp2
    go_ret
    exact ⟨rfl, ((Below.refl _ _).alloc (Nat.le_refl _) _)⟩
theorem b_readonly (A B : Int) (w : World) (hB : B % 2 = 0) : Calls Try.prog 35 #[pgV A B] w fun e w' => e = .returned (.int .i64 (slB A B 0 : Nat)) ∧ Below w.heap.size w w' := by
  have hs : slB A B 0 = 8 + (if bitP A 16 = true then 1 else 0) + (if bitP B 4 = true then 2 else 0) := by unfold slB; rw [if_pos hB]; rfl
  rw [hs]
  clear hs hB
  unfold pgV bitP
  cases h : (bits .and .u8 A 16 != 0) <;> cases k : (bits .and .u8 B 4 != 0)
  all_goals
    go_enter Try.func35, Try.ntmps35
    go_wp2
    go_ret
    exact ⟨rfl, ((Below.refl _ _).alloc (Nat.le_refl _) _)⟩
theorem infoS : (Try.prog.info? 52).map (·.size) = some 4 := by kernel_rfl
theorem b_wholes (c : Int) (w : World) (h0 : 0 ≤ c) (h1 : c < 4) : Calls Try.prog 34 #[.int .u8 c] w fun e w' => (∃ a0 a1 a2 a3 : Nat, e = .returned (.agg #[.int .i64 a0, .int .i64 a1, .int .i64 a2, .int .i64 a3]) ∧ ([[0, 1, 2, 3], [4, 5, 6, 7], [4, 5, 6, 3], [4, 7, 6, 3]] : List (List Nat)).getD c.toNat [] = [a0, a1, a2, a3]) ∧ Below w.heap.size w w' := by
  obtain rfl | rfl | rfl | rfl : c = 0 ∨ c = 1 ∨ c = 2 ∨ c = 3 := by omega
  all_goals
    go_enter Try.func34, Try.ntmps34
    go_wp2
    refine bodyPost_ret (results_cell_row rfl _ _ _ _ _ (0, 0) _ rfl (heap_alloc_new _ _) Try.underlying52 rfl infoS) rfl ⟨⟨_, _, _, _, rfl, rfl⟩, ((Below.refl _ _).alloc (Nat.le_refl _) _)⟩
end Go.Proofs.Ytflbedomkeophaa
