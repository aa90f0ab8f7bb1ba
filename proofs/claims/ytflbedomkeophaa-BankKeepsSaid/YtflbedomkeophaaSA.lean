
/- A memory of banks: what a bank's block is. -/
import Derived.Test.YtflbedomkeophaaProg
import Derived.WalkKit
import Derived.WalkSpells
import Derived.WalkLawsBesides
import Derived.Lib.Hide
namespace Go.Proofs.Ytflbedomkeophaa
open Go.RowKit
def isZ : Value → Bool
  | .int .u8 0 => true
  | _ => false
def lenZ : List Value → Nat → Option Nat
  | [], n => some n
  | v :: r, n => if isZ v = true then lenZ r (n + 1) else none
def zeroOk : Option Value → Option Nat
  | some (.agg a) => lenZ a.toList 0
  | _ => none
theorem bk_size : (Try.prog.info? 65).map (·.size) = some 16384 := by kernel_rfl
theorem bk_ok : zeroOk ((Try.prog.info? 65).bind (·.zero)) = some 16384 := by kernel_rfl
theorem isZ_eq {v : Value} (h : isZ v = true) : v = .int .u8 0 := by
  unfold isZ at h
  split at h
  · rfl
  · cases h
theorem lenZ_all : ∀ (l : List Value) (n m : Nat), lenZ l n = some m → n ≤ m ∧ l = List.replicate (m - n) (.int .u8 0)
  | [], n, m, h => by
    unfold lenZ at h
    injection h with h
    subst h
    simp
  | v :: r, n, m, h => by
    unfold lenZ at h
    split at h
    · rename_i hv
      obtain ⟨h1, h2⟩ := lenZ_all r (n + 1) m h
      refine ⟨by omega, ?_⟩
      rw [isZ_eq hv, h2, show m - n = (m - (n + 1)) + 1 by omega, List.replicate_succ]
    · cases h
/-- A bank of zeros. -/
def bk0 : Array Value := Array.replicate 16384 (.int .u8 0)
theorem bk_zero : (Try.prog.info? 65).bind (·.zero) = some (.agg bk0) := by
  have h := bk_ok
  revert h
  generalize (Try.prog.info? 65).bind (·.zero) = z
  intro h
  match z, h with
  | some (.agg a), h =>
    obtain ⟨-, h2⟩ := lenZ_all a.toList 0 16384 h
    have : a = bk0 := by
      apply Array.ext'
      rw [h2]
      unfold bk0
      simp only [Array.toList_replicate]
    rw [this]
/-- A new bank. -/
theorem run_bank_zero (w : World) : (zeroValue 65).run Try.prog w = .ok (.agg bk0) w := by
  have hz := bk_zero
  obtain ⟨i, hi⟩ : ∃ i, Try.prog.info? 65 = some i := by
    cases h : Try.prog.info? 65 with
    | none => rw [h] at hz; cases hz
    | some i => exact ⟨i, rfl⟩
  rw [hi] at hz
  have hz : i.zero = some (.agg bk0) := hz
  unfold zeroValue
  simp [run_typeInfo, hi, hz]
end Go.Proofs.Ytflbedomkeophaa
