
/- Package raster: what stands where, pure: places by shifts and masks. -/
import Derived.Test.YtlghfngomiiclaaProg
import Derived.WalkKit
import Derived.WalkSpells
import Derived.WalkLawsBesides
import Derived.Lib.Hide
import Derived.Lib.BitFns
namespace Go.Proofs.Ytlghfngomiiclaa
open Go.RowKit
set_option linter.unusedSimpArgs false
set_option linter.unusedVariables false
set_option maxRecDepth 100000

/-- Is it a byte of the picture? -/
def IsB (x y : Int) : Prop := (0 ≤ x ∧ x < 32) ∧ 0 ≤ y ∧ y < 192
instance (x y : Int) : Decidable (IsB x y) := by unfold IsB; infer_instance

/-- Where a byte stands, and its attribute. -/
def pixP (x y : Int) : Int := y / 64 * 2048 + y % 8 * 256 + y / 8 % 8 * 32 + x
def attP (x y : Int) : Int := 6144 + y / 8 * 32 + x

theorem pix_y : ∀ y : Fin 192, bits .or .i64 (bits .or .i64 (wrap64 (bits .and .i64 (y.val : Int) 192 * 32)) (wrap64 (bits .and .i64 (y.val : Int) 7 * 256))) (wrap64 (bits .and .i64 (y.val : Int) 56 * 4)) = 32 * ((y.val / 64 * 64 + y.val % 8 * 8 + y.val / 8 % 8 : Nat) : Int) := by decide +kernel
theorem att_y : ∀ y : Fin 192, bits .or .i64 6144 (wrap64 (bits .andNot .i64 (y.val : Int) 7 * 4)) = 32 * ((192 + y.val / 8 : Nat) : Int) := by decide +kernel
theorem row_x : ∀ k : Fin 216, ∀ x : Fin 32, bits .or .i64 (32 * (k.val : Int)) (x.val : Int) = 32 * (k.val : Int) + (x.val : Int) := by decide +kernel
theorem whr_x : ∀ p : Fin 6912, bits .and .i64 (p.val : Int) 31 = (p.val : Int) % 32 := by decide +kernel
theorem whr_a : ∀ q : Fin 192, bits .andNot .i64 (q.val : Int) 7 = (q.val : Int) / 8 * 8 := by decide +kernel
theorem whr_y : ∀ p : Fin 6144, bits .or .i64 (bits .or .i64 (bits .and .i64 ((p.val : Int) / 32) 192) (bits .and .i64 ((p.val : Int) / 256) 7)) (bits .and .i64 ((p.val : Int) / 4) 56) = (p.val : Int) / 2048 * 64 + (p.val : Int) / 256 % 8 + (p.val : Int) / 32 % 8 * 8 := by decide +kernel
theorem pix_bits (x y : Int) (h : IsB x y) : bits .or .i64 (bits .or .i64 (bits .or .i64 (wrap64 (bits .and .i64 y 192 * 32)) (wrap64 (bits .and .i64 y 7 * 256))) (wrap64 (bits .and .i64 y 56 * 4))) x = pixP x y := by
  obtain ⟨hx, hy⟩ := h
  obtain ⟨n, rfl⟩ : ∃ n : Nat, y = n := ⟨y.toNat, by omega⟩
  obtain ⟨m, rfl⟩ : ∃ m : Nat, x = m := ⟨x.toNat, by omega⟩
  have e1 := pix_y ⟨n, by omega⟩
  have e2 := row_x ⟨n / 64 * 64 + n % 8 * 8 + n / 8 % 8, by omega⟩ ⟨m, by omega⟩
  simp only at e1 e2
  rw [e1, e2]
  unfold pixP
  omega
theorem att_bits (x y : Int) (h : IsB x y) : bits .or .i64 (bits .or .i64 6144 (wrap64 (bits .andNot .i64 y 7 * 4))) x = attP x y := by
  obtain ⟨hx, hy⟩ := h
  obtain ⟨n, rfl⟩ : ∃ n : Nat, y = n := ⟨y.toNat, by omega⟩
  obtain ⟨m, rfl⟩ : ∃ m : Nat, x = m := ⟨x.toNat, by omega⟩
  have e1 := att_y ⟨n, by omega⟩
  have e2 := row_x ⟨192 + n / 8, by omega⟩ ⟨m, by omega⟩
  simp only at e1 e2
  rw [e1, e2]
  unfold attP
  omega

end Go.Proofs.Ytlghfngomiiclaa
