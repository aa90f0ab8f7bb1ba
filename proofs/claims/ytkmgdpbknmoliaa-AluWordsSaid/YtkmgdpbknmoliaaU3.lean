
/- Parity, logic, the operators of package alu. -/
import Derived.Test.YtkmgdpbknmoliaaU2
namespace Go.Proofs.Ytkmgdpbknmoliaa
open Go.RowKit
set_option linter.unusedSimpArgs false

set_option maxRecDepth 100000 in
theorem a5_ones (r : Int) (w : World) (h0 : 0 ≤ r) (h1 : r < 256) : Calls Try.prog 42 #[.int .u8 r] w fun e w' => e = .returned (.int .i64 (onesB r.toNat)) ∧ w = w' := by
  go_enter Try.func42, Try.ntmps42
  go_wp2
  go_ret
  refine ⟨a5_ret64 ?_, rfl⟩
  rw [← getElem!_pos]
  obtain ⟨k, rfl⟩ : ∃ k : Fin 256, r = (k.val : Int) := ⟨⟨r.toNat, by omega⟩, by simp; omega⟩
  clear h0 h1 w
  revert k
  decide +kernel

theorem a5_parity (r : Int) (w : World) (h0 : 0 ≤ r) (h1 : r < 256) : Calls Try.prog 21 #[.int .u8 r] w fun e w' => e = .returned (.bool (evenB r)) ∧ w = w' := by
  go_enter Try.func21, Try.ntmps21
  go_wp2_with (go_at_call 42; (with_reducible refine (a5_ones _ _ h0 h1).mono ?_); rintro e w' ⟨rfl, rfl⟩)
  go_ret
  exact ⟨rfl, rfl⟩

theorem a5_logic (r : Int) (w : World) (h0 : 0 ≤ r) (h1 : r < 256) : Calls Try.prog 36 #[.int .u8 r] w fun e w' => e = .returned (.int .u8 (logB r)) ∧ w = w' := by
  go_enter Try.func36, Try.ntmps36
  go_wp2_with (first
    | (go_at_call 41; (with_reducible refine (a5_flag _ _ _).mono ?_); rintro e w' ⟨rfl, rfl⟩)
    | (go_at_call 21; (with_reducible refine (a5_parity _ _ h0 h1).mono ?_); rintro e w' ⟨rfl, rfl⟩)
    | (go_at_call 19; (with_reducible refine (a5_own _ _).mono ?_); rintro e w' ⟨rfl, rfl⟩))
  go_ret
  exact ⟨rfl, rfl⟩

theorem a5_and (a b : Int) (w : World) (a0 : 0 ≤ a) (a1 : a < 256) (b0 : 0 ≤ b) (b1 : b < 256) : Calls Try.prog 10 #[.int .u8 a, .int .u8 b] w fun e w' => e = .returned (.tuple #[.int .u8 (bits .and .u8 a b), .int .u8 (bits .or .u8 (logB (bits .and .u8 a b)) 16)]) ∧ w = w' := by
  obtain ⟨h0, h1⟩ := and_in a b a0 a1 b0 b1
  go_enter Try.func10, Try.ntmps10
  go_wp2_with (go_at_call 36; (with_reducible refine (a5_logic _ _ h0 h1).mono ?_); rintro e w' ⟨rfl, rfl⟩)
  go_ret2
  exact ⟨rfl, rfl⟩
theorem a5_or (a b : Int) (w : World) (a0 : 0 ≤ a) (a1 : a < 256) (b0 : 0 ≤ b) (b1 : b < 256) : Calls Try.prog 27 #[.int .u8 a, .int .u8 b] w fun e w' => e = .returned (.tuple #[.int .u8 (bits .or .u8 a b), .int .u8 (logB (bits .or .u8 a b))]) ∧ w = w' := by
  obtain ⟨h0, h1⟩ := or_in a b a0 a1 b0 b1
  go_enter Try.func27, Try.ntmps27
  go_wp2_with (go_at_call 36; (with_reducible refine (a5_logic _ _ h0 h1).mono ?_); rintro e w' ⟨rfl, rfl⟩)
  go_ret2
  exact ⟨rfl, rfl⟩
theorem a5_xor (a b : Int) (w : World) (a0 : 0 ≤ a) (a1 : a < 256) (b0 : 0 ≤ b) (b1 : b < 256) : Calls Try.prog 29 #[.int .u8 a, .int .u8 b] w fun e w' => e = .returned (.tuple #[.int .u8 (bits .xor .u8 a b), .int .u8 (logB (bits .xor .u8 a b))]) ∧ w = w' := by
  obtain ⟨h0, h1⟩ := xor_in a b a0 a1 b0 b1
  go_enter Try.func29, Try.ntmps29
  go_wp2_with (go_at_call 36; (with_reducible refine (a5_logic _ _ h0 h1).mono ?_); rintro e w' ⟨rfl, rfl⟩)
  go_ret2
  exact ⟨rfl, rfl⟩
end Go.Proofs.Ytkmgdpbknmoliaa
