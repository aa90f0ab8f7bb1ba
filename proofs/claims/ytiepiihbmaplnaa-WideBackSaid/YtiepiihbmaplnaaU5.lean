
/- What the document's own answers of chapter 5 are. -/
import Derived.Test.YtiepiihbmaplnaaU1
namespace Go.Proofs.Ytiepiihbmaplnaa
open Go.RowKit
set_option linter.unusedSimpArgs false

theorem r5_one (c : Bool) (w : World) : Calls Try.prog 53 #[.bool c] w fun e w' => e = .returned (.int .i64 (num1 c)) ∧ w = w' := by
  cases c
  all_goals
    go_enter Try.func53, Try.ntmps53
    go_wp2
    go_ret
    exact ⟨rfl, rfl⟩

theorem r5_flag (b : Bool) (k : Int) (w : World) : Calls Try.prog 39 #[.int .u8 k, .bool b] w fun e w' => e = .returned (.int .u8 (flg b k)) ∧ w = w' := by
  cases b
  all_goals
    go_enter Try.func39, Try.ntmps39
    go_wp2
    go_ret
    exact ⟨rfl, rfl⟩

theorem r5_signed (a : Int) (w : World) (a0 : 0 ≤ a) (a1 : a < 256) : Calls Try.prog 54 #[.int .u8 a] w fun e w' => e = .returned (.int .i64 (sgn a)) ∧ w = w' := by
  go_enter Try.func54, Try.ntmps54
  go_wp2
  all_goals
    go_ret
    exact ⟨a5_ret64 (by unfold sgn; first | rw [if_pos (by omega)] | rw [if_neg (by omega)]), rfl⟩

theorem r5_own (r : Int) (w : World) (h0 : 0 ≤ r) (h1 : r < 256) : Calls Try.prog 51 #[.int .u8 r] w fun e w' => e = .returned (.int .u8 (ownB r)) ∧ w = w' := by
  go_enter Try.func51, Try.ntmps51
  by_cases hr : r = 0
  · subst hr
    go_wp2
    go_ret
    exact ⟨rfl, rfl⟩
  · go_wp2
    go_ret
    exact ⟨ret_u8 (byte_all (P := fun r => r ≠ 0 → bits .and .u8 r 168 = ownB r) (by decide +kernel) r h0 h1 hr), rfl⟩

set_option maxHeartbeats 400000 in
theorem r5_parity (r : Int) (w : World) (h0 : 0 ≤ r) (h1 : r < 256) : Calls Try.prog 52 #[.int .u8 r] w fun e w' => e = .returned (.bool (evenB r)) ∧ w = w' := by
  go_enter Try.func52, Try.ntmps52
  go_wp2
  go_loop [3, 4] (fun n i => ∃ k : Nat, k ≤ 8 ∧ i = .int .i64 k ∧ n = .int .i64 (onesN k r.toNat)) (fun _ i => 8 - (intOf i).toNat)
  case atStart => exact ⟨0, by omega, rfl, rfl⟩
  case round =>
    obtain ⟨k, hk, rfl, rfl⟩ := hrel
    have hl := onesN_le k r.toNat
    by_cases hlt : k < 8
    · have hq : 0 ≤ r / 2 ^ k := Int.ediv_nonneg h0 (Int.le_of_lt (Int.pow_pos (by decide)))
      have hq1 : r / 2 ^ k ≤ 255 := Int.le_trans (Int.ediv_le_self _ h0) (by omega)
      go_wp2
      have hc : (((r.toNat / 2 ^ k % 2 : Nat)) : Int) = r / 2 ^ k % 2 := by
        rw [Int.natCast_emod, Int.natCast_ediv, Int.toNat_of_nonneg h0, Int.natCast_pow]; rfl
      go_round
      case rel => exact ⟨k + 1, by omega, by go_num, by simp only [onesN]; rw [Int.natCast_add, hc]⟩
      case measure => simp [intOf]; omega
    · obtain rfl : k = 8 := by omega
      go_wp2
      go_ret
      exact ⟨rfl, rfl⟩

set_option maxHeartbeats 800000 in
theorem r5_add (a b : Int) (c : Bool) (w : World) (a0 : 0 ≤ a) (a1 : a < 256) (b0 : 0 ≤ b) (b1 : b < 256) : Calls Try.prog 30 #[.int .u8 a, .int .u8 b, .bool c] w fun e w' =>
    e = .returned (.tuple #[.int .u8 (addR a b c), .int .u8 (addF a b c)]) ∧ w = w' := by
  obtain ⟨n0, n1⟩ := num1_in c
  obtain ⟨sa0, sa1⟩ := sgn_in a a0 a1
  obtain ⟨sb0, sb1⟩ := sgn_in b b0 b1
  obtain ⟨h0, h1⟩ := addR_in a b c
  unfold addR at h0 h1
  go_enter Try.func30, Try.ntmps30
  go_wp2_with (first | (go_at_call 53; (with_reducible refine (r5_one _ _).mono ?_); rintro e w' ⟨rfl, rfl⟩) | (go_at_call 39; (with_reducible refine (r5_flag _ _ _).mono ?_); rintro e w' ⟨rfl, rfl⟩) | (go_at_call 54; (with_reducible refine (r5_signed _ _ (by assumption) (by assumption)).mono ?_); rintro e w' ⟨rfl, rfl⟩) | (go_at_call 51; (with_reducible refine (r5_own _ _ h0 h1).mono ?_); rintro e w' ⟨rfl, rfl⟩))
  all_goals
    go_ret2
    exact ⟨ret_u8u8 rfl (by unfold addF flC outS addR; simp only [*, decide_true, decide_false, Bool.or_true, Bool.true_or, Bool.or_false, Bool.false_or]), rfl⟩

set_option maxHeartbeats 800000 in
theorem r5_sub (a b : Int) (c : Bool) (w : World) (a0 : 0 ≤ a) (a1 : a < 256) (b0 : 0 ≤ b) (b1 : b < 256) : Calls Try.prog 31 #[.int .u8 a, .int .u8 b, .bool c] w fun e w' =>
    e = .returned (.tuple #[.int .u8 (subR a b c), .int .u8 (subF a b c)]) ∧ w = w' := by
  obtain ⟨n0, n1⟩ := num1_in c
  obtain ⟨sa0, sa1⟩ := sgn_in a a0 a1
  obtain ⟨sb0, sb1⟩ := sgn_in b b0 b1
  obtain ⟨h0, h1⟩ := subR_in a b c
  unfold subR at h0 h1
  go_enter Try.func31, Try.ntmps31
  go_wp2_with (first | (go_at_call 53; (with_reducible refine (r5_one _ _).mono ?_); rintro e w' ⟨rfl, rfl⟩) | (go_at_call 39; (with_reducible refine (r5_flag _ _ _).mono ?_); rintro e w' ⟨rfl, rfl⟩) | (go_at_call 54; (with_reducible refine (r5_signed _ _ (by assumption) (by assumption)).mono ?_); rintro e w' ⟨rfl, rfl⟩) | (go_at_call 51; (with_reducible refine (r5_own _ _ h0 h1).mono ?_); rintro e w' ⟨rfl, rfl⟩))
  all_goals
    go_ret2
    exact ⟨ret_u8u8 rfl (by unfold subF flC outS subR; simp only [*, decide_true, decide_false, Bool.or_true, Bool.true_or, Bool.or_false, Bool.false_or]), rfl⟩
end Go.Proofs.Ytiepiihbmaplnaa
