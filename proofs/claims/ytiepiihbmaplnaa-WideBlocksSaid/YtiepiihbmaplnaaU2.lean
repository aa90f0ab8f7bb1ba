
/- What the functions of package alu answer. -/
import Derived.Test.YtiepiihbmaplnaaU1
namespace Go.Proofs.Ytiepiihbmaplnaa
open Go.RowKit
set_option linter.unusedSimpArgs false

theorem a5_number (c : Bool) (w : World) : Calls Try.prog 55 #[.bool c] w fun e w' => e = .returned (.int .i64 (num1 c)) ∧ w = w' := by
  cases c
  all_goals
    go_enter Try.func55, Try.ntmps55
    go_wp2
    go_ret
    exact ⟨rfl, rfl⟩

theorem a5_flag (b : Bool) (k : Int) (w : World) : Calls Try.prog 57 #[.bool b, .int .u8 k] w fun e w' => e = .returned (.int .u8 (flg b k)) ∧ w = w' := by
  cases b
  all_goals
    go_enter Try.func57, Try.ntmps57
    go_wp2
    go_ret
    exact ⟨rfl, rfl⟩

theorem a5_own (r : Int) (w : World) : Calls Try.prog 48 #[.int .u8 r] w fun e w' => e = .returned (.int .u8 (ownB r)) ∧ w = w' := by
  go_enter Try.func48, Try.ntmps48
  go_wp2_with (go_at_call 57; (with_reducible refine (a5_flag _ _ _).mono ?_); rintro e w' ⟨rfl, rfl⟩)
  go_ret
  exact ⟨rfl, rfl⟩

set_option maxHeartbeats 800000 in
theorem a5_arith (n l s : Int) (w : World) : Calls Try.prog 56 #[.int .i64 n, .int .i64 l, .int .i64 s] w fun e w' =>
    e = .returned (.int .u8 (flC (n % 256) (decide (n < 0) || decide (255 < n)) (decide (l < 0) || decide (15 < l)) (outS s))) ∧ w = w' := by
  go_enter Try.func56, Try.ntmps56
  go_wp2_with (first
    | (go_at_call 57; (with_reducible refine (a5_flag _ _ _).mono ?_); rintro e w' ⟨rfl, rfl⟩)
    | (go_at_call 48; (with_reducible refine (a5_own _ _).mono ?_); rintro e w' ⟨rfl, rfl⟩))
  all_goals
    go_ret
    exact ⟨ret_u8 (by unfold flC outS; simp only [*, decide_true, decide_false, Bool.or_true, Bool.true_or, Bool.or_false, Bool.false_or]), rfl⟩

theorem a5_sub (a b : Int) (c : Bool) (w : World) (a0 : 0 ≤ a) (a1 : a < 256) (b0 : 0 ≤ b) (b1 : b < 256) : Calls Try.prog 47 #[.int .u8 a, .int .u8 b, .bool c] w fun e w' =>
    e = .returned (.tuple #[.int .u8 (subR a b c), .int .u8 (subF a b c)]) ∧ w = w' := by
  obtain ⟨n0, n1⟩ := num1_in c
  have sa := sgn_eq a a0 a1
  have sb := sgn_eq b b0 b1
  obtain ⟨sa0, sa1⟩ := sgn_in a a0 a1
  obtain ⟨sb0, sb1⟩ := sgn_in b b0 b1
  go_enter Try.func47, Try.ntmps47
  go_wp2_with (first
    | (go_at_call 55; (with_reducible refine (a5_number _ _).mono ?_); rintro e w' ⟨rfl, rfl⟩)
    | (go_at_call 56; (with_reducible refine (a5_arith _ _ _ _).mono ?_); rintro e w' ⟨rfl, rfl⟩))
  go_ret2
  have e1 : decide (255 < a - b - num1 c) = false := by simp; omega
  have e2 : decide (15 < a % 16 - b % 16 - num1 c) = false := by simp; omega
  exact ⟨ret_u8u8 rfl (by simp only [e1, e2, Bool.or_false]; rfl), rfl⟩

end Go.Proofs.Ytiepiihbmaplnaa
