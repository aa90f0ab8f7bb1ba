
/- What the functions of package alu answer. -/
import Derived.Test.YtkmgdpbknmoliaaU1
namespace Go.Proofs.Ytkmgdpbknmoliaa
open Go.RowKit
set_option linter.unusedSimpArgs false

theorem a5_number (c : Bool) (w : World) : Calls Try.prog 34 #[.bool c] w fun e w' => e = .returned (.int .i64 (num1 c)) ∧ w = w' := by
  cases c
  all_goals
    go_enter Try.func34, Try.ntmps34
    go_wp2
    go_ret
    exact ⟨rfl, rfl⟩

theorem a5_flag (b : Bool) (k : Int) (w : World) : Calls Try.prog 41 #[.bool b, .int .u8 k] w fun e w' => e = .returned (.int .u8 (flg b k)) ∧ w = w' := by
  cases b
  all_goals
    go_enter Try.func41, Try.ntmps41
    go_wp2
    go_ret
    exact ⟨rfl, rfl⟩

theorem a5_own (r : Int) (w : World) : Calls Try.prog 19 #[.int .u8 r] w fun e w' => e = .returned (.int .u8 (ownB r)) ∧ w = w' := by
  go_enter Try.func19, Try.ntmps19
  go_wp2_with (go_at_call 41; (with_reducible refine (a5_flag _ _ _).mono ?_); rintro e w' ⟨rfl, rfl⟩)
  go_ret
  exact ⟨rfl, rfl⟩

theorem a5_replaced (f g m : Int) (w : World) : Calls Try.prog 37 #[.int .u8 f, .int .u8 g, .int .u8 m] w fun e w' => e = .returned (.int .u8 (mixB f g m)) ∧ w = w' := by
  go_enter Try.func37, Try.ntmps37
  go_wp2
  go_ret
  exact ⟨rfl, rfl⟩

set_option maxHeartbeats 800000 in
theorem a5_arith (n l s : Int) (w : World) : Calls Try.prog 35 #[.int .i64 n, .int .i64 l, .int .i64 s] w fun e w' =>
    e = .returned (.int .u8 (flC (n % 256) (decide (n < 0) || decide (255 < n)) (decide (l < 0) || decide (15 < l)) (outS s))) ∧ w = w' := by
  go_enter Try.func35, Try.ntmps35
  go_wp2_with (first
    | (go_at_call 41; (with_reducible refine (a5_flag _ _ _).mono ?_); rintro e w' ⟨rfl, rfl⟩)
    | (go_at_call 19; (with_reducible refine (a5_own _ _).mono ?_); rintro e w' ⟨rfl, rfl⟩))
  all_goals
    go_ret
    exact ⟨ret_u8 (by unfold flC outS; simp only [*, decide_true, decide_false, Bool.or_true, Bool.true_or, Bool.or_false, Bool.false_or]), rfl⟩

theorem a5_add (a b : Int) (c : Bool) (w : World) (a0 : 0 ≤ a) (a1 : a < 256) (b0 : 0 ≤ b) (b1 : b < 256) : Calls Try.prog 9 #[.int .u8 a, .int .u8 b, .bool c] w fun e w' =>
    e = .returned (.tuple #[.int .u8 (addR a b c), .int .u8 (addF a b c)]) ∧ w = w' := by
  obtain ⟨n0, n1⟩ := num1_in c
  have sa := sgn_eq a a0 a1
  have sb := sgn_eq b b0 b1
  obtain ⟨sa0, sa1⟩ := sgn_in a a0 a1
  obtain ⟨sb0, sb1⟩ := sgn_in b b0 b1
  go_enter Try.func9, Try.ntmps9
  go_wp2_with (first
    | (go_at_call 34; (with_reducible refine (a5_number _ _).mono ?_); rintro e w' ⟨rfl, rfl⟩)
    | (go_at_call 35; (with_reducible refine (a5_arith _ _ _ _).mono ?_); rintro e w' ⟨rfl, rfl⟩))
  go_ret2
  have e1 : decide (a + b + num1 c < 0) = false := by simp; omega
  have e2 : decide (a % 16 + b % 16 + num1 c < 0) = false := by simp; omega
  exact ⟨ret_u8u8 rfl (by simp only [e1, e2, Bool.false_or]; rfl), rfl⟩

theorem a5_sub (a b : Int) (c : Bool) (w : World) (a0 : 0 ≤ a) (a1 : a < 256) (b0 : 0 ≤ b) (b1 : b < 256) : Calls Try.prog 15 #[.int .u8 a, .int .u8 b, .bool c] w fun e w' =>
    e = .returned (.tuple #[.int .u8 (subR a b c), .int .u8 (subF a b c)]) ∧ w = w' := by
  obtain ⟨n0, n1⟩ := num1_in c
  have sa := sgn_eq a a0 a1
  have sb := sgn_eq b b0 b1
  obtain ⟨sa0, sa1⟩ := sgn_in a a0 a1
  obtain ⟨sb0, sb1⟩ := sgn_in b b0 b1
  go_enter Try.func15, Try.ntmps15
  go_wp2_with (first
    | (go_at_call 34; (with_reducible refine (a5_number _ _).mono ?_); rintro e w' ⟨rfl, rfl⟩)
    | (go_at_call 35; (with_reducible refine (a5_arith _ _ _ _).mono ?_); rintro e w' ⟨rfl, rfl⟩))
  go_ret2
  have e1 : decide (255 < a - b - num1 c) = false := by simp; omega
  have e2 : decide (15 < a % 16 - b % 16 - num1 c) = false := by simp; omega
  exact ⟨ret_u8u8 rfl (by simp only [e1, e2, Bool.or_false]; rfl), rfl⟩

theorem a5_cp (a b : Int) (w : World) (a0 : 0 ≤ a) (a1 : a < 256) (b0 : 0 ≤ b) (b1 : b < 256) : Calls Try.prog 17 #[.int .u8 a, .int .u8 b] w fun e w' => e = .returned (.int .u8 (cpF a b)) ∧ w = w' := by
  go_enter Try.func17, Try.ntmps17
  go_wp2_with (first
    | (go_at_call 15; (with_reducible refine (a5_sub _ _ _ _ a0 a1 b0 b1).mono ?_); rintro e w' ⟨rfl, rfl⟩)
    | (go_at_call 37; (with_reducible refine (a5_replaced _ _ _ _).mono ?_); rintro e w' ⟨rfl, rfl⟩))
  go_ret
  exact ⟨rfl, rfl⟩

theorem a5_inc (a f : Int) (w : World) (a0 : 0 ≤ a) (a1 : a < 256) : Calls Try.prog 11 #[.int .u8 a, .int .u8 f] w fun e w' => e = .returned (.tuple #[.int .u8 (addR a 1 false), .int .u8 (mixB (addF a 1 false) f 1)]) ∧ w = w' := by
  go_enter Try.func11, Try.ntmps11
  go_wp2_with (first
    | (go_at_call 9; (with_reducible refine (a5_add _ _ _ _ a0 a1 (by decide) (by decide)).mono ?_); rintro e w' ⟨rfl, rfl⟩)
    | (go_at_call 37; (with_reducible refine (a5_replaced _ _ _ _).mono ?_); rintro e w' ⟨rfl, rfl⟩))
  go_ret2
  exact ⟨rfl, rfl⟩

theorem a5_dec (a f : Int) (w : World) (a0 : 0 ≤ a) (a1 : a < 256) : Calls Try.prog 31 #[.int .u8 a, .int .u8 f] w fun e w' => e = .returned (.tuple #[.int .u8 (subR a 1 false), .int .u8 (mixB (subF a 1 false) f 1)]) ∧ w = w' := by
  go_enter Try.func31, Try.ntmps31
  go_wp2_with (first
    | (go_at_call 15; (with_reducible refine (a5_sub _ _ _ _ a0 a1 (by decide) (by decide)).mono ?_); rintro e w' ⟨rfl, rfl⟩)
    | (go_at_call 37; (with_reducible refine (a5_replaced _ _ _ _).mono ?_); rintro e w' ⟨rfl, rfl⟩))
  go_ret2
  exact ⟨rfl, rfl⟩

theorem a5_neg (a : Int) (w : World) (a0 : 0 ≤ a) (a1 : a < 256) : Calls Try.prog 12 #[.int .u8 a] w fun e w' => e = .returned (.tuple #[.int .u8 (subR 0 a false), .int .u8 (subF 0 a false)]) ∧ w = w' := by
  go_enter Try.func12, Try.ntmps12
  go_wp2_with (go_at_call 15; (with_reducible refine (a5_sub _ _ _ _ (by decide) (by decide) a0 a1).mono ?_); rintro e w' ⟨rfl, rfl⟩)
  go_ret2
  exact ⟨rfl, rfl⟩
end Go.Proofs.Ytkmgdpbknmoliaa
