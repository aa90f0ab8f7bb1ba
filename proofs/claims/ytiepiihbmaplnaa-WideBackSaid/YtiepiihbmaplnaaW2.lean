
/- What the functions of package wide answer. -/
import Derived.Test.YtiepiihbmaplnaaW1
import Derived.Test.YtiepiihbmaplnaaU3
namespace Go.Proofs.Ytiepiihbmaplnaa
open Go.RowKit
set_option linter.unusedSimpArgs false
set_option linter.unusedVariables false

theorem in_u16 (x : Int) : 0 ≤ IntKind.u16.wrap x ∧ IntKind.u16.wrap x < 65536 := by rw [wrap_u16]; omega

theorem w7_flag (b : Bool) (k : Int) (w : World) : Calls Try.prog 49 #[.bool b, .int .u8 k] w fun e w' => e = .returned (.int .u8 (flg b k)) ∧ w = w' := by
  cases b
  all_goals
    go_enter Try.func49, Try.ntmps49
    go_wp2
    go_ret
    exact ⟨rfl, rfl⟩

theorem w7_carry (f : Int) (w : World) (f0 : 0 ≤ f) (f1 : f < 256) : Calls Try.prog 40 #[.int .u8 f] w fun e w' => e = .returned (.int .u16 (num1 (cyB f))) ∧ w = w' := by
  go_enter Try.func40, Try.ntmps40
  go_wp2
  go_ret
  exact ⟨ret_u16 ((byte_all (P := fun f => IntKind.u16.wrap (bits .and .u8 f 1) = f % 2) (by decide +kernel) f f0 f1).trans (cy_num f f0 f1)), rfl⟩

theorem w7_carries (c h : Bool) (w : World) : Calls Try.prog 34 #[.bool c, .bool h] w fun e w' => e = .returned (.int .u8 (bits .or .u8 (flg c 1) (flg h 16))) ∧ w = w' := by
  go_enter Try.func34, Try.ntmps34
  go_wp2_with (go_at_call 49; (with_reducible refine (w7_flag _ _ _).mono ?_); rintro e w' ⟨rfl, rfl⟩)
  go_ret
  exact ⟨rfl, rfl⟩

theorem w7_copied (r : Int) (w : World) (r0 : 0 ≤ r) (r1 : r < 65536) : Calls Try.prog 33 #[.int .u16 r] w fun e w' => e = .returned (.int .u8 (bits .andNot .u8 (ownB (r / 256)) 64)) ∧ w = w' := by
  go_enter Try.func33, Try.ntmps33
  go_wp2_with (go_at_call 48; (with_reducible refine (a5_own _ _).mono ?_); rintro e w' ⟨rfl, rfl⟩)
  go_ret
  exact ⟨rfl, rfl⟩

theorem w7_told (r s : Int) (w : World) (r0 : 0 ≤ r) (r1 : r < 65536) : Calls Try.prog 41 #[.int .u16 r, .int .i32 s] w fun e w' =>
    e = .returned (.int .u8 (bits .or .u8 (bits .or .u8 (bits .andNot .u8 (ownB (r / 256)) 64) (flg (r == 0) 64)) (flg (sgnW r != s) 4))) ∧ w = w' := by
  have sr := sgnW_eq r r0 r1
  obtain ⟨s0, s1⟩ := sgnW_in r r0 r1
  go_enter Try.func41, Try.ntmps41
  go_wp2_with (first
    | (go_at_call 49; (with_reducible refine (w7_flag _ _ _).mono ?_); rintro e w' ⟨rfl, rfl⟩)
    | (go_at_call 33; (with_reducible refine (w7_copied _ _ r0 r1).mono ?_); rintro e w' ⟨rfl, rfl⟩))
  go_ret
  exact ⟨rfl, rfl⟩

theorem w7_sum (a b c : Int) (w : World) (a0 : 0 ≤ a) (a1 : a < 65536) (b0 : 0 ≤ b) (b1 : b < 65536) (c0 : 0 ≤ c) (c1 : c < 65536) : Calls Try.prog 32 #[.int .u16 a, .int .u16 b, .int .u16 c] w fun e w' =>
    e = .returned (.tuple #[.int .u16 ((a + b + c) % 65536), .bool (decide (65535 < a + b + c))]) ∧ w = w' := by
  go_enter Try.func32, Try.ntmps32
  go_wp2
  all_goals
    go_ret2
    refine ⟨ret_u16b ?_ ?_, rfl⟩
    · simp only [wrap_u16] at *; omega
    · simp only [wrap_u16] at *; rw [Bool.eq_iff_iff]; simp only [Bool.or_eq_true, decide_eq_true_eq, true_iff, iff_true]; omega

theorem w7_diff (a b c : Int) (w : World) (a0 : 0 ≤ a) (a1 : a < 65536) (b0 : 0 ≤ b) (b1 : b < 65536) (c0 : 0 ≤ c) (c1 : c < 65536) : Calls Try.prog 44 #[.int .u16 a, .int .u16 b, .int .u16 c] w fun e w' =>
    e = .returned (.tuple #[.int .u16 ((a - b - c) % 65536), .bool (decide (a - b - c < 0))]) ∧ w = w' := by
  go_enter Try.func44, Try.ntmps44
  go_wp2
  all_goals
    go_ret2
    refine ⟨ret_u16b ?_ ?_, rfl⟩
    · simp only [wrap_u16] at *; omega
    · simp only [wrap_u16] at *; rw [Bool.eq_iff_iff]; simp only [Bool.or_eq_true, decide_eq_true_eq, true_iff, iff_true]; omega

theorem w7_halfsum (a b c : Int) (w : World) (a0 : 0 ≤ a) (a1 : a < 65536) (b0 : 0 ≤ b) (b1 : b < 65536) (c0 : 0 ≤ c) (c1 : c ≤ 1) : Calls Try.prog 35 #[.int .u16 a, .int .u16 b, .int .u16 c] w fun e w' =>
    e = .returned (.bool (decide (4095 < a % 4096 + b % 4096 + c))) ∧ w = w' := by
  have e := half_sum a b c c0 c1
  have E := Lib.hid e
  clear e
  go_enter Try.func35, Try.ntmps35
  go_wp2_with (go_at_call 32; (with_reducible refine (w7_sum _ _ _ _ (by first | exact (in_u16 _).1 | exact (in_u16 _).2 | omega) (by first | exact (in_u16 _).1 | exact (in_u16 _).2 | omega) (by first | exact (in_u16 _).1 | exact (in_u16 _).2 | omega) (by first | exact (in_u16 _).1 | exact (in_u16 _).2 | omega) (by first | exact (in_u16 _).1 | exact (in_u16 _).2 | omega) (by first | exact (in_u16 _).1 | exact (in_u16 _).2 | omega)).mono ?_); rintro e w' ⟨rfl, rfl⟩)
  go_ret
  exact ⟨congrArg (fun b => Ending.returned (.bool b)) E.out, rfl⟩

theorem w7_halfdiff (a b c : Int) (w : World) (a0 : 0 ≤ a) (a1 : a < 65536) (b0 : 0 ≤ b) (b1 : b < 65536) (c0 : 0 ≤ c) (c1 : c ≤ 1) : Calls Try.prog 45 #[.int .u16 a, .int .u16 b, .int .u16 c] w fun e w' =>
    e = .returned (.bool (decide (a % 4096 - b % 4096 - c < 0))) ∧ w = w' := by
  have e := half_diff a b c c0 c1
  have E := Lib.hid e
  clear e
  go_enter Try.func45, Try.ntmps45
  go_wp2_with (go_at_call 44; (with_reducible refine (w7_diff _ _ _ _ (by first | exact (in_u16 _).1 | exact (in_u16 _).2 | omega) (by first | exact (in_u16 _).1 | exact (in_u16 _).2 | omega) (by first | exact (in_u16 _).1 | exact (in_u16 _).2 | omega) (by first | exact (in_u16 _).1 | exact (in_u16 _).2 | omega) (by first | exact (in_u16 _).1 | exact (in_u16 _).2 | omega) (by first | exact (in_u16 _).1 | exact (in_u16 _).2 | omega)).mono ?_); rintro e w' ⟨rfl, rfl⟩)
  go_ret
  exact ⟨congrArg (fun b => Ending.returned (.bool b)) E.out, rfl⟩

theorem w7_add (a b f : Int) (w : World) (a0 : 0 ≤ a) (a1 : a < 65536) (b0 : 0 ≤ b) (b1 : b < 65536) (f0 : 0 ≤ f) (f1 : f < 256) : Calls Try.prog 9 #[.int .u16 a, .int .u16 b, .int .u8 f] w fun e w' =>
    e = .returned (.tuple #[.int .u16 (addW a b false), .int .u8 (addWF a b f)]) ∧ w = w' := by
  have hr : (a + b) % 65536 = addW a b false := by simp [addW, num1]
  obtain ⟨r0, r1⟩ := addW_in a b false
  obtain ⟨h0, h1⟩ := hi_in ⟨r0, r1⟩
  have k1 := fl_ref _ h0 h1
  have hx := or_in _ _ (and_in f 196 f0 f1 (by decide) (by decide)).1 (and_in f 196 f0 f1 (by decide) (by decide)).2 (and_in _ 40 h0 h1 (by decide) (by decide)).1 (and_in _ 40 h0 h1 (by decide) (by decide)).2
  have k2 := or_two _ hx.1 hx.2 (decide (65535 < a + b)) (decide (4095 < a % 4096 + b % 4096))
  have K1 := Lib.hid k1
  have K2 := Lib.hid k2
  have HR := Lib.hid hr
  have hS := fun w => w7_sum a b 0 w a0 a1 b0 b1 (by decide) (by decide)
  have hH := fun w => w7_halfsum a b 0 w a0 a1 b0 b1 (by decide) (by decide)
  simp only [Int.add_zero] at hS hH
  rw [hr] at hS
  have HS := Lib.hid hS
  have HH := Lib.hid hH
  clear k1 k2 hx hr hS hH
  generalize hR : addW a b false = r at *
  go_enter Try.func9, Try.ntmps9
  go_wp2_with (first
    | (go_at_call 32; (with_reducible refine (HS.out _).mono ?_); rintro e w' ⟨rfl, rfl⟩)
    | (go_at_call 33; (with_reducible refine (w7_copied _ _ r0 r1).mono ?_); rintro e w' ⟨rfl, rfl⟩)
    | (go_at_call 35; (with_reducible refine (HH.out _).mono ?_); rintro e w' ⟨rfl, rfl⟩)
    | (go_at_call 34; (with_reducible refine (w7_carries _ _ _).mono ?_); rintro e w' ⟨rfl, rfl⟩))
  go_ret2
  exact ⟨ret_u16u8 rfl (by rw [K1.out, K2.out]; unfold addWF flA; rw [hR]), rfl⟩

theorem w7_adc (a b f : Int) (w : World) (a0 : 0 ≤ a) (a1 : a < 65536) (b0 : 0 ≤ b) (b1 : b < 65536) (f0 : 0 ≤ f) (f1 : f < 256) : Calls Try.prog 17 #[.int .u16 a, .int .u16 b, .int .u8 f] w fun e w' =>
    e = .returned (.tuple #[.int .u16 (addW a b (cyB f)), .int .u8 (adcF a b (cyB f))]) ∧ w = w' := by
  have hC := fun w => w7_carry f w f0 f1
  generalize cyB f = c at *
  obtain ⟨n0, n1⟩ := num1_in c
  obtain ⟨r0, r1⟩ := addW_in a b c
  obtain ⟨h0, h1⟩ := hi_in ⟨r0, r1⟩
  have k1 := fl_code _ h0 h1 (addW a b c == 0) (decide (65535 < a + b + num1 c)) (decide (4095 < a % 4096 + b % 4096 + num1 c)) (outW (sgnW a + sgnW b + num1 c))
  have k2 := out_sum a b c a0 a1 b0 b1
  have hS := fun w => w7_sum a b (num1 c) w a0 a1 b0 b1 n0 (by omega)
  have hH := fun w => w7_halfsum a b (num1 c) w a0 a1 b0 b1 n0 n1
  rw [show (a + b + num1 c) % 65536 = addW a b c from rfl] at hS
  have sa := sgnW_eq a a0 a1
  have sb := sgnW_eq b b0 b1
  obtain ⟨sa0, sa1⟩ := sgnW_in a a0 a1
  obtain ⟨sb0, sb1⟩ := sgnW_in b b0 b1
  have HC := Lib.hid hC
  have HS := Lib.hid hS
  have HH := Lib.hid hH
  have K1 := Lib.hid k1
  have K2 := Lib.hid k2
  clear k1 k2 hS hH hC
  generalize hR : addW a b c = r at *
  go_enter Try.func17, Try.ntmps17
  go_wp2_with (first
    | (go_at_call 40; (with_reducible refine (HC.out _).mono ?_); rintro e w' ⟨rfl, rfl⟩)
    | (go_at_call 32; (with_reducible refine (HS.out _).mono ?_); rintro e w' ⟨rfl, rfl⟩)
    | (go_at_call 41; (with_reducible refine (w7_told _ _ _ r0 r1).mono ?_); rintro e w' ⟨rfl, rfl⟩)
    | (go_at_call 35; (with_reducible refine (HH.out _).mono ?_); rintro e w' ⟨rfl, rfl⟩)
    | (go_at_call 34; (with_reducible refine (w7_carries _ _ _).mono ?_); rintro e w' ⟨rfl, rfl⟩))
  go_ret2
  exact ⟨ret_u16u8 rfl (by rw [K2.out, K1.out]; unfold adcF; rw [hR]), rfl⟩

theorem w7_sbc (a b f : Int) (w : World) (a0 : 0 ≤ a) (a1 : a < 65536) (b0 : 0 ≤ b) (b1 : b < 65536) (f0 : 0 ≤ f) (f1 : f < 256) : Calls Try.prog 19 #[.int .u16 a, .int .u16 b, .int .u8 f] w fun e w' =>
    e = .returned (.tuple #[.int .u16 (subW a b (cyB f)), .int .u8 (sbcF a b (cyB f))]) ∧ w = w' := by
  have hC := fun w => w7_carry f w f0 f1
  generalize cyB f = c at *
  obtain ⟨n0, n1⟩ := num1_in c
  obtain ⟨r0, r1⟩ := subW_in a b c
  obtain ⟨h0, h1⟩ := hi_in ⟨r0, r1⟩
  have k1 := fl_code _ h0 h1 (subW a b c == 0) (decide (a - b - num1 c < 0)) (decide (a % 4096 - b % 4096 - num1 c < 0)) (outW (sgnW a - sgnW b - num1 c))
  have k2 := out_diff a b c a0 a1 b0 b1
  have hS := fun w => w7_diff a b (num1 c) w a0 a1 b0 b1 n0 (by omega)
  have hH := fun w => w7_halfdiff a b (num1 c) w a0 a1 b0 b1 n0 n1
  rw [show (a - b - num1 c) % 65536 = subW a b c from rfl] at hS
  have sa := sgnW_eq a a0 a1
  have sb := sgnW_eq b b0 b1
  obtain ⟨sa0, sa1⟩ := sgnW_in a a0 a1
  obtain ⟨sb0, sb1⟩ := sgnW_in b b0 b1
  have HC := Lib.hid hC
  have HS := Lib.hid hS
  have HH := Lib.hid hH
  have K1 := Lib.hid k1
  have K2 := Lib.hid k2
  clear k1 k2 hS hH hC
  generalize hR : subW a b c = r at *
  go_enter Try.func19, Try.ntmps19
  go_wp2_with (first
    | (go_at_call 40; (with_reducible refine (HC.out _).mono ?_); rintro e w' ⟨rfl, rfl⟩)
    | (go_at_call 44; (with_reducible refine (HS.out _).mono ?_); rintro e w' ⟨rfl, rfl⟩)
    | (go_at_call 41; (with_reducible refine (w7_told _ _ _ r0 r1).mono ?_); rintro e w' ⟨rfl, rfl⟩)
    | (go_at_call 45; (with_reducible refine (HH.out _).mono ?_); rintro e w' ⟨rfl, rfl⟩)
    | (go_at_call 34; (with_reducible refine (w7_carries _ _ _).mono ?_); rintro e w' ⟨rfl, rfl⟩))
  go_ret2
  exact ⟨ret_u16u8 rfl (by rw [K2.out, K1.out]; unfold sbcF; rw [hR]), rfl⟩

theorem w7_pair (h l : Int) (w : World) (h0 : 0 ≤ h) (h1 : h < 256) (l0 : 0 ≤ l) (l1 : l < 256) : Calls Try.prog 14 #[.int .u8 h, .int .u8 l] w fun e w' => e = .returned (.int .u16 (h * 256 + l)) ∧ w = w' := by
  have e := pair_eq h l h0 h1 l0 l1
  have E := Lib.hid e
  clear e
  go_enter Try.func14, Try.ntmps14
  go_wp2
  go_ret
  exact ⟨ret_u16 E.out, rfl⟩

theorem w7_split (r : Int) (w : World) (r0 : 0 ≤ r) (r1 : r < 65536) : Calls Try.prog 10 #[.int .u16 r] w fun e w' => e = .returned (.tuple #[.int .u8 (r / 256), .int .u8 (r % 256)]) ∧ w = w' := by
  go_enter Try.func10, Try.ntmps10
  go_wp2
  go_ret2
  exact ⟨rfl, rfl⟩

theorem w7_signed (v : Int) (w : World) (v0 : 0 ≤ v) (v1 : v < 256) : Calls Try.prog 15 #[.int .u8 v] w fun e w' => e = .returned (.int .i64 (sgn v)) ∧ w = w' := by
  have sv := sgn_eq v v0 v1
  obtain ⟨s0, s1⟩ := sgn_in v v0 v1
  go_enter Try.func15, Try.ntmps15
  go_wp2
  go_ret
  exact ⟨rfl, rfl⟩

theorem w7_plus (r d : Int) (w : World) (r0 : 0 ≤ r) (r1 : r < 65536) (d0 : 0 ≤ d) (d1 : d < 256) : Calls Try.prog 13 #[.int .u16 r, .int .u8 d] w fun e w' => e = .returned (.int .u16 ((r + sgn d) % 65536)) ∧ w = w' := by
  have sv := sgn_eq d d0 d1
  obtain ⟨s0, s1⟩ := sgn_in d d0 d1
  go_enter Try.func13, Try.ntmps13
  go_wp2
  go_ret
  exact ⟨ret_u16 (by simp only [wrap_u16]; omega), rfl⟩
end Go.Proofs.Ytiepiihbmaplnaa
