
/- The walk of AluBack. -/
import Derived.Test.YtkmgdpbknmoliaaU7
namespace Go.Proofs.Ytkmgdpbknmoliaa
open Go.RowKit
set_option linter.unusedSimpArgs false
set_option linter.unusedVariables false

theorem add_says (a b : Int) (c : Bool) : (0 ≤ addF a b c ∧ addF a b c < 256) ∧ bits .and .u8 (addF a b c) 1 = flg (decide (255 < a + b + num1 c)) 1 ∧ bits .and .u8 (addF a b c) 2 = 0 ∧ bits .and .u8 (addF a b c) 64 = flg (addR a b c == 0) 64 ∧
    bits .and .u8 (addF a b c) 168 = bits .and .u8 (addR a b c) 168 ∧ bits .and .u8 (addF a b c) 4 = flg (outS (sgn a + sgn b + num1 c)) 4 ∧ bits .and .u8 (addF a b c) 16 = flg (decide (15 < a % 16 + b % 16 + num1 c)) 16 :=
  fl_says (addR a b c) (addR_in a b c).1 (addR_in a b c).2 _ _ _
theorem sub_says (a b : Int) (c : Bool) : (0 ≤ subF a b c ∧ subF a b c < 256) ∧ bits .and .u8 (subF a b c) 1 = flg (decide (a - b - num1 c < 0)) 1 ∧ bits .and .u8 (subF a b c) 2 = 2 ∧ bits .and .u8 (subF a b c) 4 = flg (outS (sgn a - sgn b - num1 c)) 4 :=
  fl_says2 (subR a b c) (subR_in a b c).1 (subR_in a b c).2 _ _ _

theorem flg_ne (b : Bool) (k : Int) (hk : k ≠ 0) : (flg b k != 0) = b := by cases b <;> simp [flg, hk]
theorem sub_add (a b : Int) (c : Bool) (a0 : 0 ≤ a) (a1 : a < 256) : subR (addR a b c) b c = a := by unfold subR addR; omega

set_option maxRecDepth 100000 in
set_option maxHeartbeats 2000000 in
theorem walk_AluBack (w : World) (a : Int) (wa : (Lit.int .u8 a).wf = true) (b : Int) (wb : (Lit.int .u8 b).wf = true) (c : Bool) :
    Calls Try.prog 6 #[.int .u8 a, .int .u8 b, .bool c] w fun e w' => e = .returned (.bool true) ∧ Below w.heap.size w w' := by
  obtain ⟨a0, a1⟩ := wf_u8 wa
  obtain ⟨b0, b1⟩ := wf_u8 wb
  clear wa wb
  obtain ⟨hr0, hr1⟩ := addR_in a b c
  have hs := sub_add a b c a0 a1
  obtain ⟨_, fC, fN, fZ, fX, fP, fH⟩ := add_says a b c
  obtain ⟨_, gC, gN, gP⟩ := sub_says (addR a b c) b c
  have sa := sgn_eq a a0 a1
  have sb := sgn_eq b b0 b1
  have sr := sgn_eq _ hr0 hr1
  obtain ⟨sa0, sa1⟩ := sgn_in a a0 a1
  obtain ⟨sb0, sb1⟩ := sgn_in b b0 b1
  obtain ⟨sr0, sr1⟩ := sgn_in _ hr0 hr1
  have hA := fun w => a5_add a b c w a0 a1 b0 b1
  have hB := fun w => a5_sub (addR a b c) b c w hr0 hr1 b0 b1
  rw [hs] at hB
  have e1 : outS (sgn a + sgn b + num1 c) = (sgn a + sgn b + num1 c != sgn (addR a b c)) := by
    unfold outS sgn addR; cases c <;> simp only [num1] <;> (rw [Bool.eq_iff_iff]; simp; repeat' split) <;> omega
  have e2 : outS (sgn (addR a b c) - sgn b - num1 c) = (sgn (addR a b c) - sgn b - num1 c != sgn a) := by
    unfold outS sgn addR; cases c <;> simp only [num1] <;> (rw [Bool.eq_iff_iff]; simp; repeat' split) <;> omega
  have e3 : decide (addR a b c - b - num1 c < 0) = decide (255 < a + b + num1 c) := by
    unfold addR; cases c <;> simp only [num1] <;> (rw [Bool.eq_iff_iff]; simp) <;> omega
  have e4 : addR a b c + 256 * flg (decide (255 < a + b + num1 c)) 1 = a + b + num1 c := by
    have hn := num1_in c
    by_cases h : 255 < a + b + num1 c
    · rw [decide_eq_true h]; show addR a b c + 256 * 1 = _; unfold addR; omega
    · rw [decide_eq_false h]; show addR a b c + 256 * 0 = _; unfold addR; omega
  have k1 := flg_ne (decide (255 < a + b + num1 c)) 1 (by decide)
  have k2 := flg_ne (addR a b c == 0) 64 (by decide)
  have k3 := flg_ne (outS (sgn a + sgn b + num1 c)) 4 (by decide)
  have k4 := flg_ne (decide (15 < a % 16 + b % 16 + num1 c)) 16 (by decide)
  have k5 := flg_ne (decide (addR a b c - b - num1 c < 0)) 1 (by decide)
  have k6 := flg_ne (outS (sgn (addR a b c) - sgn b - num1 c)) 4 (by decide)
  rw [e1] at k3
  rw [e2] at k6
  rw [e3] at k5
  have hf : 0 ≤ flg (decide (255 < a + b + num1 c)) 1 ∧ flg (decide (255 < a + b + num1 c)) 1 ≤ 1 := by unfold flg; split <;> omega
  obtain ⟨hf0, hf1⟩ := hf
  rw [e1] at fP
  rw [e2] at gP
  rw [e3] at gC
  clear hs e1 e2
  generalize addF a b c = f at *
  generalize subF (addR a b c) b c = g at *
  generalize addR a b c = r at *
  have HA := Lib.hid hA
  have HB := Lib.hid hB
  clear hA hB
  cases c <;> simp only [num1, Bool.false_eq_true, if_false, if_true, Int.add_zero, Int.sub_zero] at *
  all_goals
    go_enter Try.func6, Try.ntmps6
    go_wp2_with (first
      | (go_at_call 13; (with_reducible refine (lives5_any _).mono ?_); rintro e w' ⟨rfl, rfl⟩)
      | (go_at_call 9; (with_reducible refine (HA.out _).mono ?_); rintro e w' ⟨rfl, rfl⟩)
      | (go_at_call 15; (with_reducible refine (HB.out _).mono ?_); rintro e w' ⟨rfl, rfl⟩))
    go_ret
    exact ⟨rfl, Below.refl _ _⟩
end Go.Proofs.Ytkmgdpbknmoliaa
