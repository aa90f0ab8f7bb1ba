
/- Words are their bytes, the low ones first: the plain mathematics. -/
import Derived.Test.YtiepiihbmaplnaaW1
namespace Go.Proofs.Ytiepiihbmaplnaa
open Go.RowKit
set_option linter.unusedVariables false

/-- The carry of the low bytes. -/
def cLo (a b : Int) (c : Bool) : Bool := decide (255 < a % 256 + b % 256 + num1 c)
def bLo (a b : Int) (c : Bool) : Bool := decide (a % 256 - b % 256 - num1 c < 0)
theorem num1_cLo (a b : Int) (c : Bool) : num1 (cLo a b c) = if 255 < a % 256 + b % 256 + num1 c then 1 else 0 := by
  unfold cLo; by_cases h : 255 < a % 256 + b % 256 + num1 c
  · rw [decide_eq_true h, if_pos h]; rfl
  · rw [decide_eq_false h, if_neg h]; rfl
theorem num1_bLo (a b : Int) (c : Bool) : num1 (bLo a b c) = if a % 256 - b % 256 - num1 c < 0 then 1 else 0 := by
  unfold bLo; by_cases h : a % 256 - b % 256 - num1 c < 0
  · rw [decide_eq_true h, if_pos h]; rfl
  · rw [decide_eq_false h, if_neg h]; rfl


theorem hi_add (a b : Int) (c : Bool) (a0 : 0 ≤ a) (a1 : a < 65536) (b0 : 0 ≤ b) (b1 : b < 65536) : addW a b c / 256 = addR (a / 256) (b / 256) (cLo a b c) := by
  unfold addW addR; rw [num1_cLo]; have := num1_in c; split <;> omega
theorem cy_add (a b : Int) (c : Bool) (a0 : 0 ≤ a) (a1 : a < 65536) (b0 : 0 ≤ b) (b1 : b < 65536) : decide (65535 < a + b + num1 c) = decide (255 < a / 256 + b / 256 + num1 (cLo a b c)) := by
  rw [num1_cLo, decide_eq_decide]; have := num1_in c; split <;> omega
theorem hf_add (a b : Int) (c : Bool) (a0 : 0 ≤ a) (a1 : a < 65536) (b0 : 0 ≤ b) (b1 : b < 65536) : decide (4095 < a % 4096 + b % 4096 + num1 c) = decide (15 < a / 256 % 16 + b / 256 % 16 + num1 (cLo a b c)) := by
  rw [num1_cLo, decide_eq_decide]; have := num1_in c; split <;> omega
theorem ov_add (a b : Int) (c : Bool) (a0 : 0 ≤ a) (a1 : a < 65536) (b0 : 0 ≤ b) (b1 : b < 65536) : outW (sgnW a + sgnW b + num1 c) = outS (sgn (a / 256) + sgn (b / 256) + num1 (cLo a b c)) := by
  have e1 : sgn (a / 256) = sgnW a / 256 := by unfold sgn sgnW; split <;> split <;> omega
  have e2 : sgn (b / 256) = sgnW b / 256 := by unfold sgn sgnW; split <;> split <;> omega
  have e3 : a % 256 = sgnW a % 256 := by unfold sgnW; split <;> omega
  have e4 : b % 256 = sgnW b % 256 := by unfold sgnW; split <;> omega
  rw [num1_cLo, e1, e2, e3, e4]
  have := num1_in c
  have := sgnW_in a a0 a1
  have := sgnW_in b b0 b1
  generalize sgnW a = x at *
  generalize sgnW b = y at *
  unfold outW outS
  rw [Bool.eq_iff_iff]
  simp only [Bool.or_eq_true, decide_eq_true_eq]
  split <;> omega
theorem hi_sub (a b : Int) (c : Bool) (a0 : 0 ≤ a) (a1 : a < 65536) (b0 : 0 ≤ b) (b1 : b < 65536) : subW a b c / 256 = subR (a / 256) (b / 256) (bLo a b c) := by
  unfold subW subR; rw [num1_bLo]; have := num1_in c; split <;> omega
theorem cy_sub (a b : Int) (c : Bool) (a0 : 0 ≤ a) (a1 : a < 65536) (b0 : 0 ≤ b) (b1 : b < 65536) : decide (a - b - num1 c < 0) = decide (a / 256 - b / 256 - num1 (bLo a b c) < 0) := by
  rw [num1_bLo, decide_eq_decide]; have := num1_in c; split <;> omega
theorem hf_sub (a b : Int) (c : Bool) (a0 : 0 ≤ a) (a1 : a < 65536) (b0 : 0 ≤ b) (b1 : b < 65536) : decide (a % 4096 - b % 4096 - num1 c < 0) = decide (a / 256 % 16 - b / 256 % 16 - num1 (bLo a b c) < 0) := by
  rw [num1_bLo, decide_eq_decide]; have := num1_in c; split <;> omega
theorem ov_sub (a b : Int) (c : Bool) (a0 : 0 ≤ a) (a1 : a < 65536) (b0 : 0 ≤ b) (b1 : b < 65536) : outW (sgnW a - sgnW b - num1 c) = outS (sgn (a / 256) - sgn (b / 256) - num1 (bLo a b c)) := by
  have e1 : sgn (a / 256) = sgnW a / 256 := by unfold sgn sgnW; split <;> split <;> omega
  have e2 : sgn (b / 256) = sgnW b / 256 := by unfold sgn sgnW; split <;> split <;> omega
  have e3 : a % 256 = sgnW a % 256 := by unfold sgnW; split <;> omega
  have e4 : b % 256 = sgnW b % 256 := by unfold sgnW; split <;> omega
  rw [num1_bLo, e1, e2, e3, e4]
  have := num1_in c
  have := sgnW_in a a0 a1
  have := sgnW_in b b0 b1
  generalize sgnW a = x at *
  generalize sgnW b = y at *
  unfold outW outS
  rw [Bool.eq_iff_iff]
  simp only [Bool.or_eq_true, decide_eq_true_eq]
  split <;> omega

theorem adc_bytes (a b : Int) (c : Bool) (a0 : 0 ≤ a) (a1 : a < 65536) (b0 : 0 ≤ b) (b1 : b < 65536) : bits .or .u16 (addR (a / 256) (b / 256) (cLo a b c) * 256) (addR (a % 256) (b % 256) c) = addW a b c ∧
    bits .andNot .u8 (adcF a b c) 64 = bits .andNot .u8 (addF (a / 256) (b / 256) (cLo a b c)) 64 ∧ bits .and .u8 (adcF a b c) 64 = flg (addW a b c == 0) 64 := by
  have hi := hi_in (addW_in a b c)
  have hf := fl_bytes (addW a b c / 256) hi.1 hi.2 (addW a b c == 0) (decide (65535 < a + b + num1 c)) (decide (4095 < a % 4096 + b % 4096 + num1 c)) (outW (sgnW a + sgnW b + num1 c))
  refine ⟨?_, ?_, hf.2.1⟩
  · have h1 := addR_in (a / 256) (b / 256) (cLo a b c)
    have h2 := addR_in (a % 256) (b % 256) c
    rw [pair_eq _ _ h1.1 h1.2 h2.1 h2.2, ← hi_add a b c a0 a1 b0 b1]
    unfold addW addR; omega
  · refine hf.1.trans ?_
    rw [cy_add a b c a0 a1 b0 b1, hf_add a b c a0 a1 b0 b1, ov_add a b c a0 a1 b0 b1, hi_add a b c a0 a1 b0 b1]
    rfl
theorem sbc_bytes (a b : Int) (c : Bool) (a0 : 0 ≤ a) (a1 : a < 65536) (b0 : 0 ≤ b) (b1 : b < 65536) : bits .or .u16 (subR (a / 256) (b / 256) (bLo a b c) * 256) (subR (a % 256) (b % 256) c) = subW a b c ∧
    bits .andNot .u8 (sbcF a b c) 64 = bits .andNot .u8 (subF (a / 256) (b / 256) (bLo a b c)) 64 ∧ bits .and .u8 (sbcF a b c) 64 = flg (subW a b c == 0) 64 := by
  have hi := hi_in (subW_in a b c)
  have hf := fl_bytes (subW a b c / 256) hi.1 hi.2 (subW a b c == 0) (decide (a - b - num1 c < 0)) (decide (a % 4096 - b % 4096 - num1 c < 0)) (outW (sgnW a - sgnW b - num1 c))
  refine ⟨?_, ?_, hf.2.2.2⟩
  · have h1 := subR_in (a / 256) (b / 256) (bLo a b c)
    have h2 := subR_in (a % 256) (b % 256) c
    rw [pair_eq _ _ h1.1 h1.2 h2.1 h2.2, ← hi_sub a b c a0 a1 b0 b1]
    unfold subW subR; omega
  · refine hf.2.2.1.trans ?_
    rw [cy_sub a b c a0 a1 b0 b1, hf_sub a b c a0 a1 b0 b1, ov_sub a b c a0 a1 b0 b1, hi_sub a b c a0 a1 b0 b1]
    rfl
theorem keep_bits (f : Int) (f0 : 0 ≤ f) (f1 : f < 256) : ∃ s z p : Bool, bits .and .u8 f 196 = bits .or .u8 (bits .or .u8 (flg s 128) (flg z 64)) (flg p 4) :=
  byte_all (P := fun f => ∃ s z p : Bool, bits .and .u8 f 196 = bits .or .u8 (bits .or .u8 (flg s 128) (flg z 64)) (flg p 4)) (by decide +kernel) f f0 f1
theorem yx_bits (h : Int) (h0 : 0 ≤ h) (h1 : h < 256) : ∃ y x : Bool, bits .and .u8 h 40 = bits .or .u8 (flg y 32) (flg x 8) :=
  byte_all (P := fun h => ∃ y x : Bool, bits .and .u8 h 40 = bits .or .u8 (flg y 32) (flg x 8)) (by decide +kernel) h h0 h1
theorem flA_says (f hi : Int) (c h : Bool) (f0 : 0 ≤ f) (f1 : f < 256) (h0 : 0 ≤ hi) (h1 : hi < 256) : bits .and .u8 (flA f hi c h) 196 = bits .and .u8 f 196 ∧ bits .andNot .u8 (flA f hi c h) 196 = bits .or .u8 (bits .or .u8 (bits .and .u8 hi 40) (flg c 1)) (flg h 16) := by
  unfold flA
  obtain ⟨s, z, p, e1⟩ := keep_bits f f0 f1
  obtain ⟨y, x, e2⟩ := yx_bits hi h0 h1
  rw [e1, e2]
  clear e1 e2 f0 f1 h0 h1
  revert c h s z p y x
  decide +kernel
theorem flC_rest (hi : Int) (h0 : 0 ≤ hi) (h1 : hi < 256) (c h p : Bool) : bits .andNot .u8 (flC hi c h p) 196 = bits .or .u8 (bits .or .u8 (bits .and .u8 hi 40) (flg c 1)) (flg h 16) := by
  have := byte_all (P := fun hi => ∀ c h p : Bool, bits .andNot .u8 (flC hi c h p) 196 = bits .or .u8 (bits .or .u8 (bits .and .u8 hi 40) (flg c 1)) (flg h 16)) (by decide +kernel) hi h0 h1
  exact this c h p
theorem add_bytes (a b f : Int) (a0 : 0 ≤ a) (a1 : a < 65536) (b0 : 0 ≤ b) (b1 : b < 65536) (f0 : 0 ≤ f) (f1 : f < 256) :
    bits .or .u16 (addR (a / 256) (b / 256) (cLo a b false) * 256) (addR (a % 256) (b % 256) false) = addW a b false ∧
    bits .and .u8 (addWF a b f) 196 = bits .and .u8 f 196 ∧ bits .andNot .u8 (addWF a b f) 196 = bits .andNot .u8 (addF (a / 256) (b / 256) (cLo a b false)) 196 := by
  have hi := hi_in (addW_in a b false)
  have hs := flA_says f (addW a b false / 256) (decide (65535 < a + b)) (decide (4095 < a % 4096 + b % 4096)) f0 f1 hi.1 hi.2
  refine ⟨(adc_bytes a b false a0 a1 b0 b1).1, hs.1, ?_⟩
  refine hs.2.trans ?_
  have e1 := cy_add a b false a0 a1 b0 b1
  have e2 := hf_add a b false a0 a1 b0 b1
  simp only [show num1 false = 0 from rfl, Int.add_zero] at e1 e2
  rw [e1, e2, hi_add a b false a0 a1 b0 b1]
  have hr := addR_in (a / 256) (b / 256) (cLo a b false)
  exact (flC_rest _ hr.1 hr.2 _ _ _).symm
end Go.Proofs.Ytiepiihbmaplnaa
