
/- The walk of WideBytes. -/
import Derived.Test.YtiepiihbmaplnaaW5
import Derived.Test.YtiepiihbmaplnaaW6
namespace Go.Proofs.Ytiepiihbmaplnaa
open Go.RowKit
set_option linter.unusedSimpArgs false
set_option linter.unusedVariables false

theorem flg_ne7 (b : Bool) (k : Int) (hk : k ≠ 0) : (flg b k != 0) = b := by cases b <;> simp [flg, hk]
theorem add_c (a b : Int) (c : Bool) : bits .and .u8 (addF a b c) 1 = flg (decide (255 < a + b + num1 c)) 1 := (fl_says (addR a b c) (addR_in a b c).1 (addR_in a b c).2 _ _ _).2.1
theorem sub_c (a b : Int) (c : Bool) : bits .and .u8 (subF a b c) 1 = flg (decide (a - b - num1 c < 0)) 1 := (fl_says2 (subR a b c) (subR_in a b c).1 (subR_in a b c).2 _ _ _).2.1

set_option maxRecDepth 100000 in
set_option maxHeartbeats 2000000 in
theorem walk_WideBytes (w : World) (a : Int) (wa : (Lit.int .u16 a).wf = true) (b : Int) (wb : (Lit.int .u16 b).wf = true) (f : Int) (wf : (Lit.int .u8 f).wf = true) :
    Calls Try.prog 6 #[.int .u16 a, .int .u16 b, .int .u8 f] w fun e w' => e = .returned (.bool true) ∧ Below w.heap.size w w' := by
  obtain ⟨a0, a1⟩ := wf_u16 wa
  obtain ⟨b0, b1⟩ := wf_u16 wb
  obtain ⟨f0, f1⟩ := wf_u8 wf
  clear wa wb wf
  have hA := fun w => w7_adc a b f w a0 a1 b0 b1 f0 f1
  have hS := fun w => w7_sbc a b f w a0 a1 b0 b1 f0 f1
  have hP := fun w => w7_add a b f w a0 a1 b0 b1 f0 f1
  have A1 := add_c (a % 256) (b % 256) (cyB f)
  have S1 := sub_c (a % 256) (b % 256) (cyB f)
  have P1 := add_c (a % 256) (b % 256) false
  rw [show decide (255 < a % 256 + b % 256 + num1 (cyB f)) = cLo a b (cyB f) from rfl] at A1
  rw [show decide (a % 256 - b % 256 - num1 (cyB f) < 0) = bLo a b (cyB f) from rfl] at S1
  rw [show decide (255 < a % 256 + b % 256 + num1 false) = cLo a b false from rfl] at P1
  obtain ⟨A2, A3, A4⟩ := adc_bytes a b (cyB f) a0 a1 b0 b1
  obtain ⟨S2, S3, S4⟩ := sbc_bytes a b (cyB f) a0 a1 b0 b1
  obtain ⟨P2, P3, P4⟩ := add_bytes a b f a0 a1 b0 b1 f0 f1
  have hAl := fun w => r5_add (a % 256) (b % 256) (cyB f) w (by omega) (by omega) (by omega) (by omega)
  have hSl := fun w => r5_sub (a % 256) (b % 256) (cyB f) w (by omega) (by omega) (by omega) (by omega)
  have hPl := fun w => r5_add (a % 256) (b % 256) false w (by omega) (by omega) (by omega) (by omega)
  have hAh := fun w => r5_add (a / 256) (b / 256) (cLo a b (cyB f)) w (by omega) (by omega) (by omega) (by omega)
  have hSh := fun w => r5_sub (a / 256) (b / 256) (bLo a b (cyB f)) w (by omega) (by omega) (by omega) (by omega)
  have hPh := fun w => r5_add (a / 256) (b / 256) (cLo a b false) w (by omega) (by omega) (by omega) (by omega)
  have F1 := flg_ne7 (cLo a b (cyB f)) 1 (by decide)
  have F2 := flg_ne7 (bLo a b (cyB f)) 1 (by decide)
  have F3 := flg_ne7 (cLo a b false) 1 (by decide)
  have F4 := flg_ne7 (addW a b (cyB f) == 0) 64 (by decide)
  have F5 := flg_ne7 (subW a b (cyB f) == 0) 64 (by decide)
  have hcy : (bits .and .u8 f 1 != 0) = cyB f := rfl
  have R1 := addR_in (a / 256) (b / 256) (cLo a b (cyB f))
  have R2 := subR_in (a / 256) (b / 256) (bLo a b (cyB f))
  have R3 := addR_in (a / 256) (b / 256) (cLo a b false)
  have L1 := addR_in (a % 256) (b % 256) (cyB f)
  have L2 := subR_in (a % 256) (b % 256) (cyB f)
  have L3 := addR_in (a % 256) (b % 256) false
  obtain ⟨q1, B1⟩ : ∃ q, bits .andNot .u8 (addF (a / 256) (b / 256) (cLo a b (cyB f))) 64 = q := ⟨_, rfl⟩
  obtain ⟨q2, B2⟩ : ∃ q, bits .andNot .u8 (subF (a / 256) (b / 256) (bLo a b (cyB f))) 64 = q := ⟨_, rfl⟩
  obtain ⟨q3, B3⟩ : ∃ q, bits .andNot .u8 (addF (a / 256) (b / 256) (cLo a b false)) 196 = q := ⟨_, rfl⟩
  obtain ⟨q4, B4⟩ : ∃ q, bits .and .u8 f 196 = q := ⟨_, rfl⟩
  rw [B1] at A3
  rw [B2] at S3
  rw [B3] at P4
  rw [B4] at P3
  generalize addF (a / 256) (b / 256) (cLo a b (cyB f)) = m1 at *
  generalize subF (a / 256) (b / 256) (bLo a b (cyB f)) = m2 at *
  generalize addF (a / 256) (b / 256) (cLo a b false) = m3 at *
  generalize addR (a / 256) (b / 256) (cLo a b (cyB f)) = h1 at *
  generalize subR (a / 256) (b / 256) (bLo a b (cyB f)) = h2 at *
  generalize addR (a / 256) (b / 256) (cLo a b false) = h3 at *
  generalize addF (a % 256) (b % 256) (cyB f) = k1 at *
  generalize subF (a % 256) (b % 256) (cyB f) = k2 at *
  generalize addF (a % 256) (b % 256) false = k3 at *
  generalize addR (a % 256) (b % 256) (cyB f) = l1 at *
  generalize subR (a % 256) (b % 256) (cyB f) = l2 at *
  generalize addR (a % 256) (b % 256) false = l3 at *
  generalize adcF a b (cyB f) = g1 at *
  generalize sbcF a b (cyB f) = g2 at *
  generalize addWF a b f = g3 at *
  generalize addW a b (cyB f) = x1 at *
  generalize subW a b (cyB f) = x2 at *
  generalize addW a b false = x3 at *
  generalize cLo a b (cyB f) = d1 at *
  generalize bLo a b (cyB f) = d2 at *
  generalize cLo a b false = d3 at *
  have HA := Lib.hid hA
  have HS := Lib.hid hS
  have HP := Lib.hid hP
  have HAl := Lib.hid hAl
  have HSl := Lib.hid hSl
  have HPl := Lib.hid hPl
  have HAh := Lib.hid hAh
  have HSh := Lib.hid hSh
  have HPh := Lib.hid hPh
  clear hA hS hP hAl hSl hPl hAh hSh hPh
  obtain ⟨R10, R11⟩ := R1
  obtain ⟨R20, R21⟩ := R2
  obtain ⟨R30, R31⟩ := R3
  obtain ⟨L10, L11⟩ := L1
  obtain ⟨L20, L21⟩ := L2
  obtain ⟨L30, L31⟩ := L3
  generalize cyB f = c at *
  clear f0 f1
  go_enter Try.func6, Try.ntmps6
  go_wp2_with (first
    | (go_at_call 11; (with_reducible refine (lives7_any _).mono ?_); rintro e w' ⟨rfl, rfl⟩)
    | (go_at_call 17; (with_reducible refine (HA.out _).mono ?_); rintro e w' ⟨rfl, rfl⟩)
    | (go_at_call 19; (with_reducible refine (HS.out _).mono ?_); rintro e w' ⟨rfl, rfl⟩)
    | (go_at_call 9; (with_reducible refine (HP.out _).mono ?_); rintro e w' ⟨rfl, rfl⟩)
    | (go_at_call 30; (first | with_reducible refine (HAl.out _).mono ?_ | with_reducible refine (HAh.out _).mono ?_ | with_reducible refine (HPl.out _).mono ?_ | with_reducible refine (HPh.out _).mono ?_); rintro e w' ⟨rfl, rfl⟩)
    | (go_at_call 31; (first | with_reducible refine (HSl.out _).mono ?_ | with_reducible refine (HSh.out _).mono ?_); rintro e w' ⟨rfl, rfl⟩))
  go_ret
  exact ⟨rfl, Below.refl _ _⟩
end Go.Proofs.Ytiepiihbmaplnaa
