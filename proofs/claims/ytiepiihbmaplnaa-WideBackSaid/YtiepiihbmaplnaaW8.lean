
/- The walk of WideBack. -/
import Derived.Test.YtiepiihbmaplnaaW5
namespace Go.Proofs.Ytiepiihbmaplnaa
open Go.RowKit
set_option linter.unusedSimpArgs false
set_option linter.unusedVariables false

theorem back_word (a b : Int) (c : Bool) (a0 : 0 ≤ a) (a1 : a < 65536) : subW (addW a b c) b c = a := by unfold subW addW; omega

set_option maxHeartbeats 1000000 in
theorem walk_WideBack (w : World) (a : Int) (wa : (Lit.int .u16 a).wf = true) (b : Int) (wb : (Lit.int .u16 b).wf = true) (d : Int) (wd : (Lit.int .u8 d).wf = true) (f : Int) (wf : (Lit.int .u8 f).wf = true) :
    Calls Try.prog 7 #[.int .u16 a, .int .u16 b, .int .u8 d, .int .u8 f] w fun e w' => e = .returned (.bool true) ∧ Below w.heap.size w w' := by
  obtain ⟨a0, a1⟩ := wf_u16 wa
  obtain ⟨b0, b1⟩ := wf_u16 wb
  obtain ⟨d0, d1⟩ := wf_u8 wd
  obtain ⟨f0, f1⟩ := wf_u8 wf
  clear wa wb wf wd
  obtain ⟨x0, x1⟩ := addW_in a b (cyB f)
  have hA := fun w => w7_adc a b f w a0 a1 b0 b1 f0 f1
  have hS := fun w => w7_sbc (addW a b (cyB f)) b f w x0 x1 b0 b1 f0 f1
  rw [back_word a b (cyB f) a0 a1] at hS
  obtain ⟨y, hy⟩ : ∃ y, (0 - d) % 256 = y := ⟨_, rfl⟩
  have y0 : 0 ≤ y ∧ y < 256 := by omega
  obtain ⟨y0, y1⟩ := y0
  have hw8 : -d % 256 = y := by rw [← hy]; omega
  have hs := sgn_in d d0 d1
  have hq : sgn d % 256 = d := by unfold sgn; split <;> omega
  have hq8 : IntKind.u8.wrap (sgn d) = d := by rw [wrap_u8]; exact hq
  obtain ⟨s0, s1⟩ := hs
  obtain ⟨z0, z1⟩ := sgn_in y y0 y1
  have HA := Lib.hid hA
  have HS := Lib.hid hS
  have HY := Lib.hid hy
  have hsd := fun w => w7_signed d w d0 d1
  have hsy := fun w => w7_signed y w y0 y1
  have hpa := fun w => w7_plus a d w a0 a1 d0 d1
  have hpb := fun w => w7_plus ((a + sgn d) % 65536) y w (by omega) (by omega) y0 y1
  have HSD := Lib.hid hsd
  have HSY := Lib.hid hsy
  have HPA := Lib.hid hpa
  have HPB := Lib.hid hpb
  clear hA hS hy hsd hsy hpa hpb
  generalize addW a b (cyB f) = x at *
  generalize sgn d = s at *
  generalize sgn y = z at *
  have r1 : IntKind.u16.wrap (a + IntKind.u16.wrap s) = (a + s) % 65536 := by simp only [wrap_u16]; omega
  have r2 : IntKind.u16.wrap ((a + s) % 65536 + IntKind.u16.wrap z) = ((a + s) % 65536 + z) % 65536 := by simp only [wrap_u16]; omega
  go_enter Try.func7, Try.ntmps7
  go_wp2_with (first
    | (go_at_call 11; (with_reducible refine (lives7_any _).mono ?_); rintro e w' ⟨rfl, rfl⟩)
    | (go_at_call 17; (with_reducible refine (HA.out _).mono ?_); rintro e w' ⟨rfl, rfl⟩)
    | (go_at_call 19; (with_reducible refine (HS.out _).mono ?_); rintro e w' ⟨rfl, rfl⟩)
    | (go_at_call 10; (with_reducible refine (w7_split _ _ (by omega) (by omega)).mono ?_); rintro e w' ⟨rfl, rfl⟩)
    | (go_at_call 14; (with_reducible refine (w7_pair _ _ _ (by omega) (by omega) (by omega) (by omega)).mono ?_); rintro e w' ⟨rfl, rfl⟩)
    | (go_at_call 13; (first | with_reducible refine (HPA.out _).mono ?_ | with_reducible refine (HPB.out _).mono ?_); rintro e w' ⟨rfl, rfl⟩)
    | (go_at_call 15; (first | with_reducible refine (HSD.out _).mono ?_ | with_reducible refine (HSY.out _).mono ?_); rintro e w' ⟨rfl, rfl⟩))
  all_goals
    go_ret
    exact ⟨rfl, Below.refl _ _⟩
end Go.Proofs.Ytiepiihbmaplnaa
