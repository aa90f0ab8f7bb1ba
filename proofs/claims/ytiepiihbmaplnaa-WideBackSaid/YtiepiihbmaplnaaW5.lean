
/- lives of chapter 7, and the walks of WideNames, WideCalls and WideBlocks. -/
import Derived.Test.YtiepiihbmaplnaaW3
import Derived.Test.YtiepiihbmaplnaaW4
namespace Go.Proofs.Ytiepiihbmaplnaa
open Go.RowKit
set_option linter.unusedSimpArgs false
set_option linter.unusedVariables false

theorem w5v1 : addW 4095 1 false = 4096 ∧ addWF 4095 1 0 = 16 ∧ addW 32767 0 (cyB 1) = 32768 ∧ adcF 32767 0 (cyB 1) = 148 ∧ subW 0 1 (cyB 0) = 65535 ∧ sbcF 0 1 (cyB 0) = 187 := by decide +kernel
theorem lives7_any (w : World) : Calls Try.prog 11 #[] w fun e w' => e = .returned (.bool true) ∧ w = w' := by
  obtain ⟨h1, h2, h3, h4, h5, h6⟩ := w5v1
  go_enter Try.func11, Try.ntmps11
  go_wp2_with (first
    | (go_at_call 9; (with_reducible refine (w7_add _ _ _ _ (by decide) (by decide) (by decide) (by decide) (by decide) (by decide)).mono ?_); rintro e w' ⟨rfl, rfl⟩)
    | (go_at_call 17; (with_reducible refine (w7_adc _ _ _ _ (by decide) (by decide) (by decide) (by decide) (by decide) (by decide)).mono ?_); rintro e w' ⟨rfl, rfl⟩)
    | (go_at_call 19; (with_reducible refine (w7_sbc _ _ _ _ (by decide) (by decide) (by decide) (by decide) (by decide) (by decide)).mono ?_); rintro e w' ⟨rfl, rfl⟩))
  go_ret
  exact ⟨rfl, rfl⟩

theorem w5v2 : addW 65535 1 false = 0 ∧ addWF 65535 1 197 = 213 ∧ moveF 1 1 5 0 = 36 ∧ sgn 254 = -2 ∧ sgn 128 = -128 := by decide +kernel
theorem walk_WideNames (w : World) : Calls Try.prog 3 #[] w fun e w' => e = .returned (.bool true) ∧ Below w.heap.size w w' := by
  obtain ⟨h1, h2, h3, h4, h5⟩ := w5v2
  go_enter Try.func3, Try.ntmps3
  go_wp2_with (first
    | (go_at_call 11; (with_reducible refine (lives7_any _).mono ?_); rintro e w' ⟨rfl, rfl⟩)
    | (go_at_call 9; (with_reducible refine (w7_add _ _ _ _ (by decide) (by decide) (by decide) (by decide) (by decide) (by decide)).mono ?_); rintro e w' ⟨rfl, rfl⟩)
    | (go_at_call 10; (with_reducible refine (w7_split _ _ (by decide) (by decide)).mono ?_); rintro e w' ⟨rfl, rfl⟩)
    | (go_at_call 12; (with_reducible refine (w7_move _ _ _ _ _ (by decide) (by decide) (by decide) (by decide)).mono ?_); rintro e w' ⟨rfl, rfl⟩)
    | (go_at_call 13; (with_reducible refine (w7_plus _ _ _ (by decide) (by decide) (by decide) (by decide)).mono ?_); rintro e w' ⟨rfl, rfl⟩)
    | (go_at_call 14; (with_reducible refine (w7_pair _ _ _ (by decide) (by decide) (by decide) (by decide)).mono ?_); rintro e w' ⟨rfl, rfl⟩)
    | (go_at_call 15; (with_reducible refine (w7_signed _ _ (by decide) (by decide)).mono ?_); rintro e w' ⟨rfl, rfl⟩))
  go_ret
  exact ⟨rfl, Below.refl _ _⟩

set_option maxHeartbeats 1000000 in
theorem walk_WideCalls (w : World) (a : Int) (wa : (Lit.int .u16 a).wf = true) (b : Int) (wb : (Lit.int .u16 b).wf = true) (f : Int) (wf : (Lit.int .u8 f).wf = true) (d : Int) (wd : (Lit.int .u8 d).wf = true) :
    Calls Try.prog 4 #[.int .u16 a, .int .u16 b, .int .u8 f, .int .u8 d] w fun e w' => e = .returned (.bool true) ∧ Below w.heap.size w w' := by
  obtain ⟨a0, a1⟩ := wf_u16 wa
  obtain ⟨b0, b1⟩ := wf_u16 wb
  obtain ⟨f0, f1⟩ := wf_u8 wf
  obtain ⟨d0, d1⟩ := wf_u8 wd
  clear wa wb wf wd
  go_enter Try.func4, Try.ntmps4
  go_wp2_with (first
    | (go_at_call 11; (with_reducible refine (lives7_any _).mono ?_); rintro e w' ⟨rfl, rfl⟩)
    | (go_at_call 9; (with_reducible refine (w7_add _ _ _ _ a0 a1 b0 b1 f0 f1).mono ?_); rintro e w' ⟨rfl, rfl⟩)
    | (go_at_call 17; (with_reducible refine (w7_adc _ _ _ _ a0 a1 b0 b1 f0 f1).mono ?_); rintro e w' ⟨rfl, rfl⟩)
    | (go_at_call 19; (with_reducible refine (w7_sbc _ _ _ _ a0 a1 b0 b1 f0 f1).mono ?_); rintro e w' ⟨rfl, rfl⟩)
    | (go_at_call 10; (with_reducible refine (w7_split _ _ a0 a1).mono ?_); rintro e w' ⟨rfl, rfl⟩)
    | (go_at_call 14; (with_reducible refine (w7_pair _ _ _ f0 f1 d0 d1).mono ?_); rintro e w' ⟨rfl, rfl⟩)
    | (go_at_call 15; (with_reducible refine (w7_signed _ _ d0 d1).mono ?_); rintro e w' ⟨rfl, rfl⟩)
    | (go_at_call 13; (with_reducible refine (w7_plus _ _ _ a0 a1 d0 d1).mono ?_); rintro e w' ⟨rfl, rfl⟩)
    | (go_at_call 16; (with_reducible refine (r7_add _ _ _ _ a0 a1 b0 b1 f0 f1).mono ?_); rintro e w' ⟨rfl, rfl⟩)
    | (go_at_call 18; (with_reducible refine (r7_adc _ _ _ _ a0 a1 b0 b1 f0 f1).mono ?_); rintro e w' ⟨rfl, rfl⟩)
    | (go_at_call 20; (with_reducible refine (r7_sbc _ _ _ _ a0 a1 b0 b1 f0 f1).mono ?_); rintro e w' ⟨rfl, rfl⟩)
    | (go_at_call 21; (with_reducible refine (r7_split _ _ a0 a1).mono ?_); rintro e w' ⟨rfl, rfl⟩)
    | (go_at_call 22; (with_reducible refine (r7_pair _ _ _ f0 f1 d0 d1).mono ?_); rintro e w' ⟨rfl, rfl⟩)
    | (go_at_call 23; (with_reducible refine (r7_signed _ _ d0 d1).mono ?_); rintro e w' ⟨rfl, rfl⟩)
    | (go_at_call 24; (with_reducible refine (r7_plus _ _ _ a0 a1 d0 d1).mono ?_); rintro e w' ⟨rfl, rfl⟩))
  go_ret
  exact ⟨rfl, Below.refl _ _⟩

set_option maxHeartbeats 1000000 in
theorem walk_WideBlocks (w : World) (a : Int) (wa : (Lit.int .u8 a).wf = true) (v : Int) (wv : (Lit.int .u8 v).wf = true) (b : Int) (wb : (Lit.int .u8 b).wf = true) (f : Int) (wf : (Lit.int .u8 f).wf = true) (l : Int) (wl : (Lit.int .u16 l).wf = true) :
    Calls Try.prog 5 #[.int .u8 a, .int .u8 v, .int .u8 b, .int .u8 f, .int .u16 l] w fun e w' => e = .returned (.bool true) ∧ Below w.heap.size w w' := by
  obtain ⟨a0, a1⟩ := wf_u8 wa
  obtain ⟨v0, v1⟩ := wf_u8 wv
  obtain ⟨b0, b1⟩ := wf_u8 wb
  obtain ⟨f0, f1⟩ := wf_u8 wf
  clear wa wb wf wv wl
  go_enter Try.func5, Try.ntmps5
  go_wp2_with (first
    | (go_at_call 11; (with_reducible refine (lives7_any _).mono ?_); rintro e w' ⟨rfl, rfl⟩)
    | (go_at_call 12; (with_reducible refine (w7_move _ _ _ _ _ a0 a1 v0 v1).mono ?_); rintro e w' ⟨rfl, rfl⟩)
    | (go_at_call 26; (with_reducible refine (w7_find _ _ _ _ _ a0 a1 v0 v1 f0 f1).mono ?_); rintro e w' ⟨rfl, rfl⟩)
    | (go_at_call 28; (with_reducible refine (w7_port _ _ _ _ v0 v1 b0 b1 a0 a1).mono ?_); rintro e w' ⟨rfl, rfl⟩)
    | (go_at_call 25; (with_reducible refine (r7_move _ _ _ _ _ a0 a1 v0 v1).mono ?_); rintro e w' ⟨rfl, rfl⟩)
    | (go_at_call 27; (with_reducible refine (r7_find _ _ _ _ _ a0 a1 v0 v1 f0 f1).mono ?_); rintro e w' ⟨rfl, rfl⟩)
    | (go_at_call 29; (with_reducible refine (r7_port _ _ _ _ v0 v1 b0 b1 a0 a1).mono ?_); rintro e w' ⟨rfl, rfl⟩))
  go_ret
  exact ⟨rfl, Below.refl _ _⟩
end Go.Proofs.Ytiepiihbmaplnaa
