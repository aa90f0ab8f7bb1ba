
/- The walks of AluCalls and AluLogic. -/
import Derived.Test.YtkmgdpbknmoliaaU7
namespace Go.Proofs.Ytkmgdpbknmoliaa
open Go.RowKit
set_option linter.unusedSimpArgs false
set_option linter.unusedVariables false

set_option maxHeartbeats 1000000 in
theorem walk_AluCalls (w : World) (a : Int) (wa : (Lit.int .u8 a).wf = true) (b : Int) (wb : (Lit.int .u8 b).wf = true) (f : Int) (wf : (Lit.int .u8 f).wf = true) (c : Bool) (op : Int) (wo : (Lit.int .i64 op).wf = true) :
    Calls Try.prog 4 #[.int .u8 a, .int .u8 b, .int .u8 f, .bool c, .int .i64 op] w fun e w' => e = .returned (.bool true) ∧ Below w.heap.size w w' := by
  obtain ⟨a0, a1⟩ := wf_u8 wa
  obtain ⟨b0, b1⟩ := wf_u8 wb
  obtain ⟨f0, f1⟩ := wf_u8 wf
  have WO := Lib.hid wo
  clear wa wb wf wo
  go_enter Try.func4, Try.ntmps4
  go_wp2_with (first
    | (go_at_call 13; (with_reducible refine (lives5_any _).mono ?_); rintro e w' ⟨rfl, rfl⟩)
    | (go_at_call 9; (with_reducible refine (a5_add _ _ _ _ a0 a1 b0 b1).mono ?_); rintro e w' ⟨rfl, rfl⟩)
    | (go_at_call 15; (with_reducible refine (a5_sub _ _ _ _ a0 a1 b0 b1).mono ?_); rintro e w' ⟨rfl, rfl⟩)
    | (go_at_call 17; (with_reducible refine (a5_cp _ _ _ a0 a1 b0 b1).mono ?_); rintro e w' ⟨rfl, rfl⟩)
    | (go_at_call 19; (with_reducible refine (a5_own _ _).mono ?_); rintro e w' ⟨rfl, rfl⟩)
    | (go_at_call 21; (with_reducible refine (a5_parity _ _ a0 a1).mono ?_); rintro e w' ⟨rfl, rfl⟩)
    | (go_at_call 11; (with_reducible refine (a5_inc _ _ _ a0 a1).mono ?_); rintro e w' ⟨rfl, rfl⟩)
    | (go_at_call 23; (with_reducible refine (a5_do _ _ _ _ _ a0 a1 b0 b1).mono ?_); rintro e w1 ⟨rfl, hb⟩)
    | (go_at_call 14; (with_reducible refine (r5_add _ _ _ _ a0 a1 b0 b1).mono ?_); rintro e w' ⟨rfl, rfl⟩)
    | (go_at_call 16; (with_reducible refine (r5_sub _ _ _ _ a0 a1 b0 b1).mono ?_); rintro e w' ⟨rfl, rfl⟩)
    | (go_at_call 18; (with_reducible refine (r5_cp _ _ _ a0 a1 b0 b1).mono ?_); rintro e w' ⟨rfl, rfl⟩)
    | (go_at_call 20; (with_reducible refine (r5_own _ _ a0 a1).mono ?_); rintro e w' ⟨rfl, rfl⟩)
    | (go_at_call 22; (with_reducible refine (r5_parity _ _ a0 a1).mono ?_); rintro e w' ⟨rfl, rfl⟩)
    | (go_at_call 25; (with_reducible refine (r5_inc _ _ _ a0 a1).mono ?_); rintro e w' ⟨rfl, rfl⟩)
    | (go_at_call 24; (with_reducible refine (r5_do _ _ _ _ _ WO.out a0 a1 b0 b1 f0 f1).mono ?_); rintro e w' ⟨rfl, rfl⟩))
  go_ret
  exact ⟨rfl, hb⟩

set_option maxHeartbeats 1000000 in
theorem walk_AluLogic (w : World) (a : Int) (wa : (Lit.int .u8 a).wf = true) (b : Int) (wb : (Lit.int .u8 b).wf = true) (f : Int) (wf : (Lit.int .u8 f).wf = true) :
    Calls Try.prog 5 #[.int .u8 a, .int .u8 b, .int .u8 f] w fun e w' => e = .returned (.bool true) ∧ Below w.heap.size w w' := by
  obtain ⟨a0, a1⟩ := wf_u8 wa
  obtain ⟨b0, b1⟩ := wf_u8 wb
  clear wa wb wf
  go_enter Try.func5, Try.ntmps5
  go_wp2_with (first
    | (go_at_call 13; (with_reducible refine (lives5_any _).mono ?_); rintro e w' ⟨rfl, rfl⟩)
    | (go_at_call 10; (with_reducible refine (a5_and _ _ _ a0 a1 b0 b1).mono ?_); rintro e w' ⟨rfl, rfl⟩)
    | (go_at_call 27; (with_reducible refine (a5_or _ _ _ a0 a1 b0 b1).mono ?_); rintro e w' ⟨rfl, rfl⟩)
    | (go_at_call 29; (with_reducible refine (a5_xor _ _ _ a0 a1 b0 b1).mono ?_); rintro e w' ⟨rfl, rfl⟩)
    | (go_at_call 31; (with_reducible refine (a5_dec _ _ _ a0 a1).mono ?_); rintro e w' ⟨rfl, rfl⟩)
    | (go_at_call 12; (with_reducible refine (a5_neg _ _ a0 a1).mono ?_); rintro e w' ⟨rfl, rfl⟩)
    | (go_at_call 26; (with_reducible refine (r5_and _ _ _ a0 a1 b0 b1).mono ?_); rintro e w' ⟨rfl, rfl⟩)
    | (go_at_call 28; (with_reducible refine (r5_or _ _ _ a0 a1 b0 b1).mono ?_); rintro e w' ⟨rfl, rfl⟩)
    | (go_at_call 30; (with_reducible refine (r5_xor _ _ _ a0 a1 b0 b1).mono ?_); rintro e w' ⟨rfl, rfl⟩)
    | (go_at_call 32; (with_reducible refine (r5_dec _ _ _ a0 a1).mono ?_); rintro e w' ⟨rfl, rfl⟩)
    | (go_at_call 33; (with_reducible refine (r5_neg _ _ a0 a1).mono ?_); rintro e w' ⟨rfl, rfl⟩))
  go_ret
  exact ⟨rfl, Below.refl _ _⟩
end Go.Proofs.Ytkmgdpbknmoliaa
