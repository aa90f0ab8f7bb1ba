
/- The walks of EventNames and EventKinds. -/
import Derived.Test.YtpkmphalhmmbkaaDoorF7
namespace Go.Proofs.YtpkmphalhmmbkaaDoor
open Go.RowKit
set_option linter.unusedSimpArgs false
set_option linter.unusedVariables false
set_option maxRecDepth 100000

theorem chip_11 (w : World) : Calls Tryd.prog 9 #[.int .i64 11] w fun e w' => e = .returned (.int .i64 3) ∧ w = w' := chip_any 11 w
theorem chip_0 (w : World) : Calls Tryd.prog 9 #[.int .i64 0] w fun e w' => e = .returned (.int .i64 0) ∧ w = w' := chip_any 0 w
theorem name_12 (w : World) (hV : Vars w) : Calls Tryd.prog 10 #[.int .i64 12] w fun e w' => e = .returned (.string ⟨#[115, 116, 97, 116, 117, 115]⟩) ∧ w = w' := name_any 12 w hV
theorem name_13 (w : World) (hV : Vars w) : Calls Tryd.prog 10 #[.int .i64 13] w fun e w' => e = .returned (.string ⟨#[]⟩) ∧ w = w' := name_any 13 w hV
theorem check_0 (w : World) : Calls Tryd.prog 11 #[.agg #[.int .i64 0, .int .i64 0, .int .i64 0, .int .i64 0, .int .i64 0, .int .i64 0]] w fun e w' => e = .returned (.int .i64 2) ∧ Below w.heap.size w w' := by
  refine (echeck_any w zeroE).mono ?_
  rintro e w' ⟨he, hb⟩
  rcases he with ⟨_, hm⟩ | ⟨he, _⟩
  · exact absurd hm (by decide)
  · exact ⟨he, hb⟩

set_option maxHeartbeats 1600000 in
theorem walk_EventNames (w : World) (hV : Vars w) : Calls Tryd.prog 3 #[] w fun e w' => e = .returned (.bool true) ∧ Below w.heap.size w w' := by
  have hs : wrongS = ⟨#[48, 55, 32, 114, 101, 97, 100, 32, 51, 32, 49, 54, 51, 56, 52, 32, 53]⟩ := rfl
  have hz : zeroE.val = .agg #[.int .i64 0, .int .i64 0, .int .i64 0, .int .i64 0, .int .i64 0, .int .i64 0] := rfl
  have C1 := fun w hV => parse_wrong w hV
  rw [hs, hz] at C1
  clear hs hz
  have H1 := Lib.hid C1
  clear C1
  go_enter Tryd.func3, Tryd.ntmps3
  go_wp2_with fail
  refine (H1.out _ hV).mono ?_
  rintro e w1 ⟨rfl, hB1⟩
  have hB2 : Below w.heap.size w (w1.alloc (evO zeroE)) := hB1.alloc hB1.size _
  have H2 := Lib.hid (lives3_any _ (hV.on hB2))
  clear hB1 H1
  go_wp2_with fail
  refine H2.out.mono ?_
  rintro e w3 ⟨rfl, hb⟩
  have hB3 := hB2.trans (hb.mono hB2.size)
  clear hb H2 hB2
  go_wp2_with fail
  refine (chip_11 _).mono ?_
  rintro e w' ⟨rfl, rfl⟩
  go_wp2_with fail
  refine (chip_0 _).mono ?_
  rintro e w' ⟨rfl, rfl⟩
  go_wp2_with fail
  refine (name_12 _ (hV.on hB3)).mono ?_
  rintro e w' ⟨rfl, rfl⟩
  go_wp2_with fail
  refine (name_13 _ (hV.on hB3)).mono ?_
  rintro e w' ⟨rfl, rfl⟩
  go_wp2_with fail
  refine (check_0 _).mono ?_
  rintro e w5 ⟨rfl, hb⟩
  have hB5 := hB3.trans (hb.mono hB3.size)
  clear hb
  go_wp2_with fail
  go_ret
  exact ⟨rfl, hB5⟩
end Go.Proofs.YtpkmphalhmmbkaaDoor
