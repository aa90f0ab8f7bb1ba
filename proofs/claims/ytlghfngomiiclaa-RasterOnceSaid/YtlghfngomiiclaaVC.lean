
/- RasterOnce, whole. -/
import Derived.Test.YtlghfngomiiclaaVB
namespace Go.Proofs.Ytlghfngomiiclaa
open Go.RowKit
set_option linter.unusedSimpArgs false
set_option linter.unusedVariables false
set_option maxRecDepth 100000

set_option maxHeartbeats 1000000 in
theorem once_not (w : World) (s : Scr) (x y F o : Int) (hm : ¬ s.May) : Calls Try.prog 5 #[s.val, .int .i64 x, .int .i64 y, .int .i64 F, .int .i64 o] w fun e w' => e = .returned (.bool true) ∧ Below w.heap.size w w' := by
  have hCk := fun w => rcheck_no s hm w
  unfold Scr.val
  go_enter Try.func5, Try.ntmps5
  go_wp2_with fail
  refine (lives15_any _).mono ?_
  rintro e w1 ⟨rfl, hb⟩
  obtain ⟨hB1, hS1, hl1⟩ := SB.boxed hb
  clear hb
  obtain ⟨c0, c1, c2, c3, c4, c5, c6⟩ := hS1
  go_wp2_with fail
  refine (hCk _).mono ?_
  rintro e w2 ⟨rfl, hb⟩
  have hB2 := hB1.trans (hb.mono hB1.size)
  go_wp2_with fail
  go_ret
  exact ⟨rfl, hB2⟩
set_option maxHeartbeats 1000000 in
theorem once_neg (w : World) (s : Scr) (x y F o : Int) (hm : s.May) (h0 : F < 0) : Calls Try.prog 5 #[s.val, .int .i64 x, .int .i64 y, .int .i64 F, .int .i64 o] w fun e w' => e = .returned (.bool true) ∧ Below w.heap.size w w' := by
  have hCk := fun w => rcheck_yes s hm w
  unfold Scr.val
  go_enter Try.func5, Try.ntmps5
  go_wp2_with fail
  refine (lives15_any _).mono ?_
  rintro e w1 ⟨rfl, hb⟩
  obtain ⟨hB1, hS1, hl1⟩ := SB.boxed hb
  clear hb
  obtain ⟨c0, c1, c2, c3, c4, c5, c6⟩ := hS1
  go_wp2_with fail
  refine (hCk _).mono ?_
  rintro e w2 ⟨rfl, hb⟩
  have hB2 := hB1.trans (hb.mono hB1.size)
  go_wp2_with fail
  go_ret
  exact ⟨rfl, hB2⟩
set_option maxHeartbeats 1000000 in
theorem once_big (w : World) (s : Scr) (x y F o : Int) (hm : s.May) (h0 : 0 ≤ F) (h1 : 1000 < F) : Calls Try.prog 5 #[s.val, .int .i64 x, .int .i64 y, .int .i64 F, .int .i64 o] w fun e w' => e = .returned (.bool true) ∧ Below w.heap.size w w' := by
  have hCk := fun w => rcheck_yes s hm w
  unfold Scr.val
  go_enter Try.func5, Try.ntmps5
  go_wp2_with fail
  refine (lives15_any _).mono ?_
  rintro e w1 ⟨rfl, hb⟩
  obtain ⟨hB1, hS1, hl1⟩ := SB.boxed hb
  clear hb
  obtain ⟨c0, c1, c2, c3, c4, c5, c6⟩ := hS1
  go_wp2_with fail
  refine (hCk _).mono ?_
  rintro e w2 ⟨rfl, hb⟩
  have hB2 := hB1.trans (hb.mono hB1.size)
  go_wp2_with fail
  go_ret
  exact ⟨rfl, hB2⟩

theorem walk_RasterOnce (w : World) (s : Scr) (ws : s.wf) (x : Int) (wx : (Lit.int .i64 x).wf = true) (y : Int) (wy : (Lit.int .i64 y).wf = true) (F : Int) (wF : (Lit.int .i64 F).wf = true) (o : Int) (wo : (Lit.int .i64 o).wf = true) :
    Calls Try.prog 5 #[s.val, .int .i64 x, .int .i64 y, .int .i64 F, .int .i64 o] w fun e w' => e = .returned (.bool true) ∧ Below w.heap.size w w' := by
  by_cases hm : s.May
  · by_cases h0 : F < 0
    · exact once_neg w s x y F o hm h0
    · by_cases h1 : 1000 < F
      · exact once_big w s x y F o hm (by omega) h1
      · have hk : Onc s x y F s.len := ⟨hm, rfl, by omega, by omega, bounds_i64 wx⟩
        by_cases hi : IsS s x y
        · exact once_in w s x y F o s.len hk hi (bounds_i64 wo)
        · exact once_out w s x y F o s.len hk hi (bounds_i64 wo)
  · exact once_not w s x y F o hm
end Go.Proofs.Ytlghfngomiiclaa
