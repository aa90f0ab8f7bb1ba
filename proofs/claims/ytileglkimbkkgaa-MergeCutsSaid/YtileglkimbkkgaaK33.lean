
/- What Cut's questions answer. -/
import Derived.Test.YtileglkimbkkgaaK27
namespace Go.Proofs.Ytileglkimbkkgaa
open Go.RowKit
set_option linter.unusedSimpArgs false
set_option linter.unusedVariables false

set_option maxRecDepth 100000 in
theorem cut1_any (w : World) (y : Ev) (Bc : Nat) (chip : Int) (hc : w.cell? ⟨Bc, 0, none⟩ = some (.int .i64 chip)) (hB : Bc < w.heap.size) :
    Calls Try.prog 53 #[y.val, .pointer (some ⟨Bc, 0, none⟩)] w fun e w' => e = .returned (.bool (decide (y.time < chip))) ∧ Below w.heap.size w w' := by
  have hc2 : (w.alloc (evO y)).cell? ⟨Bc, 0, none⟩ = some (.int .i64 chip) := (((Below.refl w.heap.size w).alloc (Nat.le_refl _) _).cell hB).trans hc
  have he := EV.laid w y
  obtain ⟨c0, c1, c2, c3, c4, c5⟩ := he
  unfold evO at hc2 c0 c1 c2 c3 c4 c5
  unfold Ev.val
  go_enter Try.func53, Try.ntmps53
  go_wp2_with fail
  go_ret
  exact ⟨rfl, (Below.refl _ _).alloc (Nat.le_refl _) _⟩

set_option maxRecDepth 100000 in
theorem cut2_any (w : World) (y : Ev) (Bc : Nat) (chip : Int) (hc : w.cell? ⟨Bc, 0, none⟩ = some (.int .i64 chip)) (hB : Bc < w.heap.size) :
    Calls Try.prog 54 #[y.val, .pointer (some ⟨Bc, 0, none⟩)] w fun e w' => e = .returned (.bool (decide (chip ≤ y.time))) ∧ Below w.heap.size w w' := by
  have hc2 : (w.alloc (evO y)).cell? ⟨Bc, 0, none⟩ = some (.int .i64 chip) := (((Below.refl w.heap.size w).alloc (Nat.le_refl _) _).cell hB).trans hc
  have he := EV.laid w y
  obtain ⟨c0, c1, c2, c3, c4, c5⟩ := he
  unfold evO at hc2 c0 c1 c2 c3 c4 c5
  unfold Ev.val
  go_enter Try.func54, Try.ntmps54
  go_wp2_with fail
  go_ret
  exact ⟨rfl, (Below.refl _ _).alloc (Nat.le_refl _) _⟩

def aheadOf (t : Int) (y : Ev) : Bool := decide (y.time < t)
def behindOf (t : Int) (y : Ev) : Bool := decide (t ≤ y.time)
end Go.Proofs.Ytileglkimbkkgaa
