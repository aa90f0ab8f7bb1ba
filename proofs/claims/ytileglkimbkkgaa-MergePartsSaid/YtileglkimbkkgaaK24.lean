
/- What Part's question answers; those. -/
import Derived.Test.YtileglkimbkkgaaK14
namespace Go.Proofs.Ytileglkimbkkgaa
open Go.RowKit
set_option linter.unusedSimpArgs false
set_option linter.unusedVariables false

set_option maxRecDepth 100000 in
theorem part1_any (w : World) (y : Ev) (Bc : Nat) (chip : Int) (hc : w.cell? ⟨Bc, 0, none⟩ = some (.int .i64 chip)) (hB : Bc < w.heap.size) :
    Calls Try.prog 63 #[y.val, .pointer (some ⟨Bc, 0, none⟩)] w fun e w' => e = .returned (.bool (y.chip == chip)) ∧ Below w.heap.size w w' := by
  have hc2 : (w.alloc (evO y)).cell? ⟨Bc, 0, none⟩ = some (.int .i64 chip) := (((Below.refl w.heap.size w).alloc (Nat.le_refl _) _).cell hB).trans hc
  have he := EV.laid w y
  obtain ⟨c0, c1, c2, c3, c4, c5⟩ := he
  unfold evO at hc2 c0 c1 c2 c3 c4 c5
  unfold Ev.val
  go_enter Try.func63, Try.ntmps63
  go_wp2_with fail
  go_ret
  exact ⟨rfl, (Below.refl _ _).alloc (Nat.le_refl _) _⟩

abbrev boxL (x : Ls) : Obj := .cells #[x.val] 25
theorem those_any (w : World) (x : Ls) (g : Nat) (lb : Array Value) :
    Calls Try.prog 52 #[x.val, .func (.func g) #[] lb] w fun e w' => e = .returned (.func (.func 77) #[] #[.pointer (some ⟨w.heap.size, 0, none⟩), .pointer (some ⟨w.heap.size + 1, 0, none⟩)]) ∧
      w' = (w.alloc (boxL x)).alloc (.cells #[.func (.func g) #[] lb] 72) := by
  unfold boxL Ls.val
  go_enter Try.func52, Try.ntmps52
  go_wp2_with fail
  go_ret
  simp
end Go.Proofs.Ytileglkimbkkgaa
