/-  -/
import Derived.Test.YtofenjloieagaaaZT7
import Derived.Test.YtofenjloieagaaaZT16
namespace Go.Proofs.Ytofenjloieagaaa
open Go.RowKit
set_option linter.unusedSimpArgs false
set_option linter.unusedVariables false
set_option maxRecDepth 100000

theorem and_127f : ∀ x : Fin 256, bits .and .u8 (x.1 : Int) 127 = (x.1 : Int) % 128 := by decide +kernel
theorem and_127 {h : Int} (h0 : 0 ≤ h) (h1 : h < 256) : bits .and .u8 h 127 = h % 128 := by
  have := and_127f ⟨h.toNat, by omega⟩
  simp only [show ((h.toNat : Nat) : Int) = h by omega] at this
  exact this

end Go.Proofs.Ytofenjloieagaaa
