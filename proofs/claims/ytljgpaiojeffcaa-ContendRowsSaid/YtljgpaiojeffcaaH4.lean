
/- The reference's Pulse, below, Pulses. -/
import Derived.Test.YtljgpaiojeffcaaH3
namespace Go.Proofs.Ytljgpaiojeffcaa
open Go.RowKit
set_option linter.unusedSimpArgs false
set_option linter.unusedVariables false
set_option maxRecDepth 100000


theorem pulsesB_le (L p t : Int) (hp : 1 ≤ p) (ht : t ≤ 0) : pulsesB L p t = 0 := by
  have h : clampT t = 0 := by unfold clampT; omega
  unfold pulsesB
  rw [h, Int.zero_ediv, Int.zero_emod, Int.zero_mul]
  omega

end Go.Proofs.Ytljgpaiojeffcaa
