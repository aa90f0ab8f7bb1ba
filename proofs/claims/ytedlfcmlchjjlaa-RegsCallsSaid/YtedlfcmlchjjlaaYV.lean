
/- Registers, the document's own: bit. -/
import Derived.Test.YtedlfcmlchjjlaaYO
namespace Go.Proofs.Ytedlfcmlchjjlaa
open Go.RowKit
set_option linter.unusedSimpArgs false
set_option linter.unusedVariables false

theorem r8_bit (n : Int) (is : Bool) (w : World) : Calls Try.prog 49 #[.int .u8 n, .bool is] w fun e w' => e = .returned (.int .u8 (bitN n is)) ∧ w = w' := by
  cases is
  · go_enter Try.func49, Try.ntmps49
    go_wp2
    go_ret
    exact ⟨rfl, rfl⟩
  · go_enter Try.func49, Try.ntmps49
    go_wp2
    go_ret
    exact ⟨rfl, rfl⟩
end Go.Proofs.Ytedlfcmlchjjlaa
