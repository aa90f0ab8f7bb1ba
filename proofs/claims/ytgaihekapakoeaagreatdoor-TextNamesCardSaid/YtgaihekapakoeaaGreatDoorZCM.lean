/-  -/
import Derived.Test.YtgaihekapakoeaaGreatDoorJ25
import Derived.Test.YtgaihekapakoeaaGreatDoorJ19
import Derived.Test.YtgaihekapakoeaaGreatDoorZAZ
import Derived.Test.YtgaihekapakoeaaGreatDoorJ26
import Derived.Test.YtgaihekapakoeaaGreatDoorJ9
namespace Go.Proofs.YtgaihekapakoeaaGreatDoor
open Go.RowKit
set_option linter.unusedVariables false

theorem card_TextTwins (w : World) (hV : VP w w.heap.size) (i : In) (hi : i.Wf) : Calls Tryz.prog 8 #[i.val] w fun e w' => e = .returned (.bool true) ∧ Below w.heap.size w w' := walk_TextTwins w i hi hV.vt (parse_to w hV).ok
theorem card_TextBack (w : World) (hV : VP w w.heap.size) (i : In) (hi : i.Wf) (j : In) (hj : j.Wf) (s : ByteArray) (hs : s.size ≤ maxLen) : Calls Tryz.prog 6 #[i.val, j.val, .string s] w fun e w' => e = .returned (.bool true) ∧ Below w.heap.size w w' := walk_TextBack w i hi j hj s hV.vt (parse_to w hV)
theorem card_TextNames (w : World) (hV : VP w w.heap.size) : Calls Tryz.prog 3 #[] w fun e w' => e = .returned (.bool true) ∧ Below w.heap.size w w' := walk_TextNames w hV.vt (parse_to w hV)
end Go.Proofs.YtgaihekapakoeaaGreatDoor
