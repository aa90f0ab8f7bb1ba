/-  -/
import Derived.Test.YtgaihekapakoeaaGreatDoorZCO
namespace Go.Proofs.YtgaihekapakoeaaGreatDoor
open Go.RowKit
set_option linter.unusedVariables false

theorem card_TextRows (w : World) (hV : VP w w.heap.size) (A : Option Addr) (c n : Nat) (l : List Int) (hn : n = l.length) (h : RB w w.heap.size A c l) (at9 : Int) (wat : (Lit.int .i64 at9).wf = true) (s : ByteArray) (hs : s.size ≤ maxLen) :
    Calls Tryz.prog 7 #[.slice A n c, .int .i64 at9, .string s] w fun e w' => e = .returned (.bool true) ∧ Below w.heap.size w w' := walk_TextRows w hV A c n l hn h at9 wat s
end Go.Proofs.YtgaihekapakoeaaGreatDoor
