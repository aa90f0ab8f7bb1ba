/-  -/
import Derived.Test.YtgaihekapakoeaaGreatDoorZBG
import Derived.Test.YtgaihekapakoeaaGreatDoorZDF
import Derived.Test.YtgaihekapakoeaaGreatDoorJ3
namespace Go.Proofs.YtgaihekapakoeaaGreatDoor
open Go.RowKit
set_option linter.unusedVariables false
set_option linter.unusedSimpArgs false
set_option maxRecDepth 100000

theorem pick_in (a m : Int) (w : World) (wa : (Lit.int .i64 a).wf = true) (m0 : 1 ≤ m) (m1 : m ≤ 1000) : Calls Tryz.prog 24 #[.int .i64 a, .int .i64 m] w fun e w' => (∃ k : Nat, e = .returned (.int .i64 k) ∧ (k : Int) < m) ∧ w = w' := by
  have hm0 : m ≠ 0 := by omega
  have ha := bounds_i64 wa
  have h1 : a.tmod m < m := Int.tmod_lt_of_pos a (by omega)
  have h2 : -m < a.tmod m := Int.lt_tmod_of_pos a (by omega)
  have H1 := Lib.hid h1
  have H2 := Lib.hid h2
  clear h1 h2
  go_enter Tryz.func24, Tryz.ntmps24
  go_wp2
  all_goals
    go_ret
    have h1 := H1.out
    have h2 := H2.out
    first
      | (refine ⟨⟨(a.tmod m).toNat, ?_, by omega⟩, rfl⟩
         show Ending.returned (Value.int .i64 (a.tmod m)) = _
         rw [show ((a.tmod m).toNat : Int) = a.tmod m by omega])
      | (refine ⟨⟨(a.tmod m + m).toNat, ?_, by omega⟩, rfl⟩
         show Ending.returned (Value.int .i64 (wrap64 (a.tmod m + m))) = _
         rw [show wrap64 (a.tmod m + m) = a.tmod m + m by unfold wrap64; omega, show ((a.tmod m + m).toNat : Int) = a.tmod m + m by omega])
/-- A row of the call's own, as a list of texts. -/
theorem TL.own {w : World} {base c : Nat} {A : Option Addr} {M : List ByteArray} (h : w.ownsRow base 9 1 (.slice A M.length c) M.length (M.map Value.string)) : TL w w.heap.size A c M := by
  rcases h.2 with ⟨h1, h2⟩ | ⟨g, cap, cur, h1, hb, hg, hn, hm, hs⟩
  · injection h1 with h3 h4 h5
    exact ⟨by omega, by subst h5; unfold maxLen; omega, fun h0 => absurd h0 (by omega)⟩
  · injection h1 with h3 h4 h5
    subst h3
    have hlt := (h.lt g rfl).2
    refine ⟨by omega, by omega, fun h0 => ⟨g, 0, rfl, hlt, fun i hi => ?_⟩⟩
    rw [h.cellAt _ (by omega), Nat.zero_add]
    simp [List.getD_eq_getElem?_getD, hi]
theorem text_own_shape {w : World} {base n : Nat} {v : Value} {xs : List Value} (h : w.ownsRow base 9 1 v n xs) : ∃ A c, v = .slice A n c := by
  rcases h.2 with ⟨h1, h2⟩ | ⟨g, cap, cur, h1, _⟩
  · exact ⟨none, 0, by rw [h1, h2]⟩
  · exact ⟨_, _, h1⟩
end Go.Proofs.YtgaihekapakoeaaGreatDoor
