
/- Parity, logic, the operators of package alu. -/
import Derived.Test.YtiepiihbmaplnaaU2
namespace Go.Proofs.Ytiepiihbmaplnaa
open Go.RowKit
set_option linter.unusedSimpArgs false

set_option maxRecDepth 100000 in
theorem a5_ones (r : Int) (w : World) (h0 : 0 ≤ r) (h1 : r < 256) : Calls Try.prog 58 #[.int .u8 r] w fun e w' => e = .returned (.int .i64 (onesB r.toNat)) ∧ w = w' := by
  go_enter Try.func58, Try.ntmps58
  go_wp2
  go_ret
  refine ⟨a5_ret64 ?_, rfl⟩
  rw [← getElem!_pos]
  obtain ⟨k, rfl⟩ : ∃ k : Fin 256, r = (k.val : Int) := ⟨⟨r.toNat, by omega⟩, by simp; omega⟩
  clear h0 h1 w
  revert k
  decide +kernel

theorem a5_parity (r : Int) (w : World) (h0 : 0 ≤ r) (h1 : r < 256) : Calls Try.prog 50 #[.int .u8 r] w fun e w' => e = .returned (.bool (evenB r)) ∧ w = w' := by
  go_enter Try.func50, Try.ntmps50
  go_wp2_with (go_at_call 58; (with_reducible refine (a5_ones _ _ h0 h1).mono ?_); rintro e w' ⟨rfl, rfl⟩)
  go_ret
  exact ⟨rfl, rfl⟩

end Go.Proofs.Ytiepiihbmaplnaa
