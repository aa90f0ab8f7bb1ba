
/- Registers: Read of bytes of another length; the walk of RegsNames. -/
import Derived.Test.YtedlfcmlchjjlaaYP
namespace Go.Proofs.Ytedlfcmlchjjlaa
open Go.RowKit
set_option linter.unusedSimpArgs false
set_option linter.unusedVariables false
set_option maxRecDepth 100000

theorem c8_read_len (A : Option Addr) (n c : Nat) (hn : n ≠ 32) (w : World) : Calls Try.prog 10 #[.slice A n c] w fun e w' => e = .returned (.tuple #[zeroR.val, .int .i64 4]) ∧ Below w.heap.size w w' := by
  obtain ⟨w1, hw1⟩ : ∃ w1, w.alloc (rgO zeroR) = w1 := ⟨_, rfl⟩
  have HZ := Lib.hid (show RowW w1 w.heap.size zeroR.cells from hw1 ▸ RgW.laid w zeroR)
  have HB := Lib.hid (show Below w.heap.size w w1 from hw1 ▸ (Below.refl _ _).alloc (Nat.le_refl _) _)
  have hg : ((n : Int) != 32) = true := by rw [bne_iff_ne]; omega
  unfold rgO zeroR at hw1
  go_enter Try.func10, Try.ntmps10
  go_wp2_with (refine wpList_store_row rfl 24 _ _ rfl w.heap.size _ rfl rfl _ _ HZ.out rg_info rfl (rg_one zeroR) ?_)
  (try simp only [Exit.inBlock, Exit.then])
  exact bodyPost_ret (results_row_tmp rfl _ _ _ _ _ (0, 0) _ _ rfl rfl (setRow_heap _ _ _ _ _ _ HZ.out) Try.underlying24 rfl rg_info) rfl ⟨rfl, below_setRow HB.out (Nat.le_refl _) _⟩

theorem reset_may : resetR.May := by unfold Rg.May resetR; decide
theorem get_reset_7 : getR resetR 0 7 = 255 := rfl
theorem get_reset_6 : getR resetR 0 6 = 0 := rfl

end Go.Proofs.Ytedlfcmlchjjlaa
