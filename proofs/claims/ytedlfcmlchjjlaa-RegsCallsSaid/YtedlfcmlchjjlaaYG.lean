
/- Registers, the code: Reset, Check, Refresh, Cond. -/
import Derived.Test.YtedlfcmlchjjlaaYF
import Derived.Test.YtedlfcmlchjjlaaY6
namespace Go.Proofs.Ytedlfcmlchjjlaa
open Go.RowKit
set_option linter.unusedSimpArgs false
set_option linter.unusedVariables false
set_option maxRecDepth 100000

theorem c8_reset (w : World) : Calls Try.prog 42 #[] w fun e w' => e = .returned resetR.val ∧ Below w.heap.size w w' := by
  obtain ⟨w1, hw1⟩ : ∃ w1, w.alloc (rgO zeroR) = w1 := ⟨_, rfl⟩
  have HZ := Lib.hid (show RowW w1 w.heap.size zeroR.cells from hw1 ▸ RgW.laid w zeroR)
  have HB := Lib.hid (show Below w.heap.size w w1 from hw1 ▸ (Below.refl _ _).alloc (Nat.le_refl _) _)
  unfold rgO zeroR at hw1
  go_enter Try.func42, Try.ntmps42
  go_wp2_with (refine wpList_store_row rfl 24 _ _ rfl w.heap.size _ rfl rfl _ _ HZ.out rg_info rfl (rg_one resetR) ?_)
  (try simp only [Exit.inBlock, Exit.then])
  exact bodyPost_ret (results_rg rfl _ _ _ resetR rfl (setRow_heap _ _ _ _ _ _ HZ.out)) rfl ⟨rfl, below_setRow HB.out (Nat.le_refl _) _⟩

theorem c8_check (r : Rg) (w : World) : Calls Try.prog 13 #[r.val] w fun e w' => e = .returned (.int .i64 (if r.May then 0 else 2)) ∧ Below w.heap.size w w' := by
  have hR := RgW.laid w r
  have hB : Below w.heap.size w (w.alloc (rgO r)) := (Below.refl _ _).alloc (Nat.le_refl _) _
  have g0 := hR.gIM
  obtain ⟨z, hz⟩ : ∃ z : Int, (if r.May then 0 else 2) = z := ⟨_, rfl⟩
  rw [hz, rg_val]
  unfold Rg.May at hz
  have HZ := Lib.hid hz
  clear hz hR
  by_cases h0 : r.IM < 0
  · go_enter Try.func13, Try.ntmps13
    go_wp2
    go_ret
    exact ⟨congrArg (fun b => Ending.returned (.int .i64 b)) ((if_neg (by omega)).symm.trans HZ.out), hB⟩
  · by_cases h2 : 2 < r.IM
    · go_enter Try.func13, Try.ntmps13
      go_wp2
      go_ret
      exact ⟨congrArg (fun b => Ending.returned (.int .i64 b)) ((if_neg (by omega)).symm.trans HZ.out), hB⟩
    · go_enter Try.func13, Try.ntmps13
      go_wp2
      go_ret
      exact ⟨congrArg (fun b => Ending.returned (.int .i64 b)) ((if_pos ⟨by omega, by omega⟩).symm.trans HZ.out), hB⟩

theorem refresh_bits (R : Int) (R0 : 0 ≤ R) (R1 : R < 256) : bits .or .u8 (bits .and .u8 R 128) (bits .and .u8 ((R + 1) % 256) 127) = R / 128 * 128 + (R + 1) % 128 := by
  exact byte_all (P := fun R : Int => bits .or .u8 (bits .and .u8 R 128) (bits .and .u8 ((R + 1) % 256) 127) = R / 128 * 128 + (R + 1) % 128) (by decide +kernel) R R0 R1

theorem c8_refresh (r : Rg) (hr : isB r.R) (w : World) : Calls Try.prog 27 #[r.val] w fun e w' => e = .returned (refreshR r).val ∧ Below w.heap.size w w' := by
  obtain ⟨R0, R1⟩ := hr
  have hR := W2_r w r
  have HL := Lib.hid (W2_r w { r with R := r.R / 128 * 128 + (r.R + 1) % 128 })
  have HZ := Lib.hid (W2_z w { r with R := r.R / 128 * 128 + (r.R + 1) % 128 })
  have HB := Lib.hid (W2_b w { r with R := r.R / 128 * 128 + (r.R + 1) % 128 })
  have g0 := hR.gR
  have f0 := hR.free 9
  have q0 := refresh_bits r.R R0 R1
  rw [rg_val r]
  clear hR
  go_enter Try.func27, Try.ntmps27
  go_wp2_with (first
    | (refine wpList_load_row rfl 24 _ rfl w.heap.size rfl _ _ (0, 0) _ HL.out Try.underlying24 rfl (by kernel_rfl) ?_)
    | (refine wpList_store_row rfl 24 _ _ rfl (w.heap.size + 1) _ rfl rfl _ _ HZ.out rg_info rfl (rg_one _) ?_))
  (try simp only [Exit.inBlock, Exit.then])
  exact bodyPost_ret (results_rg rfl _ _ _ _ rfl (HZ.out.row _)) rfl ⟨rfl, below_setRow HB.out (by omega) _⟩

theorem c8_cond (f c : Int) (w : World) (wc : (Lit.int .i64 c).wf = true) : Calls Try.prog 23 #[.int .u8 f, .int .i64 c] w fun e w' => e = .returned (.bool (condR f c)) ∧ Below w.heap.size w w' := by
  have hM := Lib.hid (fun w => c8_mod_8 c w wc)
  have hB : Below w.heap.size w (w.alloc (.cells #[.int .u8 64, .int .u8 1, .int .u8 4, .int .u8 128] 90)) := (Below.refl _ _).alloc (Nat.le_refl _) _
  obtain ⟨k, hk⟩ : ∃ k, c % 8 = k := ⟨_, rfl⟩
  have hk8 : k = 0 ∨ k = 1 ∨ k = 2 ∨ k = 3 ∨ k = 4 ∨ k = 5 ∨ k = 6 ∨ k = 7 := by omega
  obtain ⟨z, hz⟩ : ∃ z, condR f c = z := ⟨_, rfl⟩
  rw [hz]
  unfold condR condM at hz
  rw [hk] at hM hz
  clear hk wc
  obtain rfl | rfl | rfl | rfl | rfl | rfl | rfl | rfl := hk8
  all_goals
    have HZ := Lib.hid hz
    clear hz
    go_enter Try.func23, Try.ntmps23
    go_wp2_with (go_at_call 56; (with_reducible refine (hM.out _).mono ?_); rintro e w' ⟨rfl, rfl⟩)
    go_ret
    exact ⟨congrArg (fun b => Ending.returned (.bool b)) (by rw [← HZ.out]; first | rfl | simp), hB⟩

end Go.Proofs.Ytedlfcmlchjjlaa
