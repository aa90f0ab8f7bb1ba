
/- The document's own answers of chapter 8: Cond, Refresh, Check, Reset. -/
import Derived.Test.YtedlfcmlchjjlaaY5
namespace Go.Proofs.Ytedlfcmlchjjlaa
open Go.RowKit
set_option linter.unusedSimpArgs false
set_option linter.unusedVariables false
set_option maxRecDepth 100000

theorem rg_val (r : Rg) : r.val = .agg #[.int .u8 r.A, .int .u8 r.F, .int .u8 r.B, .int .u8 r.C, .int .u8 r.D, .int .u8 r.E, .int .u8 r.H, .int .u8 r.L, .int .u8 r.I, .int .u8 r.R, .int .u16 r.IX, .int .u16 r.IY, .int .u16 r.SP, .int .u16 r.PC, .int .u16 r.WZ, .int .u16 r.AF2, .int .u16 r.BC2, .int .u16 r.DE2, .int .u16 r.HL2, .bool r.IFF1, .bool r.IFF2, .int .i64 r.IM, .bool r.Halt, .bool r.Late] := rfl

theorem r8_check (r : Rg) (w : World) : Calls Try.prog 14 #[r.val] w fun e w' => e = .returned (.int .i64 (if r.May then 0 else 2)) ∧ Below w.heap.size w w' := by
  have hR := RgW.laid w r
  have hB : Below w.heap.size w (w.alloc (rgO r)) := (Below.refl _ _).alloc (Nat.le_refl _) _
  have g0 := hR.gIM
  obtain ⟨z, hz⟩ : ∃ z : Int, (if r.May then 0 else 2) = z := ⟨_, rfl⟩
  rw [hz, rg_val]
  unfold Rg.May at hz
  have HZ := Lib.hid hz
  clear hz hR
  by_cases h0 : r.IM < 0
  · go_enter Try.func14, Try.ntmps14
    go_wp2
    go_ret
    exact ⟨congrArg (fun b => Ending.returned (.int .i64 b)) ((if_neg (by omega)).symm.trans HZ.out), hB⟩
  · by_cases h2 : 2 < r.IM
    · go_enter Try.func14, Try.ntmps14
      go_wp2
      go_ret
      exact ⟨congrArg (fun b => Ending.returned (.int .i64 b)) ((if_neg (by omega)).symm.trans HZ.out), hB⟩
    · go_enter Try.func14, Try.ntmps14
      go_wp2
      go_ret
      exact ⟨congrArg (fun b => Ending.returned (.int .i64 b)) ((if_pos ⟨by omega, by omega⟩).symm.trans HZ.out), hB⟩

theorem r8_refresh (r : Rg) (hr : isB r.R) (w : World) : Calls Try.prog 28 #[r.val] w fun e w' => e = .returned (refreshR r).val ∧ Below w.heap.size w w' := by
  obtain ⟨R0, R1⟩ := hr
  have hR := W2_r w r
  have HL := Lib.hid (W2_r w { r with R := r.R / 128 * 128 + (r.R + 1) % 128 })
  have HZ := Lib.hid (W2_z w { r with R := r.R / 128 * 128 + (r.R + 1) % 128 })
  have HB := Lib.hid (W2_b w { r with R := r.R / 128 * 128 + (r.R + 1) % 128 })
  have g0 := hR.gR
  have f0 := hR.free 9
  have q0 : IntKind.u8.wrap (r.R.tdiv 128) = r.R / 128 := by rw [wrap_u8, Int.tdiv_eq_ediv_of_nonneg R0]; omega
  rw [rg_val r]
  clear hR
  go_enter Try.func28, Try.ntmps28
  go_wp2_with (first
    | (refine wpList_load_row rfl 24 _ rfl w.heap.size rfl _ _ (0, 0) _ HL.out Try.underlying24 rfl (by kernel_rfl) ?_)
    | (refine wpList_store_row rfl 24 _ _ rfl (w.heap.size + 1) _ rfl rfl _ _ HZ.out rg_info rfl (rg_one _) ?_))
  (try simp only [Exit.inBlock, Exit.then])
  exact bodyPost_ret (results_rg rfl _ _ _ _ rfl (HZ.out.row _)) rfl ⟨rfl, below_setRow HB.out (by omega) _⟩

theorem r8_cond (f c : Int) (w : World) (wc : (Lit.int .i64 c).wf = true) : Calls Try.prog 24 #[.int .u8 f, .int .i64 c] w fun e w' => e = .returned (.bool (condR f c)) ∧ Below w.heap.size w w' := by
  have hM := Lib.hid (fun w => r5_mod_8 c w wc)
  have hB : Below w.heap.size w (w.alloc (.cells #[.int .u8 64, .int .u8 1, .int .u8 4, .int .u8 128] 5)) := (Below.refl _ _).alloc (Nat.le_refl _) _
  obtain ⟨k, hk⟩ : ∃ k, c % 8 = k := ⟨_, rfl⟩
  have hk8 : k = 0 ∨ k = 1 ∨ k = 2 ∨ k = 3 ∨ k = 4 ∨ k = 5 ∨ k = 6 ∨ k = 7 := by omega
  obtain ⟨z, hz⟩ : ∃ z, condR f c = z := ⟨_, rfl⟩
  rw [hz]
  unfold condR condM at hz
  rw [hk] at hM hz
  clear hk wc
  obtain rfl | rfl | rfl | rfl | rfl | rfl | rfl | rfl := hk8
  all_goals
    have HZ := Lib.hid hz
    clear hz
    go_enter Try.func24, Try.ntmps24
    go_wp2_with (go_at_call 57; (with_reducible refine (hM.out _).mono ?_); rintro e w' ⟨rfl, rfl⟩)
    go_ret
    exact ⟨congrArg (fun b => Ending.returned (.bool b)) (by rw [← HZ.out]; first | rfl | simp), hB⟩

end Go.Proofs.Ytedlfcmlchjjlaa
