
/- Registers: swaps, refreshes, conditions: the walk of RegsSwaps. -/
import Derived.Test.YtaabpeibaaakhaaYK
namespace Go.Proofs.Ytaabpeibaaakhaa
open Go.RowKit
set_option linter.unusedSimpArgs false
set_option linter.unusedVariables false
set_option maxRecDepth 100000

theorem wf_i64 {n : Int} (h0 : -9223372036854775808 ≤ n) (h1 : n ≤ 9223372036854775807) : (Lit.int .i64 n).wf = true := by
  simp only [Lit.wf, Bool.and_eq_true, decide_eq_true_eq]
  exact ⟨h0, h1⟩

set_option maxHeartbeats 8000000 in
theorem walk_RegsSwaps (w : World) (r : Rg) (hr : r.Ok) (f : Int) (wf : (Lit.int .u8 f).wf = true) :
    Calls Try.prog 7 #[r.val, .int .u8 f] w fun e w' => e = .returned (.bool true) ∧ Below w.heap.size w w' := by
  have HR0 := Lib.hid (show RowW (w.alloc (rgO r)) w.heap.size r.cells from RgW.laid w r)
  have hB0 : Below w.heap.size w (w.alloc (rgO r)) := (Below.refl _ _).alloc (Nat.le_refl _) _
  have hval : r.val = .agg #[.int .u8 r.A, .int .u8 r.F, .int .u8 r.B, .int .u8 r.C, .int .u8 r.D, .int .u8 r.E, .int .u8 r.H, .int .u8 r.L, .int .u8 r.I, .int .u8 r.R, .int .u16 r.IX, .int .u16 r.IY, .int .u16 r.SP, .int .u16 r.PC, .int .u16 r.WZ, .int .u16 r.AF2, .int .u16 r.BC2, .int .u16 r.DE2, .int .u16 r.HL2, .bool r.IFF1, .bool r.IFF2, .int .i64 r.IM, .bool r.Halt, .bool r.Late] := rfl
  rw [hval]
  clear hval
  obtain ⟨w0, hw0⟩ : ∃ w0, w.alloc (rgO r) = w0 := ⟨_, rfl⟩
  rw [hw0] at HR0 hB0
  unfold rgO at hw0
  go_enter Try.func7, Try.ntmps7
  go_wp2_with fail
  refine (lives8_any _).mono ?_
  rintro e w1 ⟨rfl, hb⟩
  have HR1 := Lib.hid (HR0.out.below hb HR0.out.lt)
  have hB1 := hB0.trans (hb.mono hB0.size)
  clear hb hB0 HR0 hw0
  go_wp2_with fail
  go_loopw [5] (fun i wr => ∃ k : Nat, k ≤ 3 ∧ i = .int .i64 k ∧ RowW wr w.heap.size r.cells ∧ Below w.heap.size w wr) (fun i _ => 3 - (intOf i).toNat)
  case atStart => exact ⟨0, by omega, rfl, HR1.out, hB1⟩
  case round =>
    obtain ⟨k, hk, rfl, hR2, hB2⟩ := hrel
    have HR2 := Lib.hid hR2
    clear hR2 hB1 HR1
    by_cases hk3 : k < 3
    · have hSw := fun w' => c8_swap r hr k w' (wf_i64 (by omega) (by omega))
      have hSw2 := fun w' => c8_swap _ (swapR_ok hr k) k w' (wf_i64 (by omega) (by omega))
      rw [swap_twice hr k] at hSw2
      have HS1 := Lib.hid hSw
      have HS2 := Lib.hid hSw2
      clear hSw hSw2
      go_upto_region 6 with fail
      refine M.region_ (by kernel_rfl) ?_
      refine M.calm_ (i := 0) r.val rfl (by kernel_rfl) (by kernel_rfl) (by kernel_rfl) (by kernel_rfl) ?_ ?_
      · intro wz sz
        exact does_load_row 28 _ rfl _ rfl _ _ (0, 0) _ (HR2.out.below sz.2 HR2.out.lt) Try.underlying28 rfl rg_info ⟨rfl, Save.refl _ _⟩
      go_simp
      refine M.seg_ [1, 3] 4 _ _ (M.Base.refl _) (by kernel_rfl) (by kernel_rfl) (by kernel_rfl) (by simp only [pickOps, mask, plain, List.getElem?_toArray, List.getElem?_cons_zero, List.getElem?_cons_succ, if_true]; rfl) ?_
      repeat (go_big_quiet_step (fail))
      refine wpQuiet_nil ?_
      refine M.calm_ (i := 2) (swapR r k).val rfl (by kernel_rfl) (by kernel_rfl) (by kernel_rfl) (by kernel_rfl) ?_ ?_
      · intro wz sz
        unfold Oper.does
        go_simp
        exact (HS1.out wz).mono fun e w' ⟨he, hw⟩ => ⟨_, he, rfl, Save.of_below hw⟩
      go_simp
      refine M.calm_ (i := 4) r.val rfl (by kernel_rfl) (by kernel_rfl) (by kernel_rfl) (by kernel_rfl) ?_ ?_
      · intro wz sz
        unfold Oper.does
        go_simp
        exact (HS2.out wz).mono fun e w' ⟨he, hw⟩ => ⟨_, he, rfl, Save.of_below hw⟩
      go_simp
      refine M.calm_ (i := 5) r.val rfl (by kernel_rfl) (by kernel_rfl) (by kernel_rfl) (by kernel_rfl) ?_ ?_
      · intro wz sz
        exact does_load_row 28 _ rfl _ rfl _ _ (0, 0) _ (HR2.out.below sz.2 HR2.out.lt) Try.underlying28 rfl rg_info ⟨rfl, Save.refl _ _⟩
      go_simp
      refine M.calm_ (i := 6) (.bool false) rfl (by kernel_rfl) (by kernel_rfl) (by kernel_rfl) (by kernel_rfl) ?_ ?_
      · intro wz sz
        exact does_rg_neq _ _ rfl r rfl rfl ⟨rfl, Save.refl _ _⟩
      go_simp
      refine M.end_ (by kernel_rfl) ?_
      intro wc sc
      have hR3 := HR2.out.below sc.2 HR2.out.lt
      have hB3 := hB2.trans (sc.2.mono hB2.size)
      clear HR2 hB2 sc
      go_simp
      go_wp2_with fail
      go_roundw
      case rel => exact ⟨k + 1, by omega, by go_num, hR3, hB3⟩
      case measure => simp [intOf]; omega
    · obtain rfl : k = 3 := by omega
      obtain ⟨b2, hb2⟩ : ∃ b2, wr.heap.size = b2 := ⟨_, rfl⟩
      obtain ⟨wa, hwa⟩ : ∃ wa, wr.alloc (rgO zeroR) = wa := ⟨_, rfl⟩
      have hZa : RowW wa b2 zeroR.cells := by rw [← hwa, ← hb2]; exact RgW.laid wr zeroR
      have hba : Below wr.heap.size wr wa := hwa ▸ (Below.refl _ _).alloc (Nat.le_refl _) _
      have hRa := HR2.out.below hba HR2.out.lt
      have hBa := hB2.trans (hba.mono hB2.size)
      have hne : w.heap.size ≠ b2 := by have := HR2.out.lt; omega
      have hle : w.heap.size ≤ b2 := hb2 ▸ hB2.size
      unfold rgO zeroR at hwa
      go_upto_region 9 with (first
        | (refine wpList_load_row rfl 28 _ rfl w.heap.size rfl _ _ (0, 0) _ HR2.out Try.underlying28 rfl rg_info ?_)
        | (refine wpList_store_row rfl 28 _ _ rfl b2 _ rfl rfl _ _ hZa rg_info rfl (rg_one r) ?_))
      have hS3 := setRow_heap wa b2 _ r.cells _ _ hZa
      have hR3 : RowW (wa.setRow b2 r.cells) w.heap.size r.cells := (setRow_other wa b2 w.heap.size r.cells hne).trans hRa
      have hB3 := below_setRow hBa hle r.cells
      generalize hw3 : wa.setRow b2 r.cells = w3 at *
      clear hw3 hZa hba hRa hBa hwa hB2 HR2 hb2
      have hS3' : RowW w3 b2 (refN r 0).cells := by rw [refN_zero]; exact hS3
      clear hS3
      go_wp2_with fail
      go_loopw [7] (fun i wr => ∃ k : Nat, k ≤ 128 ∧ i = .int .i64 k ∧ RowW wr w.heap.size r.cells ∧ RowW wr b2 (refN r k).cells ∧ Below w.heap.size w wr) (fun i _ => 128 - (intOf i).toNat)
      case atStart => exact ⟨0, by omega, rfl, hR3, hS3', hB3⟩
      case round =>
        clear hR3 hS3' hB3
        obtain ⟨k, hk, rfl, hR4, hS4, hB4⟩ := hrel
        by_cases hk3 : k < 128
        · have hRf := fun w' => c8_refresh (refN r k) (refN_byte hr.R k) w'
          rw [refN_succ] at hRf
          have HRf := Lib.hid hRf
          clear hRf
          go_wp2_with (refine wpList_load_row rfl 28 _ rfl b2 rfl _ _ (0, 0) _ hS4 Try.underlying28 rfl rg_info ?_)
          refine (HRf.out _).mono ?_
          rintro e w5 ⟨rfl, hb⟩
          have hR5 := hR4.below hb hR4.lt
          have hS5 := hS4.below hb hS4.lt
          have hB5 := hB4.trans (hb.mono hB4.size)
          clear hb HRf hR4 hS4 hB4
          have hS6 := setRow_heap w5 b2 _ (refN r (k + 1)).cells _ _ hS5
          have hR6 : RowW (w5.setRow b2 (refN r (k + 1)).cells) w.heap.size r.cells := (setRow_other w5 b2 w.heap.size _ hne).trans hR5
          have hB6 := below_setRow hB5 hle (refN r (k + 1)).cells
          have q0 := refN_top hr.R (k + 1)
          have q2 := refN_byte hr.R (k + 1)
          obtain ⟨Y, hY⟩ : ∃ Y, (refN r (k + 1)).R = Y := ⟨_, rfl⟩
          rw [hY] at q0 q2
          have x0 : (w5.setRow b2 (refN r (k + 1)).cells).cell? ⟨b2, 9, none⟩ = some (.int .u8 Y) := (cell_of_row _ _ _ _ _ _ hS6).trans (by rw [← hY]; rfl)
          have x1 := hR6.at_ 9 (.int .u8 r.R) rfl
          have p0 : IntKind.u8.wrap (Y.tdiv 128) = r.R / 128 := by obtain ⟨y0, y1⟩ := q2; rw [wrap_u8, Int.tdiv_eq_ediv_of_nonneg y0, ← q0]; omega
          have p1 : IntKind.u8.wrap (r.R.tdiv 128) = r.R / 128 := by obtain ⟨y0, y1⟩ := hr.R; rw [wrap_u8, Int.tdiv_eq_ediv_of_nonneg y0]; omega
          have HS6 := Lib.hid hS6
          have HR6 := Lib.hid hR6
          have HB6 := Lib.hid hB6
          clear hS6 hR6 hB6 hR5 q0 q2 hY
          go_wp2_with (refine wpList_store_row rfl 28 _ _ rfl b2 (refN r (k + 1)).cells rfl rfl _ _ hS5 rg_info rfl (rg_one _) ?_)
          go_roundw
          case rel => exact ⟨k + 1, by omega, by go_num, HR6.out, HS6.out, HB6.out⟩
          case measure => simp [intOf]; omega
        · rw [show ((k : Nat) : Int) = 128 by omega]
          obtain rfl : k = 128 := by omega
          rw [refN_128] at hS4
          have HR4 := Lib.hid hR4
          have HS4 := Lib.hid hS4
          clear hR4 hS4
          go_wp2_with fail
          go_loopw [8] (fun i wr => ∃ k : Nat, k ≤ 4 ∧ i = .int .i64 ((2 * k : Nat) : Int) ∧ RowW wr w.heap.size r.cells ∧ RowW wr b2 r.cells ∧ Below w.heap.size w wr) (fun i _ => 8 - (intOf i).toNat)
          case atStart => exact ⟨0, by omega, rfl, HR4.out, HS4.out, hB4⟩
          case round =>
            clear HR4 HS4 hB4
            obtain ⟨k, hk, rfl, hR4, hS4, hB4⟩ := hrel
            have HR4 := Lib.hid hR4
            have HS4 := Lib.hid hS4
            clear hR4 hS4
            by_cases hk3 : k < 4
            · have hC0 := fun w' => c8_cond f ((2 * k : Nat) : Int) w' (wf_i64 (by omega) (by omega))
              have hC1 := fun w' => c8_cond f (((2 * k : Nat) : Int) + 1) w' (wf_i64 (by omega) (by omega))
              rw [cond_other f ((2 * k : Nat) : Int) (by omega)] at hC1
              have HC0 := Lib.hid hC0
              have HC1 := Lib.hid hC1
              clear hC0 hC1
              obtain ⟨z, hz⟩ : ∃ z, condR f ((2 * k : Nat) : Int) = z := ⟨_, rfl⟩
              rw [hz] at HC0 HC1
              clear hz
              obtain ⟨K, hK⟩ : ∃ K, ((2 * k : Nat) : Int) = K := ⟨_, rfl⟩
              have hK7 : 0 ≤ K ∧ K < 8 := by omega
              rw [hK] at HC0 HC1 ⊢
              obtain ⟨hK0, hK8⟩ := hK7
              go_wp2_with fail
              refine (HC0.out _).mono ?_
              rintro e w5 ⟨rfl, hb⟩
              have hR5 := HR4.out.below hb HR4.out.lt
              have hS5 := HS4.out.below hb HS4.out.lt
              have hB5 := hB4.trans (hb.mono hB4.size)
              clear hb HR4 HS4 hB4
              go_wp2_with fail
              refine (HC1.out _).mono ?_
              rintro e w6 ⟨rfl, hb⟩
              have hR6 := hR5.below hb hR5.lt
              have hS6 := hS5.below hb hS5.lt
              have hB6 := hB5.trans (hb.mono hB5.size)
              clear hb hR5 hS5 hB5
              have hzz : (z == !z) = false := by cases z <;> rfl
              go_wp2_with fail
              go_roundw
              case rel => exact ⟨k + 1, by omega, (by rw [show K = ((2 * k : Nat) : Int) from hK.symm]; go_num), hR6, hS6, hB6⟩
              case measure => simp [intOf]; omega
            · obtain rfl : k = 4 := by omega
              have hA := fun w' => c8_swap r hr 0 w' (by decide)
              have hB := fun w' => c8_swap r hr 1 w' (by decide)
              have hC := fun w' => c8_swap r hr 2 w' (by decide)
              have hD := fun w' => c8_swap r hr 3 w' (by decide)
              have hE := fun w' => c8_swap r hr (-1) w' (by decide)
              have hAB := fun w' => c8_swap _ (swapR_ok hr 0) 1 w' (by decide)
              have hBA := fun w' => c8_swap _ (swapR_ok hr 1) 0 w' (by decide)
              rw [swap_comm] at hBA
              rw [swap_3] at hD
              rw [swap_m1] at hE
              obtain ⟨s0, es0⟩ : ∃ s, swapR r 0 = s := ⟨_, rfl⟩
              obtain ⟨s1, es1⟩ : ∃ s, swapR r 1 = s := ⟨_, rfl⟩
              obtain ⟨s2, es2⟩ : ∃ s, swapR r 2 = s := ⟨_, rfl⟩
              rw [es0] at hA hD hAB hBA
              rw [es1] at hB hBA
              rw [es2] at hC hE
              obtain ⟨s3, es3⟩ : ∃ s, swapR s0 1 = s := ⟨_, rfl⟩
              rw [es3] at hAB hBA
              clear es0 es1 es2 es3
              have HA := Lib.hid hA
              have HB := Lib.hid hB
              have HC := Lib.hid hC
              have HD := Lib.hid hD
              have HE := Lib.hid hE
              have HAB := Lib.hid hAB
              have HBA := Lib.hid hBA
              clear hA hB hC hD hE hAB hBA
              go_upto_region 20 with fail
              refine M.region_ (by kernel_rfl) ?_
              refine M.calm_ (i := 0) r.val rfl (by kernel_rfl) (by kernel_rfl) (by kernel_rfl) (by kernel_rfl) ?_ ?_
              · intro wz sz
                exact does_load_row 28 _ rfl _ rfl _ _ (0, 0) _ (HS4.out.below sz.2 HS4.out.lt) Try.underlying28 rfl rg_info ⟨rfl, Save.refl _ _⟩
              go_simp
              refine M.calm_ (i := 1) r.val rfl (by kernel_rfl) (by kernel_rfl) (by kernel_rfl) (by kernel_rfl) ?_ ?_
              · intro wz sz
                exact does_load_row 28 _ rfl _ rfl _ _ (0, 0) _ (HR4.out.below sz.2 HR4.out.lt) Try.underlying28 rfl rg_info ⟨rfl, Save.refl _ _⟩
              go_simp
              refine M.calm_ (i := 2) (.bool true) rfl (by kernel_rfl) (by kernel_rfl) (by kernel_rfl) (by kernel_rfl) ?_ ?_
              · intro wz sz
                exact does_rg_eql _ _ rfl r rfl rfl ⟨rfl, Save.refl _ _⟩
              go_simp
              refine M.seg_ [3] 23 _ _ (M.Base.refl _) (by kernel_rfl) (by kernel_rfl) (by kernel_rfl) (by simp only [pickOps, mask, plain, List.getElem?_toArray, List.getElem?_cons_zero, List.getElem?_cons_succ, if_true]; rfl) ?_
              repeat (go_big_quiet_step (fail))
              refine wpQuiet_nil ?_
              refine M.calm_ (i := 4) r.val rfl (by kernel_rfl) (by kernel_rfl) (by kernel_rfl) (by kernel_rfl) ?_ ?_
              · intro wz sz
                exact does_load_row 28 _ rfl _ rfl _ _ (0, 0) _ (HR4.out.below sz.2 HR4.out.lt) Try.underlying28 rfl rg_info ⟨rfl, Save.refl _ _⟩
              go_simp
              refine M.calm_ (i := 5) s0.val rfl (by kernel_rfl) (by kernel_rfl) (by kernel_rfl) (by kernel_rfl) ?_ ?_
              · intro wz sz
                unfold Oper.does
                go_simp
                exact (HA.out wz).mono fun e w' ⟨he, hw⟩ => ⟨_, he, rfl, Save.of_below hw⟩
              go_simp
              refine M.calm_ (i := 6) s3.val rfl (by kernel_rfl) (by kernel_rfl) (by kernel_rfl) (by kernel_rfl) ?_ ?_
              · intro wz sz
                unfold Oper.does
                go_simp
                exact (HAB.out wz).mono fun e w' ⟨he, hw⟩ => ⟨_, he, rfl, Save.of_below hw⟩
              go_simp
              refine M.calm_ (i := 7) r.val rfl (by kernel_rfl) (by kernel_rfl) (by kernel_rfl) (by kernel_rfl) ?_ ?_
              · intro wz sz
                exact does_load_row 28 _ rfl _ rfl _ _ (0, 0) _ (HR4.out.below sz.2 HR4.out.lt) Try.underlying28 rfl rg_info ⟨rfl, Save.refl _ _⟩
              go_simp
              refine M.calm_ (i := 8) s1.val rfl (by kernel_rfl) (by kernel_rfl) (by kernel_rfl) (by kernel_rfl) ?_ ?_
              · intro wz sz
                unfold Oper.does
                go_simp
                exact (HB.out wz).mono fun e w' ⟨he, hw⟩ => ⟨_, he, rfl, Save.of_below hw⟩
              go_simp
              refine M.calm_ (i := 9) s3.val rfl (by kernel_rfl) (by kernel_rfl) (by kernel_rfl) (by kernel_rfl) ?_ ?_
              · intro wz sz
                unfold Oper.does
                go_simp
                exact (HBA.out wz).mono fun e w' ⟨he, hw⟩ => ⟨_, he, rfl, Save.of_below hw⟩
              go_simp
              refine M.calm_ (i := 10) (.bool true) rfl (by kernel_rfl) (by kernel_rfl) (by kernel_rfl) (by kernel_rfl) ?_ ?_
              · intro wz sz
                exact does_rg_eql _ _ rfl s3 rfl rfl ⟨rfl, Save.refl _ _⟩
              go_simp
              refine M.seg_ [11, 12] 14 _ _ (M.Base.refl _) (by kernel_rfl) (by kernel_rfl) (by kernel_rfl) (by simp only [pickOps, mask, plain, List.getElem?_toArray, List.getElem?_cons_zero, List.getElem?_cons_succ, if_true]; rfl) ?_
              repeat (go_big_quiet_step (fail))
              refine wpQuiet_nil ?_
              refine M.calm_ (i := 13) r.val rfl (by kernel_rfl) (by kernel_rfl) (by kernel_rfl) (by kernel_rfl) ?_ ?_
              · intro wz sz
                exact does_load_row 28 _ rfl _ rfl _ _ (0, 0) _ (HR4.out.below sz.2 HR4.out.lt) Try.underlying28 rfl rg_info ⟨rfl, Save.refl _ _⟩
              go_simp
              refine M.calm_ (i := 14) s0.val rfl (by kernel_rfl) (by kernel_rfl) (by kernel_rfl) (by kernel_rfl) ?_ ?_
              · intro wz sz
                unfold Oper.does
                go_simp
                exact (HD.out wz).mono fun e w' ⟨he, hw⟩ => ⟨_, he, rfl, Save.of_below hw⟩
              go_simp
              refine M.calm_ (i := 15) r.val rfl (by kernel_rfl) (by kernel_rfl) (by kernel_rfl) (by kernel_rfl) ?_ ?_
              · intro wz sz
                exact does_load_row 28 _ rfl _ rfl _ _ (0, 0) _ (HR4.out.below sz.2 HR4.out.lt) Try.underlying28 rfl rg_info ⟨rfl, Save.refl _ _⟩
              go_simp
              refine M.calm_ (i := 16) s0.val rfl (by kernel_rfl) (by kernel_rfl) (by kernel_rfl) (by kernel_rfl) ?_ ?_
              · intro wz sz
                unfold Oper.does
                go_simp
                exact (HA.out wz).mono fun e w' ⟨he, hw⟩ => ⟨_, he, rfl, Save.of_below hw⟩
              go_simp
              refine M.calm_ (i := 17) (.bool true) rfl (by kernel_rfl) (by kernel_rfl) (by kernel_rfl) (by kernel_rfl) ?_ ?_
              · intro wz sz
                exact does_rg_eql _ _ rfl s0 rfl rfl ⟨rfl, Save.refl _ _⟩
              go_simp
              refine M.seg_ [18, 19] 7 _ _ (M.Base.refl _) (by kernel_rfl) (by kernel_rfl) (by kernel_rfl) (by simp only [pickOps, mask, plain, List.getElem?_toArray, List.getElem?_cons_zero, List.getElem?_cons_succ, if_true]; rfl) ?_
              repeat (go_big_quiet_step (fail))
              refine wpQuiet_nil ?_
              refine M.calm_ (i := 20) r.val rfl (by kernel_rfl) (by kernel_rfl) (by kernel_rfl) (by kernel_rfl) ?_ ?_
              · intro wz sz
                exact does_load_row 28 _ rfl _ rfl _ _ (0, 0) _ (HR4.out.below sz.2 HR4.out.lt) Try.underlying28 rfl rg_info ⟨rfl, Save.refl _ _⟩
              go_simp
              refine M.calm_ (i := 21) s2.val rfl (by kernel_rfl) (by kernel_rfl) (by kernel_rfl) (by kernel_rfl) ?_ ?_
              · intro wz sz
                unfold Oper.does
                go_simp
                exact (HE.out wz).mono fun e w' ⟨he, hw⟩ => ⟨_, he, rfl, Save.of_below hw⟩
              go_simp
              refine M.calm_ (i := 22) r.val rfl (by kernel_rfl) (by kernel_rfl) (by kernel_rfl) (by kernel_rfl) ?_ ?_
              · intro wz sz
                exact does_load_row 28 _ rfl _ rfl _ _ (0, 0) _ (HR4.out.below sz.2 HR4.out.lt) Try.underlying28 rfl rg_info ⟨rfl, Save.refl _ _⟩
              go_simp
              refine M.calm_ (i := 23) s2.val rfl (by kernel_rfl) (by kernel_rfl) (by kernel_rfl) (by kernel_rfl) ?_ ?_
              · intro wz sz
                unfold Oper.does
                go_simp
                exact (HC.out wz).mono fun e w' ⟨he, hw⟩ => ⟨_, he, rfl, Save.of_below hw⟩
              go_simp
              refine M.calm_ (i := 24) (.bool true) rfl (by kernel_rfl) (by kernel_rfl) (by kernel_rfl) (by kernel_rfl) ?_ ?_
              · intro wz sz
                exact does_rg_eql _ _ rfl s2 rfl rfl ⟨rfl, Save.refl _ _⟩
              go_simp
              refine M.seg_ [25, 26] 0 _ _ (M.Base.refl _) (by kernel_rfl) (by kernel_rfl) (by kernel_rfl) (by simp only [pickOps, mask, plain, List.getElem?_toArray, List.getElem?_cons_zero, List.getElem?_cons_succ, if_true]; rfl) ?_
              repeat (go_big_quiet_step (fail))
              refine wpQuiet_nil ?_
              refine M.end_ (by kernel_rfl) ?_
              intro wc sc
              go_wp2_with fail
              go_ret
              exact ⟨rfl, hB4.trans (sc.2.mono hB4.size)⟩

end Go.Proofs.Ytaabpeibaaakhaa
