
/- The reference's Pulse, below, Pulses. -/
import Derived.Test.YtpkmphalhmmbkaaH3
namespace Go.Proofs.Ytpkmphalhmmbkaa
open Go.RowKit
set_option linter.unusedSimpArgs false
set_option linter.unusedVariables false
set_option maxRecDepth 100000


set_option maxHeartbeats 2000000 in
theorem rpulse_any (w : World) (s : Scr) (t : Int) : Calls Try.prog 27 #[s.val, .int .i64 t] w fun e w' => Tells e (s.May ∧ 0 ≤ t ∧ t ≤ 1099511627776 ∧ t % s.len < s.pulse) ∧ Below w.heap.size w w' := by
  have hB : Below w.heap.size w (w.alloc (scO s)) := (Below.refl _ _).alloc (Nat.le_refl _) _
  have hs := fun p : M.Of (M.Base (w.alloc (scO s))) => (SB.now w s).of (by simp) p
  have c6 := fun p => (hs p).c6
  have cv := fun p => (hs p).c0
  have cw := fun p => (hs p).c1
  have c2 := fun p => (hs p).c2
  have c3 := fun p => (hs p).c3
  have c4 := fun p => (hs p).c4
  have c5 := fun p => (hs p).c5
  clear hs
  simp only [scO] at hB c6 cv cw c2 c3 c4 c5
  have hval : s.val = .agg #[.int .i64 s.lines, .int .i64 s.columns, .int .i64 s.top, .int .i64 s.rows, .int .i64 s.left, .int .i64 s.wide, .int .i64 s.pulse] := rfl
  rw [hval]
  have HV := Lib.hid hval
  clear hval
  go_enter Try.func27, Try.ntmps27
  go_upto_region 2 with fail
  refine M.region_ (by kernel_rfl) ?_
  go_simp
  refine M.seg_ [0] 16 _ _ (M.Base.refl _) (by kernel_rfl) (by kernel_rfl) (by kernel_rfl) (by simp only [pickOps, mask, plain, List.getElem?_toArray, List.getElem?_cons_zero, List.getElem?_cons_succ, if_true, if_false, Bool.false_eq_true]; rfl) ?_
  repeat (go_big_quiet_step (fail))
  refine wpQuiet_nil ?_
  by_cases hm : s.May
  · refine M.calm_ (i := 1) (.int .i64 0) rfl (by kernel_rfl) (by kernel_rfl) (by kernel_rfl) (by kernel_rfl) ?_ ?_
    · intro wz sz
      unfold Oper.does
      go_simp
      exact ((fun wz => rcheck_yes s hm wz) wz).mono fun e w' he => ⟨_, he.1, rfl, Save.of_below he.2⟩
    go_simp
    refine M.seg_ [2, 3, 4] 12 _ _ (M.Base.refl _) (by kernel_rfl) (by kernel_rfl) (by kernel_rfl) (by simp only [pickOps, mask, plain, List.getElem?_toArray, List.getElem?_cons_zero, List.getElem?_cons_succ, if_true, if_false, Bool.false_eq_true]; rfl) ?_
    repeat (go_big_quiet_step (fail))
    refine wpQuiet_nil ?_
    by_cases h0 : 0 ≤ t ∧ t ≤ 1099511627776
    · refine M.calm_ (i := 5) (.bool true) rfl (by kernel_rfl) (by kernel_rfl) (by kernel_rfl) (by kernel_rfl) ?_ ?_
      · intro wz sz
        unfold Oper.does
        go_simp
        exact ((fun wz => (rmay_any t wz).mono fun e w' he => (⟨by rw [he.1, decide_eq_true h0], he.2 ▸ Below.refl _ _⟩ : e = .returned (.bool true) ∧ Below wz.heap.size wz w')) wz).mono fun e w' he => ⟨_, he.1, rfl, Save.of_below he.2⟩
      go_simp
      refine M.seg_ [6, 7, 8, 9] 7 _ _ (M.Base.refl _) (by kernel_rfl) (by kernel_rfl) (by kernel_rfl) (by simp only [pickOps, mask, plain, List.getElem?_toArray, List.getElem?_cons_zero, List.getElem?_cons_succ, if_true, if_false, Bool.false_eq_true]; rfl) ?_
      repeat (go_big_quiet_step (fail))
      refine wpQuiet_nil ?_
      obtain ⟨hl, hl0, hl1⟩ := Scr.len_may hm
      obtain ⟨ht0, ht1⟩ := h0
      have hmod : t.tmod s.len = t % s.len := Int.tmod_eq_emod_of_nonneg ht0
      generalize hLe : s.len = L at *
      have HLE := Lib.hid hLe
      clear hl hLe
      refine M.calm_ (i := 10) (.int .i64 L) rfl (by kernel_rfl) (by kernel_rfl) (by kernel_rfl) (by kernel_rfl) ?_ ?_
      · intro wz sz
        unfold Oper.does
        go_simp
        exact ((fun wz => HLE.out ▸ rlen_any wz s) wz).mono fun e w' he => ⟨_, he.1, rfl, Save.of_below he.2⟩
      go_simp
      refine M.seg_ [11, 12, 13, 14, 15, 16] 0 _ _ (M.Base.refl _) (by kernel_rfl) (by kernel_rfl) (by kernel_rfl) (by simp only [pickOps, mask, plain, List.getElem?_toArray, List.getElem?_cons_zero, List.getElem?_cons_succ, if_true, if_false, Bool.false_eq_true]; rfl) ?_
      repeat (go_big_quiet_step (fail))
      refine wpQuiet_nil ?_
      refine M.end_ (by kernel_rfl) ?_
      intro wE sE
      go_wp2
      go_ret
      exact ⟨⟨_, rfl, by rw [decide_eq_true_eq, HLE.out]; exact ⟨fun h => ⟨hm, ht0, ht1, h⟩, fun h => h.2.2.2⟩⟩, hB.trans (sE.2.mono hB.size)⟩
    · refine M.calm_ (i := 5) (.bool false) rfl (by kernel_rfl) (by kernel_rfl) (by kernel_rfl) (by kernel_rfl) ?_ ?_
      · intro wz sz
        unfold Oper.does
        go_simp
        exact ((fun wz => (rmay_any t wz).mono fun e w' he => (⟨by rw [he.1, decide_eq_false h0], he.2 ▸ Below.refl _ _⟩ : e = .returned (.bool false) ∧ Below wz.heap.size wz w')) wz).mono fun e w' he => ⟨_, he.1, rfl, Save.of_below he.2⟩
      go_simp
      refine M.seg_ [6, 7, 8, 9, 10, 11, 12, 13, 14, 15, 16] 0 _ _ (M.Base.refl _) (by kernel_rfl) (by kernel_rfl) (by kernel_rfl) (by simp only [pickOps, mask, plain, List.getElem?_toArray, List.getElem?_cons_zero, List.getElem?_cons_succ, if_true, if_false, Bool.false_eq_true]; rfl) ?_
      repeat (go_big_quiet_step (fail))
      refine wpQuiet_nil ?_
      refine M.end_ (by kernel_rfl) ?_
      intro wE sE
      go_wp2
      go_ret
      exact ⟨⟨_, rfl, fun h => absurd h Bool.false_ne_true, fun h => absurd ⟨h.2.1, h.2.2.1⟩ h0⟩, hB.trans (sE.2.mono hB.size)⟩
  · refine M.calm_ (i := 1) (.int .i64 2) rfl (by kernel_rfl) (by kernel_rfl) (by kernel_rfl) (by kernel_rfl) ?_ ?_
    · intro wz sz
      unfold Oper.does
      go_simp
      exact ((fun wz => rcheck_no s hm wz) wz).mono fun e w' he => ⟨_, he.1, rfl, Save.of_below he.2⟩
    go_simp
    refine M.seg_ [2, 3, 4, 5, 6, 7, 8, 9, 10, 11, 12, 13, 14, 15, 16] 0 _ _ (M.Base.refl _) (by kernel_rfl) (by kernel_rfl) (by kernel_rfl) (by simp only [pickOps, mask, plain, List.getElem?_toArray, List.getElem?_cons_zero, List.getElem?_cons_succ, if_true, if_false, Bool.false_eq_true]; rfl) ?_
    repeat (go_big_quiet_step (fail))
    refine wpQuiet_nil ?_
    refine M.end_ (by kernel_rfl) ?_
    intro wE sE
    go_wp2
    go_ret
    exact ⟨⟨_, rfl, fun h => absurd h Bool.false_ne_true, fun h => absurd h.1 hm⟩, hB.trans (sE.2.mono hB.size)⟩

theorem pulsesB_le (L p t : Int) (hp : 1 ≤ p) (ht : t ≤ 0) : pulsesB L p t = 0 := by
  have h : clampT t = 0 := by unfold clampT; omega
  unfold pulsesB
  rw [h, Int.zero_ediv, Int.zero_emod, Int.zero_mul]
  omega

set_option maxHeartbeats 2000000 in
theorem below_any (w : World) (s : Scr) (t : Int) (hm : s.May) : Calls Try.prog 81 #[s.val, .int .i64 t] w fun e w' => e = .returned (.int .i64 (pulsesB s.len s.pulse t)) ∧ Below w.heap.size w w' := by
  have hB : Below w.heap.size w (w.alloc (scO s)) := (Below.refl _ _).alloc (Nat.le_refl _) _
  have hpm := Scr.pulse_may hm
  by_cases ht : t ≤ 0
  · rw [pulsesB_le _ _ _ hpm.1 ht]
    unfold Scr.val
    go_enter Try.func81, Try.ntmps81
    go_wp2
    go_ret
    exact ⟨rfl, hB⟩
  · have ht2 : 0 < t := by omega
    have hs := fun p : M.Of (M.Base (w.alloc (scO s))) => (SB.now w s).of (by simp) p
    have c6 := fun p => (hs p).c6
    have cv := fun p => (hs p).c0
    have cw := fun p => (hs p).c1
    have c2 := fun p => (hs p).c2
    have c3 := fun p => (hs p).c3
    have c4 := fun p => (hs p).c4
    have c5 := fun p => (hs p).c5
    clear hs
    simp only [scO] at hB c6 cv cw c2 c3 c4 c5
    unfold Scr.val
    go_enter Try.func81, Try.ntmps81
    go_upto_region 2 with fail
    obtain ⟨hl, hL0, hL1⟩ := Scr.len_may hm
    obtain ⟨hp0, hp1⟩ := hpm
    have hu1 : 0 ≤ min t 1099511627777 ∧ min t 1099511627777 ≤ 1099511627777 := by omega
    have HPB := Lib.hid (show pulsesB s.len s.pulse t = min t 1099511627777 / s.len * s.pulse + min (min t 1099511627777 % s.len) s.pulse by unfold pulsesB clampT; rw [show min (max t 0) 1099511627777 = min t 1099511627777 by omega])
    clear hl
    generalize hLe : s.len = L at *
    have HLE := Lib.hid hLe
    clear hLe
    generalize hu : min t 1099511627777 = u at *
    clear hu
    obtain ⟨hu0, hu1⟩ := hu1
    have hdiv : u.tdiv L = u / L := Int.tdiv_eq_ediv_of_nonneg hu0
    have hmod : u.tmod L = u % L := Int.tmod_eq_emod_of_nonneg hu0
    have hq0 : 0 ≤ u / L := Int.ediv_nonneg hu0 (by omega)
    have hq1 : u / L ≤ 1099511627777 := Int.le_trans (Int.ediv_le_self L hu0) hu1
    have hm0 : 0 ≤ u / L * s.pulse := Int.mul_nonneg hq0 (by omega)
    have hm1 : u / L * s.pulse ≤ 70368744177728 := Int.le_trans (Int.mul_le_mul hq1 hp1 (by omega) (by omega)) (by decide)
    have hr0 : 0 ≤ u % L := Int.emod_nonneg u (by omega)
    have hr1 : u % L < L := Int.emod_lt_of_pos u (by omega)
    generalize hqe : u / L = q at *
    generalize hre : u % L = r at *
    have HQ := Lib.hid hqe
    have HR := Lib.hid hre
    clear hqe hre
    generalize hqp : q * s.pulse = qp at *
    have HQP := Lib.hid hqp
    refine M.region_ (by kernel_rfl) ?_
    go_simp
    refine M.seg_ [0, 1, 4, 5, 7, 8, 11, 12] 8 _ _ (M.Base.refl _) (by kernel_rfl) (by kernel_rfl) (by kernel_rfl) (by simp only [pickOps, mask, plain, List.getElem?_toArray, List.getElem?_cons_zero, List.getElem?_cons_succ, if_true, if_false, Bool.false_eq_true]; rfl) ?_
    repeat (go_big_quiet_step (fail))
    refine wpQuiet_nil ?_
    clear c6 cv cw c2 c3 c4 c5
    refine M.calm_ (i := 2) (.int .i64 L) rfl (by kernel_rfl) (by kernel_rfl) (by kernel_rfl) (by kernel_rfl) ?_ ?_
    · intro wz sz
      unfold Oper.does
      go_simp
      exact ((fun wz => HLE.out ▸ rlen_any wz s) wz).mono fun e w' he => ⟨_, he.1, rfl, Save.of_below he.2⟩
    refine M.calm_ (i := 9) (.int .i64 L) rfl (by kernel_rfl) (by kernel_rfl) (by kernel_rfl) (by kernel_rfl) ?_ ?_
    · intro wz sz
      unfold Oper.does
      go_simp
      exact ((fun wz => HLE.out ▸ rlen_any wz s) wz).mono fun e w' he => ⟨_, he.1, rfl, Save.of_below he.2⟩
    go_simp
    refine M.seg_ [3, 6, 10] 3 _ _ (M.Base.refl _) (by kernel_rfl) (by kernel_rfl) (by kernel_rfl) (by simp only [pickOps, mask, plain, List.getElem?_toArray, List.getElem?_cons_zero, List.getElem?_cons_succ, if_true, if_false, Bool.false_eq_true]; rfl) ?_
    repeat (go_big_quiet_step (fail))
    refine wpQuiet_nil ?_
    refine M.calm_ (i := 13) (.int .i64 (min r s.pulse)) rfl (by kernel_rfl) (by kernel_rfl) (by kernel_rfl) (by kernel_rfl) ?_ ?_
    · intro wz sz
      unfold Oper.does
      go_simp
      exact Save.refl _ _
    go_simp
    refine M.seg_ [14, 15] 0 _ _ (M.Base.refl _) (by kernel_rfl) (by kernel_rfl) (by kernel_rfl) (by simp only [pickOps, mask, plain, List.getElem?_toArray, List.getElem?_cons_zero, List.getElem?_cons_succ, if_true, if_false, Bool.false_eq_true]; rfl) ?_
    repeat (go_big_quiet_step (fail))
    refine wpQuiet_nil ?_
    refine M.end_ (by kernel_rfl) ?_
    intro wE sE
    go_wp2
    go_ret
    rw [HLE.out, HPB.out]
    exact ⟨rfl, hB.trans (sE.2.mono hB.size)⟩
end Go.Proofs.Ytpkmphalhmmbkaa
