
/- The reference's Pulses, Next. -/
import Derived.Test.YtpkmphalhmmbkaaH4
namespace Go.Proofs.Ytpkmphalhmmbkaa
open Go.RowKit
set_option linter.unusedSimpArgs false
set_option linter.unusedVariables false
set_option maxRecDepth 100000

set_option maxHeartbeats 2000000 in
theorem rpulses_any (w : World) (s : Scr) (x y : Int) : Calls Try.prog 29 #[s.val, .int .i64 x, .int .i64 y] w fun e w' => ((s.May ∧ x < y → e = .returned (.int .i64 (pulsesB s.len s.pulse y - pulsesB s.len s.pulse x))) ∧ (¬ (s.May ∧ x < y) → e = .returned (.int .i64 0))) ∧ Below w.heap.size w w' := by
  have hB : Below w.heap.size w (w.alloc (scO s)) := (Below.refl _ _).alloc (Nat.le_refl _) _
  have hs := SB.now w s
  unfold Scr.val
  go_enter Try.func29, Try.ntmps29
  go_wp2_with fail
  by_cases hm : s.May
  · refine (rcheck_yes s hm _).mono ?_
    rintro e w2 ⟨rfl, hb⟩
    have hlt : w.heap.size < w2.heap.size := by have := hb.size; simp at this; omega
    have hS := hs.below hb (by simp)
    have hB := hB.trans (hb.mono (by simp))
    clear hb hs
    by_cases hxy : x < y
    · have hs := fun p : M.Of (M.Base w2) => hS.of hlt p
      have c6 := fun p => (hs p).c6
      have cv := fun p => (hs p).c0
      have cw := fun p => (hs p).c1
      have c2 := fun p => (hs p).c2
      have c3 := fun p => (hs p).c3
      have c4 := fun p => (hs p).c4
      have c5 := fun p => (hs p).c5
      clear hs
      have hpm := Scr.pulse_may hm
      obtain ⟨hl, hL0, hL1⟩ := Scr.len_may hm
      have hby := pulsesB_bd s.len s.pulse y hL0 hpm.1 hpm.2
      have hbx := pulsesB_bd s.len s.pulse x hL0 hpm.1 hpm.2
      clear hl hL0 hL1 hpm
      generalize hey : pulsesB s.len s.pulse y = py at *
      generalize hex : pulsesB s.len s.pulse x = px at *
      have HEY := Lib.hid hey
      have HEX := Lib.hid hex
      clear hey hex
      go_upto_region 2 with fail
      refine M.region_ (by kernel_rfl) ?_
      go_simp
      refine M.seg_ [0, 1, 3, 4] 4 _ _ (M.Base.refl _) (by kernel_rfl) (by kernel_rfl) (by kernel_rfl) (by simp only [pickOps, mask, plain, List.getElem?_toArray, List.getElem?_cons_zero, List.getElem?_cons_succ, if_true, if_false, Bool.false_eq_true]; rfl) ?_
      repeat (go_big_quiet_step (fail))
      refine wpQuiet_nil ?_
      clear c6 cv cw c2 c3 c4 c5
      refine M.calm_ (i := 2) (.int .i64 py) rfl (by kernel_rfl) (by kernel_rfl) (by kernel_rfl) (by kernel_rfl) ?_ ?_
      · intro wz sz
        unfold Oper.does
        go_simp
        exact ((fun wz => HEY.out ▸ below_any wz s y hm) wz).mono fun e w' he => ⟨_, he.1, rfl, Save.of_below he.2⟩
      refine M.calm_ (i := 5) (.int .i64 px) rfl (by kernel_rfl) (by kernel_rfl) (by kernel_rfl) (by kernel_rfl) ?_ ?_
      · intro wz sz
        unfold Oper.does
        go_simp
        exact ((fun wz => HEX.out ▸ below_any wz s x hm) wz).mono fun e w' he => ⟨_, he.1, rfl, Save.of_below he.2⟩
      go_simp
      refine M.seg_ [6, 7] 0 _ _ (M.Base.refl _) (by kernel_rfl) (by kernel_rfl) (by kernel_rfl) (by simp only [pickOps, mask, plain, List.getElem?_toArray, List.getElem?_cons_zero, List.getElem?_cons_succ, if_true, if_false, Bool.false_eq_true]; rfl) ?_
      repeat (go_big_quiet_step (fail))
      refine wpQuiet_nil ?_
      refine M.end_ (by kernel_rfl) ?_
      intro wE sE
      go_wp2
      go_ret
      rw [HEY.out, HEX.out]
      exact ⟨⟨fun _ => rfl, fun h => absurd ⟨hm, hxy⟩ h⟩, hB.trans (sE.2.mono hB.size)⟩
    · go_wp2_with fail
      go_ret
      exact ⟨⟨fun h => absurd h.2 (by omega), fun _ => rfl⟩, hB⟩
  · refine (rcheck_no s hm _).mono ?_
    rintro e w2 ⟨rfl, hb⟩
    have hB := hB.trans (hb.mono (by simp))
    clear hb
    go_wp2_with fail
    go_ret
    exact ⟨⟨fun h => absurd h.1 hm, fun _ => rfl⟩, hB⟩
set_option maxHeartbeats 2000000 in
theorem rnext_any (w : World) (s : Scr) (t : Int) : Calls Try.prog 16 #[s.val, .int .i64 t] w fun e w' => e = .returned (.tuple #[.int .i64 (nextOf s.len t).1, .bool (nextOf s.len t).2]) ∧ Below w.heap.size w w' := by
  have hB : Below w.heap.size w (w.alloc (scO s)) := (Below.refl _ _).alloc (Nat.le_refl _) _
  have hs := SB.now w s
  unfold Scr.val
  go_enter Try.func16, Try.ntmps16
  go_wp2_with fail
  by_cases hm : s.May
  · refine (rcheck_yes s hm _).mono ?_
    rintro e w2 ⟨rfl, hb⟩
    have hlt : w.heap.size < w2.heap.size := by have := hb.size; simp at this; omega
    have hS := hs.below hb (by simp)
    have hB := hB.trans (hb.mono (by simp))
    clear hb hs
    obtain ⟨hl, hL0, hL1⟩ := Scr.len_may hm
    generalize hLe : s.len = L at *
    have HLE := Lib.hid hLe
    clear hl hLe
    by_cases ht1 : 1099511627776 ≤ t
    · have HN := Lib.hid (show nextOf L t = (0, false) by unfold nextOf; rw [if_pos (.inr ht1)])
      go_wp2_with fail
      all_goals go_ret2
      all_goals (rw [HLE.out, HN.out]; exact ⟨rfl, hB⟩)
    · by_cases ht0 : t < 0
      · have HN := Lib.hid (show nextOf L t = (0, true) by unfold nextOf; rw [if_neg (by omega), if_pos ht0])
        go_wp2_with fail
        all_goals go_ret2
        all_goals (rw [HLE.out, HN.out]; exact ⟨rfl, hB⟩)
      · have hdiv : t.tdiv L = t / L := Int.tdiv_eq_ediv_of_nonneg (by omega)
        have hq0 : 0 ≤ t / L := Int.ediv_nonneg (by omega) (by omega)
        have hq1 : t / L ≤ t := Int.ediv_le_self L (by omega)
        have hm2 := Int.mul_le_mul (show t / L + 1 ≤ 1099511627777 by omega) hL1 (by omega) (by omega)
        have hm1 : (t / L + 1) * L ≤ 175921860444320000 := Int.le_trans hm2 (by decide)
        have hm0 : 0 ≤ (t / L + 1) * L := Int.mul_nonneg (by omega) (by omega)
        have HNX := Lib.hid (show nextOf L t = if 1099511627776 < (t / L + 1) * L then (0, false) else ((t / L + 1) * L, true) by unfold nextOf; rw [if_neg (by omega), if_neg ht0])
        clear hm2
        generalize hqe : t / L = q at *
        clear hqe
        generalize hpe : (q + 1) * L = n at *
        have hs := fun p : M.Of (M.Base w2) => hS.of hlt p
        have c6 := fun p => (hs p).c6
        have cv := fun p => (hs p).c0
        have cw := fun p => (hs p).c1
        have c2 := fun p => (hs p).c2
        have c3 := fun p => (hs p).c3
        have c4 := fun p => (hs p).c4
        have c5 := fun p => (hs p).c5
        clear hs
        go_upto_region 2 with fail
        refine M.region_ (by kernel_rfl) ?_
        go_simp
        refine M.seg_ [0, 1, 5] 6 _ _ (M.Base.refl _) (by kernel_rfl) (by kernel_rfl) (by kernel_rfl) (by simp only [pickOps, mask, plain, List.getElem?_toArray, List.getElem?_cons_zero, List.getElem?_cons_succ, if_true, if_false, Bool.false_eq_true]; rfl) ?_
        repeat (go_big_quiet_step (fail))
        refine wpQuiet_nil ?_
        clear c6 cv cw c2 c3 c4 c5
        refine M.calm_ (i := 2) (.int .i64 L) rfl (by kernel_rfl) (by kernel_rfl) (by kernel_rfl) (by kernel_rfl) ?_ ?_
        · intro wz sz
          unfold Oper.does
          go_simp
          exact ((fun wz => HLE.out ▸ rlen_any wz s) wz).mono fun e w' he => ⟨_, he.1, rfl, Save.of_below he.2⟩
        refine M.calm_ (i := 6) (.int .i64 L) rfl (by kernel_rfl) (by kernel_rfl) (by kernel_rfl) (by kernel_rfl) ?_ ?_
        · intro wz sz
          unfold Oper.does
          go_simp
          exact ((fun wz => HLE.out ▸ rlen_any wz s) wz).mono fun e w' he => ⟨_, he.1, rfl, Save.of_below he.2⟩
        go_simp
        refine M.seg_ [3, 4, 7, 8] 0 _ _ (M.Base.refl _) (by kernel_rfl) (by kernel_rfl) (by kernel_rfl) (by simp only [pickOps, mask, plain, List.getElem?_toArray, List.getElem?_cons_zero, List.getElem?_cons_succ, if_true, if_false, Bool.false_eq_true]; rfl) ?_
        repeat (go_big_quiet_step (fail))
        refine wpQuiet_nil ?_
        refine M.end_ (by kernel_rfl) ?_
        intro wE sE
        have hB := hB.trans (sE.2.mono hB.size)
        clear sE
        go_wp2_with fail
        refine (rmay_any _ _).mono ?_
        rintro e w3 ⟨rfl, rfl⟩
        by_cases hgt : 1099511627776 < n
        · have HD := Lib.hid HNX.out
          rw [if_pos hgt] at HD
          rw [decide_eq_false (by omega)]
          go_wp2_with fail
          all_goals go_ret2
          all_goals (rw [HLE.out, HD.out]; exact ⟨rfl, hB⟩)
        · have HD := Lib.hid HNX.out
          rw [if_neg hgt] at HD
          rw [decide_eq_true (by omega)]
          go_wp2_with fail
          all_goals go_ret2
          all_goals (rw [HLE.out, HD.out]; exact ⟨rfl, hB⟩)
  · refine (rcheck_no s hm _).mono ?_
    rintro e w2 ⟨rfl, hb⟩
    have hB := hB.trans (hb.mono (by simp))
    clear hb
    have HN := Lib.hid (show nextOf s.len t = (0, false) by unfold nextOf; rw [if_pos (.inl (Scr.len_not hm))])
    go_wp2_with fail
    all_goals go_ret2
    all_goals (rw [HN.out]; exact ⟨rfl, hB⟩)
end Go.Proofs.Ytpkmphalhmmbkaa
