/-  -/
import Derived.Test.YthnbpdcjooifbaaJ13
import Derived.Test.YthnbpdcjooifbaaJ16
namespace Go.Proofs.Ythnbpdcjooifbaa
open Go.RowKit
set_option linter.unusedSimpArgs false
set_option linter.unusedVariables false

theorem r2may_any (t : Int) (w : World) : Calls Try.prog 85 #[.int .i64 t] w fun e w' => e = .returned (.bool (decide (0 ≤ t ∧ t ≤ 1099511627776))) ∧ w = w' := by
  by_cases h0 : 0 ≤ t
  · by_cases h1 : t ≤ 1099511627776
    · go_enter Try.func85, Try.ntmps85
      go_wp2
      go_ret
      exact ⟨by simp [h0, h1], rfl⟩
    · have h2 : 1099511627776 < t := by omega
      go_enter Try.func85, Try.ntmps85
      go_wp2
      go_ret
      exact ⟨by simp [h0, h1], rfl⟩
  · have h2 : t < 0 := by omega
    go_enter Try.func85, Try.ntmps85
    go_wp2
    go_ret
    exact ⟨by simp; omega, rfl⟩

set_option maxRecDepth 100000 in
set_option maxHeartbeats 8000000 in
theorem r3check_any (w : World) (x : Ev) : Calls Try.prog 62 #[x.val] w (ChecksAs x w.heap.size w) := by
  have hb0 : Below w.heap.size w (w.alloc (evO x)) := (Below.refl _ _).alloc (Nat.le_refl _) _
  have he := (EV.laid w x).later (by simp)
  have HB0 := Lib.hid hb0
  clear hb0
  obtain ⟨t, c, s, k, a, b⟩ := x
  have x0 := fun p => (he p).c0
  have x1 := fun p => (he p).c1
  have x2 := fun p => (he p).c2
  have x3 := fun p => (he p).c3
  have x4 := fun p => (he p).c4
  have x5 := fun p => (he p).c5
  clear he
  simp only [evO] at x0 x1 x2 x3 x4 x5
  have HMY := Lib.hid (fun W => r2may_any t W)
  have HCP := Lib.hid (fun W => rchip_any k W)
  unfold Ev.val
  go_enter Try.func62, Try.ntmps62
  go_upto_region 1 with fail
  by_cases m0 : 0 ≤ t ∧ t ≤ 1099511627776
  case neg =>
    rw [decide_eq_false m0] at HMY
    have HN := Lib.hid (show ¬ Ev.May ⟨t, c, s, k, a, b⟩ from fun h => m0 ⟨h.2.2.1, h.2.2.2.1⟩)
    clear m0
    refine L.region_ (fun _ => False) (by kernel_rfl) ?_
    refine L.seg_ [0, 1] 46 _ (by kernel_rfl) (by kernel_rfl) (by kernel_rfl) (by simp only [pickOps, mask, plain, List.getElem?_toArray, List.getElem?_cons_zero, List.getElem?_cons_succ, if_true, Bool.false_eq_true, if_false]; rfl) ?_
    repeat (go_big_quiet_step (fail))
    refine wpQuiet_nil ?_
    refine L.calm_ (i := 2) (.bool false) rfl (by kernel_rfl) (by kernel_rfl) (by kernel_rfl) (by kernel_rfl) ?_ ?_
    · intro wz _
      unfold Oper.does
      go_simp
      exact (HMY.out wz).mono fun e w' ⟨he, hw⟩ => ⟨_, he, rfl, hw ▸ Save.refl _ _⟩
    go_simp
    refine L.seg_ [3, 4, 5, 6, 7, 8, 9, 10, 11, 12, 13, 14, 15, 16, 17, 18, 19, 20, 21, 22, 23, 24, 25, 26, 27, 28, 29, 30, 31, 32, 33, 34, 35, 36, 37, 38, 39, 40, 41, 42, 43, 44, 45, 46, 47] 0 _ (by kernel_rfl) (by kernel_rfl) (by kernel_rfl) (by simp only [pickOps, mask, plain, List.getElem?_toArray, List.getElem?_cons_zero, List.getElem?_cons_succ, if_true, Bool.false_eq_true, if_false]; rfl) ?_
    repeat (go_big_quiet_step (fail))
    refine wpQuiet_nil ?_
    refine L.end_ (by kernel_rfl) ?_
    intro wf sf
    have hbf := HB0.out.trans (sf.all.mono (by simp))
    clear sf
    go_wp2_with fail
    go_ret
    exact ⟨.inr ⟨rfl, HN.out⟩, hbf⟩
  rw [decide_eq_true m0] at HMY
  by_cases m1 : chipOf k = 0
  case pos =>
    have HN := Lib.hid (show ¬ Ev.May ⟨t, c, s, k, a, b⟩ from fun h => by simp only [Ev.May] at h; omega)
    have f1 : (chipOf k == 0) = true := by simp [m1]
    clear m0 m1
    refine L.region_ (fun _ => False) (by kernel_rfl) ?_
    refine L.seg_ [0, 1] 46 _ (by kernel_rfl) (by kernel_rfl) (by kernel_rfl) (by simp only [pickOps, mask, plain, List.getElem?_toArray, List.getElem?_cons_zero, List.getElem?_cons_succ, if_true, Bool.false_eq_true, if_false]; rfl) ?_
    repeat (go_big_quiet_step (fail))
    refine wpQuiet_nil ?_
    refine L.calm_ (i := 2) (.bool true) rfl (by kernel_rfl) (by kernel_rfl) (by kernel_rfl) (by kernel_rfl) ?_ ?_
    · intro wz _
      unfold Oper.does
      go_simp
      exact (HMY.out wz).mono fun e w' ⟨he, hw⟩ => ⟨_, he, rfl, hw ▸ Save.refl _ _⟩
    go_simp
    refine L.seg_ [3, 4, 5, 6] 41 _ (by kernel_rfl) (by kernel_rfl) (by kernel_rfl) (by simp only [pickOps, mask, plain, List.getElem?_toArray, List.getElem?_cons_zero, List.getElem?_cons_succ, if_true, Bool.false_eq_true, if_false]; rfl) ?_
    repeat (go_big_quiet_step (fail))
    refine wpQuiet_nil ?_
    refine L.calm_ (i := 7) (.int .i64 (chipOf k)) rfl (by kernel_rfl) (by kernel_rfl) (by kernel_rfl) (by kernel_rfl) ?_ ?_
    · intro wz _
      unfold Oper.does
      go_simp
      exact (HCP.out wz).mono fun e w' ⟨he, hw⟩ => ⟨_, he, rfl, hw ▸ Save.refl _ _⟩
    go_simp
    refine L.seg_ [8, 9, 10, 11, 12, 13, 14, 15, 16, 17, 18, 19, 20, 21, 22, 23, 24, 25, 26, 27, 28, 29, 30, 31, 32, 33, 34, 35, 36, 37, 38, 39, 40, 41, 42, 43, 44, 45, 46, 47] 0 _ (by kernel_rfl) (by kernel_rfl) (by kernel_rfl) (by simp only [pickOps, mask, plain, List.getElem?_toArray, List.getElem?_cons_zero, List.getElem?_cons_succ, if_true, Bool.false_eq_true, if_false]; rfl) ?_
    repeat (go_big_quiet_step (fail))
    refine wpQuiet_nil ?_
    refine L.end_ (by kernel_rfl) ?_
    intro wf sf
    have hbf := HB0.out.trans (sf.all.mono (by simp))
    clear sf
    go_wp2_with fail
    go_ret
    exact ⟨.inr ⟨rfl, HN.out⟩, hbf⟩
  have f1 : (chipOf k == 0) = false := by simp [m1]
  by_cases m2 : c ≠ chipOf k
  case pos =>
    have HN := Lib.hid (show ¬ Ev.May ⟨t, c, s, k, a, b⟩ from fun h => by simp only [Ev.May] at h; omega)
    have f2 : (c != chipOf k) = true := by simpa using m2
    clear m0 m1 m2
    refine L.region_ (fun _ => False) (by kernel_rfl) ?_
    refine L.seg_ [0, 1] 46 _ (by kernel_rfl) (by kernel_rfl) (by kernel_rfl) (by simp only [pickOps, mask, plain, List.getElem?_toArray, List.getElem?_cons_zero, List.getElem?_cons_succ, if_true, Bool.false_eq_true, if_false]; rfl) ?_
    repeat (go_big_quiet_step (fail))
    refine wpQuiet_nil ?_
    refine L.calm_ (i := 2) (.bool true) rfl (by kernel_rfl) (by kernel_rfl) (by kernel_rfl) (by kernel_rfl) ?_ ?_
    · intro wz _
      unfold Oper.does
      go_simp
      exact (HMY.out wz).mono fun e w' ⟨he, hw⟩ => ⟨_, he, rfl, hw ▸ Save.refl _ _⟩
    go_simp
    refine L.seg_ [3, 4, 5, 6] 41 _ (by kernel_rfl) (by kernel_rfl) (by kernel_rfl) (by simp only [pickOps, mask, plain, List.getElem?_toArray, List.getElem?_cons_zero, List.getElem?_cons_succ, if_true, Bool.false_eq_true, if_false]; rfl) ?_
    repeat (go_big_quiet_step (fail))
    refine wpQuiet_nil ?_
    refine L.calm_ (i := 7) (.int .i64 (chipOf k)) rfl (by kernel_rfl) (by kernel_rfl) (by kernel_rfl) (by kernel_rfl) ?_ ?_
    · intro wz _
      unfold Oper.does
      go_simp
      exact (HCP.out wz).mono fun e w' ⟨he, hw⟩ => ⟨_, he, rfl, hw ▸ Save.refl _ _⟩
    go_simp
    refine L.seg_ [8, 9, 10, 11, 12, 13, 14] 33 _ (by kernel_rfl) (by kernel_rfl) (by kernel_rfl) (by simp only [pickOps, mask, plain, List.getElem?_toArray, List.getElem?_cons_zero, List.getElem?_cons_succ, if_true, Bool.false_eq_true, if_false]; rfl) ?_
    repeat (go_big_quiet_step (fail))
    refine wpQuiet_nil ?_
    refine L.calm_ (i := 15) (.int .i64 (chipOf k)) rfl (by kernel_rfl) (by kernel_rfl) (by kernel_rfl) (by kernel_rfl) ?_ ?_
    · intro wz _
      unfold Oper.does
      go_simp
      exact (HCP.out wz).mono fun e w' ⟨he, hw⟩ => ⟨_, he, rfl, hw ▸ Save.refl _ _⟩
    go_simp
    refine L.seg_ [16, 17, 18, 19, 20, 21, 22, 23, 24, 25, 26, 27, 28, 29, 30, 31, 32, 33, 34, 35, 36, 37, 38, 39, 40, 41, 42, 43, 44, 45, 46, 47] 0 _ (by kernel_rfl) (by kernel_rfl) (by kernel_rfl) (by simp only [pickOps, mask, plain, List.getElem?_toArray, List.getElem?_cons_zero, List.getElem?_cons_succ, if_true, Bool.false_eq_true, if_false]; rfl) ?_
    repeat (go_big_quiet_step (fail))
    refine wpQuiet_nil ?_
    refine L.end_ (by kernel_rfl) ?_
    intro wf sf
    have hbf := HB0.out.trans (sf.all.mono (by simp))
    clear sf
    go_wp2_with fail
    go_ret
    exact ⟨.inr ⟨rfl, HN.out⟩, hbf⟩
  have f2 : (c != chipOf k) = false := by simpa using m2
  by_cases m3 : s < 0
  case pos =>
    have HN := Lib.hid (show ¬ Ev.May ⟨t, c, s, k, a, b⟩ from fun h => by simp only [Ev.May] at h; omega)
    have f3 : decide (s < 0) = true := decide_eq_true m3
    clear m0 m1 m2 m3
    refine L.region_ (fun _ => False) (by kernel_rfl) ?_
    refine L.seg_ [0, 1] 46 _ (by kernel_rfl) (by kernel_rfl) (by kernel_rfl) (by simp only [pickOps, mask, plain, List.getElem?_toArray, List.getElem?_cons_zero, List.getElem?_cons_succ, if_true, Bool.false_eq_true, if_false]; rfl) ?_
    repeat (go_big_quiet_step (fail))
    refine wpQuiet_nil ?_
    refine L.calm_ (i := 2) (.bool true) rfl (by kernel_rfl) (by kernel_rfl) (by kernel_rfl) (by kernel_rfl) ?_ ?_
    · intro wz _
      unfold Oper.does
      go_simp
      exact (HMY.out wz).mono fun e w' ⟨he, hw⟩ => ⟨_, he, rfl, hw ▸ Save.refl _ _⟩
    go_simp
    refine L.seg_ [3, 4, 5, 6] 41 _ (by kernel_rfl) (by kernel_rfl) (by kernel_rfl) (by simp only [pickOps, mask, plain, List.getElem?_toArray, List.getElem?_cons_zero, List.getElem?_cons_succ, if_true, Bool.false_eq_true, if_false]; rfl) ?_
    repeat (go_big_quiet_step (fail))
    refine wpQuiet_nil ?_
    refine L.calm_ (i := 7) (.int .i64 (chipOf k)) rfl (by kernel_rfl) (by kernel_rfl) (by kernel_rfl) (by kernel_rfl) ?_ ?_
    · intro wz _
      unfold Oper.does
      go_simp
      exact (HCP.out wz).mono fun e w' ⟨he, hw⟩ => ⟨_, he, rfl, hw ▸ Save.refl _ _⟩
    go_simp
    refine L.seg_ [8, 9, 10, 11, 12, 13, 14] 33 _ (by kernel_rfl) (by kernel_rfl) (by kernel_rfl) (by simp only [pickOps, mask, plain, List.getElem?_toArray, List.getElem?_cons_zero, List.getElem?_cons_succ, if_true, Bool.false_eq_true, if_false]; rfl) ?_
    repeat (go_big_quiet_step (fail))
    refine wpQuiet_nil ?_
    refine L.calm_ (i := 15) (.int .i64 (chipOf k)) rfl (by kernel_rfl) (by kernel_rfl) (by kernel_rfl) (by kernel_rfl) ?_ ?_
    · intro wz _
      unfold Oper.does
      go_simp
      exact (HCP.out wz).mono fun e w' ⟨he, hw⟩ => ⟨_, he, rfl, hw ▸ Save.refl _ _⟩
    go_simp
    refine L.seg_ [16, 17, 18, 19, 20, 21, 22, 23, 24, 25, 26, 27, 28, 29, 30, 31, 32, 33, 34, 35, 36, 37, 38, 39, 40, 41, 42, 43, 44, 45, 46, 47] 0 _ (by kernel_rfl) (by kernel_rfl) (by kernel_rfl) (by simp only [pickOps, mask, plain, List.getElem?_toArray, List.getElem?_cons_zero, List.getElem?_cons_succ, if_true, Bool.false_eq_true, if_false]; rfl) ?_
    repeat (go_big_quiet_step (fail))
    refine wpQuiet_nil ?_
    refine L.end_ (by kernel_rfl) ?_
    intro wf sf
    have hbf := HB0.out.trans (sf.all.mono (by simp))
    clear sf
    go_wp2_with fail
    go_ret
    exact ⟨.inr ⟨rfl, HN.out⟩, hbf⟩
  have f3 : decide (s < 0) = false := decide_eq_false m3
  by_cases m4 : 4294967296 < s
  case pos =>
    have HN := Lib.hid (show ¬ Ev.May ⟨t, c, s, k, a, b⟩ from fun h => by simp only [Ev.May] at h; omega)
    have f4 : decide (4294967296 < s) = true := decide_eq_true m4
    clear m0 m1 m2 m3 m4
    refine L.region_ (fun _ => False) (by kernel_rfl) ?_
    refine L.seg_ [0, 1] 46 _ (by kernel_rfl) (by kernel_rfl) (by kernel_rfl) (by simp only [pickOps, mask, plain, List.getElem?_toArray, List.getElem?_cons_zero, List.getElem?_cons_succ, if_true, Bool.false_eq_true, if_false]; rfl) ?_
    repeat (go_big_quiet_step (fail))
    refine wpQuiet_nil ?_
    refine L.calm_ (i := 2) (.bool true) rfl (by kernel_rfl) (by kernel_rfl) (by kernel_rfl) (by kernel_rfl) ?_ ?_
    · intro wz _
      unfold Oper.does
      go_simp
      exact (HMY.out wz).mono fun e w' ⟨he, hw⟩ => ⟨_, he, rfl, hw ▸ Save.refl _ _⟩
    go_simp
    refine L.seg_ [3, 4, 5, 6] 41 _ (by kernel_rfl) (by kernel_rfl) (by kernel_rfl) (by simp only [pickOps, mask, plain, List.getElem?_toArray, List.getElem?_cons_zero, List.getElem?_cons_succ, if_true, Bool.false_eq_true, if_false]; rfl) ?_
    repeat (go_big_quiet_step (fail))
    refine wpQuiet_nil ?_
    refine L.calm_ (i := 7) (.int .i64 (chipOf k)) rfl (by kernel_rfl) (by kernel_rfl) (by kernel_rfl) (by kernel_rfl) ?_ ?_
    · intro wz _
      unfold Oper.does
      go_simp
      exact (HCP.out wz).mono fun e w' ⟨he, hw⟩ => ⟨_, he, rfl, hw ▸ Save.refl _ _⟩
    go_simp
    refine L.seg_ [8, 9, 10, 11, 12, 13, 14] 33 _ (by kernel_rfl) (by kernel_rfl) (by kernel_rfl) (by simp only [pickOps, mask, plain, List.getElem?_toArray, List.getElem?_cons_zero, List.getElem?_cons_succ, if_true, Bool.false_eq_true, if_false]; rfl) ?_
    repeat (go_big_quiet_step (fail))
    refine wpQuiet_nil ?_
    refine L.calm_ (i := 15) (.int .i64 (chipOf k)) rfl (by kernel_rfl) (by kernel_rfl) (by kernel_rfl) (by kernel_rfl) ?_ ?_
    · intro wz _
      unfold Oper.does
      go_simp
      exact (HCP.out wz).mono fun e w' ⟨he, hw⟩ => ⟨_, he, rfl, hw ▸ Save.refl _ _⟩
    go_simp
    refine L.seg_ [16, 17, 18, 19, 20, 21, 22, 23, 24, 25, 26, 27, 28, 29, 30, 31, 32, 33, 34, 35, 36, 37, 38, 39, 40, 41, 42, 43, 44, 45, 46, 47] 0 _ (by kernel_rfl) (by kernel_rfl) (by kernel_rfl) (by simp only [pickOps, mask, plain, List.getElem?_toArray, List.getElem?_cons_zero, List.getElem?_cons_succ, if_true, Bool.false_eq_true, if_false]; rfl) ?_
    repeat (go_big_quiet_step (fail))
    refine wpQuiet_nil ?_
    refine L.end_ (by kernel_rfl) ?_
    intro wf sf
    have hbf := HB0.out.trans (sf.all.mono (by simp))
    clear sf
    go_wp2_with fail
    go_ret
    exact ⟨.inr ⟨rfl, HN.out⟩, hbf⟩
  have f4 : decide (4294967296 < s) = false := decide_eq_false m4
  by_cases m5 : a < 0
  case pos =>
    have HN := Lib.hid (show ¬ Ev.May ⟨t, c, s, k, a, b⟩ from fun h => by simp only [Ev.May] at h; omega)
    have f5 : decide (a < 0) = true := decide_eq_true m5
    clear m0 m1 m2 m3 m4 m5
    refine L.region_ (fun _ => False) (by kernel_rfl) ?_
    refine L.seg_ [0, 1] 46 _ (by kernel_rfl) (by kernel_rfl) (by kernel_rfl) (by simp only [pickOps, mask, plain, List.getElem?_toArray, List.getElem?_cons_zero, List.getElem?_cons_succ, if_true, Bool.false_eq_true, if_false]; rfl) ?_
    repeat (go_big_quiet_step (fail))
    refine wpQuiet_nil ?_
    refine L.calm_ (i := 2) (.bool true) rfl (by kernel_rfl) (by kernel_rfl) (by kernel_rfl) (by kernel_rfl) ?_ ?_
    · intro wz _
      unfold Oper.does
      go_simp
      exact (HMY.out wz).mono fun e w' ⟨he, hw⟩ => ⟨_, he, rfl, hw ▸ Save.refl _ _⟩
    go_simp
    refine L.seg_ [3, 4, 5, 6] 41 _ (by kernel_rfl) (by kernel_rfl) (by kernel_rfl) (by simp only [pickOps, mask, plain, List.getElem?_toArray, List.getElem?_cons_zero, List.getElem?_cons_succ, if_true, Bool.false_eq_true, if_false]; rfl) ?_
    repeat (go_big_quiet_step (fail))
    refine wpQuiet_nil ?_
    refine L.calm_ (i := 7) (.int .i64 (chipOf k)) rfl (by kernel_rfl) (by kernel_rfl) (by kernel_rfl) (by kernel_rfl) ?_ ?_
    · intro wz _
      unfold Oper.does
      go_simp
      exact (HCP.out wz).mono fun e w' ⟨he, hw⟩ => ⟨_, he, rfl, hw ▸ Save.refl _ _⟩
    go_simp
    refine L.seg_ [8, 9, 10, 11, 12, 13, 14] 33 _ (by kernel_rfl) (by kernel_rfl) (by kernel_rfl) (by simp only [pickOps, mask, plain, List.getElem?_toArray, List.getElem?_cons_zero, List.getElem?_cons_succ, if_true, Bool.false_eq_true, if_false]; rfl) ?_
    repeat (go_big_quiet_step (fail))
    refine wpQuiet_nil ?_
    refine L.calm_ (i := 15) (.int .i64 (chipOf k)) rfl (by kernel_rfl) (by kernel_rfl) (by kernel_rfl) (by kernel_rfl) ?_ ?_
    · intro wz _
      unfold Oper.does
      go_simp
      exact (HCP.out wz).mono fun e w' ⟨he, hw⟩ => ⟨_, he, rfl, hw ▸ Save.refl _ _⟩
    go_simp
    refine L.seg_ [16, 17, 18, 19, 20, 21, 22, 23, 24, 25, 26, 27, 28, 29, 30, 31, 32, 33, 34, 35, 36, 37, 38, 39, 40, 41, 42, 43, 44, 45, 46, 47] 0 _ (by kernel_rfl) (by kernel_rfl) (by kernel_rfl) (by simp only [pickOps, mask, plain, List.getElem?_toArray, List.getElem?_cons_zero, List.getElem?_cons_succ, if_true, Bool.false_eq_true, if_false]; rfl) ?_
    repeat (go_big_quiet_step (fail))
    refine wpQuiet_nil ?_
    refine L.end_ (by kernel_rfl) ?_
    intro wf sf
    have hbf := HB0.out.trans (sf.all.mono (by simp))
    clear sf
    go_wp2_with fail
    go_ret
    exact ⟨.inr ⟨rfl, HN.out⟩, hbf⟩
  have f5 : decide (a < 0) = false := decide_eq_false m5
  by_cases m6 : 1048576 < a
  case pos =>
    have HN := Lib.hid (show ¬ Ev.May ⟨t, c, s, k, a, b⟩ from fun h => by simp only [Ev.May] at h; omega)
    have f6 : decide (1048576 < a) = true := decide_eq_true m6
    clear m0 m1 m2 m3 m4 m5 m6
    refine L.region_ (fun _ => False) (by kernel_rfl) ?_
    refine L.seg_ [0, 1] 46 _ (by kernel_rfl) (by kernel_rfl) (by kernel_rfl) (by simp only [pickOps, mask, plain, List.getElem?_toArray, List.getElem?_cons_zero, List.getElem?_cons_succ, if_true, Bool.false_eq_true, if_false]; rfl) ?_
    repeat (go_big_quiet_step (fail))
    refine wpQuiet_nil ?_
    refine L.calm_ (i := 2) (.bool true) rfl (by kernel_rfl) (by kernel_rfl) (by kernel_rfl) (by kernel_rfl) ?_ ?_
    · intro wz _
      unfold Oper.does
      go_simp
      exact (HMY.out wz).mono fun e w' ⟨he, hw⟩ => ⟨_, he, rfl, hw ▸ Save.refl _ _⟩
    go_simp
    refine L.seg_ [3, 4, 5, 6] 41 _ (by kernel_rfl) (by kernel_rfl) (by kernel_rfl) (by simp only [pickOps, mask, plain, List.getElem?_toArray, List.getElem?_cons_zero, List.getElem?_cons_succ, if_true, Bool.false_eq_true, if_false]; rfl) ?_
    repeat (go_big_quiet_step (fail))
    refine wpQuiet_nil ?_
    refine L.calm_ (i := 7) (.int .i64 (chipOf k)) rfl (by kernel_rfl) (by kernel_rfl) (by kernel_rfl) (by kernel_rfl) ?_ ?_
    · intro wz _
      unfold Oper.does
      go_simp
      exact (HCP.out wz).mono fun e w' ⟨he, hw⟩ => ⟨_, he, rfl, hw ▸ Save.refl _ _⟩
    go_simp
    refine L.seg_ [8, 9, 10, 11, 12, 13, 14] 33 _ (by kernel_rfl) (by kernel_rfl) (by kernel_rfl) (by simp only [pickOps, mask, plain, List.getElem?_toArray, List.getElem?_cons_zero, List.getElem?_cons_succ, if_true, Bool.false_eq_true, if_false]; rfl) ?_
    repeat (go_big_quiet_step (fail))
    refine wpQuiet_nil ?_
    refine L.calm_ (i := 15) (.int .i64 (chipOf k)) rfl (by kernel_rfl) (by kernel_rfl) (by kernel_rfl) (by kernel_rfl) ?_ ?_
    · intro wz _
      unfold Oper.does
      go_simp
      exact (HCP.out wz).mono fun e w' ⟨he, hw⟩ => ⟨_, he, rfl, hw ▸ Save.refl _ _⟩
    go_simp
    refine L.seg_ [16, 17, 18, 19, 20, 21, 22, 23, 24, 25, 26, 27, 28, 29, 30, 31, 32, 33, 34, 35, 36, 37, 38, 39, 40, 41, 42, 43, 44, 45, 46, 47] 0 _ (by kernel_rfl) (by kernel_rfl) (by kernel_rfl) (by simp only [pickOps, mask, plain, List.getElem?_toArray, List.getElem?_cons_zero, List.getElem?_cons_succ, if_true, Bool.false_eq_true, if_false]; rfl) ?_
    repeat (go_big_quiet_step (fail))
    refine wpQuiet_nil ?_
    refine L.end_ (by kernel_rfl) ?_
    intro wf sf
    have hbf := HB0.out.trans (sf.all.mono (by simp))
    clear sf
    go_wp2_with fail
    go_ret
    exact ⟨.inr ⟨rfl, HN.out⟩, hbf⟩
  have f6 : decide (1048576 < a) = false := decide_eq_false m6
  by_cases m7 : b < 0
  case pos =>
    have HN := Lib.hid (show ¬ Ev.May ⟨t, c, s, k, a, b⟩ from fun h => by simp only [Ev.May] at h; omega)
    have f7 : decide (b < 0) = true := decide_eq_true m7
    clear m0 m1 m2 m3 m4 m5 m6 m7
    refine L.region_ (fun _ => False) (by kernel_rfl) ?_
    refine L.seg_ [0, 1] 46 _ (by kernel_rfl) (by kernel_rfl) (by kernel_rfl) (by simp only [pickOps, mask, plain, List.getElem?_toArray, List.getElem?_cons_zero, List.getElem?_cons_succ, if_true, Bool.false_eq_true, if_false]; rfl) ?_
    repeat (go_big_quiet_step (fail))
    refine wpQuiet_nil ?_
    refine L.calm_ (i := 2) (.bool true) rfl (by kernel_rfl) (by kernel_rfl) (by kernel_rfl) (by kernel_rfl) ?_ ?_
    · intro wz _
      unfold Oper.does
      go_simp
      exact (HMY.out wz).mono fun e w' ⟨he, hw⟩ => ⟨_, he, rfl, hw ▸ Save.refl _ _⟩
    go_simp
    refine L.seg_ [3, 4, 5, 6] 41 _ (by kernel_rfl) (by kernel_rfl) (by kernel_rfl) (by simp only [pickOps, mask, plain, List.getElem?_toArray, List.getElem?_cons_zero, List.getElem?_cons_succ, if_true, Bool.false_eq_true, if_false]; rfl) ?_
    repeat (go_big_quiet_step (fail))
    refine wpQuiet_nil ?_
    refine L.calm_ (i := 7) (.int .i64 (chipOf k)) rfl (by kernel_rfl) (by kernel_rfl) (by kernel_rfl) (by kernel_rfl) ?_ ?_
    · intro wz _
      unfold Oper.does
      go_simp
      exact (HCP.out wz).mono fun e w' ⟨he, hw⟩ => ⟨_, he, rfl, hw ▸ Save.refl _ _⟩
    go_simp
    refine L.seg_ [8, 9, 10, 11, 12, 13, 14] 33 _ (by kernel_rfl) (by kernel_rfl) (by kernel_rfl) (by simp only [pickOps, mask, plain, List.getElem?_toArray, List.getElem?_cons_zero, List.getElem?_cons_succ, if_true, Bool.false_eq_true, if_false]; rfl) ?_
    repeat (go_big_quiet_step (fail))
    refine wpQuiet_nil ?_
    refine L.calm_ (i := 15) (.int .i64 (chipOf k)) rfl (by kernel_rfl) (by kernel_rfl) (by kernel_rfl) (by kernel_rfl) ?_ ?_
    · intro wz _
      unfold Oper.does
      go_simp
      exact (HCP.out wz).mono fun e w' ⟨he, hw⟩ => ⟨_, he, rfl, hw ▸ Save.refl _ _⟩
    go_simp
    refine L.seg_ [16, 17, 18, 19, 20, 21, 22, 23, 24, 25, 26, 27, 28, 29, 30, 31, 32, 33, 34, 35, 36, 37, 38, 39, 40, 41, 42, 43, 44, 45, 46, 47] 0 _ (by kernel_rfl) (by kernel_rfl) (by kernel_rfl) (by simp only [pickOps, mask, plain, List.getElem?_toArray, List.getElem?_cons_zero, List.getElem?_cons_succ, if_true, Bool.false_eq_true, if_false]; rfl) ?_
    repeat (go_big_quiet_step (fail))
    refine wpQuiet_nil ?_
    refine L.end_ (by kernel_rfl) ?_
    intro wf sf
    have hbf := HB0.out.trans (sf.all.mono (by simp))
    clear sf
    go_wp2_with fail
    go_ret
    exact ⟨.inr ⟨rfl, HN.out⟩, hbf⟩
  have f7 : decide (b < 0) = false := decide_eq_false m7
  by_cases m8 : 255 < b
  case pos =>
    have HN := Lib.hid (show ¬ Ev.May ⟨t, c, s, k, a, b⟩ from fun h => by simp only [Ev.May] at h; omega)
    have f8 : decide (255 < b) = true := decide_eq_true m8
    clear m0 m1 m2 m3 m4 m5 m6 m7 m8
    refine L.region_ (fun _ => False) (by kernel_rfl) ?_
    refine L.seg_ [0, 1] 46 _ (by kernel_rfl) (by kernel_rfl) (by kernel_rfl) (by simp only [pickOps, mask, plain, List.getElem?_toArray, List.getElem?_cons_zero, List.getElem?_cons_succ, if_true, Bool.false_eq_true, if_false]; rfl) ?_
    repeat (go_big_quiet_step (fail))
    refine wpQuiet_nil ?_
    refine L.calm_ (i := 2) (.bool true) rfl (by kernel_rfl) (by kernel_rfl) (by kernel_rfl) (by kernel_rfl) ?_ ?_
    · intro wz _
      unfold Oper.does
      go_simp
      exact (HMY.out wz).mono fun e w' ⟨he, hw⟩ => ⟨_, he, rfl, hw ▸ Save.refl _ _⟩
    go_simp
    refine L.seg_ [3, 4, 5, 6] 41 _ (by kernel_rfl) (by kernel_rfl) (by kernel_rfl) (by simp only [pickOps, mask, plain, List.getElem?_toArray, List.getElem?_cons_zero, List.getElem?_cons_succ, if_true, Bool.false_eq_true, if_false]; rfl) ?_
    repeat (go_big_quiet_step (fail))
    refine wpQuiet_nil ?_
    refine L.calm_ (i := 7) (.int .i64 (chipOf k)) rfl (by kernel_rfl) (by kernel_rfl) (by kernel_rfl) (by kernel_rfl) ?_ ?_
    · intro wz _
      unfold Oper.does
      go_simp
      exact (HCP.out wz).mono fun e w' ⟨he, hw⟩ => ⟨_, he, rfl, hw ▸ Save.refl _ _⟩
    go_simp
    refine L.seg_ [8, 9, 10, 11, 12, 13, 14] 33 _ (by kernel_rfl) (by kernel_rfl) (by kernel_rfl) (by simp only [pickOps, mask, plain, List.getElem?_toArray, List.getElem?_cons_zero, List.getElem?_cons_succ, if_true, Bool.false_eq_true, if_false]; rfl) ?_
    repeat (go_big_quiet_step (fail))
    refine wpQuiet_nil ?_
    refine L.calm_ (i := 15) (.int .i64 (chipOf k)) rfl (by kernel_rfl) (by kernel_rfl) (by kernel_rfl) (by kernel_rfl) ?_ ?_
    · intro wz _
      unfold Oper.does
      go_simp
      exact (HCP.out wz).mono fun e w' ⟨he, hw⟩ => ⟨_, he, rfl, hw ▸ Save.refl _ _⟩
    go_simp
    refine L.seg_ [16, 17, 18, 19, 20, 21, 22, 23, 24, 25, 26, 27, 28, 29, 30, 31, 32, 33, 34, 35, 36, 37, 38, 39, 40, 41, 42, 43, 44, 45, 46, 47] 0 _ (by kernel_rfl) (by kernel_rfl) (by kernel_rfl) (by simp only [pickOps, mask, plain, List.getElem?_toArray, List.getElem?_cons_zero, List.getElem?_cons_succ, if_true, Bool.false_eq_true, if_false]; rfl) ?_
    repeat (go_big_quiet_step (fail))
    refine wpQuiet_nil ?_
    refine L.end_ (by kernel_rfl) ?_
    intro wf sf
    have hbf := HB0.out.trans (sf.all.mono (by simp))
    clear sf
    go_wp2_with fail
    go_ret
    exact ⟨.inr ⟨rfl, HN.out⟩, hbf⟩
  have f8 : decide (255 < b) = false := decide_eq_false m8
  have HN := Lib.hid (show Ev.May ⟨t, c, s, k, a, b⟩ by simp only [Ev.May]; omega)
  clear m0 m1 m2 m3 m4 m5 m6 m7 m8
  refine L.region_ (fun _ => False) (by kernel_rfl) ?_
  refine L.seg_ [0, 1] 46 _ (by kernel_rfl) (by kernel_rfl) (by kernel_rfl) (by simp only [pickOps, mask, plain, List.getElem?_toArray, List.getElem?_cons_zero, List.getElem?_cons_succ, if_true, Bool.false_eq_true, if_false]; rfl) ?_
  repeat (go_big_quiet_step (fail))
  refine wpQuiet_nil ?_
  refine L.calm_ (i := 2) (.bool true) rfl (by kernel_rfl) (by kernel_rfl) (by kernel_rfl) (by kernel_rfl) ?_ ?_
  · intro wz _
    unfold Oper.does
    go_simp
    exact (HMY.out wz).mono fun e w' ⟨he, hw⟩ => ⟨_, he, rfl, hw ▸ Save.refl _ _⟩
  go_simp
  refine L.seg_ [3, 4, 5, 6] 41 _ (by kernel_rfl) (by kernel_rfl) (by kernel_rfl) (by simp only [pickOps, mask, plain, List.getElem?_toArray, List.getElem?_cons_zero, List.getElem?_cons_succ, if_true, Bool.false_eq_true, if_false]; rfl) ?_
  repeat (go_big_quiet_step (fail))
  refine wpQuiet_nil ?_
  refine L.calm_ (i := 7) (.int .i64 (chipOf k)) rfl (by kernel_rfl) (by kernel_rfl) (by kernel_rfl) (by kernel_rfl) ?_ ?_
  · intro wz _
    unfold Oper.does
    go_simp
    exact (HCP.out wz).mono fun e w' ⟨he, hw⟩ => ⟨_, he, rfl, hw ▸ Save.refl _ _⟩
  go_simp
  refine L.seg_ [8, 9, 10, 11, 12, 13, 14] 33 _ (by kernel_rfl) (by kernel_rfl) (by kernel_rfl) (by simp only [pickOps, mask, plain, List.getElem?_toArray, List.getElem?_cons_zero, List.getElem?_cons_succ, if_true, Bool.false_eq_true, if_false]; rfl) ?_
  repeat (go_big_quiet_step (fail))
  refine wpQuiet_nil ?_
  refine L.calm_ (i := 15) (.int .i64 (chipOf k)) rfl (by kernel_rfl) (by kernel_rfl) (by kernel_rfl) (by kernel_rfl) ?_ ?_
  · intro wz _
    unfold Oper.does
    go_simp
    exact (HCP.out wz).mono fun e w' ⟨he, hw⟩ => ⟨_, he, rfl, hw ▸ Save.refl _ _⟩
  go_simp
  refine L.seg_ [16, 17, 18, 19, 20, 21, 22, 23, 24, 25, 26, 27, 28, 29, 30, 31, 32, 33, 34, 35, 36, 37, 38, 39, 40, 41, 42, 43, 44, 45, 46, 47] 0 _ (by kernel_rfl) (by kernel_rfl) (by kernel_rfl) (by simp only [pickOps, mask, plain, List.getElem?_toArray, List.getElem?_cons_zero, List.getElem?_cons_succ, if_true, Bool.false_eq_true, if_false]; rfl) ?_
  repeat (go_big_quiet_step (fail))
  refine wpQuiet_nil ?_
  refine L.end_ (by kernel_rfl) ?_
  intro wf sf
  have hbf := HB0.out.trans (sf.all.mono (by simp))
  clear sf
  go_wp2_with fail
  go_ret
  exact ⟨.inl ⟨rfl, HN.out⟩, hbf⟩
end Go.Proofs.Ythnbpdcjooifbaa
