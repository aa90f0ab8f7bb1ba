
/- Screens' times: pulsesBelow, Pulses, Next, Spot. -/
import Derived.Test.YtpkmphalhmmbkaaH
namespace Go.Proofs.Ytpkmphalhmmbkaa
open Go.RowKit

/-- What lies in the stretch of times. -/
def clampT (t : Int) : Int := min (max t 0) 1099511627777
/-- The pulses below a time. -/
def pulsesB (L p t : Int) : Int := clampT t / L * p + min (clampT t % L) p

theorem clampT_bd (t : Int) : 0 ≤ clampT t ∧ clampT t ≤ 1099511627777 := by unfold clampT; omega

set_option maxHeartbeats 1000000 in
set_option maxRecDepth 100000 in
theorem pulsesBelow_any (w : World) (s : Scr) (L t : Int) (hL0 : 8 ≤ L) (hL1 : L ≤ 160000) (hp0 : 1 ≤ s.pulse) (hp1 : s.pulse ≤ 64) : Calls Try.prog 80 #[s.val, .int .i64 L, .int .i64 t] w fun e w' => e = .returned (.int .i64 (pulsesB L s.pulse t)) ∧ Below w.heap.size w w' := by
  unfold Scr.val
  go_enter Try.func80, Try.ntmps80
  go_wp2_with fail
  have hu0 := clampT_bd t
  have hpb : pulsesB L s.pulse t = clampT t / L * s.pulse + min (clampT t % L) s.pulse := rfl
  have HPB := Lib.hid hpb
  clear hpb
  unfold clampT at hu0
  generalize hu : min (max t 0) 1099511627777 = u at *
  have HU := Lib.hid hu
  clear hu
  obtain ⟨hu0, hu1⟩ := hu0
  have hdiv : u.tdiv L = u / L := Int.tdiv_eq_ediv_of_nonneg hu0
  have hmod : u.tmod L = u % L := Int.tmod_eq_emod_of_nonneg hu0
  have hq0 : 0 ≤ u / L := Int.ediv_nonneg hu0 (by omega)
  have hq1 : u / L ≤ 1099511627777 := Int.le_trans (Int.ediv_le_self L hu0) hu1
  have hm0 : 0 ≤ u / L * s.pulse := Int.mul_nonneg hq0 (by omega)
  have hm1 : u / L * s.pulse ≤ 70368744177728 := Int.le_trans (Int.mul_le_mul hq1 hp1 (by omega) (by omega)) (by decide)
  have hr0 : 0 ≤ u % L := Int.emod_nonneg u (by omega)
  have hr1 : u % L < L := Int.emod_lt_of_pos u (by omega)
  generalize hqe : u / L = q at *
  generalize hre : u % L = r at *
  have HQ := Lib.hid hqe
  have HR := Lib.hid hre
  clear hqe hre
  generalize hqp : q * s.pulse = qp at *
  refine region_ (fun _ => False) (by kernel_rfl) ?_
  refine seg_ [0, 1, 2, 3, 4, 5, 6, 7, 8] 3 _ (by kernel_rfl) (by kernel_rfl) (by kernel_rfl) (by simp only [pickOps, mask, plain, List.getElem?_toArray, List.getElem?_cons_zero, List.getElem?_cons_succ, if_true]; rfl) ?_
  repeat (go_big_quiet_step (fail))
  refine wpQuiet_nil ?_
  refine calm_ (i := 9) (.int .i64 (min r s.pulse)) rfl (by kernel_rfl) (by kernel_rfl) (by kernel_rfl) (by kernel_rfl) ?_ ?_
  · intro wz sz
    unfold Oper.does
    go_simp
    exact ⟨_, rfl⟩
  go_simp
  refine seg_ [10, 11] 0 _ (by kernel_rfl) (by kernel_rfl) (by kernel_rfl) (by simp only [pickOps, mask, plain, List.getElem?_toArray, List.getElem?_cons_zero, List.getElem?_cons_succ, if_true]; rfl) ?_
  repeat (go_big_quiet_step (fail))
  refine wpQuiet_nil ?_
  refine end_ (by kernel_rfl) ?_
  intro wE hE
  go_wp2_with fail
  go_ret
  rw [HPB.out]
  unfold clampT
  rw [HU.out, HQ.out, HR.out, hqp]
  exact ⟨rfl, ((Below.refl _ _).alloc (Nat.le_refl _) _).trans (hE.all.mono (by simp))⟩

theorem pulsesB_bd (L p t : Int) (hL0 : 8 ≤ L) (hp0 : 1 ≤ p) (hp1 : p ≤ 64) : 0 ≤ pulsesB L p t ∧ pulsesB L p t ≤ 70368744177792 := by
  have hu := clampT_bd t
  unfold pulsesB
  have hq0 : 0 ≤ clampT t / L := Int.ediv_nonneg hu.1 (by omega)
  have hq1 : clampT t / L ≤ 1099511627777 := Int.le_trans (Int.ediv_le_self L hu.1) hu.2
  have hm0 : 0 ≤ clampT t / L * p := Int.mul_nonneg hq0 (by omega)
  have hm1 : clampT t / L * p ≤ 70368744177728 := Int.le_trans (Int.mul_le_mul hq1 hp1 (by omega) (by omega)) (by decide)
  have hr0 : 0 ≤ clampT t % L := Int.emod_nonneg _ (by omega)
  omega

theorem Scr.pulse_may {s : Scr} (h : s.May) : 1 ≤ s.pulse ∧ s.pulse ≤ 64 := h 7 (by omega)

/-- A screen that was just laid, in every world behind. -/
theorem SB.laid {w w' : World} (s : Scr) (h : Below (w.heap.size + 1) (w.alloc (.cells #[.int .i64 s.lines, .int .i64 s.columns, .int .i64 s.top, .int .i64 s.rows, .int .i64 s.left, .int .i64 s.wide, .int .i64 s.pulse] 23)) w') : SB w' w.heap.size s := by
  constructor <;> (rw [h.cell (by simp), World.cell?_alloc_at _ _ _ _ rfl]; rfl)

set_option maxHeartbeats 2000000 in
set_option maxRecDepth 100000 in
theorem pulses_any (w : World) (s : Scr) (x y : Int) : Calls Try.prog 28 #[s.val, .int .i64 x, .int .i64 y] w fun e w' => ((s.May ∧ x < y → e = .returned (.int .i64 (pulsesB s.len s.pulse y - pulsesB s.len s.pulse x))) ∧ (¬ (s.May ∧ x < y) → e = .returned (.int .i64 0))) ∧ Below w.heap.size w w' := by
  have hval : s.val = .agg #[.int .i64 s.lines, .int .i64 s.columns, .int .i64 s.top, .int .i64 s.rows, .int .i64 s.left, .int .i64 s.wide, .int .i64 s.pulse] := rfl
  rw [hval]
  have HV := Lib.hid hval
  clear hval
  go_enter Try.func28, Try.ntmps28
  go_wp2_with fail
  rw [← HV.out]
  refine (length_any _ s).mono ?_
  rintro e w2 ⟨rfl, hb⟩
  have hB : Below w.heap.size w w2 := ((Below.refl _ _).alloc (Nat.le_refl _) _).trans (hb.mono (by simp))
  have hS : SB w2 w.heap.size s := SB.laid s (hb.mono (by simp))
  have hlt : w.heap.size < w2.heap.size := by have := hb.size; simp at this; omega
  clear hb
  by_cases hm : s.May
  · by_cases hxy : x < y
    · obtain ⟨hl, hl0, hl1⟩ := Scr.len_may hm
      have hpm := Scr.pulse_may hm
      generalize hLe : s.len = L at *
      have HLE := Lib.hid hLe
      clear hl hLe
      have hne : ¬ L = 0 := by omega
      have hneb : (L == 0) = false := by simpa using hne
      go_upto_region 4 with fail
      have hs : ∀ p : Later (fun _ => False) w2, SB p.w w.heap.size s := fun p => hS.below p.ok.all hlt
      have c0 := fun p => (hs p).c0
      have c1 := fun p => (hs p).c1
      have c2 := fun p => (hs p).c2
      have c3 := fun p => (hs p).c3
      have c4 := fun p => (hs p).c4
      have c5 := fun p => (hs p).c5
      have c6 := fun p => (hs p).c6
      clear hs
      refine region_ (fun _ => False) (by kernel_rfl) ?_
      refine seg_ [0, 1, 2, 4, 5, 6] 4 _ (by kernel_rfl) (by kernel_rfl) (by kernel_rfl) (by simp only [pickOps, mask, plain, List.getElem?_toArray, List.getElem?_cons_zero, List.getElem?_cons_succ, if_true]; rfl) ?_
      repeat (go_big_quiet_step (fail))
      refine wpQuiet_nil ?_
      clear c0 c1 c2 c3 c4 c5 c6
      have hby := pulsesB_bd L s.pulse y hl0 hpm.1 hpm.2
      have hbx := pulsesB_bd L s.pulse x hl0 hpm.1 hpm.2
      rw [← HV.out]
      refine call_ (i := 3) rfl (by kernel_rfl) (by kernel_rfl) ?_
      intro wx hx
      have hBx := hB.trans (hx.all.mono hB.size)
      unfold Oper.does
      go_simp
      refine (pulsesBelow_any wx s L y hl0 hl1 hpm.1 hpm.2).mono ?_
      rintro e w9 ⟨rfl, hb9⟩
      refine ⟨_, rfl, same_ hx (Save.of_below hb9) ?_⟩
      have hB9 := hBx.trans (hb9.mono hBx.size)
      refine call_ (i := 7) rfl (by kernel_rfl) (by kernel_rfl) ?_
      intro wy hy
      have hBy := hB9.trans (hy.all.mono hB9.size)
      unfold Oper.does
      go_simp
      refine (pulsesBelow_any wy s L x hl0 hl1 hpm.1 hpm.2).mono ?_
      rintro e w10 ⟨rfl, hb10⟩
      refine ⟨_, rfl, same_ hy (Save.of_below hb10) ?_⟩
      have hB10 := hBy.trans (hb10.mono hBy.size)
      generalize hey : pulsesB L s.pulse y = py at *
      generalize hex : pulsesB L s.pulse x = px at *
      have HY := Lib.hid hey
      have HX := Lib.hid hex
      clear hey hex
      refine seg_ [8, 9] 0 _ (by kernel_rfl) (by kernel_rfl) (by kernel_rfl) (by simp only [pickOps, mask, plain, List.getElem?_toArray, List.getElem?_cons_zero, List.getElem?_cons_succ, if_true]; rfl) ?_
      repeat (go_big_quiet_step (fail))
      refine wpQuiet_nil ?_
      refine end_ (by kernel_rfl) ?_
      intro wE hE
      go_wp2_with fail
      go_ret
      rw [HLE.out, HY.out, HX.out]
      exact ⟨⟨fun _ => rfl, fun h => absurd ⟨hm, hxy⟩ h⟩, hB10.trans (hE.all.mono hB10.size)⟩
    · go_wp2_with fail
      all_goals go_ret
      all_goals exact ⟨⟨fun h => absurd h.2 (by omega), fun _ => rfl⟩, hB⟩
  · rw [Scr.len_not hm]
    go_wp2_with fail
    go_ret
    exact ⟨⟨fun h => absurd h.1 hm, fun _ => rfl⟩, hB⟩
end Go.Proofs.Ytpkmphalhmmbkaa
