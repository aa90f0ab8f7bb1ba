
/- The reference's Time. -/
import Derived.Test.YtpkmphalhmmbkaaH6
import Derived.Test.YtpkmphalhmmbkaaI
namespace Go.Proofs.Ytpkmphalhmmbkaa
open Go.RowKit
set_option linter.unusedSimpArgs false
set_option linter.unusedVariables false
set_option maxRecDepth 100000

theorem timeOk_bd {s : Scr} {f l c : Int} (h : timeOk s f l c) : 0 ≤ f ∧ f ≤ 1099511627776 ∧ 0 ≤ l ∧ l < s.lines ∧ 0 ≤ c ∧ c < s.columns := by
  obtain ⟨hm, ⟨f0, l0, l1, k0, k1⟩, ht⟩ := h
  obtain ⟨hl, hL0, hL1⟩ := Scr.len_may hm
  have hC := hm 1 (by omega)
  simp only [Scr.asks] at hC
  have b0 : 0 ≤ l * s.columns := Int.mul_nonneg l0 (by omega)
  have b1 : f * 1 ≤ f * s.len := Int.mul_le_mul (Int.le_refl f) (by omega) (by omega) f0
  omega

set_option maxHeartbeats 4000000 in
theorem rtime_any (w : World) (s : Scr) (f l c : Int) : Calls Try.prog 14 #[s.val, spotV f l c] w fun e w' => ((timeOk s f l c → e = .returned (.tuple #[.int .i64 (f * s.len + l * s.columns + c), .int .i64 0])) ∧ (¬ timeOk s f l c → e = .returned (.tuple #[.int .i64 0, .int .i64 2]))) ∧ Below w.heap.size w w' := by
  have hvs : spotV f l c = .agg #[.int .i64 f, .int .i64 l, .int .i64 c] := rfl
  rw [hvs]
  clear hvs
  unfold Scr.val
  go_enter Try.func14, Try.ntmps14
  go_wp2_with fail
  by_cases hm : s.May
  · refine (rcheck_yes s hm _).mono ?_
    rintro e w2 ⟨rfl, hb⟩
    have hS : SB w2 w.heap.size s := SB.laid s ((((Below.refl _ _).alloc (by simp) _)).trans (hb.mono (by simp)))
    have hP : SP w2 (w.heap.size + 1) f l c := by
      have := SP.laid (w := w.alloc (scO s)) f l c (hb.mono (by simp))
      simpa using this
    have hw2 : w.heap.size + 1 < w2.heap.size := by have := hb.size; simp at this; omega
    have hB : Below w.heap.size w w2 := (((Below.refl _ _).alloc (Nat.le_refl _) _).alloc (by simp) _).trans (hb.mono (by simp; omega))
    clear hb
    obtain ⟨c0, c1, c2, c3, c4, c5, c6⟩ := hS
    obtain ⟨d0, d1, d2⟩ := hP
    by_cases hok : 0 ≤ f ∧ f ≤ 1099511627776 ∧ 0 ≤ l ∧ l < s.lines ∧ 0 ≤ c ∧ c < s.columns
    · obtain ⟨f0, f1, l0, l1, k0, k1⟩ := hok
      obtain ⟨hl, hL0, hL1⟩ := Scr.len_may hm
      have hC := hm 1 (by omega)
      have hLn := hm 0 (by omega)
      simp only [Scr.asks] at hC hLn
      have HTM := Lib.hid (show timeOk s f l c ↔ f * s.len + l * s.columns + c ≤ 1099511627776 from ⟨fun h => h.2.2, fun h => ⟨hm, ⟨f0, l0, l1, k0, k1⟩, h⟩⟩)
      obtain ⟨L, hLe⟩ : ∃ L, s.len = L := ⟨_, rfl⟩
      rw [hLe] at hl hL0 hL1 HTM
      have HLE := Lib.hid hLe
      clear hl hLe
      have b0 : 0 ≤ l * s.columns := Int.mul_nonneg l0 (by omega)
      have b1 : l * s.columns ≤ 160000 := by have := Int.mul_le_mul (show l ≤ 400 by omega) hC.2 (by omega) (by omega); omega
      have a0 : 0 ≤ f * L := Int.mul_nonneg f0 (by omega)
      have a1 : f * L ≤ 175921860444160000 := by have := Int.mul_le_mul f1 hL1 (by omega) (by omega); omega
      go_upto_region 2 with fail
      have hS : SB w2 w.heap.size s := ⟨c0, c1, c2, c3, c4, c5, c6⟩
      have hP : SP w2 (w.heap.size + 1) f l c := ⟨d0, d1, d2⟩
      clear c0 c1 c2 c3 c4 c5 c6 d0 d1 d2
      have hs := fun p : M.Of (M.Base w2) => hS.of (by omega) p
      have hp := fun p : M.Of (M.Base w2) => hP.below p.ok.2 hw2
      have c0 := fun p => (hs p).c0
      have c1 := fun p => (hs p).c1
      have c2 := fun p => (hs p).c2
      have c3 := fun p => (hs p).c3
      have c4 := fun p => (hs p).c4
      have c5 := fun p => (hs p).c5
      have c6 := fun p => (hs p).c6
      have d0 := fun p => (hp p).d0
      have d1 := fun p => (hp p).d1
      have d2 := fun p => (hp p).d2
      clear hs hp
      refine M.region_ (by kernel_rfl) ?_
      go_simp
      refine M.seg_ [0, 1, 2, 5, 6, 7, 8, 9, 10, 11, 12] 4 _ _ (M.Base.refl _) (by kernel_rfl) (by kernel_rfl) (by kernel_rfl) (by simp only [pickOps, mask, plain, List.getElem?_toArray, List.getElem?_cons_zero, List.getElem?_cons_succ, if_true, if_false, Bool.false_eq_true]; rfl) ?_
      repeat (go_big_quiet_step (fail))
      refine wpQuiet_nil ?_
      clear c0 c1 c2 c3 c4 c5 c6 d0 d1 d2
      refine M.calm_ (i := 3) (.int .i64 L) rfl (by kernel_rfl) (by kernel_rfl) (by kernel_rfl) (by kernel_rfl) ?_ ?_
      · intro wz sz
        unfold Oper.does
        go_simp
        exact ((fun wz => HLE.out ▸ rlen_any wz s) wz).mono fun e w' he => ⟨_, he.1, rfl, Save.of_below he.2⟩
      go_simp
      refine M.seg_ [4, 13, 14] 0 _ _ (M.Base.refl _) (by kernel_rfl) (by kernel_rfl) (by kernel_rfl) (by simp only [pickOps, mask, plain, List.getElem?_toArray, List.getElem?_cons_zero, List.getElem?_cons_succ, if_true, if_false, Bool.false_eq_true]; rfl) ?_
      repeat (go_big_quiet_step (fail))
      refine wpQuiet_nil ?_
      refine M.end_ (by kernel_rfl) ?_
      intro wE sE
      have hB := hB.trans (sE.2.mono hB.size)
      clear sE
      go_wp2_with fail
      refine (rmay_any _ _).mono ?_
      rintro e w3 ⟨rfl, rfl⟩
      have hadd : f * L + l * s.columns + c = f * L + (l * s.columns + c) := by omega
      have HADD := Lib.hid hadd
      clear hadd
      by_cases hgt : f * L + (l * s.columns + c) ≤ 1099511627776
      · rw [decide_eq_true (show 0 ≤ f * L + (l * s.columns + c) ∧ f * L + (l * s.columns + c) ≤ 1099511627776 by omega)]
        go_wp2_with fail
        go_ret2
        rw [HLE.out, HADD.out]
        exact ⟨⟨fun _ => rfl, fun h => absurd (HTM.out.2 (by rw [HADD.out]; exact hgt)) h⟩, hB⟩
      · rw [decide_eq_false (show ¬ (0 ≤ f * L + (l * s.columns + c) ∧ f * L + (l * s.columns + c) ≤ 1099511627776) by omega)]
        go_wp2_with fail
        go_ret2
        exact ⟨⟨fun h => by have := HTM.out.1 h; rw [HADD.out] at this; omega, fun _ => rfl⟩, hB⟩
    · have hno : ¬ timeOk s f l c := fun h => hok (timeOk_bd h)
      have HNO := Lib.hid hno
      clear hno
      have key : f < 0 ∨ (0 ≤ f ∧ 1099511627776 < f) ∨ (0 ≤ f ∧ f ≤ 1099511627776 ∧ l < 0) ∨ (0 ≤ f ∧ f ≤ 1099511627776 ∧ 0 ≤ l ∧ s.lines ≤ l) ∨ (0 ≤ f ∧ f ≤ 1099511627776 ∧ 0 ≤ l ∧ l < s.lines ∧ c < 0) ∨ (0 ≤ f ∧ f ≤ 1099511627776 ∧ 0 ≤ l ∧ l < s.lines ∧ 0 ≤ c ∧ s.columns ≤ c) := by omega
      clear hok
      rcases key with h1 | ⟨h1, h2⟩ | ⟨h1, h2, h3⟩ | ⟨h1, h2, h3, h4⟩ | ⟨h1, h2, h3, h4, h5⟩ | ⟨h1, h2, h3, h4, h5, h6⟩
      all_goals
        go_wp2_with fail
        go_ret2
        exact ⟨⟨fun h => absurd h HNO.out, fun _ => rfl⟩, hB⟩
  · refine (rcheck_no s hm _).mono ?_
    rintro e w2 ⟨rfl, hb⟩
    have hB : Below w.heap.size w w2 := (((Below.refl _ _).alloc (Nat.le_refl _) _).alloc (by simp) _).trans (hb.mono (by simp; omega))
    clear hb
    go_wp2_with fail
    go_ret2
    exact ⟨⟨fun h => absurd h.1 hm, fun _ => rfl⟩, hB⟩
end Go.Proofs.Ytpkmphalhmmbkaa
