
/- RasterNexts. -/
import Derived.Test.YtlghfngomiiclaaV8
namespace Go.Proofs.Ytlghfngomiiclaa
open Go.RowKit
set_option linter.unusedSimpArgs false
set_option linter.unusedVariables false
set_option maxRecDepth 100000

theorem len_dvd {s : Scr} (hm : s.May) (t : Int) : t % s.len % s.columns = t % s.columns := by
  obtain ⟨hl, _, _⟩ := Scr.len_may hm
  rw [hl]
  exact Int.emod_emod_of_dvd t (Int.dvd_mul_left _ _)
/-- At a line's beginning there is a border. -/
theorem line_start {s : Scr} (hm : s.May) {u : Int} (h : u % s.columns = 0) : (beamB s u).1 ≠ 0 := by
  have hb := hm.bnd.left
  unfold beamB spotB
  rw [len_dvd hm, h, if_neg (fun hi => by have := hi.2; omega)]
  unfold borB
  rw [if_pos (by decide)]
  show (3 : Int) ≠ 0
  decide
theorem least_from (P : Int → Prop) [DecidablePred P] (t : Int) (k : Nat) (h : P (t + k)) : ∃ n, t ≤ n ∧ n ≤ t + k ∧ P n ∧ ∀ i, t ≤ i → i < n → ¬ P i := by
  induction k generalizing t with
  | zero => exact ⟨t, by omega, by omega, by simpa using h, fun i a b => by omega⟩
  | succ k ih =>
    by_cases h0 : P t
    · exact ⟨t, by omega, by omega, h0, fun i a b => by omega⟩
    · obtain ⟨n, a, b, c, d⟩ := ih (t + 1) (by rw [show t + 1 + (k : Int) = t + ((k + 1 : Nat) : Int) by omega]; exact h)
      refine ⟨n, by omega, by omega, c, fun i e g => ?_⟩
      by_cases hi : i = t
      · rw [hi]; exact h0
      · exact d i (by omega) g
theorem next_is {s : Scr} (hm : s.May) (t : Int) : ∃ n, t ≤ n ∧ n ≤ t + 400 ∧ n - t ≤ s.len ∧ (beamB s n).1 ≠ 0 ∧ ∀ i, t ≤ i → i < n → (beamB s i).1 = 0 := by
  have hC := hm.bnd.columns
  obtain ⟨hl, hl0, _⟩ := Scr.len_may hm
  have hcl : s.columns ≤ s.len := by
    rw [hl]
    have := Int.mul_le_mul_of_nonneg_right hm.bnd.lines.1 (show 0 ≤ s.columns by omega)
    omega
  have h0 := Int.emod_nonneg t (show s.columns ≠ 0 by omega)
  have h1 := Int.emod_lt_of_pos t (show 0 < s.columns by omega)
  have hu : ((t + (s.columns - t % s.columns)) % s.columns) = 0 := by
    have e : t + (s.columns - t % s.columns) = s.columns * (t / s.columns + 1) := by
      have := Int.mul_ediv_add_emod t s.columns
      rw [Int.mul_add]
      omega
    rw [e]
    exact Int.mul_emod_right _ _
  obtain ⟨n, a, b, c, d⟩ := least_from (fun i => (beamB s i).1 ≠ 0) t (s.columns - t % s.columns).toNat (by
    rw [show ((s.columns - t % s.columns).toNat : Int) = s.columns - t % s.columns by omega]
    exact line_start hm hu)
  exact ⟨n, a, by omega, by omega, c, fun i e g => Decidable.byContradiction (d i e g)⟩

set_option maxHeartbeats 4000000 in
theorem nexts_main (w : World) (s : Scr) (hm : s.May) (t o : Int) (ho : -9223372036854775808 ≤ o ∧ o ≤ 9223372036854775807) (h0 : 0 ≤ t) (h1 : t ≤ 549755813888) : Calls Try.prog 7 #[s.val, .int .i64 t, .int .i64 o] w fun e w' => e = .returned (.bool true) ∧ Below w.heap.size w w' := by
  obtain ⟨n, n0, n1, n2, nd, nq⟩ := next_is hm t
  obtain ⟨m, m0, m1, m2, md, mq⟩ := next_is hm (n + 1)
  have hCk := fun w => rcheck_yes s hm w
  have hLn := fun w => rlen_any w s
  have hA := fun (k : Int) (a : 0 ≤ k) (b : k ≤ 1099511627776) (w : World) => at_yes w s k hm a b
  have hN := fun w => next_yes w s hm t n h0 n0 (by omega) nq nd
  have hM := fun w => next_yes w s hm (n + 1) m (by omega) m0 (by omega) mq md
  obtain ⟨hl, hl0, hl1⟩ := Scr.len_may hm
  generalize s.len = L at *
  clear hl mq
  obtain ⟨⟨d, x, y⟩, hg⟩ : ∃ g, beamB s n = g := ⟨_, rfl⟩
  obtain ⟨⟨d2, x2, y2⟩, hg2⟩ : ∃ g, beamB s m = g := ⟨_, rfl⟩
  have hAn := fun w => hA n (by omega) (by omega) w
  rw [hg] at nd
  simp only [hg] at hN hAn
  simp only [hg2] at hM
  clear hg hg2 md
  simp only at nd
  have hdb : (d == 0) = false := by simpa using nd
  have NQ := Lib.hid nq
  have HA := Lib.hid hA
  clear nq hA
  unfold Scr.val
  go_enter Try.func7, Try.ntmps7
  go_wp2_with fail
  refine (lives15_any _).mono ?_
  rintro e w1 ⟨rfl, hb⟩
  obtain ⟨hB1, hS1, hl1⟩ := SB.boxed hb
  clear hb
  obtain ⟨c0, c1, c2, c3, c4, c5, c6⟩ := hS1
  have hS1 : SB w1 w.heap.size s := ⟨c0, c1, c2, c3, c4, c5, c6⟩
  go_wp2_with fail
  refine (hCk _).mono ?_
  rintro e w2 ⟨rfl, hb⟩
  have hS2 := hS1.below hb hl1
  have hB2 := hB1.trans (hb.mono hB1.size)
  have hl2 : w.heap.size < w2.heap.size := by have := hb.size; omega
  clear hb hS1 c0 c1 c2 c3 c4 c5 c6
  obtain ⟨c0, c1, c2, c3, c4, c5, c6⟩ := hS2
  have hS2 : SB w2 w.heap.size s := ⟨c0, c1, c2, c3, c4, c5, c6⟩
  go_wp2_with fail
  refine (hN _).mono ?_
  rintro e w3 ⟨rfl, hb⟩
  have hS3 := hS2.below hb hl2
  have hB3 := hB2.trans (hb.mono hB2.size)
  have hl3 : w.heap.size < w3.heap.size := by have := hb.size; omega
  clear hb hS2 c0 c1 c2 c3 c4 c5 c6
  obtain ⟨c0, c1, c2, c3, c4, c5, c6⟩ := hS3
  have hS3 : SB w3 w.heap.size s := ⟨c0, c1, c2, c3, c4, c5, c6⟩
  go_wp2_with fail
  refine (hAn _).mono ?_
  rintro e w4 ⟨rfl, hb⟩
  have hS4 := hS3.behind hl3 hb
  have hP4 := BW.laid d x y hb
  obtain ⟨hB4, hl34⟩ := behind hB3 hb
  have hl4 : w.heap.size < w4.heap.size := by omega
  clear hb hS3 c0 c1 c2 c3 c4 c5 c6
  obtain ⟨c0, c1, c2, c3, c4, c5, c6⟩ := hS4
  have hS4 : SB w4 w.heap.size s := ⟨c0, c1, c2, c3, c4, c5, c6⟩
  go_wp2_with fail
  refine (hLn _).mono ?_
  rintro e w5 ⟨rfl, hb⟩
  have hS5 := hS4.behind hl4 hb
  have hP5 := hP4.behind hb
  have hQ5 := BW.laid d x y hb
  obtain ⟨hB5, hl45⟩ := behind hB4 hb
  have hl5 : w.heap.size < w5.heap.size := by omega
  have hl35 : w3.heap.size < w5.heap.size := by omega
  clear hb hS4 c0 c1 c2 c3 c4 c5 c6 hP4
  obtain ⟨c0, c1, c2, c3, c4, c5, c6⟩ := hS5
  have hS5 : SB w5 w.heap.size s := ⟨c0, c1, c2, c3, c4, c5, c6⟩
  have p0 := hP5.c0
  have p1 := hP5.c1
  have p2 := hP5.c2
  have q0 := hQ5.c0
  have q1 := hQ5.c1
  have q2 := hQ5.c2
  clear hP5 hQ5 hAn hN hLn hCk
  by_cases hnt : t < n
  · have hd0 : ¬ n - t = 0 := by omega
    have hdb0 : (n - t == 0) = false := by simpa using hd0
    go_wp2_with fail
    clear p0 p1 p2 q0 q1 q2
    refine (pick_any _ (n - t) w5 (by omega) (by omega)).mono ?_
    rintro e w5b ⟨⟨r, rfl, r0, r1⟩, rfl⟩
    have hz := NQ.out (t + r) (by omega) (by omega)
    have hAr := fun w => HA.out (t + r) (by omega) (by omega) w
    generalize beamB s (t + r) = g at *
    obtain ⟨d3, x3, y3⟩ := g
    simp only at hz
    subst hz
    clear HA NQ
    go_wp2_with fail
    refine (hAr _).mono ?_
    rintro e w6 ⟨rfl, hb⟩
    have hS6 := hS5.below hb hl5
    have hB6 := hB5.trans (hb.mono hB5.size)
    have hl6 : w.heap.size < w6.heap.size := by have := hb.size; omega
    clear hb hS5 c0 c1 c2 c3 c4 c5 c6 hAr
    obtain ⟨c0, c1, c2, c3, c4, c5, c6⟩ := hS6
    go_wp2_with fail
    refine (hM _).mono ?_
    rintro e w7 ⟨rfl, hb⟩
    obtain ⟨hB7, _⟩ := behind hB6 hb
    clear hb
    go_wp2_with fail
    go_ret
    refine ⟨?_, hB7.alloc hB7.size _⟩
    show Ending.returned (.bool (decide (n < m))) = _
    rw [decide_eq_true (show n < m by omega)]
  · obtain rfl : t = n := by omega
    go_wp2_with fail
    refine (hM _).mono ?_
    rintro e w6 ⟨rfl, hb⟩
    have hB6 := hB5.trans (hb.mono hB5.size)
    go_wp2_with fail
    go_ret
    refine ⟨?_, hB6.alloc hB6.size _⟩
    show Ending.returned (.bool (decide (t < m))) = _
    rw [decide_eq_true (show t < m by omega)]

set_option maxHeartbeats 1000000 in
theorem nexts_not (w : World) (s : Scr) (hm : ¬ s.May) (t o : Int) : Calls Try.prog 7 #[s.val, .int .i64 t, .int .i64 o] w fun e w' => e = .returned (.bool true) ∧ Below w.heap.size w w' := by
  have hCk := fun w => rcheck_no s hm w
  unfold Scr.val
  go_enter Try.func7, Try.ntmps7
  go_wp2_with fail
  refine (lives15_any _).mono ?_
  rintro e w1 ⟨rfl, hb⟩
  obtain ⟨hB1, hS1, hl1⟩ := SB.boxed hb
  clear hb
  obtain ⟨c0, c1, c2, c3, c4, c5, c6⟩ := hS1
  go_wp2_with fail
  refine (hCk _).mono ?_
  rintro e w2 ⟨rfl, hb⟩
  have hB2 := hB1.trans (hb.mono hB1.size)
  go_wp2_with fail
  go_ret
  exact ⟨rfl, hB2⟩
set_option maxHeartbeats 1000000 in
theorem nexts_early (w : World) (s : Scr) (hm : s.May) (t o : Int) (ht : t < 0) : Calls Try.prog 7 #[s.val, .int .i64 t, .int .i64 o] w fun e w' => e = .returned (.bool true) ∧ Below w.heap.size w w' := by
  have hCk := fun w => rcheck_yes s hm w
  unfold Scr.val
  go_enter Try.func7, Try.ntmps7
  go_wp2_with fail
  refine (lives15_any _).mono ?_
  rintro e w1 ⟨rfl, hb⟩
  obtain ⟨hB1, hS1, hl1⟩ := SB.boxed hb
  clear hb
  obtain ⟨c0, c1, c2, c3, c4, c5, c6⟩ := hS1
  go_wp2_with fail
  refine (hCk _).mono ?_
  rintro e w2 ⟨rfl, hb⟩
  have hB2 := hB1.trans (hb.mono hB1.size)
  go_wp2_with fail
  go_ret
  exact ⟨rfl, hB2⟩
set_option maxHeartbeats 1000000 in
theorem nexts_late (w : World) (s : Scr) (hm : s.May) (t o : Int) (h0 : 0 ≤ t) (ht : 549755813888 < t) : Calls Try.prog 7 #[s.val, .int .i64 t, .int .i64 o] w fun e w' => e = .returned (.bool true) ∧ Below w.heap.size w w' := by
  have hCk := fun w => rcheck_yes s hm w
  unfold Scr.val
  go_enter Try.func7, Try.ntmps7
  go_wp2_with fail
  refine (lives15_any _).mono ?_
  rintro e w1 ⟨rfl, hb⟩
  obtain ⟨hB1, hS1, hl1⟩ := SB.boxed hb
  clear hb
  obtain ⟨c0, c1, c2, c3, c4, c5, c6⟩ := hS1
  go_wp2_with fail
  refine (hCk _).mono ?_
  rintro e w2 ⟨rfl, hb⟩
  have hB2 := hB1.trans (hb.mono hB1.size)
  go_wp2_with fail
  go_ret
  exact ⟨rfl, hB2⟩

theorem walk_RasterNexts (w : World) (s : Scr) (ws : s.wf) (t : Int) (wt : (Lit.int .i64 t).wf = true) (o : Int) (wo : (Lit.int .i64 o).wf = true) : Calls Try.prog 7 #[s.val, .int .i64 t, .int .i64 o] w fun e w' => e = .returned (.bool true) ∧ Below w.heap.size w w' := by
  by_cases hm : s.May
  · by_cases h0 : t < 0
    · exact nexts_early w s hm t o h0
    · by_cases h1 : 549755813888 < t
      · exact nexts_late w s hm t o (by omega) h1
      · exact nexts_main w s hm t o (bounds_i64 wo) (by omega) (by omega)
  · exact nexts_not w s hm t o
end Go.Proofs.Ytlghfngomiiclaa
