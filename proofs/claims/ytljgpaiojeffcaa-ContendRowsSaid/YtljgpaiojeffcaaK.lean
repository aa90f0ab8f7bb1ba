
/- Screens' times: Next, Spot. -/
import Derived.Test.YtljgpaiojeffcaaJ
namespace Go.Proofs.Ytljgpaiojeffcaa
open Go.RowKit

/-- Where the next frame begins. -/
def nextOf (L t : Int) : Int × Bool :=
  if L = 0 ∨ 1099511627776 ≤ t then (0, false) else if t < 0 then (0, true) else if 1099511627776 < (t / L + 1) * L then (0, false) else ((t / L + 1) * L, true)

/-- A spot's numbers. -/
def spotV (f l c : Int) : Value := .agg #[.int .i64 f, .int .i64 l, .int .i64 c]

set_option maxHeartbeats 1000000 in
set_option maxRecDepth 100000 in
theorem spot_any (w : World) (s : Scr) (t : Int) : Calls Try.prog 21 #[s.val, .int .i64 t] w fun e w' => ((s.May ∧ 0 ≤ t ∧ t ≤ 1099511627776 → e = .returned (.tuple #[spotV (t / s.len) (t % s.len / s.columns) (t % s.len % s.columns), .int .i64 0])) ∧ (¬ (s.May ∧ 0 ≤ t ∧ t ≤ 1099511627776) → e = .returned (.tuple #[spotV 0 0 0, .int .i64 2]))) ∧ Below w.heap.size w w' := by
  have hval : s.val = .agg #[.int .i64 s.lines, .int .i64 s.columns, .int .i64 s.top, .int .i64 s.rows, .int .i64 s.left, .int .i64 s.wide, .int .i64 s.pulse] := rfl
  rw [hval]
  have HV := Lib.hid hval
  clear hval
  go_enter Try.func21, Try.ntmps21
  go_wp2_with fail
  rw [← HV.out]
  refine (length_any _ s).mono ?_
  rintro e w2 ⟨rfl, hb⟩
  have hb1 := hb.size
  simp at hb1
  have hB : Below w.heap.size w w2 := (((Below.refl _ _).alloc (Nat.le_refl _) _).alloc (by simp) _).trans (hb.mono (by simp; omega))
  have hS : SB w2 w.heap.size s := SB.laid s ((((Below.refl _ _).alloc (by simp) _)).trans (hb.mono (by simp)))
  have hP : w2.heap[w.heap.size + 1]? = some (.cells #[.int .i64 0, .int .i64 0, .int .i64 0] 45) := by
    rw [hb.block _ (by simp)]
    have := heap_alloc_new (w.alloc (.cells #[.int .i64 s.lines, .int .i64 s.columns, .int .i64 s.top, .int .i64 s.rows, .int .i64 s.left, .int .i64 s.wide, .int .i64 s.pulse] 23)) (.cells #[.int .i64 0, .int .i64 0, .int .i64 0] 45)
    simpa using this
  have d0 : w2.cell? ⟨w.heap.size + 1, 0, none⟩ = some (.int .i64 0) := by rw [cell_of_row _ _ _ _ _ _ hP]; rfl
  have d1 : w2.cell? ⟨w.heap.size + 1, 1, none⟩ = some (.int .i64 0) := by rw [cell_of_row _ _ _ _ _ _ hP]; rfl
  have d2 : w2.cell? ⟨w.heap.size + 1, 2, none⟩ = some (.int .i64 0) := by rw [cell_of_row _ _ _ _ _ _ hP]; rfl
  have g0 := frozen_of_row w2 (w.heap.size + 1) 0 _ _ hP
  have g1 := frozen_of_row w2 (w.heap.size + 1) 1 _ _ hP
  have g2 := frozen_of_row w2 (w.heap.size + 1) 2 _ _ hP
  have c1 := hS.c1
  clear hb
  by_cases hm : s.May
  · obtain ⟨hl, hl0, hl1⟩ := Scr.len_may hm
    have hC := hm 1 (by omega)
    simp only [Scr.asks] at hC
    generalize hLe : s.len = L at *
    have HLE := Lib.hid hLe
    clear hl hLe
    have hne : ¬ L = 0 := by omega
    have hneb : (L == 0) = false := by simpa using hne
    go_wp2_with fail
    refine (isTime_any t w2).mono ?_
    rintro e w9 ⟨⟨r, rfl, hr⟩, rfl⟩
    cases r with
    | false =>
      have hnt := Lib.hid (show ¬ (0 ≤ t ∧ t ≤ 1099511627776) from fun h => Bool.false_ne_true (hr.2 h))
      clear hr
      go_wp2_with fail
      (try simp only [Exit.inBlock, Exit.then])
      refine bodyPost_ret (v := .tuple #[spotV 0 0 0, .int .i64 2]) ?_ rfl ⟨⟨fun h => absurd ⟨h.2.1, h.2.2⟩ hnt.out, fun _ => rfl⟩, ?_⟩
      · rw [results_cell_tmp rfl]
        go_simp
        rfl
      · (repeat' (first | exact hB | refine Below.drew ?_ | refine Below.setCell ?_ (Nat.le_succ _) _))
    | true =>
      obtain ⟨ht0, ht1⟩ := hr.1 rfl
      clear hr
      have hdiv : t.tdiv L = t / L := Int.tdiv_eq_ediv_of_nonneg ht0
      have hmod : t.tmod L = t % L := Int.tmod_eq_emod_of_nonneg ht0
      have hr0 : 0 ≤ t % L := Int.emod_nonneg t (by omega)
      have hr1 : t % L < L := Int.emod_lt_of_pos t (by omega)
      have hq0 : 0 ≤ t / L := Int.ediv_nonneg ht0 (by omega)
      have hq1 : t / L ≤ t := Int.ediv_le_self L ht0
      have hk0 : 0 ≤ t % L / s.columns := Int.ediv_nonneg hr0 (by omega)
      have hk1 : t % L / s.columns ≤ t % L := Int.ediv_le_self _ hr0
      have hdiv2 : (t % L).tdiv s.columns = t % L / s.columns := Int.tdiv_eq_ediv_of_nonneg hr0
      have hmod2 : (t % L).tmod s.columns = t % L % s.columns := Int.tmod_eq_emod_of_nonneg hr0
      go_upto_region 6 with fail
      go_region
      all_goals (try go_wp2)
      all_goals (try simp only [Exit.inBlock, Exit.then])
      all_goals refine bodyPost_ret (v := .tuple #[spotV (t / L) (t % L / s.columns) (t % L % s.columns), .int .i64 0]) ?_ rfl ⟨⟨fun _ => by rw [HLE.out], fun h => absurd ⟨hm, ht0, ht1⟩ h⟩, ?_⟩
      all_goals first
        | (rw [results_cell_tmp rfl]; go_simp; rfl)
        | (repeat' (first | exact hB | refine Below.drew ?_ | refine Below.setCell ?_ (Nat.le_succ _) _))
  · rw [Scr.len_not hm]
    go_wp2_with fail
    (try simp only [Exit.inBlock, Exit.then])
    refine bodyPost_ret (v := .tuple #[spotV 0 0 0, .int .i64 2]) ?_ rfl ⟨⟨fun h => absurd h.1 hm, fun _ => rfl⟩, ?_⟩
    · rw [results_cell_tmp rfl]
      go_simp
      rfl
    · (repeat' (first | exact hB | refine Below.drew ?_ | refine Below.setCell ?_ (Nat.le_succ _) _))
end Go.Proofs.Ytljgpaiojeffcaa
