
/- What a screen's calls answer: Classic, Length, times, pulses, spots. -/
import Derived.Test.YtpkmphalhmmbkaaU
import Derived.BigQuiet
import Derived.Test.YtpkmphalhmmbkaaQ
import Derived.Deep.DeepCutAuto
namespace Go.Proofs.Ytpkmphalhmmbkaa
open Go.RowKit

theorem classic_any (w : World) : Calls Try.prog 58 #[] w fun e w' => e = .returned (Scr.val ⟨311, 228, 63, 192, 14, 32, 36⟩) ∧ Below w.heap.size w w' := by
  go_enter Try.func58, Try.ntmps58
  go_wp2_with fail
  (try simp only [Exit.inBlock, Exit.then])
  refine bodyPost_ret (v := Scr.val ⟨311, 228, 63, 192, 14, 32, 36⟩) ?_ rfl ⟨rfl, ?_⟩
  · simp [results, go_sem]
    rfl
  · exact (Below.refl _ _).alloc (Nat.le_refl _) _

open Classical in
/-- A frame's T-states; 0 of a screen that may not be. -/
noncomputable def Scr.len (s : Scr) : Int := if s.May then s.lines * s.columns else 0
theorem Scr.len_may {s : Scr} (h : s.May) : s.len = s.lines * s.columns ∧ 8 ≤ s.len ∧ s.len ≤ 160000 := by
  have h0 := h 0 (by omega)
  have h1 := h 1 (by omega)
  simp only [Scr.asks] at h0 h1
  have e : s.len = s.lines * s.columns := by unfold Scr.len; rw [if_pos h]
  have h2 := Int.mul_le_mul h0.2 h1.2 (by omega) (by omega)
  have h3 := Int.mul_le_mul h0.1 h1.1 (by omega) (by omega)
  exact ⟨e, by omega, by omega⟩
theorem Scr.len_not {s : Scr} (h : ¬ s.May) : s.len = 0 := by unfold Scr.len; rw [if_neg h]

set_option maxHeartbeats 1000000 in
theorem length_any (w : World) (s : Scr) : Calls Try.prog 24 #[s.val] w fun e w' => e = .returned (.int .i64 s.len) ∧ Below w.heap.size w w' := by
  unfold Scr.val
  go_enter Try.func24, Try.ntmps24
  go_wp2_with fail
  refine (check_any _ s).mono ?_
  rintro e w2 ⟨h, hb⟩
  have hB : Below w.heap.size w w2 := ((Below.refl _ _).alloc (Nat.le_refl _) _).trans (hb.mono (by simp))
  have hS : SB w2 w.heap.size s := by
    constructor <;> (rw [hb.cell (by simp), World.cell?_alloc_at _ _ _ _ rfl]; rfl)
  obtain ⟨c0, c1, c2, c3, c4, c5, c6⟩ := hS
  clear hb
  rcases h with ⟨rfl, hm⟩ | ⟨rfl, hm⟩
  · obtain ⟨hl, hl0, hl1⟩ := Scr.len_may hm
    have hlo : 0 ≤ s.lines * s.columns := by omega
    have hlh : s.lines * s.columns ≤ 160000 := by omega
    have HL := Lib.hid hl
    clear hl
    go_wp2_with fail
    go_ret
    rw [HL.out]
    exact ⟨rfl, hB⟩
  · have hl := Scr.len_not hm
    go_wp2_with fail
    go_ret
    rw [hl]
    exact ⟨rfl, hB⟩

theorem isTime_any (t : Int) (w : World) : Calls Try.prog 59 #[.int .i64 t] w fun e w' => Tells e (0 ≤ t ∧ t ≤ 1099511627776) ∧ w = w' := by
  go_enter Try.func59, Try.ntmps59
  go_wp2_with fail
  all_goals go_ret
  all_goals exact ⟨⟨_, rfl, by first | (simp; done) | (simp; omega)⟩, rfl⟩

set_option maxHeartbeats 2000000 in
set_option maxRecDepth 100000 in
theorem pulse_any (w : World) (s : Scr) (t : Int) : Calls Try.prog 26 #[s.val, .int .i64 t] w fun e w' => Tells e (s.May ∧ 0 ≤ t ∧ t ≤ 1099511627776 ∧ t % s.len < s.pulse) ∧ Below w.heap.size w w' := by
  have hval : s.val = .agg #[.int .i64 s.lines, .int .i64 s.columns, .int .i64 s.top, .int .i64 s.rows, .int .i64 s.left, .int .i64 s.wide, .int .i64 s.pulse] := rfl
  rw [hval]
  have HV := Lib.hid hval
  clear hval
  go_enter Try.func26, Try.ntmps26
  go_wp2_with fail
  rw [← HV.out]
  refine (length_any _ s).mono ?_
  rintro e w2 ⟨rfl, hb⟩
  have hB : Below w.heap.size w w2 := ((Below.refl _ _).alloc (Nat.le_refl _) _).trans (hb.mono (by simp))
  have hp : w2.cell? ⟨w.heap.size, 6, none⟩ = some (.int .i64 s.pulse) := by
    rw [hb.cell (by simp), World.cell?_alloc_at _ _ _ _ rfl]; rfl
  have hlt : w.heap.size < w2.heap.size := by have := hb.size; simp at this; omega
  clear hb
  by_cases hm : s.May
  · obtain ⟨hl, hl0, hl1⟩ := Scr.len_may hm
    generalize hLe : s.len = L at *
    have HLE := Lib.hid hLe
    clear hl hLe
    have hne : ¬ L = 0 := by omega
    have hneb : (L != 0) = true := by simpa using hne
    go_upto_region 2 with fail
    refine region_ (fun _ => False) (by kernel_rfl) ?_
    refine seg_ [0, 1, 2, 3] 11 _ (by kernel_rfl) (by kernel_rfl) (by kernel_rfl) (by simp only [pickOps, mask, plain, List.getElem?_toArray, List.getElem?_cons_zero, List.getElem?_cons_succ, if_true]; rfl) ?_
    repeat (go_big_quiet_step (fail))
    refine wpQuiet_nil ?_
    refine call_ (i := 4) rfl (by kernel_rfl) (by kernel_rfl) ?_
    intro wx hx
    unfold Oper.does
    go_simp
    refine (isTime_any t wx).mono ?_
    rintro e w9 ⟨⟨r, rfl, hr⟩, rfl⟩
    refine ⟨_, rfl, same_ hx (Save.refl _ _) ?_⟩
    have hB2 := hB.trans (hx.all.mono hB.size)
    cases r with
    | false =>
      have hnt := Lib.hid (show ¬ (0 ≤ t ∧ t ≤ 1099511627776) from fun h => Bool.false_ne_true (hr.2 h))
      clear hr
      refine seg_ [5, 6, 7, 8, 9, 10, 11, 12, 13, 14] 0 _ (by kernel_rfl) (by kernel_rfl) (by kernel_rfl) (by simp only [pickOps, mask, plain, List.getElem?_toArray, List.getElem?_cons_zero, List.getElem?_cons_succ, if_true]; rfl) ?_
      repeat (go_big_quiet_step (fail))
      refine wpQuiet_nil ?_
      refine end_ (by kernel_rfl) ?_
      intro wE hE
      go_wp2_with fail
      go_ret
      exact ⟨⟨_, rfl, ⟨fun h => absurd h Bool.false_ne_true, fun h => absurd ⟨h.2.1, h.2.2.1⟩ hnt.out⟩⟩, hB2.trans (hE.all.mono hB2.size)⟩
    | true =>
      obtain ⟨ht0, ht1⟩ := hr.1 rfl
      clear hr
      have hmod : t.tmod L = t % L := Int.tmod_eq_emod_of_nonneg ht0
      have hc : ∀ p : Later (fun _ => False) wx, p.w.cell? ⟨w.heap.size, 6, none⟩ = some (.int .i64 s.pulse) := fun p => ((hx.all.trans (p.ok.all.mono hx.size)).cell hlt).trans hp
      refine seg_ [5, 6, 7, 8, 9, 10, 11, 12, 13, 14] 0 _ (by kernel_rfl) (by kernel_rfl) (by kernel_rfl) (by simp only [pickOps, mask, plain, List.getElem?_toArray, List.getElem?_cons_zero, List.getElem?_cons_succ, if_true]; rfl) ?_
      repeat (go_big_quiet_step (fail))
      refine wpQuiet_nil ?_
      refine end_ (by kernel_rfl) ?_
      intro wE hE
      go_wp2_with fail
      go_ret
      exact ⟨⟨_, rfl, by rw [decide_eq_true_eq, HLE.out]; exact ⟨fun h => ⟨hm, ht0, ht1, h⟩, fun h => h.2.2.2⟩⟩, hB2.trans (hE.all.mono hB2.size)⟩
  · rw [Scr.len_not hm]
    go_upto_region 2 with fail
    refine region_ (fun _ => False) (by kernel_rfl) ?_
    refine seg_ [0, 1, 2, 3, 4, 5, 6, 7, 8, 9, 10, 11, 12, 13, 14] 0 _ (by kernel_rfl) (by kernel_rfl) (by kernel_rfl) (by simp only [pickOps, mask, plain, List.getElem?_toArray, List.getElem?_cons_zero, List.getElem?_cons_succ, if_true, if_false, Bool.false_eq_true]; rfl) ?_
    repeat (go_big_quiet_step (fail))
    refine wpQuiet_nil ?_
    refine end_ (by kernel_rfl) ?_
    intro wE hE
    go_wp2_with fail
    go_ret
    exact ⟨⟨_, rfl, by simp [hm]⟩, hB.trans (hE.all.mono hB.size)⟩
end Go.Proofs.Ytpkmphalhmmbkaa
