
/- The document's own answers of chapter 8. -/
import Derived.Test.YtedlfcmlchjjlaaY2
import Derived.Test.YtedlfcmlchjjlaaW4
namespace Go.Proofs.Ytedlfcmlchjjlaa
open Go.RowKit
set_option linter.unusedSimpArgs false
set_option linter.unusedVariables false
set_option maxRecDepth 100000

theorem r5_mod_3 (n : Int) (w : World) (hn : (Lit.int .i64 n).wf = true) : Calls Try.prog 57 #[.int .i64 n, .int .i64 3] w fun e w' => e = .returned (.int .i64 (n % 3)) ∧ w = w' := by
  have hb := bounds_i64 hn
  by_cases h : 0 ≤ n
  · go_enter Try.func57, Try.ntmps57
    go_wp2
    go_ret
    exact ⟨rfl, rfl⟩
  · obtain ⟨h1, h2, h3⟩ : -3 < n.tmod 3 ∧ n.tmod 3 ≤ 0 ∧ (if n.tmod 3 < 0 then n.tmod 3 + 3 else n.tmod 3) = n % 3 := by
      have e : n.tmod 3 = -((-n) % 3) := by rw [← Int.tmod_eq_emod_of_nonneg (by omega : 0 ≤ -n), Int.neg_tmod, Int.neg_neg]
      refine ⟨?_, ?_, ?_⟩ <;> (try split) <;> omega
    by_cases h4 : n.tmod 3 < 0
    · rw [if_pos h4] at h3
      have H3 := Lib.hid h3
      clear h3
      go_enter Try.func57, Try.ntmps57
      go_wp2
      go_ret
      exact ⟨a5_ret64 H3.out, rfl⟩
    · rw [if_neg h4] at h3
      have H3 := Lib.hid h3
      clear h3
      go_enter Try.func57, Try.ntmps57
      go_wp2
      go_ret
      exact ⟨a5_ret64 H3.out, rfl⟩

theorem r5_mod_4 (n : Int) (w : World) (hn : (Lit.int .i64 n).wf = true) : Calls Try.prog 57 #[.int .i64 n, .int .i64 4] w fun e w' => e = .returned (.int .i64 (n % 4)) ∧ w = w' := by
  have hb := bounds_i64 hn
  by_cases h : 0 ≤ n
  · go_enter Try.func57, Try.ntmps57
    go_wp2
    go_ret
    exact ⟨rfl, rfl⟩
  · obtain ⟨h1, h2, h3⟩ : -4 < n.tmod 4 ∧ n.tmod 4 ≤ 0 ∧ (if n.tmod 4 < 0 then n.tmod 4 + 4 else n.tmod 4) = n % 4 := by
      have e : n.tmod 4 = -((-n) % 4) := by rw [← Int.tmod_eq_emod_of_nonneg (by omega : 0 ≤ -n), Int.neg_tmod, Int.neg_neg]
      refine ⟨?_, ?_, ?_⟩ <;> (try split) <;> omega
    by_cases h4 : n.tmod 4 < 0
    · rw [if_pos h4] at h3
      have H3 := Lib.hid h3
      clear h3
      go_enter Try.func57, Try.ntmps57
      go_wp2
      go_ret
      exact ⟨a5_ret64 H3.out, rfl⟩
    · rw [if_neg h4] at h3
      have H3 := Lib.hid h3
      clear h3
      go_enter Try.func57, Try.ntmps57
      go_wp2
      go_ret
      exact ⟨a5_ret64 H3.out, rfl⟩

theorem r5_mod_8 (n : Int) (w : World) (hn : (Lit.int .i64 n).wf = true) : Calls Try.prog 57 #[.int .i64 n, .int .i64 8] w fun e w' => e = .returned (.int .i64 (n % 8)) ∧ w = w' := by
  have hb := bounds_i64 hn
  by_cases h : 0 ≤ n
  · go_enter Try.func57, Try.ntmps57
    go_wp2
    go_ret
    exact ⟨rfl, rfl⟩
  · obtain ⟨h1, h2, h3⟩ : -8 < n.tmod 8 ∧ n.tmod 8 ≤ 0 ∧ (if n.tmod 8 < 0 then n.tmod 8 + 8 else n.tmod 8) = n % 8 := by
      have e : n.tmod 8 = -((-n) % 8) := by rw [← Int.tmod_eq_emod_of_nonneg (by omega : 0 ≤ -n), Int.neg_tmod, Int.neg_neg]
      refine ⟨?_, ?_, ?_⟩ <;> (try split) <;> omega
    by_cases h4 : n.tmod 8 < 0
    · rw [if_pos h4] at h3
      have H3 := Lib.hid h3
      clear h3
      go_enter Try.func57, Try.ntmps57
      go_wp2
      go_ret
      exact ⟨a5_ret64 H3.out, rfl⟩
    · rw [if_neg h4] at h3
      have H3 := Lib.hid h3
      clear h3
      go_enter Try.func57, Try.ntmps57
      go_wp2
      go_ret
      exact ⟨a5_ret64 H3.out, rfl⟩

set_option maxHeartbeats 2000000 in
theorem r8_pair (r : Rg) (hr : r.Ok) (i c : Int) (st : Bool) (w : World) (wi : (Lit.int .i64 i).wf = true) (wc : (Lit.int .i64 c).wf = true) : Calls Try.prog 20 #[r.val, .int .i64 i, .int .i64 c, .bool st] w fun e w' => e = .returned (.int .u16 (pairR r i c st)) ∧ Below w.heap.size w w' := by
  have hM := Lib.hid (fun w => r5_mod_4 c w wc)
  have hN := Lib.hid (fun w => r5_mod_3 i w wi)
  have hB : Below w.heap.size w (w.alloc (rgO r)) := (Below.refl _ _).alloc (Nat.le_refl _) _
  have hR := RgW.laid w r
  obtain ⟨B0, B1⟩ := hr.B
  obtain ⟨C0, C1⟩ := hr.C
  obtain ⟨D0, D1⟩ := hr.D
  obtain ⟨E0, E1⟩ := hr.E
  obtain ⟨H0, H1⟩ := hr.H
  obtain ⟨L0, L1⟩ := hr.L
  obtain ⟨A0, A1⟩ := hr.A
  obtain ⟨F0, F1⟩ := hr.F
  unfold Rg.val Rg.cells pairR
  clear wi wc hr
  obtain ⟨n, hn⟩ : ∃ n, c % 4 = n := ⟨_, rfl⟩
  have hn4 : n = 0 ∨ n = 1 ∨ n = 2 ∨ n = 3 := by omega
  rw [hn] at hM ⊢
  clear hn
  obtain rfl | rfl | rfl | rfl := hn4
  · have qB := hR.gB
    have qC := hR.gC
    go_enter Try.func20, Try.ntmps20
    go_wp2_with (first | (go_at_call 57; (with_reducible refine (hM.out _).mono ?_); rintro e w' ⟨rfl, rfl⟩) | (go_at_call 53; (with_reducible refine (r7_pair _ _ _ B0 B1 C0 C1).mono ?_); rintro e w' ⟨rfl, rfl⟩))
    go_ret
    exact ⟨rfl, hB⟩
  · have qD := hR.gD
    have qE := hR.gE
    go_enter Try.func20, Try.ntmps20
    go_wp2_with (first | (go_at_call 57; (with_reducible refine (hM.out _).mono ?_); rintro e w' ⟨rfl, rfl⟩) | (go_at_call 53; (with_reducible refine (r7_pair _ _ _ D0 D1 E0 E1).mono ?_); rintro e w' ⟨rfl, rfl⟩))
    go_ret
    exact ⟨rfl, hB⟩
  · unfold hlR
    obtain ⟨j, hj⟩ : ∃ j, i % 3 = j := ⟨_, rfl⟩
    have hj3 : j = 0 ∨ j = 1 ∨ j = 2 := by omega
    rw [hj] at hN ⊢
    clear hj
    obtain rfl | rfl | rfl := hj3
    · have qH := hR.gH
      have qL := hR.gL
      go_enter Try.func20, Try.ntmps20
      go_wp2_with (first | (go_at_call 57; (first | with_reducible refine (hM.out _).mono ?_ | with_reducible refine (hN.out _).mono ?_); rintro e w' ⟨rfl, rfl⟩) | (go_at_call 53; (with_reducible refine (r7_pair _ _ _ H0 H1 L0 L1).mono ?_); rintro e w' ⟨rfl, rfl⟩))
      go_ret
      exact ⟨rfl, hB⟩
    · have qIX := hR.gIX
      go_enter Try.func20, Try.ntmps20
      go_wp2_with (first | (go_at_call 57; (first | with_reducible refine (hM.out _).mono ?_ | with_reducible refine (hN.out _).mono ?_); rintro e w' ⟨rfl, rfl⟩))
      go_ret
      exact ⟨rfl, hB⟩
    · have qIY := hR.gIY
      go_enter Try.func20, Try.ntmps20
      go_wp2_with (first | (go_at_call 57; (first | with_reducible refine (hM.out _).mono ?_ | with_reducible refine (hN.out _).mono ?_); rintro e w' ⟨rfl, rfl⟩))
      go_ret
      exact ⟨rfl, hB⟩
  · cases st
    · have qSP := hR.gSP
      go_enter Try.func20, Try.ntmps20
      go_wp2_with (first | (go_at_call 57; (with_reducible refine (hM.out _).mono ?_); rintro e w' ⟨rfl, rfl⟩))
      go_ret
      exact ⟨rfl, hB⟩
    · have qA := hR.gA
      have qF := hR.gF
      go_enter Try.func20, Try.ntmps20
      go_wp2_with (first | (go_at_call 57; (with_reducible refine (hM.out _).mono ?_); rintro e w' ⟨rfl, rfl⟩) | (go_at_call 53; (with_reducible refine (r7_pair _ _ _ A0 A1 F0 F1).mono ?_); rintro e w' ⟨rfl, rfl⟩))
      go_ret
      exact ⟨rfl, hB⟩
end Go.Proofs.Ytedlfcmlchjjlaa
