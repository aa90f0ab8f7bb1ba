
/- The reference's Check of screens. -/
import Derived.Test.YtljgpaiojeffcaaU
namespace Go.Proofs.Ytljgpaiojeffcaa
open Go.RowKit
set_option linter.unusedSimpArgs false
set_option linter.unusedVariables false
set_option maxRecDepth 100000

def ChecksScr (s : Scr) (B : Nat) (w : World) (e : Ending) (w' : World) : Prop := ((e = .returned (.int .i64 0) ∧ s.May) ∨ (e = .returned (.int .i64 2) ∧ ¬ s.May)) ∧ Below B w w'

theorem may_iff (s : Scr) : s.May ↔ (s.asks 0 ∧ s.asks 1 ∧ s.asks 2 ∧ s.asks 3 ∧ s.asks 4 ∧ s.asks 5 ∧ s.asks 6 ∧ s.asks 7 ∧ s.asks 8) := by
  constructor
  · intro h; exact ⟨h 0 (by omega), h 1 (by omega), h 2 (by omega), h 3 (by omega), h 4 (by omega), h 5 (by omega), h 6 (by omega), h 7 (by omega), h 8 (by omega)⟩
  · rintro ⟨h0, h1, h2, h3, h4, h5, h6, h7, h8⟩ k hk
    match k, hk with
    | 0, _ => exact h0
    | 1, _ => exact h1
    | 2, _ => exact h2
    | 3, _ => exact h3
    | 4, _ => exact h4
    | 5, _ => exact h5
    | 6, _ => exact h6
    | 7, _ => exact h7
    | 8, _ => exact h8

set_option maxHeartbeats 6400000 in
theorem rcheck_out (w : World) (s : Scr) (h : ¬ (1 ≤ s.lines ∧ s.lines ≤ 400 ∧ 8 ≤ s.columns ∧ s.columns ≤ 400)) : Calls Try.prog 12 #[s.val] w (ChecksScr s w.heap.size w) := by
  have hm : ¬ s.May := fun h' => by
    have h0 := h' 0 (by omega)
    have h1 := h' 1 (by omega)
    simp only [Scr.asks] at h0 h1
    exact h ⟨h0.1, h0.2, h1.1, h1.2⟩
  have HM := Lib.hid hm
  clear hm
  obtain ⟨l, c, t, r, f, d, p⟩ := s
  simp only at h
  unfold Scr.val
  have key : l < 1 ∨ (1 ≤ l ∧ 400 < l) ∨ (1 ≤ l ∧ l ≤ 400 ∧ c < 8) ∨ (1 ≤ l ∧ l ≤ 400 ∧ 8 ≤ c ∧ 400 < c) := by omega
  clear h
  rcases key with h1 | ⟨h1, h2⟩ | ⟨h1, h2, h3⟩ | ⟨h1, h2, h3, h4⟩
  all_goals
    go_enter Try.func12, Try.ntmps12
    go_wp2
    go_ret
    exact ⟨Or.inr ⟨rfl, HM.out⟩, (Below.refl _ _).alloc (Nat.le_refl _) _⟩

set_option maxHeartbeats 12800000 in
theorem rcheck_in (w : World) (s : Scr) (h : 1 ≤ s.lines ∧ s.lines ≤ 400 ∧ 8 ≤ s.columns ∧ s.columns ≤ 400) : Calls Try.prog 12 #[s.val] w (ChecksScr s w.heap.size w) := by
  have HM := Lib.hid (may_iff s)
  obtain ⟨l, c, t, r, f, d, p⟩ := s
  simp only [Scr.asks] at h HM
  obtain ⟨h1, h2, h3, h4⟩ := h
  have hm : l * c ≤ 160000 := by have := Int.mul_le_mul h2 h4 (by omega) (by omega); omega
  have hm0 : 0 ≤ l * c := Int.mul_nonneg (by omega) (by omega)
  unfold Scr.val
  go_enter Try.func12, Try.ntmps12
  go_wp2
  all_goals
    go_ret
    refine ⟨?_, (Below.refl _ _).alloc (Nat.le_refl _) _⟩
    simp only [beq_iff_eq, beq_eq_false_iff_ne, ne_eq, bne_iff_ne, bne_eq_false_iff_eq, decide_eq_true_eq, decide_eq_false_iff_not, Bool.not_eq_true, Bool.or_eq_true, Bool.or_eq_false_iff] at *
    generalize l * c = lc at *
    first
      | (refine Or.inl ⟨rfl, HM.out.2 ?_⟩; refine ⟨?_, ?_, ?_, ?_, ?_, ?_, ?_, ?_, ?_⟩ <;> omega)
      | (refine Or.inr ⟨rfl, fun hh => ?_⟩; obtain ⟨q0, q1, q2, q3, q4, q5, q6, q7, q8⟩ := HM.out.1 hh; omega)
end Go.Proofs.Ytljgpaiojeffcaa
