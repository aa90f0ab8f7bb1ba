
/- RasterOnce. -/
import Derived.Test.YtlghfngomiiclaaV9
namespace Go.Proofs.Ytlghfngomiiclaa
open Go.RowKit
set_option linter.unusedSimpArgs false
set_option linter.unusedVariables false
set_option maxRecDepth 100000

theorem beam_frame (s : Scr) (o F : Int) : beamB s (o + F * s.len) = beamB s o := by
  unfold beamB
  rw [Int.add_mul_emod_self_right]
/-- The place of a line's column in a frame. -/
theorem line_col {s : Scr} (hm : s.May) (l c : Int) (hl0 : 0 ≤ l) (hl1 : l < s.lines) (hc0 : 0 ≤ c) (hc1 : c < s.columns) : (0 ≤ l * s.columns + c ∧ l * s.columns + c < s.len) ∧ beamB s (l * s.columns + c) = spotB s l c := by
  obtain ⟨hl, hl2, hl3⟩ := Scr.len_may hm
  have h0 : 0 ≤ l * s.columns := Int.mul_nonneg hl0 (by omega)
  have h1 : (l + 1) * s.columns ≤ s.lines * s.columns := Int.mul_le_mul_of_nonneg_right (by omega) (by omega)
  rw [Int.add_mul] at h1
  have hin : 0 ≤ l * s.columns + c ∧ l * s.columns + c < s.len := by rw [hl]; omega
  refine ⟨hin, ?_⟩
  have e1 : (l * s.columns + c) % s.len = l * s.columns + c := Int.emod_eq_of_lt hin.1 hin.2
  have e2 : (l * s.columns + c) / s.columns = l := by
    rw [Int.add_comm, Int.add_mul_ediv_right _ _ (by omega), Int.ediv_eq_zero_of_lt hc0 hc1]
    omega
  have e3 : (l * s.columns + c) % s.columns = c := by
    rw [Int.add_comm, Int.add_mul_emod_self_right, Int.emod_eq_of_lt hc0 hc1]
  unfold beamB
  rw [e1, e2, e3]
theorem when_is {s : Scr} (hm : s.May) {x y : Int} (h : IsS s x y) : (0 ≤ whenT s x y ∧ whenT s x y + 1 < s.len) ∧ beamB s (whenT s x y) = (1, x, y) ∧ beamB s (whenT s x y + 1) = (2, x, y) := by
  obtain ⟨⟨x0, x1⟩, y0, y1⟩ := h
  obtain ⟨⟨l0, l1⟩, ⟨b0, b1⟩, _, ⟨r0, r1, _⟩, ⟨t0, t1⟩, ⟨w0, w1, w2⟩, ⟨f0, f1⟩⟩ := hm.bnd
  have e1 : whenT s x y = (s.top + y) * s.columns + (s.left + (x / 2 * 8 + x % 2 * 2)) := by unfold whenT; omega
  have e2 : whenT s x y + 1 = (s.top + y) * s.columns + (s.left + (x / 2 * 8 + x % 2 * 2) + 1) := by unfold whenT; omega
  have k1 := line_col hm (s.top + y) (s.left + (x / 2 * 8 + x % 2 * 2)) (by omega) (by omega) (by omega) (by omega)
  have k2 := line_col hm (s.top + y) (s.left + (x / 2 * 8 + x % 2 * 2) + 1) (by omega) (by omega) (by omega) (by omega)
  rw [← e1] at k1
  rw [← e2] at k2
  refine ⟨⟨k1.1.1, k2.1.2⟩, ?_, ?_⟩
  · rw [k1.2]
    unfold spotB
    rw [if_pos ⟨⟨by omega, by omega⟩, by omega, by omega⟩]
    rcases (show x % 2 = 0 ∨ x % 2 = 1 by omega) with hx | hx
    · rw [picB_0 (by omega), Prod.mk.injEq, Prod.mk.injEq]
      omega
    · rw [picB_2 (by omega), Prod.mk.injEq, Prod.mk.injEq]
      omega
  · rw [k2.2]
    unfold spotB
    rw [if_pos ⟨⟨by omega, by omega⟩, by omega, by omega⟩]
    rcases (show x % 2 = 0 ∨ x % 2 = 1 by omega) with hx | hx
    · rw [picB_1 (by omega), Prod.mk.injEq, Prod.mk.injEq]
      omega
    · rw [picB_3 (by omega), Prod.mk.injEq, Prod.mk.injEq]
      omega
/-- Which byte it is that is fetched at a time of the frame. -/
theorem when_of {s : Scr} (hm : s.May) {o d x y : Int} (h0 : 0 ≤ o) (h1 : o < s.len) (hb : beamB s o = (d, x, y)) (hd : d = 1 ∨ d = 2) : IsS s x y ∧ o = whenT s x y + (d - 1) := by
  obtain ⟨⟨l0, l1⟩, ⟨b0, b1⟩, _, ⟨r0, r1, _⟩, ⟨t0, t1⟩, ⟨w0, w1, w2⟩, ⟨f0, f1⟩⟩ := hm.bnd
  have ho := Int.mul_ediv_add_emod o s.columns
  rw [Int.mul_comm] at ho
  have e1 : o % s.len = o := Int.emod_eq_of_lt h0 h1
  unfold beamB at hb
  rw [e1] at hb
  generalize o / s.columns = l at *
  generalize o % s.columns = c at *
  unfold spotB at hb
  by_cases hi : InP s l c
  · rw [if_pos hi] at hb
    obtain ⟨⟨i0, i1⟩, j0, j1⟩ := hi
    unfold IsS whenT
    rcases mod_ways (c - s.left) with h | h | h | h | h
    · rw [picB_0 h, Prod.mk.injEq, Prod.mk.injEq] at hb
      obtain ⟨rfl, rfl, rfl⟩ := hb
      rw [show s.top + (l - s.top) = l by omega]
      omega
    · rw [picB_1 h, Prod.mk.injEq, Prod.mk.injEq] at hb
      obtain ⟨rfl, rfl, rfl⟩ := hb
      rw [show s.top + (l - s.top) = l by omega]
      omega
    · rw [picB_2 h, Prod.mk.injEq, Prod.mk.injEq] at hb
      obtain ⟨rfl, rfl, rfl⟩ := hb
      rw [show s.top + (l - s.top) = l by omega]
      omega
    · rw [picB_3 h, Prod.mk.injEq, Prod.mk.injEq] at hb
      obtain ⟨rfl, rfl, rfl⟩ := hb
      rw [show s.top + (l - s.top) = l by omega]
      omega
    · rw [picB_4 h, Prod.mk.injEq, Prod.mk.injEq] at hb
      omega
  · rw [if_neg hi] at hb
    unfold borB at hb
    split at hb
    · rw [Prod.mk.injEq, Prod.mk.injEq] at hb
      omega
    · rw [Prod.mk.injEq, Prod.mk.injEq] at hb
      omega
end Go.Proofs.Ytlghfngomiiclaa
