/- Pulses told one by one, pure. -/
import Derived.Test.YthimgmcekhgclaaX5
namespace Go.Proofs.Ythimgmcekhgclaa
open Go.RowKit

theorem mod_at {L q r t : Int} (h : t = q * L + r) (h0 : 0 ≤ r) (h1 : r < L) : t / L = q ∧ t % L = r := by
  have hL : 0 < L := by omega
  constructor
  · rw [h, Int.add_comm, Int.add_mul_ediv_right _ _ (by omega), Int.ediv_eq_zero_of_lt h0 h1]; omega
  · rw [h, Int.add_comm, Int.add_mul_emod_self_right, Int.emod_eq_of_lt h0 h1]

/-- One time more: one pulse more, or none. -/
theorem pulsesB_succ (L p t : Int) (hL0 : 8 ≤ L) (hp1 : 1 ≤ p) (hpL : p ≤ L) (ht0 : 0 ≤ t) :
    pulsesB L p (t + 1) = pulsesB L p t + if t ≤ 1099511627776 ∧ t % L < p then 1 else 0 := by
  unfold pulsesB
  by_cases hT : t ≤ 1099511627776
  · have c0 : clampT t = t := by unfold clampT; omega
    have c1 : clampT (t + 1) = t + 1 := by unfold clampT; omega
    rw [c0, c1]
    have hr0 : 0 ≤ t % L := Int.emod_nonneg t (by omega)
    have hr1 : t % L < L := Int.emod_lt_of_pos t (by omega)
    have hd : t = t / L * L + t % L := by have := Int.mul_ediv_add_emod t L; rw [Int.mul_comm] at this; omega
    generalize hq : t / L = q at *
    generalize hr : t % L = r at *
    by_cases hw : r + 1 = L
    · obtain ⟨e1, e2⟩ := mod_at (L := L) (q := q + 1) (r := 0) (t := t + 1) (by rw [Int.add_mul]; omega) (by omega) (by omega)
      rw [e1, e2, Int.add_mul]
      split <;> omega
    · obtain ⟨e1, e2⟩ := mod_at (L := L) (q := q) (r := r + 1) (t := t + 1) (by omega) (by omega) (by omega)
      rw [e1, e2]
      split <;> omega
  · have c0 : clampT t = 1099511627777 := by unfold clampT; omega
    have c1 : clampT (t + 1) = 1099511627777 := by unfold clampT; omega
    rw [c0, c1, if_neg (fun h => hT h.1)]
    omega

/-- A frame's beginning that is told lies behind, no further than a frame, and is one. -/
theorem nextOf_is {L t : Int} (hL0 : 8 ≤ L) (ht0 : 0 ≤ t) (h : (nextOf L t).2 = true) :
    t < (nextOf L t).1 ∧ (nextOf L t).1 - t ≤ L ∧ (nextOf L t).1 ≤ 1099511627776 ∧ (nextOf L t).1 % L = 0 := by
  unfold nextOf at *
  have hr0 : 0 ≤ t % L := Int.emod_nonneg t (by omega)
  have hr1 : t % L < L := Int.emod_lt_of_pos t (by omega)
  have hd : t = t / L * L + t % L := by have := Int.mul_ediv_add_emod t L; rw [Int.mul_comm] at this; omega
  split at h
  · cases h
  · rw [if_neg (by assumption)]
    split at h
    · omega
    · rw [if_neg (by assumption)]
      split at h
      · cases h
      · rw [if_neg (by assumption)]
        refine ⟨?_, ?_, by simp only; omega, by simp⟩ <;> (simp only [Int.add_mul]; omega)

/-- The pulses of a stretch of j T-states. -/
def pulsesD (L p x : Int) (j : Nat) : Int := pulsesB L p (x + j) - pulsesB L p x
theorem pulsesD_zero (L p x : Int) : pulsesD L p x 0 = 0 := by unfold pulsesD; simp
theorem pulsesD_succ (L p x : Int) (j : Nat) (hL0 : 8 ≤ L) (hp1 : 1 ≤ p) (hpL : p ≤ L) (hx : 0 ≤ x) :
    pulsesD L p x (j + 1) = pulsesD L p x j + if x + j ≤ 1099511627776 ∧ (x + j) % L < p then 1 else 0 := by
  unfold pulsesD
  have h := pulsesB_succ L p (x + j) hL0 hp1 hpL (by omega)
  rw [show x + ((j + 1 : Nat) : Int) = x + j + 1 by omega, h]
  omega
theorem pulsesD_bd (L p x : Int) (hL0 : 8 ≤ L) (hp1 : 1 ≤ p) (hpL : p ≤ L) (hx : 0 ≤ x) : ∀ j : Nat, 0 ≤ pulsesD L p x j ∧ pulsesD L p x j ≤ j
  | 0 => by rw [pulsesD_zero]; omega
  | j + 1 => by
    have h := pulsesD_bd L p x hL0 hp1 hpL hx j
    rw [pulsesD_succ L p x j hL0 hp1 hpL hx]
    split <;> omega

theorem pulses_le (w : World) (s : Scr) (x y : Int) (hm : s.May) (hxy : x ≤ y) : Calls Try.prog 37 #[s.val, .int .i64 x, .int .i64 y] w fun e w' => e = .returned (.int .i64 (pulsesB s.len s.pulse y - pulsesB s.len s.pulse x)) ∧ Below w.heap.size w w' := by
  refine (pulses_any w s x y).mono ?_
  rintro e w' ⟨⟨h1, h2⟩, hb⟩
  by_cases h : x < y
  · exact ⟨h1 ⟨hm, h⟩, hb⟩
  · obtain rfl : x = y := by omega
    rw [h2 (fun h' => h h'.2)]
    exact ⟨by rw [Int.sub_self], hb⟩

theorem nextOf_any {L t : Int} (hL0 : 8 ≤ L) (ht0 : 0 ≤ t) : 0 ≤ (nextOf L t).1 ∧ (nextOf L t).1 ≤ 1099511627776 ∧ (nextOf L t).1 % L = 0 ∧ ((nextOf L t).2 = true → t < (nextOf L t).1 ∧ (nextOf L t).1 - t ≤ L) := by
  by_cases h : (nextOf L t).2 = true
  · obtain ⟨a, b, c, d⟩ := nextOf_is hL0 ht0 h
    exact ⟨by omega, c, d, fun _ => ⟨a, b⟩⟩
  · have e : (nextOf L t).1 = 0 := by
      unfold nextOf at h ⊢
      by_cases h1 : L = 0 ∨ 1099511627776 ≤ t
      · rw [if_pos h1]
      · rw [if_neg h1] at h ⊢
        by_cases h2 : t < 0
        · omega
        · rw [if_neg h2] at h ⊢
          by_cases h3 : 1099511627776 < (t / L + 1) * L
          · rw [if_pos h3]
          · rw [if_neg h3] at h
            exact absurd rfl h
    rw [e]
    exact ⟨by omega, by omega, by simp, fun h' => absurd h' h⟩
end Go.Proofs.Ythimgmcekhgclaa
