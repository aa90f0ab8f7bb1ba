
/- Both Reads of an event agree. -/
import Derived.Test.YthmogabonfkmhaaGreatDoorN6
import Derived.Test.YthmogabonfkmhaaGreatDoorG6
namespace Go.Proofs.YthmogabonfkmhaaGreatDoor
open Go.RowKit
set_option linter.unusedSimpArgs false
set_option linter.unusedVariables false

section
open Go.RowKit

set_option linter.unusedSimpArgs false

set_option linter.unusedVariables false

theorem numRd_zero (r : List Int) (h : (numRd r).2.2 ≠ 0) : (numRd r).1 = 0 := by
  cases r with
  | nil => rfl
  | cons f t =>
    simp only [numRd] at h ⊢
    by_cases h1 : f ≤ 247
    · rw [if_pos h1] at h; exact absurd rfl h
    · rw [if_neg h1] at h ⊢
      by_cases h2 : t.length < (f - 247).toNat
      · rw [if_pos h2]
      · rw [if_neg h2] at h ⊢
        by_cases h3 : (t.take (f - 247).toNat).getLastD 0 = 0 ∨ leV (t.take (f - 247).toNat) ≤ 247
        · rw [if_pos h3]
        · rw [if_neg h3] at h; exact absurd rfl h

theorem numSt_step (l : List Int) (p : Nat) : ((numSt l p 0).2.2 = 0 ∧ numQ (l.drop p) 0 = ((numSt l p 0).1, l.drop (numSt l p 0).2.1, 0)) ∨ ((numSt l p 0).2.2 ≠ 0 ∧ (numQ (l.drop p) 0).2.2 ≠ 0 ∧ (numSt l p 0).1 = 0) := by
  have he := numRd_zero (l.drop p)
  unfold numSt numQ
  simp only [if_true]
  generalize numRd (l.drop p) = q at *
  by_cases hq : q.2.2 = 0
  · rw [if_pos hq]
    exact .inl ⟨hq, by rw [List.drop_drop]⟩
  · rw [if_neg hq]
    exact .inr ⟨hq, hq, he hq⟩

theorem numSt_err {l : List Int} {p : Nat} {e : Int} (h : e ≠ 0) : numSt l p e = (0, p, e) := by unfold numSt; rw [if_neg h]

theorem numQ_of_err {r : List Int} {e : Int} (h : e ≠ 0) : numQ r e = (0, r, e) := by unfold numQ; rw [if_neg h]

/-- Numbers one behind the other. -/
def us (l : List Int) : Nat → Nat × Nat × Int
  | 0 => (0, 0, 0)
  | k + 1 => numSt l (us l k).2.1 (us l k).2.2

def usL (l : List Int) : Nat → List Int
  | 0 => []
  | k + 1 => usL l k ++ [((min (us l (k + 1)).1 2199023255552 : Nat) : Int)]

theorem q3_us (l : List Int) : ∀ k, ((us l k).2.2 = 0 ∧ q3 l k = (usL l k, l.drop (us l k).2.1, 0)) ∨ ((us l k).2.2 ≠ 0 ∧ (q3 l k).2.2 ≠ 0)
  | 0 => .inl ⟨rfl, rfl⟩
  | k + 1 => by
    have hq : q3 l (k + 1) = ((q3 l k).1 ++ [((min (numQ (q3 l k).2.1 (q3 l k).2.2).1 2199023255552 : Nat) : Int)], (numQ (q3 l k).2.1 (q3 l k).2.2).2.1, (numQ (q3 l k).2.1 (q3 l k).2.2).2.2) := rfl
    have hu : us l (k + 1) = numSt l (us l k).2.1 (us l k).2.2 := rfl
    have hul : usL l (k + 1) = usL l k ++ [((min (us l (k + 1)).1 2199023255552 : Nat) : Int)] := rfl
    rcases q3_us l k with ⟨h1, h2⟩ | ⟨h1, h2⟩
    · rw [h1] at hu
      rw [h2] at hq
      simp only at hq
      rcases numSt_step l (us l k).2.1 with ⟨h3, h4⟩ | ⟨h3, h4, _⟩
      · refine .inl ⟨by rw [hu]; exact h3, ?_⟩
        rw [hq, h4, hul, hu]
      · refine .inr ⟨by rw [hu]; exact h3, ?_⟩
        rw [hq]
        exact h4
    · rw [numSt_err h1] at hu
      rw [numQ_of_err h2] at hq
      exact .inr ⟨by rw [hu]; exact h1, by rw [hq]; exact h2⟩

theorem endSt_err {l : List Int} {p : Nat} {e : Int} (h : e ≠ 0) : endSt l p e ≠ 0 := by unfold endSt; rw [if_neg (fun h2 => h h2.1)]; exact h

theorem endQ_err {r : List Int} {e : Int} (h : e ≠ 0) : endQ r e ≠ 0 := by unfold endQ; rw [if_neg (fun h2 => h h2.1)]; exact h

theorem endQ_drop (l : List Int) (p : Nat) : endQ (l.drop p) 0 = endSt l p 0 := by
  unfold endSt endQ
  rw [List.length_drop]
  by_cases hp : p < l.length
  · rw [if_pos ⟨rfl, by omega⟩, if_pos ⟨rfl, hp⟩]
  · rw [if_neg (by omega), if_neg (by omega)]

theorem countSt_err {l : List Int} {p : Nat} {e : Int} {m : Int} (h : e ≠ 0) : (countSt l p e m).2.2 ≠ 0 := by
  unfold countSt
  rw [numSt_err h]
  split
  · simp
  · exact h

theorem countSt_ok {l : List Int} {p : Nat} {e : Int} {m : Int} (h0 : 0 ≤ m) (h : ((numSt l p e).1 : Int) ≤ m) : countSt l p e m = numSt l p e := by
  unfold countSt
  rw [if_neg (by omega)]

theorem countSt_big {l : List Int} {p : Nat} {e : Int} {m : Int} (h0 : 0 ≤ m) (h : ¬ ((numSt l p e).1 : Int) ≤ m) : (countSt l p e m).2.2 ≠ 0 := by
  unfold countSt
  rw [if_pos (by omega)]
  simp

def usX (l : List Int) : Ev := ⟨wrap64 (us l 2).1, chipOf (us l 1).1, wrap64 (us l 3).1, (us l 1).1, (us l 4).1, (us l 5).1⟩

/-- The code's side. -/
theorem erd_us (l : List Int) : ((erdE l = 0 ∧ (erdX l).May) ↔ (endSt l (us l 5).2.1 (us l 5).2.2 = 0 ∧ (usX l).May)) ∧ ((erdE l = 0 ∧ (erdX l).May) → erdX l = usX l) := by
  by_cases h1 : ((us l 1).1 : Int) ≤ 12
  · have e1 : erd1 l = us l 1 := countSt_ok (by decide) h1
    have e2 : erd2 l = us l 2 := by unfold erd2; rw [e1]; rfl
    have e3 : erd3 l = us l 3 := by unfold erd3; rw [e2]; rfl
    by_cases h4 : ((us l 4).1 : Int) ≤ 1048576
    · have e4 : erd4 l = us l 4 := by unfold erd4; rw [e3]; exact countSt_ok (by decide) h4
      by_cases h5 : ((us l 5).1 : Int) ≤ 255
      · have e5 : erd5 l = us l 5 := by unfold erd5; rw [e4]; exact countSt_ok (by decide) h5
        have eX : erdX l = usX l := by unfold erdX usX; rw [e1, e2, e3, e4, e5]
        have eE : erdE l = endSt l (us l 5).2.1 (us l 5).2.2 := by unfold erdE; rw [e5]
        rw [eX, eE]
        exact ⟨Iff.rfl, fun _ => rfl⟩
      · have hE : erdE l ≠ 0 := by unfold erdE erd5; rw [e4]; exact endSt_err (countSt_big (by decide) h5)
        exact ⟨⟨fun h => absurd h.1 hE, fun h => absurd h.2.2.2.2.2.2.2.2.2.2 (by unfold usX; simpa using h5)⟩, fun h => absurd h.1 hE⟩
    · have h4e : (erd4 l).2.2 ≠ 0 := by unfold erd4; rw [e3]; exact countSt_big (by decide) h4
      have hE : erdE l ≠ 0 := by unfold erdE erd5; exact endSt_err (countSt_err h4e)
      exact ⟨⟨fun h => absurd h.1 hE, fun h => absurd h.2.2.2.2.2.2.2.2.1 (by unfold usX; simpa using h4)⟩, fun h => absurd h.1 hE⟩
  · have h1e : (erd1 l).2.2 ≠ 0 := countSt_big (by decide) h1
    have h2e : (erd2 l).2.2 ≠ 0 := by unfold erd2; rw [numSt_err h1e]; exact h1e
    have h3e : (erd3 l).2.2 ≠ 0 := by unfold erd3; rw [numSt_err h2e]; exact h2e
    have h4e : (erd4 l).2.2 ≠ 0 := by unfold erd4; exact countSt_err h3e
    have hE : erdE l ≠ 0 := by unfold erdE erd5; exact endSt_err (countSt_err h4e)
    refine ⟨⟨fun h => absurd h.1 hE, fun h => absurd h.2.1 ?_⟩, fun h => absurd h.1 hE⟩
    have : chipOf (us l 1).1 = 0 := by unfold chipOf; (repeat' split) <;> omega
    unfold usX
    simpa using this

theorem us_lt (l : List Int) (hb : AllB l) (k : Nat) : (us l k).1 < 18446744073709551616 := by
  cases k with
  | zero => exact (by decide : (0 : Nat) < 18446744073709551616)
  | succ k => exact numSt_lt l _ _ hb

theorem usQ_X (l : List Int) : evOf (usL l 5) = ⟨((min (us l 2).1 2199023255552 : Nat) : Int), chipOf ((min (us l 1).1 2199023255552 : Nat) : Int), ((min (us l 3).1 2199023255552 : Nat) : Int), ((min (us l 1).1 2199023255552 : Nat) : Int), ((min (us l 4).1 2199023255552 : Nat) : Int), ((min (us l 5).1 2199023255552 : Nat) : Int)⟩ := rfl

theorem chip_bound {k : Int} (h : chipOf k ≠ 0) : 1 ≤ k ∧ k ≤ 12 := by
  unfold chipOf at h
  repeat' split at h
  all_goals first | omega | exact absurd rfl h

theorem us_may (l : List Int) (hb : AllB l) : ((usX l).May ↔ (evOf (usL l 5)).May) ∧ ((usX l).May → usX l = evOf (usL l 5)) := by
  rw [usQ_X]
  unfold usX
  have l2 := us_lt l hb 2
  have l3 := us_lt l hb 3
  generalize (us l 1).1 = a1 at *
  generalize (us l 2).1 = a2 at *
  generalize (us l 3).1 = a3 at *
  generalize (us l 4).1 = a4 at *
  generalize (us l 5).1 = a5 at *
  have key : (⟨wrap64 a2, chipOf a1, wrap64 a3, a1, a4, a5⟩ : Ev).May → (⟨wrap64 a2, chipOf a1, wrap64 a3, a1, a4, a5⟩ : Ev) = ⟨((min a2 2199023255552 : Nat) : Int), chipOf ((min a1 2199023255552 : Nat) : Int), ((min a3 2199023255552 : Nat) : Int), ((min a1 2199023255552 : Nat) : Int), ((min a4 2199023255552 : Nat) : Int), ((min a5 2199023255552 : Nat) : Int)⟩ := by
    rintro ⟨hc, -, t0, t1, s0, s1, u0, u1, v0, v1⟩
    have hk := chip_bound hc
    simp only at *
    have y2 : wrap64 (a2 : Int) = a2 := by unfold wrap64 at *; omega
    have y3 : wrap64 (a3 : Int) = a3 := by unfold wrap64 at *; omega
    rw [y2] at t0 t1
    rw [y3] at s0 s1
    have x1 : ((min a1 2199023255552 : Nat) : Int) = a1 := by omega
    have x2 : ((min a2 2199023255552 : Nat) : Int) = a2 := by omega
    have x3 : ((min a3 2199023255552 : Nat) : Int) = a3 := by omega
    have x4 : ((min a4 2199023255552 : Nat) : Int) = a4 := by omega
    have x5 : ((min a5 2199023255552 : Nat) : Int) = a5 := by omega
    rw [x1, x2, x3, x4, x5, y2, y3]
  have key2 : (⟨((min a2 2199023255552 : Nat) : Int), chipOf ((min a1 2199023255552 : Nat) : Int), ((min a3 2199023255552 : Nat) : Int), ((min a1 2199023255552 : Nat) : Int), ((min a4 2199023255552 : Nat) : Int), ((min a5 2199023255552 : Nat) : Int)⟩ : Ev).May → (⟨wrap64 a2, chipOf a1, wrap64 a3, a1, a4, a5⟩ : Ev) = ⟨((min a2 2199023255552 : Nat) : Int), chipOf ((min a1 2199023255552 : Nat) : Int), ((min a3 2199023255552 : Nat) : Int), ((min a1 2199023255552 : Nat) : Int), ((min a4 2199023255552 : Nat) : Int), ((min a5 2199023255552 : Nat) : Int)⟩ := by
    rintro ⟨hc, -, t0, t1, s0, s1, u0, u1, v0, v1⟩
    have hk := chip_bound hc
    simp only at *
    have y2 : wrap64 (a2 : Int) = a2 := by unfold wrap64; omega
    have y3 : wrap64 (a3 : Int) = a3 := by unfold wrap64; omega
    have x1 : ((min a1 2199023255552 : Nat) : Int) = a1 := by omega
    have x2 : ((min a2 2199023255552 : Nat) : Int) = a2 := by omega
    have x3 : ((min a3 2199023255552 : Nat) : Int) = a3 := by omega
    have x4 : ((min a4 2199023255552 : Nat) : Int) = a4 := by omega
    have x5 : ((min a5 2199023255552 : Nat) : Int) = a5 := by omega
    rw [x1, x2, x3, x4, x5, y2, y3]
  exact ⟨⟨fun h => key h ▸ h, fun h => (key2 h).symm ▸ h⟩, key⟩

/-- An event's bytes are read alike. -/
theorem ev_agree (l : List Int) (hb : AllB l) : ((erdE l = 0 ∧ (erdX l).May) ↔ (q3E l = 0 ∧ (q3X l).May)) ∧ ((erdE l = 0 ∧ (erdX l).May) → erdX l = q3X l) := by
  obtain ⟨h1, h2⟩ := erd_us l
  obtain ⟨m1, m2⟩ := us_may l hb
  rcases q3_us l 5 with ⟨e0, eq⟩ | ⟨e0, eq⟩
  · have hE : q3E l = endSt l (us l 5).2.1 (us l 5).2.2 := by unfold q3E; rw [eq, e0]; exact endQ_drop _ _
    have hX : q3X l = evOf (usL l 5) := by unfold q3X; rw [eq]
    rw [hE, hX]
    refine ⟨h1.trans ⟨fun h => ⟨h.1, m1.1 h.2⟩, fun h => ⟨h.1, m1.2 h.2⟩⟩, fun h => ?_⟩
    rw [h2 h]
    exact m2 (h1.1 h).2
  · have n1 : ¬ (erdE l = 0 ∧ (erdX l).May) := fun h => endSt_err e0 (h1.1 h).1
    have n2 : ¬ (q3E l = 0 ∧ (q3X l).May) := fun h => endQ_err eq h.1
    exact ⟨⟨fun h => absurd h n1, fun h => absurd h n2⟩, fun h => absurd h n1⟩
end
end Go.Proofs.YthmogabonfkmhaaGreatDoor
