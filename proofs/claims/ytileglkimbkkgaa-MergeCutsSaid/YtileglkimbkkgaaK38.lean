
/- What is cut; where lists differ; numbers of a chip: the plain mathematics. -/
import Derived.Test.YtileglkimbkkgaaK37
import Derived.Test.YtileglkimbkkgaaK22
namespace Go.Proofs.Ytileglkimbkkgaa
open Go.RowKit
set_option linter.unusedSimpArgs false
set_option linter.unusedVariables false

theorem ole_time {x y : Ev} (h : ole x y) : x.time ≤ y.time := by
  by_cases e : x.time = y.time
  · omega
  · have h1 := ord_time x y e
    unfold ole at h
    by_cases e2 : ordE x y = 0
    · exact absurd (congrArg Ev.time ((ord_zero x y).1 e2)) e
    · have := h1.1 (by omega)
      omega
theorem good_times {l : List Ev} (h : Good l) : l.Pairwise fun x y => x.time ≤ y.time := (good_sorted h).imp fun h => ole_time h.1
theorem cut_all (t : Int) : ∀ l : List Ev, (l.Pairwise fun x y => x.time ≤ y.time) → l.filter (aheadOf t) ++ l.filter (behindOf t) = l
  | [], _ => rfl
  | x :: l, h => by
    obtain ⟨h1, h2⟩ := List.pairwise_cons.1 h
    have ih := cut_all t l h2
    by_cases hx : x.time < t
    · have e1 : aheadOf t x = true := decide_eq_true hx
      have e2 : behindOf t x = false := decide_eq_false (by omega)
      rw [List.filter_cons_of_pos e1, List.filter_cons_of_neg (by rw [e2]; decide), List.cons_append, ih]
    · have e1 : aheadOf t x = false := decide_eq_false hx
      have e2 : behindOf t x = true := decide_eq_true (by omega)
      have e3 : l.filter (aheadOf t) = [] := List.filter_eq_nil_iff.2 fun y hy => by
        have := h1 y hy
        have e4 : aheadOf t y = false := decide_eq_false (by omega)
        rw [e4]; decide
      rw [e3, List.nil_append] at ih
      rw [List.filter_cons_of_neg (by rw [e1]; decide), List.filter_cons_of_pos e2, e3, List.nil_append, ih]
theorem filter_at {p : Ev → Bool} {l : List Ev} {i : Nat} (h : i < (l.filter p).length) : p ((l.filter p).getD i evZ) = true := by
  rw [List.getD_eq_getElem?_getD, List.getElem?_eq_getElem h]
  exact (List.mem_filter.1 (List.getElem_mem h)).2

/-- What differL says. -/
structure Diff (l m : List Ev) (k : Nat) : Prop where
  le1 : k ≤ l.length
  le2 : k ≤ m.length
  same : l.take k = m.take k
  not : k < l.length → k < m.length → l.getD k evZ ≠ m.getD k evZ
theorem take_same {l m : List Ev} {k : Nat} (h1 : k ≤ l.length) (h2 : k ≤ m.length) (h : ∀ j, j < k → l.getD j evZ = m.getD j evZ) : l.take k = m.take k := by
  apply List.ext_getElem
  · simp; omega
  · intro i h3 h4
    have hi : i < k := by simp at h3; omega
    have := h i hi
    rw [List.getD_eq_getElem?_getD, List.getElem?_eq_getElem (by omega), List.getD_eq_getElem?_getD, List.getElem?_eq_getElem (by omega)] at this
    simpa using this
theorem first_diff (l m : List Ev) : ∀ n : Nat, (∀ j, j < n → l.getD j evZ = m.getD j evZ) ∨ ∃ k, k < n ∧ (∀ j, j < k → l.getD j evZ = m.getD j evZ) ∧ l.getD k evZ ≠ m.getD k evZ
  | 0 => .inl fun j h => by omega
  | n + 1 => by
    rcases first_diff l m n with h | ⟨k, h1, h2, h3⟩
    · by_cases e : l.getD n evZ = m.getD n evZ
      · left
        intro j hj
        by_cases e2 : j = n
        · subst e2; exact e
        · exact h j (by omega)
      · exact .inr ⟨n, by omega, h, e⟩
    · exact .inr ⟨k, by omega, h2, h3⟩
theorem diff_says (l m : List Ev) : (differL l m 0 = -1 ∧ l = m) ∨ ∃ k : Nat, differL l m 0 = k ∧ differL m l 0 = k ∧ Diff l m k := by
  rcases first_diff l m (min l.length m.length) with h | ⟨k, h1, h2, h3⟩
  · have e1 := differ_end h
    have h' : ∀ j, j < min m.length l.length → m.getD j evZ = l.getD j evZ := fun j hj => (h j (by rw [Nat.min_comm]; exact hj)).symm
    have e2 := differ_end h'
    by_cases e : l.length = m.length
    · left
      rw [if_pos e] at e1
      refine ⟨e1, ?_⟩
      have := take_same (l := l) (m := m) (k := l.length) (Nat.le_refl _) (by omega) (fun j hj => h j (by omega))
      rw [List.take_length] at this
      rw [this, List.take_of_length_le (by omega)]
    · right
      rw [if_neg e] at e1
      rw [if_neg (fun h => e h.symm), Nat.min_comm] at e2
      exact ⟨_, e1, e2, Nat.min_le_left _ _, Nat.min_le_right _ _, take_same (Nat.min_le_left _ _) (Nat.min_le_right _ _) h, fun a b => absurd a (by omega)⟩
  · right
    have a1 : k < l.length := by omega
    have a2 : k < m.length := by omega
    exact ⟨k, differ_at a1 a2 h2 h3, differ_at a2 a1 (fun j hj => (h2 j hj).symm) (fun e => h3 e.symm), by omega, by omega, take_same (by omega) (by omega) h2, fun _ _ => h3⟩

/-- What is numbered: a chip's events are numbered from 0 on. -/
def numL (l : List Ev) : List Ev := numTo l l.length
theorem numL_len (l : List Ev) : (numL l).length = l.length := numTo_len _ _
theorem numL_at (l : List Ev) (i : Nat) (hi : i < l.length) : (numL l).getD i evZ = numAt l i := by unfold numL; rw [numTo_at l _ i hi, if_pos hi]
theorem numL_part (l : List Ev) (c : Int) : ∀ k : Nat, k ≤ l.length → (((numL l).take k).filter (onChip c)).length = cc (l.take k) c ∧ ∀ i, i < (((numL l).take k).filter (onChip c)).length → ((((numL l).take k).filter (onChip c)).getD i evZ).seq = i
  | 0, _ => ⟨by simp [cc], fun i h => by simp at h⟩
  | k + 1, hk => by
    obtain ⟨h1, h2⟩ := numL_part l c k (by omega)
    have hkl : k < l.length := by omega
    have hf := filter_take (onChip c) (numL l) k (by rw [numL_len]; exact hkl)
    have hat := numL_at l k hkl
    have hcc := cc_take l k c hkl
    have hchip : (numAt l k).chip = (l.getD k evZ).chip := rfl
    rw [hat] at hf
    by_cases e : (l.getD k evZ).chip = c
    · have e1 : onChip c (numAt l k) = true := by unfold onChip; rw [hchip, e]; simp
      rw [if_pos e1] at hf
      rw [if_pos e] at hcc
      rw [hf, hcc]
      refine ⟨by rw [List.length_append]; simp; omega, fun i hi => ?_⟩
      by_cases e2 : i < (((numL l).take k).filter (onChip c)).length
      · have := h2 i e2
        rw [List.getD_eq_getElem?_getD, List.getElem?_append_left e2]
        rwa [List.getD_eq_getElem?_getD] at this
      · have e3 : i = (((numL l).take k).filter (onChip c)).length := by rw [List.length_append] at hi; simp at hi; omega
        rw [List.getD_eq_getElem?_getD, List.getElem?_append_right (by omega), e3, Nat.sub_self]
        show (numAt l k).seq = _
        rw [h1, ← e]
        rfl
    · have e1 : onChip c (numAt l k) = false := by unfold onChip; rw [hchip]; simpa using e
      rw [if_neg (by rw [e1]; decide), List.append_nil] at hf
      rw [if_neg e, Int.add_zero] at hcc
      rw [hf, hcc]
      exact ⟨h1, h2⟩
theorem numL_seq (l : List Ev) (c : Int) (i : Nat) (h : i < ((numL l).filter (onChip c)).length) : (((numL l).filter (onChip c)).getD i evZ).seq = i := by
  have h1 := (numL_part l c l.length (Nat.le_refl _)).2 i
  rw [show (numL l).take l.length = numL l from List.take_of_length_le (by rw [numL_len]; exact Nat.le_refl _)] at h1
  exact h1 h
end Go.Proofs.Ytileglkimbkkgaa
