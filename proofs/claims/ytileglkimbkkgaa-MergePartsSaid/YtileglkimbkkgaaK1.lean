
/- Heaps in a list: what it is to be one, what one exchange leaves, the least at the root. Nothing here speaks of the program. -/
import Derived.Test.YtileglkimbkkgaaProg
namespace Go.Proofs.Ytileglkimbkkgaa.Hp

def par (i : Nat) : Nat := (i - 1) / 2
theorem par_lt {i : Nat} (h : 0 < i) : par i < i := by unfold par; omega

section
variable {α : Type} (d : α)

def swp (h : List α) (i j : Nat) : List α := (h.set i (h.getD j d)).set j (h.getD i d)
theorem swp_length (h : List α) (i j : Nat) : (swp d h i j).length = h.length := by simp [swp]
theorem swp_getD (h : List α) (i j k : Nat) (hi : i < h.length) (hj : j < h.length) : (swp d h i j).getD k d = if k = j then h.getD i d else if k = i then h.getD j d else h.getD k d := by
  unfold swp
  simp only [List.getD_eq_getElem?_getD, List.getElem?_set, List.length_set]
  by_cases h1 : k = j
  · subst h1; simp [hj]
  · by_cases h2 : k = i
    · subst h2; simp [h1, Ne.symm h1, hi]
    · simp [h1, h2, Ne.symm h1, Ne.symm h2]
theorem swp_perm (h : List α) (i j : Nat) (hi : i < h.length) (hj : j < h.length) : (swp d h i j).Perm h := by
  have e : swp d h i j = (h.toArray.swap i j (by simpa using hi) (by simpa using hj)).toList := by
    simp [swp, Array.swap, List.getD_eq_getElem?_getD, hi, hj]
  rw [e]
  have := Array.swap_perm (xs := h.toArray) (i := i) (j := j) (by simpa using hi) (by simpa using hj)
  simpa [Array.perm_iff_toList_perm] using this

variable (le : α → α → Prop)
/-- The first n are a heap. -/
def Heap (h : List α) (n : Nat) : Prop := ∀ i, 0 < i → i < n → le (h.getD (par i) d) (h.getD i d)
/-- A heap but at j, which may be too small. -/
def UpI (h : List α) (n j : Nat) : Prop :=
  (∀ i, 0 < i → i < n → i ≠ j → le (h.getD (par i) d) (h.getD i d)) ∧ ∀ i, 0 < i → i < n → par i = j → 0 < j → le (h.getD (par j) d) (h.getD i d)
/-- A heap but at k, which may be too great. -/
def DnI (h : List α) (n k : Nat) : Prop :=
  (∀ i, 0 < i → i < n → par i ≠ k → le (h.getD (par i) d) (h.getD i d)) ∧ ∀ i, 0 < i → i < n → par i = k → 0 < k → le (h.getD (par k) d) (h.getD i d)

variable {d le}
theorem root_least (refl : ∀ a, le a a) (trans : ∀ a b c, le a b → le b c → le a c) {h : List α} {n : Nat} (hh : Heap d le h n) : ∀ i, i < n → le (h.getD 0 d) (h.getD i d) := by
  intro i
  induction i using Nat.strongRecOn with
  | ind i ih =>
    intro hi
    rcases Nat.eq_zero_or_pos i with rfl | h0
    · exact refl _
    · exact trans _ _ _ (ih (par i) (par_lt h0) (Nat.lt_trans (par_lt h0) hi)) (hh i h0 hi)

theorem UpI.done {h : List α} {n j : Nat} (hu : UpI d le h n j) (hs : j = 0 ∨ le (h.getD (par j) d) (h.getD j d)) : Heap d le h n := by
  intro i h0 hi
  by_cases e : i = j
  · subst e
    rcases hs with rfl | hs
    · omega
    · exact hs
  · exact hu.1 i h0 hi e

theorem UpI.step (trans : ∀ a b c, le a b → le b c → le a c) {h : List α} {n j : Nat} (hn : n ≤ h.length) (hj : j < n) (h0 : 0 < j) (hu : UpI d le h n j) (hs : le (h.getD j d) (h.getD (par j) d)) :
    UpI d le (swp d h (par j) j) n (par j) := by
  have hp := par_lt h0
  have g := fun k => swp_getD d h (par j) j k (by omega) (by omega)
  refine ⟨fun i i0 hi hne => ?_, fun i i0 hi hpi hp0 => ?_⟩
  · rw [g, g]
    by_cases e : i = j
    · subst e
      rw [if_pos rfl, if_neg (Nat.ne_of_lt hp), if_pos rfl]
      exact hs
    · rw [if_neg e, if_neg hne]
      have h1 := hu.1 i i0 hi e
      by_cases e1 : par i = j
      · rw [if_pos e1]
        exact hu.2 i i0 hi e1 h0
      · rw [if_neg e1]
        by_cases e2 : par i = par j
        · rw [if_pos e2]
          rw [e2] at h1
          exact trans _ _ _ hs h1
        · rw [if_neg e2]
          exact h1
  · have hpp := par_lt hp0
    rw [g, g, if_neg (by omega), if_neg (by omega)]
    have h1 := hu.1 (par j) hp0 (by omega) (Nat.ne_of_lt hp)
    by_cases e : i = j
    · subst e
      rw [if_pos rfl]
      exact h1
    · have hi' := par_lt i0
      rw [if_neg e, if_neg (by omega)]
      have h2 := hu.1 i i0 hi e
      rw [hpi] at h2
      exact trans _ _ _ h1 h2

theorem DnI.done {h : List α} {n k : Nat} (hu : DnI d le h n k) (hs : ∀ i, 0 < i → i < n → par i = k → le (h.getD k d) (h.getD i d)) : Heap d le h n := by
  intro i h0 hi
  by_cases e : par i = k
  · rw [e]; exact hs i h0 hi e
  · exact hu.1 i h0 hi e

theorem DnI.step {h : List α} {n k j : Nat} (hn : n ≤ h.length) (hj : j < n) (h0 : 0 < j) (hpj : par j = k) (hu : DnI d le h n k) (hs : le (h.getD j d) (h.getD k d))
    (ho : ∀ i, 0 < i → i < n → par i = k → le (h.getD j d) (h.getD i d)) : DnI d le (swp d h k j) n j := by
  have hp : k < j := by have := par_lt h0; omega
  have g := fun x => swp_getD d h k j x (by omega) (by omega)
  refine ⟨fun i i0 hi hne => ?_, fun i i0 hi hpi _ => ?_⟩
  · rw [g, g, if_neg hne]
    by_cases e : par i = k
    · rw [if_pos e]
      by_cases e1 : i = j
      · rw [if_pos e1]; exact hs
      · rw [if_neg e1, if_neg (by have := par_lt i0; omega)]
        exact ho i i0 hi e
    · rw [if_neg e, if_neg (by intro h; subst h; exact e hpj)]
      by_cases e2 : i = k
      · subst e2
        rw [if_pos rfl]
        exact hu.2 j h0 hj hpj i0
      · rw [if_neg e2]
        exact hu.1 i i0 hi e
  · have hi' := par_lt i0
    rw [g, g, hpj, if_neg (by omega), if_pos rfl, if_neg (by omega), if_neg (by omega)]
    have := hu.1 i i0 hi (by omega)
    rw [hpi] at this
    exact this
end
end Go.Proofs.Ytileglkimbkkgaa.Hp
