/-   -/
import Derived.Test.YthnbpdcjooifbaaProg
namespace Go.Proofs.Ythnbpdcjooifbaa.Hp

def par (i : Nat) : Nat := (i - 1) / 2
theorem par_lt {i : Nat} (h : 0 < i) : par i < i := by unfold par; omega

section
variable {α : Type} (d : α)

def swp (h : List α) (i j : Nat) : List α := (h.set i (h.getD j d)).set j (h.getD i d)
theorem swp_length (h : List α) (i j : Nat) : (swp d h i j).length = h.length := by simp [swp]
theorem swp_getD (h : List α) (i j k : Nat) (hi : i < h.length) (hj : j < h.length) : (swp d h i j).getD k d = if k = j then h.getD i d else if k = i then h.getD j d else h.getD k d := by
  unfold swp
  simp only [List.getD_eq_getElem?_getD, List.getElem?_set, List.length_set]
  by_cases h1 : k = j
  · subst h1; simp [hj]
  · by_cases h2 : k = i
    · subst h2; simp [h1, Ne.symm h1, hi]
    · simp [h1, h2, Ne.symm h1, Ne.symm h2]
theorem swp_perm (h : List α) (i j : Nat) (hi : i < h.length) (hj : j < h.length) : (swp d h i j).Perm h := by
  have e : swp d h i j = (h.toArray.swap i j (by simpa using hi) (by simpa using hj)).toList := by
    simp [swp, Array.swap, List.getD_eq_getElem?_getD, hi, hj]
  rw [e]
  have := Array.swap_perm (xs := h.toArray) (i := i) (j := j) (by simpa using hi) (by simpa using hj)
  simpa [Array.perm_iff_toList_perm] using this

variable (le : α → α → Prop)
/-- The first n are a heap. -/
def Heap (h : List α) (n : Nat) : Prop := ∀ i, 0 < i → i < n → le (h.getD (par i) d) (h.getD i d)
/-- A heap but at j, which may be too small. -/
def UpI (h : List α) (n j : Nat) : Prop :=
  (∀ i, 0 < i → i < n → i ≠ j → le (h.getD (par i) d) (h.getD i d)) ∧ ∀ i, 0 < i → i < n → par i = j → 0 < j → le (h.getD (par j) d) (h.getD i d)
/-- A heap but at k, which may be too great. -/
def DnI (h : List α) (n k : Nat) : Prop :=
  (∀ i, 0 < i → i < n → par i ≠ k → le (h.getD (par i) d) (h.getD i d)) ∧ ∀ i, 0 < i → i < n → par i = k → 0 < k → le (h.getD (par k) d) (h.getD i d)

variable {d le}
theorem root_least (refl : ∀ a, le a a) (trans : ∀ a b c, le a b → le b c → le a c) {h : List α} {n : Nat} (hh : Heap d le h n) : ∀ i, i < n → le (h.getD 0 d) (h.getD i d) := by
  intro i
  induction i using Nat.strongRecOn with
  | ind i ih =>
    intro hi
    rcases Nat.eq_zero_or_pos i with rfl | h0
    · exact refl _
    · exact trans _ _ _ (ih (par i) (par_lt h0) (Nat.lt_trans (par_lt h0) hi)) (hh i h0 hi)

theorem UpI.done {h : List α} {n j : Nat} (hu : UpI d le h n j) (hs : j = 0 ∨ le (h.getD (par j) d) (h.getD j d)) : Heap d le h n := by
  intro i h0 hi
  by_cases e : i = j
  · subst e
    rcases hs with rfl | hs
    · omega
    · exact hs
  · exact hu.1 i h0 hi e

theorem UpI.step (trans : ∀ a b c, le a b → le b c → le a c) {h : List α} {n j : Nat} (hn : n ≤ h.length) (hj : j < n) (h0 : 0 < j) (hu : UpI d le h n j) (hs : le (h.getD j d) (h.getD (par j) d)) :
    UpI d le (swp d h (par j) j) n (par j) := by
  have hp := par_lt h0
  have g := fun k => swp_getD d h (par j) j k (by omega) (by omega)
  refine ⟨fun i i0 hi hne => ?_, fun i i0 hi hpi hp0 => ?_⟩
  · rw [g, g]
    by_cases e : i = j
    · subst e
      rw [if_pos rfl, if_neg (Nat.ne_of_lt hp), if_pos rfl]
      exact hs
    · rw [if_neg e, if_neg hne]
      have h1 := hu.1 i i0 hi e
      by_cases e1 : par i = j
      · rw [if_pos e1]
        exact hu.2 i i0 hi e1 h0
      · rw [if_neg e1]
        by_cases e2 : par i = par j
        · rw [if_pos e2]
          rw [e2] at h1
          exact trans _ _ _ hs h1
        · rw [if_neg e2]
          exact h1
  · have hpp := par_lt hp0
    rw [g, g, if_neg (by omega), if_neg (by omega)]
    have h1 := hu.1 (par j) hp0 (by omega) (Nat.ne_of_lt hp)
    by_cases e : i = j
    · subst e
      rw [if_pos rfl]
      exact h1
    · have hi' := par_lt i0
      rw [if_neg e, if_neg (by omega)]
      have h2 := hu.1 i i0 hi e
      rw [hpi] at h2
      exact trans _ _ _ h1 h2

theorem DnI.done {h : List α} {n k : Nat} (hu : DnI d le h n k) (hs : ∀ i, 0 < i → i < n → par i = k → le (h.getD k d) (h.getD i d)) : Heap d le h n := by
  intro i h0 hi
  by_cases e : par i = k
  · rw [e]; exact hs i h0 hi e
  · exact hu.1 i h0 hi e

theorem DnI.step {h : List α} {n k j : Nat} (hn : n ≤ h.length) (hj : j < n) (h0 : 0 < j) (hpj : par j = k) (hu : DnI d le h n k) (hs : le (h.getD j d) (h.getD k d))
    (ho : ∀ i, 0 < i → i < n → par i = k → le (h.getD j d) (h.getD i d)) : DnI d le (swp d h k j) n j := by
  have hp : k < j := by have := par_lt h0; omega
  have g := fun x => swp_getD d h k j x (by omega) (by omega)
  refine ⟨fun i i0 hi hne => ?_, fun i i0 hi hpi _ => ?_⟩
  · rw [g, g, if_neg hne]
    by_cases e : par i = k
    · rw [if_pos e]
      by_cases e1 : i = j
      · rw [if_pos e1]; exact hs
      · rw [if_neg e1, if_neg (by have := par_lt i0; omega)]
        exact ho i i0 hi e
    · rw [if_neg e, if_neg (by intro h; subst h; exact e hpj)]
      by_cases e2 : i = k
      · subst e2
        rw [if_pos rfl]
        exact hu.2 j h0 hj hpj i0
      · rw [if_neg e2]
        exact hu.1 i i0 hi e
  · have hi' := par_lt i0
    rw [g, g, hpj, if_neg (by omega), if_pos rfl, if_neg (by omega), if_neg (by omega)]
    have := hu.1 i i0 hi (by omega)
    rw [hpi] at this
    exact this
end
end Go.Proofs.Ythnbpdcjooifbaa.Hp
namespace Go.Proofs.Ythnbpdcjooifbaa.Hp
set_option linter.unusedVariables false
set_option linter.unusedSimpArgs false

theorem flatten_perm {α : Type} {h h' : List (List α)} (p : h.Perm h') : h.flatten.Perm h'.flatten := by
  induction p with
  | nil => exact .refl _
  | cons x _ ih => simpa using ih.append_left x
  | swap x y l =>
    simp only [List.flatten_cons, ← List.append_assoc]
    exact (List.perm_append_comm).append_right _
  | trans _ _ ih1 ih2 => exact ih1.trans ih2

section
variable {α : Type} (z : α) (le : α → α → Prop)

/-- Earlier, and not the same. -/
def lt' (a b : α) : Prop := le a b ∧ a ≠ b
def hdle (a b : List α) : Prop := le (a.headD z) (b.headD z)

structure Merging (total : List α) (h : List (List α)) (M : List α) : Prop where
  some_ : ∀ l ∈ h, l ≠ []
  rows : ∀ l ∈ h, l.Pairwise (lt' le)
  heap : Heap [] (hdle z le) h h.length
  out : M.Pairwise (lt' le)
  behind : ∀ m ∈ M, ∀ e ∈ h.flatten, le m e
  all : (M ++ h.flatten).Perm total

variable {z le}
variable (refl : ∀ a, le a a) (trans : ∀ a b c, le a b → le b c → le a c)

theorem row_least (refl : ∀ a, le a a) {l : List α} (hl : l.Pairwise (lt' le)) (h0 : l ≠ []) : ∀ e ∈ l, le (l.headD z) e := by
  cases l with
  | nil => exact absurd rfl h0
  | cons x l =>
    intro e he
    rcases List.mem_cons.1 he with rfl | he
    · exact refl _
    · exact ((List.pairwise_cons.1 hl).1 e he).1

include refl trans in
theorem Merging.least {total : List α} {h : List (List α)} {M : List α} (hm : Merging z le total h M) : ∀ e ∈ h.flatten, le ((h.getD 0 []).headD z) e := by
  intro e he
  obtain ⟨l, hl, hel⟩ := List.mem_flatten.1 he
  obtain ⟨i, hi, rfl⟩ := List.mem_iff_getElem.1 hl
  have h1 := root_least (le := hdle z le) (fun a => refl _) (fun a b c => trans _ _ _) hm.heap i hi
  have e1 : h.getD i [] = h[i] := by simp [List.getD_eq_getElem?_getD, hi]
  rw [e1] at h1
  exact trans _ _ _ h1 (row_least refl (hm.rows _ hl) (hm.some_ _ hl) e hel)

theorem Merging.last_le {total : List α} {h : List (List α)} {M : List α} (hm : Merging z le total h M) {e : α} (he : e ∈ h.flatten) : ∀ m ∈ M, le m e := fun m hmm => hm.behind m hmm e he

/-- The one that is taken was taken already: two are the same. -/
theorem Merging.twice {total : List α} {h : List (List α)} {M : List α} (hm : Merging z le total h M) {e : α} (he : e ∈ h.flatten) (h1 : e ∈ M) : ¬ total.Nodup := by
  intro hn
  have := hm.all.symm.nodup hn
  rw [List.nodup_append] at this
  exact this.2.2 e h1 e he rfl

/-- The rows behind one that was taken: the heap may have any order. -/
theorem Merging.next {total : List α} {h h' : List (List α)} {M : List α} {e : α} (hm : Merging z le total h M) (hne : e ∉ M) (hmin : ∀ x ∈ h.flatten, le e x) (he : e ∈ h.flatten)
    (hs : ∀ l ∈ h', l ≠ []) (hr : ∀ l ∈ h', l.Pairwise (lt' le)) (hh : Heap [] (hdle z le) h' h'.length) (hp : (e :: h'.flatten).Perm h.flatten) : Merging z le total h' (M ++ [e]) := by
  refine ⟨hs, hr, hh, ?_, ?_, ?_⟩
  · rw [List.pairwise_append]
    refine ⟨hm.out, List.pairwise_singleton _ _, fun m hmm x hx => ?_⟩
    obtain rfl := List.mem_singleton.1 hx
    exact ⟨hm.behind m hmm x he, fun h => hne (h ▸ hmm)⟩
  · intro m hmm x hx
    have hx' : x ∈ h.flatten := hp.mem_iff.1 (List.mem_cons_of_mem _ hx)
    rcases List.mem_append.1 hmm with h1 | h1
    · exact hm.behind m h1 x hx'
    · obtain rfl := List.mem_singleton.1 h1
      exact hmin x hx'
  · rw [List.append_assoc]
    exact (hp.append_left M).trans hm.all

/-- What is in the row that was taken comes last, if it is there at all. -/
theorem last_of {M : List α} {e : α} (anti : ∀ a b, le a b → le b a → a = b) (hM : M.Pairwise (lt' le)) (hb : ∀ m ∈ M, le m e) (he : e ∈ M) : M.getLast? = some e := by
  obtain ⟨i, hi, rfl⟩ := List.mem_iff_getElem.1 he
  rw [List.getLast?_eq_getElem?]
  by_cases h : i = M.length - 1
  · subst h; exact List.getElem?_eq_getElem hi
  · have h1 := (List.pairwise_iff_getElem.1 hM) i (M.length - 1) hi (by omega) (by omega)
    have h2 := hb M[M.length - 1] (List.getElem_mem _)
    exact absurd (anti _ _ h1.1 h2) h1.2

theorem sorted_unique (anti : ∀ a b, le a b → le b a → a = b) {l m : List α} (hl : l.Pairwise (lt' le)) (hm : m.Pairwise (lt' le)) (p : l.Perm m) : l = m :=
  p.eq_of_pairwise (fun a b _ _ h k => anti a b h.1 k.1) hl hm
theorem sorted_nodup {l : List α} (hl : l.Pairwise (lt' le)) : l.Nodup := hl.imp fun h => h.2

end
section
variable {β : Type} {d : β} {leb : β → β → Prop}
/-- The first of the first row is taken, the row behind it is left. -/
theorem fix_dni {h : List β} {l : β} (hh : Heap d leb h h.length) : DnI d leb (h.set 0 l) (h.set 0 l).length 0 := by
  refine ⟨fun i i0 hi hne => ?_, fun i _ _ _ h0 => absurd h0 (by omega)⟩
  have hp := par_lt i0
  have e : ∀ k, k ≠ 0 → (h.set 0 l).getD k d = h.getD k d := fun k hk => by simp [List.getD_eq_getElem?_getD, List.getElem?_set, Ne.symm hk]
  rw [e _ hne, e _ (by omega)]
  exact hh i i0 (by simpa using hi)
theorem pop_dni {h : List β} {n : Nat} (hn : h.length = n + 1) (hh : Heap d leb h h.length) : DnI d leb (swp d h 0 n) n 0 := by
  refine ⟨fun i i0 hi hne => ?_, fun i _ _ _ h0 => absurd h0 (by omega)⟩
  have hp := par_lt i0
  rw [swp_getD d h 0 n _ (by omega) (by omega), swp_getD d h 0 n _ (by omega) (by omega), if_neg (by omega), if_neg hne, if_neg (by omega), if_neg (by omega)]
  exact hh i i0 (by omega)
end
end Go.Proofs.Ythnbpdcjooifbaa.Hp
