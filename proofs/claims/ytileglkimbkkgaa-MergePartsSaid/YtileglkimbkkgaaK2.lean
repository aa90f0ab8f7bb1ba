
/- Lists in order, merged by taking the least head again and again: the plain mathematics. Nothing here speaks of the program. -/
import Derived.Test.YtileglkimbkkgaaK1
namespace Go.Proofs.Ytileglkimbkkgaa.Hp
set_option linter.unusedVariables false
set_option linter.unusedSimpArgs false

theorem flatten_perm {α : Type} {h h' : List (List α)} (p : h.Perm h') : h.flatten.Perm h'.flatten := by
  induction p with
  | nil => exact .refl _
  | cons x _ ih => simpa using ih.append_left x
  | swap x y l =>
    simp only [List.flatten_cons, ← List.append_assoc]
    exact (List.perm_append_comm).append_right _
  | trans _ _ ih1 ih2 => exact ih1.trans ih2

section
variable {α : Type} (z : α) (le : α → α → Prop)

/-- Earlier, and not the same. -/
def lt' (a b : α) : Prop := le a b ∧ a ≠ b
def hdle (a b : List α) : Prop := le (a.headD z) (b.headD z)

structure Merging (total : List α) (h : List (List α)) (M : List α) : Prop where
  some_ : ∀ l ∈ h, l ≠ []
  rows : ∀ l ∈ h, l.Pairwise (lt' le)
  heap : Heap [] (hdle z le) h h.length
  out : M.Pairwise (lt' le)
  behind : ∀ m ∈ M, ∀ e ∈ h.flatten, le m e
  all : (M ++ h.flatten).Perm total

variable {z le}
variable (refl : ∀ a, le a a) (trans : ∀ a b c, le a b → le b c → le a c)

theorem row_least (refl : ∀ a, le a a) {l : List α} (hl : l.Pairwise (lt' le)) (h0 : l ≠ []) : ∀ e ∈ l, le (l.headD z) e := by
  cases l with
  | nil => exact absurd rfl h0
  | cons x l =>
    intro e he
    rcases List.mem_cons.1 he with rfl | he
    · exact refl _
    · exact ((List.pairwise_cons.1 hl).1 e he).1

include refl trans in
theorem Merging.least {total : List α} {h : List (List α)} {M : List α} (hm : Merging z le total h M) : ∀ e ∈ h.flatten, le ((h.getD 0 []).headD z) e := by
  intro e he
  obtain ⟨l, hl, hel⟩ := List.mem_flatten.1 he
  obtain ⟨i, hi, rfl⟩ := List.mem_iff_getElem.1 hl
  have h1 := root_least (le := hdle z le) (fun a => refl _) (fun a b c => trans _ _ _) hm.heap i hi
  have e1 : h.getD i [] = h[i] := by simp [List.getD_eq_getElem?_getD, hi]
  rw [e1] at h1
  exact trans _ _ _ h1 (row_least refl (hm.rows _ hl) (hm.some_ _ hl) e hel)

theorem Merging.last_le {total : List α} {h : List (List α)} {M : List α} (hm : Merging z le total h M) {e : α} (he : e ∈ h.flatten) : ∀ m ∈ M, le m e := fun m hmm => hm.behind m hmm e he

/-- The one that is taken was taken already: two are the same. -/
theorem Merging.twice {total : List α} {h : List (List α)} {M : List α} (hm : Merging z le total h M) {e : α} (he : e ∈ h.flatten) (h1 : e ∈ M) : ¬ total.Nodup := by
  intro hn
  have := hm.all.symm.nodup hn
  rw [List.nodup_append] at this
  exact this.2.2 e h1 e he rfl

/-- The rows behind one that was taken: the heap may have any order. -/
theorem Merging.next {total : List α} {h h' : List (List α)} {M : List α} {e : α} (hm : Merging z le total h M) (hne : e ∉ M) (hmin : ∀ x ∈ h.flatten, le e x) (he : e ∈ h.flatten)
    (hs : ∀ l ∈ h', l ≠ []) (hr : ∀ l ∈ h', l.Pairwise (lt' le)) (hh : Heap [] (hdle z le) h' h'.length) (hp : (e :: h'.flatten).Perm h.flatten) : Merging z le total h' (M ++ [e]) := by
  refine ⟨hs, hr, hh, ?_, ?_, ?_⟩
  · rw [List.pairwise_append]
    refine ⟨hm.out, List.pairwise_singleton _ _, fun m hmm x hx => ?_⟩
    obtain rfl := List.mem_singleton.1 hx
    exact ⟨hm.behind m hmm x he, fun h => hne (h ▸ hmm)⟩
  · intro m hmm x hx
    have hx' : x ∈ h.flatten := hp.mem_iff.1 (List.mem_cons_of_mem _ hx)
    rcases List.mem_append.1 hmm with h1 | h1
    · exact hm.behind m h1 x hx'
    · obtain rfl := List.mem_singleton.1 h1
      exact hmin x hx'
  · rw [List.append_assoc]
    exact (hp.append_left M).trans hm.all

/-- What is in the row that was taken comes last, if it is there at all. -/
theorem last_of {M : List α} {e : α} (anti : ∀ a b, le a b → le b a → a = b) (hM : M.Pairwise (lt' le)) (hb : ∀ m ∈ M, le m e) (he : e ∈ M) : M.getLast? = some e := by
  obtain ⟨i, hi, rfl⟩ := List.mem_iff_getElem.1 he
  rw [List.getLast?_eq_getElem?]
  by_cases h : i = M.length - 1
  · subst h; exact List.getElem?_eq_getElem hi
  · have h1 := (List.pairwise_iff_getElem.1 hM) i (M.length - 1) hi (by omega) (by omega)
    have h2 := hb M[M.length - 1] (List.getElem_mem _)
    exact absurd (anti _ _ h1.1 h2) h1.2

theorem sorted_unique (anti : ∀ a b, le a b → le b a → a = b) {l m : List α} (hl : l.Pairwise (lt' le)) (hm : m.Pairwise (lt' le)) (p : l.Perm m) : l = m :=
  p.eq_of_pairwise (fun a b _ _ h k => anti a b h.1 k.1) hl hm
theorem sorted_nodup {l : List α} (hl : l.Pairwise (lt' le)) : l.Nodup := hl.imp fun h => h.2

end
section
variable {β : Type} {d : β} {leb : β → β → Prop}
/-- The first of the first row is taken, the row behind it is left. -/
theorem fix_dni {h : List β} {l : β} (hh : Heap d leb h h.length) : DnI d leb (h.set 0 l) (h.set 0 l).length 0 := by
  refine ⟨fun i i0 hi hne => ?_, fun i _ _ _ h0 => absurd h0 (by omega)⟩
  have hp := par_lt i0
  have e : ∀ k, k ≠ 0 → (h.set 0 l).getD k d = h.getD k d := fun k hk => by simp [List.getD_eq_getElem?_getD, List.getElem?_set, Ne.symm hk]
  rw [e _ hne, e _ (by omega)]
  exact hh i i0 (by simpa using hi)
theorem pop_dni {h : List β} {n : Nat} (hn : h.length = n + 1) (hh : Heap d leb h h.length) : DnI d leb (swp d h 0 n) n 0 := by
  refine ⟨fun i i0 hi hne => ?_, fun i _ _ _ h0 => absurd h0 (by omega)⟩
  have hp := par_lt i0
  rw [swp_getD d h 0 n _ (by omega) (by omega), swp_getD d h 0 n _ (by omega) (by omega), if_neg (by omega), if_neg hne, if_neg (by omega), if_neg (by omega)]
  exact hh i i0 (by omega)
end
end Go.Proofs.Ytileglkimbkkgaa.Hp
