
/- What MergeBrackets asks of merges: the plain part. -/
import Derived.Test.YtileglkimbkkgaaK18
import Derived.Test.YtileglkimbkkgaaK20
import Derived.Test.YtileglkimbkkgaaK21
namespace Go.Proofs.Ytileglkimbkkgaa
open Go.RowKit
set_option linter.unusedSimpArgs false
set_option linter.unusedVariables false

theorem new_ll (w : World) (L : List Ls) (hr : ∀ x ∈ L, LsAt w w.heap.size x) (hm : L.length ≤ maxLen) (o : Obj) (ho : o = .cells (L.map Ls.val).toArray 25) : LL (w.alloc o) (w.alloc o).heap.size (some ⟨w.heap.size, 0, none⟩) L.length L := by
  subst ho
  have hb := (Below.refl w.heap.size w).alloc (Nat.le_refl _) (.cells (L.map Ls.val).toArray 25)
  refine ⟨Nat.le_refl _, hm, fun h0 => ⟨w.heap.size, 0, rfl, by simp, fun i hi => ?_⟩, fun x hx => ((hr x hx).keep hb.block).more (by simp)⟩
  rw [cell_of_row _ w.heap.size _ _ _ _ (heap_alloc_new w _), List.getElem?_toArray, Nat.zero_add, List.getElem?_map, List.getElem?_eq_getElem hi, List.getD_eq_getElem?_getD, List.getElem?_eq_getElem hi]
  rfl

theorem merge_ok {w w' : World} {L : List Ls} {e : Ending} (h : MergeTo w L e w') (he : ∀ x ∈ L, chk x.l = 0) (hl : (allOf L).length ≤ 4194304) : Below w.heap.size w w' ∧
    ((¬ (allOf L).Nodup ∧ e = .returned (.tuple #[.slice none 0 0, .int .i64 2])) ∨
     ((allOf L).Nodup ∧ ∃ (M : List Ev) (g c : Nat), M.Pairwise (Hp.lt' ole) ∧ M.Perm (allOf L) ∧ e = .returned (.tuple #[.slice (some ⟨g, 0, none⟩) M.length c, .int .i64 0]) ∧ LsAt w' w'.heap.size ⟨some ⟨g, 0, none⟩, c, M⟩)) := by
  have he0 : errs L = 0 := by
    refine errs_none L fun i hi => he _ ?_
    rw [List.getD_eq_getElem?_getD, List.getElem?_eq_getElem hi]
    exact List.getElem_mem hi
  obtain ⟨hb, h⟩ := h
  refine ⟨hb, ?_⟩
  rcases h with ⟨h, _⟩ | ⟨_, h, _⟩ | ⟨_, _, h1, h2⟩ | ⟨_, _, h1, M, g, c, q1, q2, q3, q4⟩
  · exact absurd he0 h
  · omega
  · exact .inl ⟨h1, h2⟩
  · have := own_ls q4 M.length (Nat.le_refl _)
    rw [List.take_length] at this
    exact .inr ⟨h1, M, g, c, q1, q2, q3, this⟩

theorem nil_ls (w : World) (B : Nat) : LsAt w B ⟨none, 0, []⟩ := ⟨Nat.le_refl _, Nat.zero_le _, fun h => absurd h (by simp)⟩

theorem chk_merged {M A : List Ev} (hs : M.Pairwise (Hp.lt' ole)) (hp : M.Perm A) (hm : ∀ e ∈ A, e.May) (hl : A.length ≤ 4194304) : chk M = 0 := by
  unfold chk
  rw [if_neg (by rw [hp.length_eq]; omega), if_pos (sorted_good (fun e he => hm e (hp.mem_iff.1 he)) hs)]

/-- Of a list without the same twice each of its members is there once. -/
theorem count_one {l : List Ev} (h : l.Nodup) : ∀ {e : Ev}, e ∈ l → l.count e = 1 := by
  induction l with
  | nil => intro e he; cases he
  | cons x t ih =>
    intro e he
    rw [List.nodup_cons] at h
    rcases List.mem_cons.1 he with rfl | he
    · rw [List.count_cons_self, List.count_eq_zero_of_not_mem h.1]
    · have hne : x ≠ e := fun e2 => h.1 (e2 ▸ he)
      rw [List.count_cons_of_ne hne, ih h.2 he]
theorem count_take {l : List Ev} {k : Nat} (hk : k < l.length) (e : Ev) : (l.take (k + 1)).count e = (l.take k).count e + if l.getD k evZ = e then 1 else 0 := by
  rw [List.take_succ_eq_append_getElem hk, List.count_append, getD_at l k hk]
  by_cases h : l[k] = e
  · rw [if_pos h, h]; simp
  · rw [if_neg h, List.count_cons_of_ne h]; rfl
end Go.Proofs.Ytileglkimbkkgaa
