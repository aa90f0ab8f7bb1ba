
/- A list of events appended to a row of the call's own. -/
import Derived.Test.YtileglkimbkkgaaK19
namespace Go.Proofs.Ytileglkimbkkgaa
open Go.RowKit
set_option linter.unusedSimpArgs false
set_option linter.unusedVariables false

theorem row_get : ∀ (l : List Ev) (i j : Nat), i < l.length → j < 6 → (rowV l)[i * 6 + j]? = (l.getD i evZ).cells[j]? := by
  intro l
  induction l with
  | nil => intro i j h _; simp at h
  | cons x t ih =>
    intro i j h hj
    have hc : x.cells.length = 6 := rfl
    unfold rowV at ih ⊢
    rw [List.flatMap_cons]
    cases i with
    | zero => rw [List.getElem?_append_left (by rw [hc]; omega)]; simp
    | succ i =>
      rw [List.getElem?_append_right (by rw [hc]; omega), hc, show (i + 1) * 6 + j - 6 = i * 6 + j by omega, ih i j (by simpa using h) hj]
      simp

theorem rowV_one {M : List Ev} : ∀ u ∈ rowV M, u.oneCell' = true := by
  intro u hu
  obtain ⟨x, _, hx⟩ := List.mem_flatMap.1 hu
  simp only [Ev.cells, List.mem_cons, List.mem_nil_iff, or_false] at hx
  rcases hx with rfl | rfl | rfl | rfl | rfl | rfl <;> rfl

theorem EvAt.cell {w : World} {b o : Nat} {x : Ev} (h : EvAt w b o x) {j : Nat} (hj : j < 6) : w.cell? ⟨b, o + j, none⟩ = x.cells[j]? := by
  match j, hj with
  | 0, _ => exact h.c0
  | 1, _ => exact h.c1
  | 2, _ => exact h.c2
  | 3, _ => exact h.c3
  | 4, _ => exact h.c4
  | 5, _ => exact h.c5

/-- The cells of a list that stands in memory. -/
theorem LsAt.cells {w : World} {B : Nat} {y : Ls} (h : LsAt w B y) {ad : Addr} (hA : y.A = some ad) : ∀ j u, (rowV y.l)[j]? = some u → w.cell? (ad.add j) = some u := by
  intro j u hu
  have hj : j < y.l.length * 6 := by
    have := (List.getElem?_eq_some_iff.1 hu).1
    rwa [cells_len] at this
  obtain ⟨b, o, h1, _, h3⟩ := h.at_ (by omega)
  rw [hA] at h1
  obtain rfl := Option.some.inj h1
  have hadd : (⟨b, o, none⟩ : Addr).add j = ⟨b, o + j, none⟩ := by unfold Addr.add; split <;> simp_all
  have hdm : j = j / 6 * 6 + j % 6 := by omega
  have h6 : j % 6 < 6 := Nat.mod_lt _ (by decide)
  rw [hadd, show o + j = o + j / 6 * 6 + j % 6 by omega, (h3 (j / 6) (by omega)).cell h6]
  rw [hdm, row_get y.l (j / 6) (j % 6) (by omega) h6] at hu
  exact hu

/-- APPEND OF A LIST, whatever its shape, to a row of the call's own. -/
theorem wpList_append_ls {w : World} {ops : Array Oper} {rest : List Oper} {o : Oper} {a : Act} {Q : Exit → Act → World → Prop} (hg : o.guard = none) (s x : Operand) (t : TypeId)
    (hop : o.op = Op.call { callee := Callee.builtin Builtin.append, args := #[s, x], argTypes := #[t, t] }) (h1 : Try.prog.underlying t = some (.slice 23))
    (base : Nat) (v : Value) (M : List Ev) (hs : a.eval s = v) (hown : w.ownsRow base 23 6 v M.length (rowV M)) (B : Nat) (y : Ls) (hx : a.eval x = y.val) (hy : LsAt w B y) (hn : y.A = none → y.c = 0)
    (b1 : (M ++ y.l).length ≤ 2932031007402) (hbase : base ≤ w.heap.size)
    (hK : ∀ v' w', w'.ownsRow base 23 6 v' (M ++ y.l).length (rowV (M ++ y.l)) → w.grownBy w' v.ownBlock → wpList Try.prog ops Q rest (a.put o.dst v') w') :
    wpList Try.prog ops Q (o :: rest) a w := by
  obtain ⟨i0, hi, hz0, hz1, hz2⟩ := info_parts info_ev
  have hr : rowV (M ++ y.l) = rowV M ++ rowV y.l := by unfold rowV; rw [List.flatMap_append]
  rw [List.length_append] at b1
  cases hA : y.A with
  | none =>
    have hl : y.l = [] := by
      by_cases h0 : 0 < y.l.length
      · obtain ⟨b, o, e, _⟩ := hy.at_ h0
        rw [hA] at e; cases e
      · exact List.eq_nil_of_length_eq_zero (by omega)
    refine wpList_append_own_none hg s x t hop base 23 i0 6 h1 hi v M.length (rowV M) hs hown (by rw [hx]; unfold Ls.val; rw [hA, hl, hn hA]; rfl) ?_
    exact hK v w (by rw [hl, List.append_nil]; exact hown) (World.grownBy.refl _ _)
  | some ad =>
    refine wpList_append_own w hg s x t hop base 23 i0 _ 6 48 h1 hi hz0 hz1 hz2 rfl (by decide) v M.length (rowV M) hs hown ad y.l.length y.c (rowV y.l) (by rw [hx]; unfold Ls.val; rw [hA]) (cells_len _) (hy.cells hA) rowV_one (by unfold maxLen; omega) (by omega) hbase ?_
    intro v' w' q1 q2 _
    refine hK v' w' ?_ q2
    rw [hr, List.length_append]
    exact q1
end Go.Proofs.Ytileglkimbkkgaa
