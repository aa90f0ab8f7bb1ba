
/- Patches of the call's own (OPs); what a reader tells of a memory (takenSt), pure. -/
import Derived.Test.YtflbedomkeophaaSP
import Derived.Test.YtflbedomkeophaaSL
import Derived.Test.YtflbedomkeophaaT
namespace Go.Proofs.Ytflbedomkeophaa
open Go.RowKit
set_option linter.unusedSimpArgs false
set_option linter.unusedVariables false
set_option maxRecDepth 100000

theorem info_patch : (Try.prog.info? 29).map (fun i => (i.zero, i.size, i.bytes)) = some (some (.agg #[.int .i64 0, .int .i64 0, .slice none 0 0]), 3, 40) := by kernel_rfl
def cellsP (ps : List Pt) : List Value := ps.flatMap Pt.cells
theorem cellsP_len (ps : List Pt) : (cellsP ps).length = ps.length * 3 := by
  induction ps with
  | nil => rfl
  | cons x t ih =>
    have hc : x.cells.length = 3 := rfl
    unfold cellsP at ih ⊢
    rw [List.flatMap_cons, List.length_append, hc, ih]
    simp only [List.length_cons]
    omega
theorem cellsP_append (a b : List Pt) : cellsP (a ++ b) = cellsP a ++ cellsP b := by unfold cellsP; exact List.flatMap_append
theorem cellsP_get : ∀ (l : List Pt) (i j : Nat), i < l.length → j < 3 → (cellsP l)[i * 3 + j]? = (l.getD i ptZ).cells[j]? := by
  intro l
  induction l with
  | nil => intro i j h _; simp at h
  | cons x t ih =>
    intro i j h hj
    have hc : x.cells.length = 3 := rfl
    unfold cellsP at ih ⊢
    rw [List.flatMap_cons]
    cases i with
    | zero => rw [List.getElem?_append_left (by rw [hc]; omega)]; simp
    | succ i =>
      rw [List.getElem?_append_right (by rw [hc]; omega), hc, show (i + 1) * 3 + j - 3 = i * 3 + j by omega, ih i j (by simpa using h) hj]
      simp
theorem cellsP_one (ps : List Pt) : ∀ u ∈ cellsP ps, u.oneCell' = true := by
  intro u hu
  obtain ⟨x, _, hx⟩ := List.mem_flatMap.1 hu
  simp only [Pt.cells, List.mem_cons, List.mem_nil_iff, or_false] at hx
  rcases hx with rfl | rfl | rfl <;> rfl
/-- Patches of the call's own, from block B on. -/
structure OPs (w : World) (B : Nat) (v : Value) (ps : List Pt) : Prop where
  row : w.ownsRow B 29 3 v ps.length (cellsP ps)
  own : ∀ x ∈ ps, OB w B x.A x.c x.l
theorem OPs.nil (w : World) (B : Nat) : OPs w B (.slice none 0 0) [] := ⟨World.ownsRow_nil _ _ _ _, fun x hx => by cases hx⟩
theorem own_apart {w : World} {B B' : Nat} {e e' : TypeId} {s s' : Nat} {v u : Value} {n m : Nat} {xs ys : List Value} (h1 : w.ownsRow B e s v n xs) (h2 : w.ownsRow B' e' s' u m ys) (hn : e ≠ e') : u.ownBlock = none ∨ u.ownBlock ≠ v.ownBlock := by
  rcases h2.2 with ⟨e1, _⟩ | ⟨g, cap, cur, e1, hb, hg, _⟩
  · subst e1; exact .inl rfl
  · refine .inr ?_
    rcases h1.2 with ⟨e2, _⟩ | ⟨g2, cap2, cur2, e2, hb2, hg2, _⟩
    · subst e1 e2; intro e; cases e
    · subst e1 e2
      intro e
      injection e with e
      exact types_ne hg hg2 (Ne.symm hn) e
theorem OPs.low {w w' : World} {B : Nat} {v : Value} {ps : List Pt} (h : OPs w B v ps) {r : Option Nat} (hg : w.grownBy w' r) (hr : ∀ k, r = some k → k < B) : OPs w' B v ps := by
  refine ⟨h.row.kept hg ?_, fun x hx => (h.own x hx).grown hg hr⟩
  cases hv : v.ownBlock with
  | none => exact .inl rfl
  | some k => exact .inr fun e => by have := hr k e.symm; have := (h.row.lt k hv).1; omega
theorem OPs.below {w w' : World} {B : Nat} {v : Value} {ps : List Pt} (h : OPs w B v ps) (hb : Below w.heap.size w w') : OPs w' B v ps :=
  h.low (gw_below hb none) (fun k e => by cases e)
theorem OPs.mono {w : World} {B B' : Nat} {v : Value} {ps : List Pt} (h : OPs w B v ps) (hB : B' ≤ B) : OPs w B' v ps := by
  refine ⟨⟨h.row.1, ?_⟩, fun x hx => (h.own x hx).mono hB⟩
  rcases h.row.2 with h1 | ⟨g, cap, cur, h1, hb, h2⟩
  · exact .inl h1
  · exact .inr ⟨g, cap, cur, h1, by omega, h2⟩
/-- What turns in the row of a list of another kind turns no patch. -/
theorem OPs.other {w w' : World} {B B' : Nat} {v u : Value} {ps : List Pt} (h : OPs w B v ps) {e : TypeId} {s n : Nat} {xs : List Value} (hu : w.ownsRow B' e s u n xs) (hg : w.grownBy w' u.ownBlock) (h1 : e ≠ 29) (h2 : e ≠ 5) : OPs w' B v ps :=
  ⟨h.row.kept hg (own_apart hu h.row h1), fun x hx => ⟨(h.own x hx).own.kept hg (own_apart hu (h.own x hx).own h2), (h.own x hx).bytes⟩⟩
theorem OPs.pushed {w w' : World} {B : Nat} {v v' : Value} {ps qs : List Pt} (h : OPs w B v ps) (hq : ∀ x ∈ qs, OB w B x.A x.c x.l) (ho : w'.ownsRow B 29 3 v' (ps.length + qs.length) (cellsP ps ++ cellsP qs)) (hg : w.grownBy w' v.ownBlock) :
    OPs w' B v' (ps ++ qs) := by
  refine ⟨by rw [List.length_append, cellsP_append]; exact ho, fun x hx => ?_⟩
  have hx2 : OB w B x.A x.c x.l := by
    rcases List.mem_append.1 hx with h1 | h1
    · exact h.own x h1
    · exact hq x h1
  exact ⟨hx2.own.kept hg (own_apart h.row hx2.own (by decide)), hx2.bytes⟩
theorem OPs.shape {w : World} {B : Nat} {v : Value} {ps : List Pt} (h : OPs w B v ps) : ∃ A c, v = .slice A ps.length c ∧ (A = none → c = 0) := by
  rcases h.row.2 with ⟨h1, h2⟩ | ⟨g, cap, cur, h1, _⟩
  · exact ⟨none, 0, by rw [h1, h2], fun _ => rfl⟩
  · exact ⟨_, _, h1, fun h => by cases h⟩
theorem OPs.at {w : World} {B : Nat} {A : Option Addr} {c : Nat} {ps : List Pt} (h : OPs w B (.slice A ps.length c) ps) : PtsAt w w.heap.size A c ps := by
  rcases h.row.2 with ⟨h1, h2⟩ | ⟨g, cap, cur, h1, hb, hg, hn, hm, hs, ht⟩
  · injection h1 with e1 e2 e3
    subst e1 e3
    have : ps = [] := List.eq_nil_of_length_eq_zero h2
    subst this
    exact ⟨Nat.le_refl _, by decide, fun h0 => absurd h0 (by decide), fun x hx => by cases hx⟩
  · injection h1 with e1 e2 e3
    subst e1 e3
    refine ⟨hn, hm, fun h0 => ⟨g, 0, rfl, (Array.getElem?_eq_some_iff.1 hg).1, fun i hi j hj => ?_⟩, fun x hx => (h.own x hx).rb⟩
    rw [Nat.zero_add, h.row.cellAt (i * 3 + j) (by omega), cellsP_get ps i j hi hj]
theorem OPs.wf {w : World} {B : Nat} {v : Value} {ps : List Pt} (h : OPs w B v ps) (hb : ∀ x ∈ ps, 0 ≤ x.b ∧ x.b < 1000000 ∧ 0 ≤ x.p ∧ x.p < 1000000 ∧ x.l.length ≤ 140737488355328) : ∀ x ∈ ps, x.wf := fun x hx => by
  obtain ⟨h1, h2, h3, h4, h5⟩ := hb x hx
  refine ⟨WalkArith.wf_i64 (by omega), WalkArith.wf_i64 (by omega), h5, fun hA => ?_⟩
  have ho := h.own x hx
  rw [hA] at ho
  exact ho.rb.none_nil.1

/-- What the loop of taken does. -/
def tkL (l : List Int) : Nat → Nat → Int → List PP → List PP × Nat × Int
  | 0, p, e, acc => (acc, p, e)
  | n + 1, p, e, acc =>
    if (blockSt l (countSt l (countSt l p e 11).2.1 (countSt l p e 11).2.2 16383).2.1 (countSt l (countSt l p e 11).2.1 (countSt l p e 11).2.2 16383).2.2).2.2 ≠ 0 then
      (acc ++ [((countSt l p e 11).1, (countSt l (countSt l p e 11).2.1 (countSt l p e 11).2.2 16383).1, (blockSt l (countSt l (countSt l p e 11).2.1 (countSt l p e 11).2.2 16383).2.1 (countSt l (countSt l p e 11).2.1 (countSt l p e 11).2.2 16383).2.2).1)],
        (blockSt l (countSt l (countSt l p e 11).2.1 (countSt l p e 11).2.2 16383).2.1 (countSt l (countSt l p e 11).2.1 (countSt l p e 11).2.2 16383).2.2).2.1, (blockSt l (countSt l (countSt l p e 11).2.1 (countSt l p e 11).2.2 16383).2.1 (countSt l (countSt l p e 11).2.1 (countSt l p e 11).2.2 16383).2.2).2.2)
    else tkL l n (blockSt l (countSt l (countSt l p e 11).2.1 (countSt l p e 11).2.2 16383).2.1 (countSt l (countSt l p e 11).2.1 (countSt l p e 11).2.2 16383).2.2).2.1 (blockSt l (countSt l (countSt l p e 11).2.1 (countSt l p e 11).2.2 16383).2.1 (countSt l (countSt l p e 11).2.1 (countSt l p e 11).2.2 16383).2.2).2.2
      (acc ++ [((countSt l p e 11).1, (countSt l (countSt l p e 11).2.1 (countSt l p e 11).2.2 16383).1, (blockSt l (countSt l (countSt l p e 11).2.1 (countSt l p e 11).2.2 16383).2.1 (countSt l (countSt l p e 11).2.1 (countSt l p e 11).2.2 16383).2.2).1)])
theorem tkL_step {l : List Int} {n p : Nat} {e : Int} {acc : List PP} {c1 c2 : Nat × Nat × Int} {b : List Int × Nat × Int} (h1 : countSt l p e 11 = c1) (h2 : countSt l c1.2.1 c1.2.2 16383 = c2) (h3 : blockSt l c2.2.1 c2.2.2 = b) :
    tkL l (n + 1) p e acc = if b.2.2 ≠ 0 then (acc ++ [(c1.1, c2.1, b.1)], b.2.1, b.2.2) else tkL l n b.2.1 b.2.2 (acc ++ [(c1.1, c2.1, b.1)]) := by
  rw [tkL, h1, h2, h3]
/-- What taken answers: A, B, the patches, the error. -/
def takenSt (l : List Int) : Nat × Nat × List PP × Int :=
  let a := countSt l 0 0 255
  let b := countSt l a.2.1 a.2.2 255
  let n := countSt l b.2.1 b.2.2 98304
  let r := tkL l n.1 n.2.1 n.2.2 []
  (a.1, b.1, r.1, endSt l r.2.1 r.2.2)
theorem countSt_le (l : List Int) (p : Nat) (e m : Int) (hm : 0 ≤ m) : ((countSt l p e m).1 : Int) ≤ m := by
  unfold countSt
  split
  · show ((0 : Nat) : Int) ≤ m; omega
  · omega
theorem blockSt_all (l : List Int) (p : Nat) (e : Int) (h : AllB l) : AllB (blockSt l p e).1 ∧ (blockSt l p e).1.length ≤ 1048576 := by
  unfold blockSt
  split
  · exact ⟨AllB.nil, Nat.zero_le _⟩
  · split
    · exact ⟨AllB.nil, Nat.zero_le _⟩
    · split
      · exact ⟨AllB.nil, Nat.zero_le _⟩
      · exact ⟨(h.drop _).take _, by rw [List.length_take]; omega⟩
end Go.Proofs.Ytflbedomkeophaa
