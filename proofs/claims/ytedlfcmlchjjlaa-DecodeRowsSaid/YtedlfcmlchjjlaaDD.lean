
/- Instructions (chapter 9): all of a row of bytes, pure; rows of instructions in memory. -/
import Derived.Test.YtedlfcmlchjjlaaDB
import Derived.Laws.AppendOwn
import Derived.OwnWalk
import Derived.Laws.OwnMore
namespace Go.Proofs.Ytedlfcmlchjjlaa
open Go.RowKit
set_option linter.unusedSimpArgs false
set_option linter.unusedVariables false
set_option maxRecDepth 100000

/-- All instructions of a row of bytes, and how many bytes they have. -/
def allF : Nat → List Int → List In × Nat
  | 0, _ => ([], 0)
  | f + 1, l => match ofI l with
    | none => ([], 0)
    | some y => (y :: (allF f (l.drop y.n.toNat)).1, y.n.toNat + (allF f (l.drop y.n.toNat)).2)
def allI (l : List Int) : List In × Nat := allF (l.length + 1) l

theorem allF_more : ∀ (f g : Nat) (l : List Int), AllB l → l.length < f → l.length < g → allF f l = allF g l := by
  intro f
  induction f with
  | zero => intro g l _ h; omega
  | succ f ih =>
    intro g l hb h1 h2
    cases g with
    | zero => omega
    | succ g =>
      unfold allF
      cases h : ofI l with
      | none => rfl
      | some y =>
        have hg := of_got hb h
        have hn : 1 ≤ y.n.toNat := by have := hg.low; omega
        have hl := hg.len
        simp only
        rw [ih g (l.drop y.n.toNat) (hb.drop _) (by rw [List.length_drop]; omega) (by rw [List.length_drop]; omega)]
theorem allI_none {l : List Int} (h : ofI l = none) : allI l = ([], 0) := by
  unfold allI allF
  rw [h]
theorem allI_some {l : List Int} (hb : AllB l) {y : In} (h : ofI l = some y) : allI l = (y :: (allI (l.drop y.n.toNat)).1, y.n.toNat + (allI (l.drop y.n.toNat)).2) := by
  have hg := of_got hb h
  have hn : 1 ≤ y.n.toNat := by have := hg.low; omega
  have hl := hg.len
  have e : allF l.length (l.drop y.n.toNat) = allI (l.drop y.n.toNat) := allF_more _ _ _ (hb.drop _) (by rw [List.length_drop]; omega) (by omega)
  conv => lhs; unfold allI allF
  rw [h]
  simp only
  rw [e]
theorem ofI_short {l : List Int} (hb : AllB l) (h : ofI l = none) : l.length ≤ 3 := by
  by_cases h4 : l.length ≤ 3
  · exact h4
  · exfalso
    obtain ⟨a0, a1⟩ := hb.getD 0
    obtain ⟨b0, b1⟩ := hb.getD 1
    obtain ⟨d0, d1⟩ := hb.getD 3
    have hk : (headL (l.getD 0 0) (l.getD 1 0)).at_ ≤ 3 ∧ isOneI (headL (l.getD 0 0) (l.getD 1 0)).s (headL (l.getD 0 0) (l.getD 1 0)).x (l.getD (headL (l.getD 0 0) (l.getD 1 0)).at_ 0) = true := by
      generalize hA : l.getD 0 0 = a at *
      generalize hB : l.getD 1 0 = b at *
      generalize hD : l.getD 3 0 = d at *
      unfold headL
      by_cases c1 : a = 203
      · rw [if_pos c1]
        refine ⟨by decide, ?_⟩
        show isOneI 1 0 (l.getD 1 0) = true
        rw [hB]; unfold isOneI; rw [isB b0 b1]; rfl
      · rw [if_neg c1]
        by_cases c3 : a = 237
        · rw [if_pos c3]
          refine ⟨by decide, ?_⟩
          show isOneI 2 0 (l.getD 1 0) = true
          rw [hB]; unfold isOneI; rw [isB b0 b1]; rfl
        · rw [if_neg c3]
          by_cases c5 : idxB a = 0 ∨ loneB b = true
          · rw [if_pos c5]
            refine ⟨by decide, ?_⟩
            show isOneI 0 0 (l.getD 0 0) = true
            rw [hA]; unfold isOneI; rw [isB a0 a1]; simp [c1, c3]
          · rw [if_neg c5]
            have c6 : ¬ idxB a = 0 := fun h => c5 (.inl h)
            have c7 : loneB b = false := by cases hl : loneB b; rfl; exact absurd (.inr hl) c5
            have hx : idxB a = 1 ∨ idxB a = 2 := by rcases idx_cases c6 with ⟨_, hx⟩ | ⟨_, hx⟩ <;> omega
            generalize idxB a = x at *
            by_cases c8 : b = 203
            · rw [if_pos c8]
              refine ⟨Nat.le_refl 3, ?_⟩
              show isOneI 3 x (l.getD 3 0) = true
              rw [hD]; exact (nd3 hx d0 d1).1
            · rw [if_neg c8]
              refine ⟨show 1 ≤ 3 by decide, ?_⟩
              show isOneI 0 x (l.getD 1 0) = true
              rw [hB]; unfold isOneI
              rw [isB b0 b1, if_pos rfl, if_pos hx, c7]
              simp [c8]
    obtain ⟨h1, h2⟩ := hk
    have h3 := lenI_four h2
    have e : (of0 l).len = lenI (headL (l.getD 0 0) (l.getD 1 0)).s (headL (l.getD 0 0) (l.getD 1 0)).x (l.getD (headL (l.getD 0 0) (l.getD 1 0)).at_ 0) := rfl
    rw [← e] at h3
    unfold ofI at h
    rw [if_neg (by omega), if_neg (by omega)] at h
    cases h
/-- What is known of all of them. -/
theorem allI_left : ∀ (k : Nat) (l : List Int), l.length ≤ k → AllB l → (allI l).2 ≤ l.length ∧ l.length - (allI l).2 ≤ 3 ∧ (allI l).1.length ≤ l.length := by
  intro k
  induction k with
  | zero =>
    intro l hl hb
    have : l = [] := List.eq_nil_of_length_eq_zero (by omega)
    subst this
    decide
  | succ k ih =>
    intro l hl hb
    cases h : ofI l with
    | none => rw [allI_none h]; have := ofI_short hb h; simp; omega
    | some y =>
      have hg := of_got hb h
      have hn : 1 ≤ y.n.toNat := by have := hg.low; omega
      have hll := hg.len
      rw [allI_some hb h]
      have := ih (l.drop y.n.toNat) (by rw [List.length_drop]; omega) (hb.drop _)
      rw [List.length_drop] at this
      simp only [List.length_cons]
      omega

def inC (i : In) : List Value := [.int .i64 i.s, .int .i64 i.x, .int .i64 i.o, .int .i64 i.d, .int .i64 i.m, .int .i64 i.n]
def rowI (M : List In) : List Value := M.flatMap inC
theorem rowI_len (M : List In) : (rowI M).length = M.length * 6 := by
  induction M with
  | nil => rfl
  | cons x t ih => simp only [rowI, List.flatMap_cons, List.length_append, List.length_cons] at *; rw [ih]; simp [inC]; omega
theorem rowI_one {M : List In} : ∀ u ∈ rowI M, u.oneCell' = true := by
  intro u hu
  obtain ⟨x, _, hx⟩ := List.mem_flatMap.1 hu
  simp only [inC, List.mem_cons, List.mem_nil_iff, or_false] at hx
  rcases hx with rfl | rfl | rfl | rfl | rfl | rfl <;> rfl
theorem rowI_get : ∀ (l : List In) (i j : Nat), i < l.length → j < 6 → (rowI l)[i * 6 + j]? = (inC (l.getD i zeroI))[j]? := by
  intro l
  induction l with
  | nil => intro i j h _; simp at h
  | cons x t ih =>
    intro i j h hj
    have hc : (inC x).length = 6 := rfl
    unfold rowI at ih ⊢
    rw [List.flatMap_cons]
    cases i with
    | zero => rw [List.getElem?_append_left (by rw [hc]; omega)]; simp
    | succ i =>
      rw [List.getElem?_append_right (by rw [hc]; omega), hc, show (i + 1) * 6 + j - 6 = i * 6 + j by omega, ih i j (by simpa using h) hj]
      simp
theorem info_ins : (Try.prog.info? 44).map (fun i => (i.zero, i.size, i.bytes)) = some (some (.agg #[.int .i64 0, .int .i64 0, .int .i64 0, .int .i64 0, .int .i64 0, .int .i64 0]), 6, 48) := by kernel_rfl

/-- An instruction that stands in block b from o on. -/
structure InAt (w : World) (b o : Nat) (i : In) : Prop where
  c0 : w.cell? ⟨b, o, none⟩ = some (.int .i64 i.s)
  c1 : w.cell? ⟨b, o + 1, none⟩ = some (.int .i64 i.x)
  c2 : w.cell? ⟨b, o + 2, none⟩ = some (.int .i64 i.o)
  c3 : w.cell? ⟨b, o + 3, none⟩ = some (.int .i64 i.d)
  c4 : w.cell? ⟨b, o + 4, none⟩ = some (.int .i64 i.m)
  c5 : w.cell? ⟨b, o + 5, none⟩ = some (.int .i64 i.n)
theorem InAt.keep {w w' : World} {b o : Nat} {x : In} (h : InAt w b o x) (hk : w'.heap[b]? = w.heap[b]?) : InAt w' b o x := by
  have e : ∀ i, w'.cell? ⟨b, i, none⟩ = w.cell? ⟨b, i, none⟩ := fun i => World.cell?_of_block hk
  exact ⟨(e _).trans h.c0, (e _).trans h.c1, (e _).trans h.c2, (e _).trans h.c3, (e _).trans h.c4, (e _).trans h.c5⟩
/-- A list of instructions at a slice; it lies below block B. -/
structure IL (w : World) (B : Nat) (A : Option Addr) (c : Nat) (M : List In) : Prop where
  le : M.length ≤ c
  cap : c ≤ maxLen
  at_ : 0 < M.length → ∃ b o, A = some ⟨b, o, Option.none⟩ ∧ b < B ∧ ∀ i, i < M.length → InAt w b (o + i * 6) (M.getD i zeroI)
theorem IL.keep {w w' : World} {B : Nat} {A : Option Addr} {c : Nat} {M : List In} (h : IL w B A c M) (hk : ∀ k, k < B → w'.heap[k]? = w.heap[k]?) : IL w' B A c M :=
  ⟨h.le, h.cap, fun h0 => by
    obtain ⟨b, o, h1, h2, h3⟩ := h.at_ h0
    exact ⟨b, o, h1, h2, fun i hi => (h3 i hi).keep (hk _ h2)⟩⟩
theorem IL.below {w w' : World} {B : Nat} {A : Option Addr} {c : Nat} {M : List In} (h : IL w B A c M) (hb : Below B w w') : IL w' B A c M := h.keep fun k hk => hb.block k hk
theorem IL.more {w : World} {B B' : Nat} {A : Option Addr} {c : Nat} {M : List In} (h : IL w B A c M) (hB : B ≤ B') : IL w B' A c M :=
  ⟨h.le, h.cap, fun h0 => by
    obtain ⟨b, o, h1, h2, h3⟩ := h.at_ h0
    exact ⟨b, o, h1, by omega, h3⟩⟩
/-- A row of the call's own, as a list. -/
theorem IL.own {w : World} {base c : Nat} {A : Option Addr} {M : List In} (h : w.ownsRow base 44 6 (.slice A M.length c) M.length (rowI M)) : IL w w.heap.size A c M := by
  rcases h.2 with ⟨h1, h2⟩ | ⟨g, cap, cur, h1, hb, hg, hn, hm, hs⟩
  · injection h1 with h3 h4 h5
    exact ⟨by omega, by subst h5; unfold maxLen; omega, fun h0 => absurd h0 (by omega)⟩
  · injection h1 with h3 h4 h5
    subst h3
    have hlt := (h.lt g rfl).2
    refine ⟨by omega, by omega, fun h0 => ⟨g, 0, rfl, hlt, fun i hi => ?_⟩⟩
    have e : ∀ j, j < 6 → w.cell? ⟨g, 0 + i * 6 + j, none⟩ = (inC (M.getD i zeroI))[j]? := fun j hj => by
      rw [h.cellAt _ (by omega), Nat.zero_add, rowI_get M i j hi hj]
    exact ⟨e 0 (by decide), e 1 (by decide), e 2 (by decide), e 3 (by decide), e 4 (by decide), e 5 (by decide)⟩
/-- APPEND OF ONE to a row of the call's own. -/
theorem wpList_append_ins {w : World} {ops : Array Oper} {rest : List Oper} {o : Oper} {a : Act} {Q : Exit → Act → World → Prop} (hg : o.guard = none) (s x : Operand) (t : TypeId)
    (hop : o.op = Op.call { callee := Callee.builtin Builtin.append, args := #[s, x], argTypes := #[t, t] }) (h1 : Try.prog.underlying t = some (.slice 44))
    (base : Nat) (v : Value) (M : List In) (hs : a.eval s = v) (hown : w.ownsRow base 44 6 v M.length (rowI M)) (g : Nat) (y : In) (hx : a.eval x = .slice (some ⟨g, 0, none⟩) 1 1) (hy : InW w g y)
    (b1 : M.length ≤ 1000000) (hbase : base ≤ w.heap.size)
    (hK : ∀ v' w', w'.ownsRow base 44 6 v' (M ++ [y]).length (rowI (M ++ [y])) → w.grownBy w' v.ownBlock → wpList Try.prog ops Q rest (a.put o.dst v') w') :
    wpList Try.prog ops Q (o :: rest) a w := by
  obtain ⟨i0, hi, hz0, hz1, hz2⟩ := info_parts info_ins
  have hr : rowI (M ++ [y]) = rowI M ++ rowI [y] := by unfold rowI; rw [List.flatMap_append]
  have hc : ∀ j u, (rowI [y])[j]? = some u → w.cell? ((⟨g, 0, none⟩ : Addr).add j) = some u := by
    intro j u hu
    have hj : j < 6 := by
      have := (List.getElem?_eq_some_iff.1 hu).1
      rwa [rowI_len] at this
    have hadd : (⟨g, 0, none⟩ : Addr).add j = ⟨g, j, none⟩ := by unfold Addr.add; split <;> simp_all
    rw [hadd]
    have hu2 : y.cells[j]? = some u := by
      have : (rowI [y])[j]? = y.cells[j]? := by unfold rowI In.cells; simp [inC]
      rw [← this]; exact hu
    exact InW.at_ hy j u hu2
  refine wpList_append_own w hg s x t hop base 44 i0 _ 6 48 h1 hi hz0 hz1 hz2 rfl (by decide) v M.length (rowI M) hs hown ⟨g, 0, none⟩ 1 1 (rowI [y]) hx (rowI_len _) hc rowI_one (by unfold maxLen; omega) (by omega) hbase ?_
  intro v' w' q1 q2 _
  refine hK v' w' ?_ q2
  rw [hr, List.length_append]
  exact q1
end Go.Proofs.Ytedlfcmlchjjlaa
