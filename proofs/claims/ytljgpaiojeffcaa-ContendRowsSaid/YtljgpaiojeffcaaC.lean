
/- What slices.Grow, Concat, Clone and the kit's Own do with bytes. -/
import Derived.Test.YtljgpaiojeffcaaB
import Derived.Lib.AppendZeros
import Derived.Lib.Hide
namespace Go.Proofs.Ytljgpaiojeffcaa
open Go.RowKit
set_option maxRecDepth 100000

/-- The answer is a slice of the call's own with the elements l; nothing below B has turned. -/
def Fresh (B : Nat) (w : World) (l : List Int) (e : Ending) (w' : World) : Prop :=
  ∃ A c, e = .returned (.slice A l.length c) ∧ OB w' B A c l ∧ Below B w w'

/-- What is fresh behind more is fresh. -/
theorem Fresh.of {B : Nat} {w w1 : World} {l : List Int} {e : Ending} {w' : World} (h : Fresh w1.heap.size w1 l e w') (hb : Below B w w1) (hB : B ≤ w1.heap.size) : Fresh B w l e w' := by
  obtain ⟨A, c, he, ho, hbl⟩ := h
  exact ⟨A, c, he, ho.mono hB, hb.trans (hbl.mono hB)⟩

/-- Grow(nil, n): an empty slice with room of the call's own, or nil. -/
def Room (B : Nat) (w : World) (e : Ending) (w' : World) : Prop :=
  ∃ A c, e = .returned (.slice A 0 c) ∧ OB w' B A c [] ∧ Below B w w'

/-- The pieces of a slice of slices. -/
structure Piece where
  A : Option Addr
  c : Nat
  l : List Int

def flat (ps : List Piece) : List Int := (ps.map (·.l)).flatten
theorem flat_nil : flat [] = [] := rfl
theorem flat_take (ps : List Piece) (k : Nat) (h : k < ps.length) : flat (ps.take (k + 1)) = flat (ps.take k) ++ ps[k].l := by
  unfold flat; rw [List.take_succ_eq_append_getElem h, List.map_append, List.flatten_append]; simp only [List.map_cons, List.map_nil, List.flatten_cons, List.flatten_nil, List.append_nil]
theorem flat_le (ps : List Piece) (k : Nat) : (flat (ps.take k)).length ≤ (flat ps).length := by
  have h : flat ps = flat (ps.take k) ++ flat (ps.drop k) := by
    conv => lhs; rw [← List.take_append_drop k ps]
    unfold flat; rw [List.map_append, List.flatten_append]
  rw [h, List.length_append]; omega
theorem flat_all (ps : List Piece) (k : Nat) (h : ps.length ≤ k) : flat (ps.take k) = flat ps := by rw [List.take_of_length_le h]

end Go.Proofs.Ytljgpaiojeffcaa
