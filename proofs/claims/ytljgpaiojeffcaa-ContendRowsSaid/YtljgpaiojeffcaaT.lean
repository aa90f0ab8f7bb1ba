
/- A reader's calls in any state: Number, Signed, Block, Count, End; New. -/
import Derived.Test.YtljgpaiojeffcaaR
namespace Go.Proofs.Ytljgpaiojeffcaa
open Go.RowKit
set_option maxRecDepth 100000

/-- What Number does in a state: the number, the place, the error. -/
def numSt (l : List Int) (p : Nat) (e : Int) : Nat × Nat × Int :=
  if e = 0 then ((numRd (l.drop p)).1, p + (numRd (l.drop p)).2.1, (numRd (l.drop p)).2.2) else (0, p, e)

theorem numSt_lt (l : List Int) (p : Nat) (e : Int) (h : AllB l) : (numSt l p e).1 < 18446744073709551616 := by
  unfold numSt; split
  · exact numRd_le _ (h.drop p)
  · simp

/-- What Count does in a state. -/
def countSt (l : List Int) (p : Nat) (e : Int) (most : Int) : Nat × Nat × Int :=
  if ((numSt l p e).1 : Int) > max most 0 then (0, (numSt l p e).2.1, 3) else numSt l p e

/-- What Block does in a state: the bytes, the place, the error. -/
def blockSt (l : List Int) (p : Nat) (e : Int) : List Int × Nat × Int :=
  if 1048576 < (numSt l p e).1 then ([], (numSt l p e).2.1, 3)
  else if (numSt l p e).2.2 ≠ 0 then ([], (numSt l p e).2.1, (numSt l p e).2.2)
  else if l.length - (numSt l p e).2.1 < (numSt l p e).1 then ([], (numSt l p e).2.1, 5)
  else ((l.drop (numSt l p e).2.1).take (numSt l p e).1, (numSt l p e).2.1 + (numSt l p e).1, 0)

theorem grown_below {w w' : World} (h : Below w.heap.size w w') (row : Option Nat) : w.grownBy w' row := ⟨h.os, h.tape, h.output, h.size, fun k hk _ => h.block k hk⟩
/-- What End does in a state. -/
def endSt (l : List Int) (p : Nat) (e : Int) : Int := if e = 0 ∧ p < l.length then 4 else e

theorem OB.from_ {w : World} {B : Nat} {A : Option Addr} {c : Nat} {l : List Int} (h : OB w B A c l) : ∀ a, A = some a → B ≤ a.block := by
  intro a ha
  rcases h.own.2 with ⟨h1, _⟩ | ⟨g, cap, cur, h1, hb, _⟩
  · injection h1 with h3; rw [h3] at ha; cases ha
  · injection h1 with h3; rw [h3] at ha; obtain rfl := Option.some.inj ha; exact hb

section
variable {w w' : World} {lo g g' : Nat} {A : Option Addr} {c : Nat} {l : List Int} {p : Nat} {e : Int}
end

end Go.Proofs.Ytljgpaiojeffcaa
