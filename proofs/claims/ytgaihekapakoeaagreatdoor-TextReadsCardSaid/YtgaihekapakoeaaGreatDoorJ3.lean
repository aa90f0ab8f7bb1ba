/-           -/
import Derived.Test.YtgaihekapakoeaaGreatDoorZB
import Derived.ProofKit
import Derived.OpenShut
import Derived.Lib.AppendZeros
import Derived.Lib.Hide
import Derived.Lib.BitFns
import Derived.Shelf.Strconv.Itoa0
import Derived.Test.YtgaihekapakoeaaGreatDoorProg
import Derived.Deep.QuietTactic
import Derived.BigQuiet
import Derived.Lib.SlBytesConst
import Derived.Test.YtgaihekapakoeaaGreatDoorJ1
set_option linter.unusedVariables false
set_option linter.unusedSimpArgs false
namespace Go.Proofs.YtgaihekapakoeaaGreatDoor
open Go.RowKit Go.ChangeShapes Go.WideShapes Go.ChangeAt

theorem own : ownKnob Tryz.prog.godebug = none := by kernel_rfl
theorem laidOut : laidOutB Tryz.prog = true := by kernel_rfl

end Go.Proofs.YtgaihekapakoeaaGreatDoor
namespace Go.Proofs.YtgaihekapakoeaaGreatDoor
open Go.RowKit
set_option maxRecDepth 100000

def Fresh (B : Nat) (w : World) (l : List Int) (e : Ending) (w' : World) : Prop :=
 ∃ A c, e = .returned (.slice A l.length c) ∧ OB w' B A c l ∧ Below B w w'

theorem Fresh.of {B : Nat} {w w1 : World} {l : List Int} {e : Ending} {w' : World} (h : Fresh w1.heap.size w1 l e w') (hb : Below B w w1) (hB : B ≤ w1.heap.size) : Fresh B w l e w' := by
 obtain ⟨A, c, he, ho, hbl⟩ := h
 exact ⟨A, c, he, ho.mono hB, hb.trans (hbl.mono hB)⟩

end Go.Proofs.YtgaihekapakoeaaGreatDoor
namespace Go.Proofs.YtgaihekapakoeaaGreatDoor
open Go.RowKit

end Go.Proofs.YtgaihekapakoeaaGreatDoor
namespace Go.Proofs.YtgaihekapakoeaaGreatDoor

end Go.Proofs.YtgaihekapakoeaaGreatDoor
namespace Go.Proofs.YtgaihekapakoeaaGreatDoor
open Go.Shelf
end Go.Proofs.YtgaihekapakoeaaGreatDoor
namespace Go.Proofs.YtgaihekapakoeaaGreatDoor
open Go.RowKit
set_option maxRecDepth 100000

theorem wrap8 (y : Nat) : IntKind.u8.wrap (y : Int) = ((y % 256 : Nat) : Int) := by rw [IntKind.wrap_u8]; omega

end Go.Proofs.YtgaihekapakoeaaGreatDoor
namespace Go.Proofs.YtgaihekapakoeaaGreatDoor
open Go.RowKit
set_option maxRecDepth 100000

section
variable {w w' : World} {g : Nat} {A : Option Addr} {c : Nat} {l : List Int} {p : Nat} {e : Int}

end

end Go.Proofs.YtgaihekapakoeaaGreatDoor
namespace Go.Proofs.YtgaihekapakoeaaGreatDoor
open Go.RowKit
set_option maxRecDepth 100000

section
variable {w w' : World} {lo g g' : Nat} {A : Option Addr} {c : Nat} {l : List Int} {p : Nat} {e : Int}
end

end Go.Proofs.YtgaihekapakoeaaGreatDoor
namespace Go.Proofs.YtgaihekapakoeaaGreatDoor
open Go.RowKit

theorem RB.row (w : World) (l : List Int) (fr : Nat × Nat) (hb : AllB l) (hm : l.length ≤ maxLen) : RB (w.alloc (.cells (l.map (Value.int .u8)).toArray 5 fr)) (w.heap.size + 1) (some ⟨w.heap.size, 0, none⟩) l.length l := by
 refine RB.mk_ (Nat.le_refl _) hm hb (Nat.lt_succ_self _) fun i hi => ?_
 rw [cell_of_row _ _ _ _ _ _ (heap_alloc_new w _)]
 simp [hi]

theorem AllB.of {l : List Int} (h : l.all (fun n => decide (0 ≤ n) && decide (n < 256)) = true) : AllB l := fun n hn => by
 have := List.all_eq_true.1 h n hn
 simpa using this

end Go.Proofs.YtgaihekapakoeaaGreatDoor
namespace Go.Proofs.YtgaihekapakoeaaGreatDoor
open Go.RowKit

theorem RB.pre {w : World} {B c : Nat} {A : Option Addr} {l : List Int} (h : RB w B A c l) (k : Nat) (hk : k ≤ l.length) : RB w B A c (l.take k) := by
 have hlen : (l.take k).length = k := by rw [List.length_take]; omega
 refine ⟨by have := h.le; omega, h.cap, h.bytes.take k, ?_⟩
 rcases h.at_ with h1 | ⟨a, rfl, hc⟩
 ·exact .inl h1
 ·refine .inr ⟨a, rfl, fun h0 => ?_⟩
  obtain ⟨hs, hb, hc⟩ := hc (by omega)
  refine ⟨hs, hb, fun i hi => ?_⟩
  rw [hc i (by omega)]
  simp only [List.getD]
  rw [List.getElem?_take, if_pos (by omega)]

end Go.Proofs.YtgaihekapakoeaaGreatDoor
