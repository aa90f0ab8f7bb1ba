/-   -/
import Derived.Laws.BitsAllLaws
import Derived.OpenShut
import Derived.Lib.Hide
import Derived.ProofKit
import Derived.Test.YtgaihekapakoeaaGreatDoorZB
set_option linter.unusedVariables false
set_option linter.unusedSimpArgs false
namespace Go.Proofs.YtgaihekapakoeaaGreatDoor
open Go.RowKit

def flg (b : Bool) (k : Int) : Int := if b = true then k else 0
def num1 (c : Bool) : Int := if c = true then 1 else 0
def ownB (r : Int) : Int := bits .or .u8 (bits .and .u8 r 168) (flg (r == 0) 64)
def sgn (a : Int) : Int := if a < 128 then a else a - 256
def flC (r : Int) (c h p : Bool) : Int := bits .or .u8 (bits .or .u8 (bits .or .u8 (ownB r) (flg c 1)) (flg h 16)) (flg p 4)
theorem byte_all {P : Int → Prop} (h : ∀ i : Fin 256, P (i.val : Int)) (r : Int) (h0 : 0 ≤ r) (h1 : r < 256) : P r := by
 have h2 := h ⟨r.toNat, by omega⟩
 simpa [Int.toNat_of_nonneg h0] using h2

def FlSays (r : Int) (c h p : Bool) : Prop :=
 (0 ≤ flC r c h p ∧ flC r c h p < 256) ∧ bits .and .u8 (flC r c h p) 1 = flg c 1 ∧ bits .and .u8 (flC r c h p) 2 = 0 ∧ bits .and .u8 (flC r c h p) 64 = flg (r == 0) 64 ∧
 bits .and .u8 (flC r c h p) 168 = bits .and .u8 r 168 ∧ bits .and .u8 (flC r c h p) 4 = flg p 4 ∧ bits .and .u8 (flC r c h p) 16 = flg h 16
instance (r : Int) (c h p : Bool) : Decidable (FlSays r c h p) := by unfold FlSays; infer_instance
def FlSays2 (r : Int) (c h p : Bool) : Prop :=
 (0 ≤ bits .or .u8 (flC r c h p) 2 ∧ bits .or .u8 (flC r c h p) 2 < 256) ∧ bits .and .u8 (bits .or .u8 (flC r c h p) 2) 1 = flg c 1 ∧ bits .and .u8 (bits .or .u8 (flC r c h p) 2) 2 = 2 ∧
 bits .and .u8 (bits .or .u8 (flC r c h p) 2) 4 = flg p 4
instance (r : Int) (c h p : Bool) : Decidable (FlSays2 r c h p) := by unfold FlSays2; infer_instance
theorem sgn_eq (a : Int) (h0 : 0 ≤ a) (h1 : a < 256) : IntKind.i8.wrap a = sgn a :=
 byte_all (P := fun a => IntKind.i8.wrap a = sgn a) (by decide +kernel) a h0 h1
theorem num1_in (c : Bool) : 0 ≤ num1 c ∧ num1 c ≤ 1 := by cases c <;> decide
theorem sgn_in (a : Int) (h0 : 0 ≤ a) (h1 : a < 256) : -128 ≤ sgn a ∧ sgn a ≤ 127 := by unfold sgn; split <;> omega
end Go.Proofs.YtgaihekapakoeaaGreatDoor
namespace Go.Proofs.YtgaihekapakoeaaGreatDoor
open Go.RowKit

theorem wrap_u8 (n : Int) : IntKind.u8.wrap n = n % 256 := by simp [IntKind.wrap, IntKind.bits, IntKind.signed]

end Go.Proofs.YtgaihekapakoeaaGreatDoor
