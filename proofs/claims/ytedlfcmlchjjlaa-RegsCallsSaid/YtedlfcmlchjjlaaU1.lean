
/- Bytes and flags of chapter 5: the plain mathematics. -/
import Derived.Laws.BitsAllLaws
import Derived.OpenShut
import Derived.Lib.Hide
import Derived.ProofKit
import Derived.Test.YtedlfcmlchjjlaaB
namespace Go.Proofs.Ytedlfcmlchjjlaa
open Go.RowKit

def flg (b : Bool) (k : Int) : Int := if b = true then k else 0
def num1 (c : Bool) : Int := if c = true then 1 else 0
def ownB (r : Int) : Int := bits .or .u8 (bits .and .u8 r 168) (flg (r == 0) 64)
def onesN : Nat → Nat → Nat
  | 0, _ => 0
  | k + 1, r => onesN k r + r / 2 ^ k % 2
def onesB (r : Nat) : Nat := onesN 8 r
def evenB (r : Int) : Bool := (onesB r.toNat : Int) % 2 == 0
/-- A byte as a number of -128 to 127. -/
def sgn (a : Int) : Int := if a < 128 then a else a - 256
def flC (r : Int) (c h p : Bool) : Int := bits .or .u8 (bits .or .u8 (bits .or .u8 (ownB r) (flg c 1)) (flg h 16)) (flg p 4)
def addR (a b : Int) (c : Bool) : Int := (a + b + num1 c) % 256
def outS (s : Int) : Bool := decide (s < -128) || decide (127 < s)
theorem a5_ret64 {a b : Int} (h : a = b) : Ending.returned (.int .i64 a) = .returned (.int .i64 b) := by rw [h]
theorem ret_u8 {a b : Int} (h : a = b) : Ending.returned (.int .u8 a) = .returned (.int .u8 b) := by rw [h]
theorem ret_u8u8 {a b c d : Int} (h : a = b) (k : c = d) : Ending.returned (.tuple #[.int .u8 a, .int .u8 c]) = .returned (.tuple #[.int .u8 b, .int .u8 d]) := by rw [h, k]
def addF (a b : Int) (c : Bool) : Int := flC (addR a b c) (decide (255 < a + b + num1 c)) (decide (15 < a % 16 + b % 16 + num1 c)) (outS (sgn a + sgn b + num1 c))
def subR (a b : Int) (c : Bool) : Int := (a - b - num1 c) % 256
def subF (a b : Int) (c : Bool) : Int := bits .or .u8 (flC (subR a b c) (decide (a - b - num1 c < 0)) (decide (a % 16 - b % 16 - num1 c < 0)) (outS (sgn a - sgn b - num1 c))) 2
def logB (r : Int) : Int := bits .or .u8 (ownB r) (flg (evenB r) 4)
/-- f, but the flags of m as g has them. -/
def mixB (f g m : Int) : Int := bits .or .u8 (bits .andNot .u8 f m) (bits .and .u8 g m)
def cpF (a b : Int) : Int := mixB (subF a b false) b 40

def cyB (f : Int) : Bool := bits .and .u8 f 1 != 0
/-- What the operator k makes of a, b and f: an answer and flags. -/
def doR (k : Nat) (a b f : Int) : Int :=
  match k with
  | 0 => addR a b false
  | 1 => addR a b (cyB f)
  | 2 => subR a b false
  | 3 => subR a b (cyB f)
  | 4 => bits .and .u8 a b
  | 5 => bits .xor .u8 a b
  | 6 => bits .or .u8 a b
  | _ => a
def doF (k : Nat) (a b f : Int) : Int :=
  match k with
  | 0 => addF a b false
  | 1 => addF a b (cyB f)
  | 2 => subF a b false
  | 3 => subF a b (cyB f)
  | 4 => bits .or .u8 (logB (bits .and .u8 a b)) 16
  | 5 => logB (bits .xor .u8 a b)
  | 6 => logB (bits .or .u8 a b)
  | _ => cpF a b

theorem byte_all {P : Int → Prop} (h : ∀ i : Fin 256, P (i.val : Int)) (r : Int) (h0 : 0 ≤ r) (h1 : r < 256) : P r := by
  have h2 := h ⟨r.toNat, by omega⟩
  simpa [Int.toNat_of_nonneg h0] using h2

theorem wf_u8 {a : Int} (h : (Lit.int .u8 a).wf = true) : 0 ≤ a ∧ a < 256 := by have := bounds_u8 h; omega
theorem byte_wf {a : Int} (h0 : 0 ≤ a) (h1 : a < 256) : (Lit.int .u8 a).wf = true := by
  revert a; intro a h0 h1
  exact byte_all (P := fun a => (Lit.int .u8 a).wf = true) (by decide +kernel) a h0 h1

theorem ownB_in (r : Int) (h0 : 0 ≤ r) (h1 : r < 256) : 0 ≤ ownB r ∧ ownB r < 256 :=
  byte_all (P := fun r => 0 ≤ ownB r ∧ ownB r < 256) (by decide +kernel) r h0 h1

/-- What each flag is. -/
def FlSays (r : Int) (c h p : Bool) : Prop :=
  (0 ≤ flC r c h p ∧ flC r c h p < 256) ∧ bits .and .u8 (flC r c h p) 1 = flg c 1 ∧ bits .and .u8 (flC r c h p) 2 = 0 ∧ bits .and .u8 (flC r c h p) 64 = flg (r == 0) 64 ∧
  bits .and .u8 (flC r c h p) 168 = bits .and .u8 r 168 ∧ bits .and .u8 (flC r c h p) 4 = flg p 4 ∧ bits .and .u8 (flC r c h p) 16 = flg h 16
instance (r : Int) (c h p : Bool) : Decidable (FlSays r c h p) := by unfold FlSays; infer_instance
theorem fl_says (r : Int) (h0 : 0 ≤ r) (h1 : r < 256) (c h p : Bool) : FlSays r c h p := by
  have := byte_all (P := fun r => ∀ c h p : Bool, FlSays r c h p) (by decide +kernel) r h0 h1
  exact this c h p
/-- What each flag is behind a subtraction. -/
def FlSays2 (r : Int) (c h p : Bool) : Prop :=
  (0 ≤ bits .or .u8 (flC r c h p) 2 ∧ bits .or .u8 (flC r c h p) 2 < 256) ∧ bits .and .u8 (bits .or .u8 (flC r c h p) 2) 1 = flg c 1 ∧ bits .and .u8 (bits .or .u8 (flC r c h p) 2) 2 = 2 ∧
  bits .and .u8 (bits .or .u8 (flC r c h p) 2) 4 = flg p 4
instance (r : Int) (c h p : Bool) : Decidable (FlSays2 r c h p) := by unfold FlSays2; infer_instance
theorem fl_says2 (r : Int) (h0 : 0 ≤ r) (h1 : r < 256) (c h p : Bool) : FlSays2 r c h p := by
  have := byte_all (P := fun r => ∀ c h p : Bool, FlSays2 r c h p) (by decide +kernel) r h0 h1
  exact this c h p

theorem addR_in (a b : Int) (c : Bool) : 0 ≤ addR a b c ∧ addR a b c < 256 := by unfold addR; omega
theorem subR_in (a b : Int) (c : Bool) : 0 ≤ subR a b c ∧ subR a b c < 256 := by unfold subR; omega
theorem addF_in (a b : Int) (c : Bool) : 0 ≤ addF a b c ∧ addF a b c < 256 := (fl_says _ (addR_in a b c).1 (addR_in a b c).2 _ _ _).1
theorem subF_in (a b : Int) (c : Bool) : 0 ≤ subF a b c ∧ subF a b c < 256 := (fl_says2 _ (subR_in a b c).1 (subR_in a b c).2 _ _ _).1
theorem sgn_eq (a : Int) (h0 : 0 ≤ a) (h1 : a < 256) : IntKind.i8.wrap a = sgn a :=
  byte_all (P := fun a => IntKind.i8.wrap a = sgn a) (by decide +kernel) a h0 h1
theorem num1_in (c : Bool) : 0 ≤ num1 c ∧ num1 c ≤ 1 := by cases c <;> decide
theorem onesN_le : ∀ (k r : Nat), onesN k r ≤ k
  | 0, _ => Nat.le_refl _
  | k + 1, r => by have := onesN_le k r; simp only [onesN]; omega
theorem sgn_in (a : Int) (h0 : 0 ≤ a) (h1 : a < 256) : -128 ≤ sgn a ∧ sgn a ≤ 127 := by unfold sgn; split <;> omega
theorem and_in (a b : Int) (a0 : 0 ≤ a) (a1 : a < 256) (b0 : 0 ≤ b) (b1 : b < 256) : 0 ≤ bits .and .u8 a b ∧ bits .and .u8 a b < 256 := by
  rw [u8_and a b a0 a1 b0 b1]
  have : a.toNat &&& b.toNat < 2 ^ 8 := Nat.and_lt_two_pow _ (by omega)
  omega
theorem or_in (a b : Int) (a0 : 0 ≤ a) (a1 : a < 256) (b0 : 0 ≤ b) (b1 : b < 256) : 0 ≤ bits .or .u8 a b ∧ bits .or .u8 a b < 256 := by
  rw [u8_or a b a0 a1 b0 b1]
  have : a.toNat ||| b.toNat < 2 ^ 8 := Nat.or_lt_two_pow (by omega) (by omega)
  omega
theorem xor_in (a b : Int) (a0 : 0 ≤ a) (a1 : a < 256) (b0 : 0 ≤ b) (b1 : b < 256) : 0 ≤ bits .xor .u8 a b ∧ bits .xor .u8 a b < 256 := by
  rw [u8_xor a b a0 a1 b0 b1]
  have : a.toNat ^^^ b.toNat < 2 ^ 8 := Nat.xor_lt_two_pow (by omega) (by omega)
  omega
theorem and_turn (a b : Int) (a0 : 0 ≤ a) (a1 : a < 256) (b0 : 0 ≤ b) (b1 : b < 256) : bits .and .u8 a b = bits .and .u8 b a := by
  rw [u8_and a b a0 a1 b0 b1, u8_and b a b0 b1 a0 a1, Nat.and_comm]
theorem or_turn (a b : Int) (a0 : 0 ≤ a) (a1 : a < 256) (b0 : 0 ≤ b) (b1 : b < 256) : bits .or .u8 a b = bits .or .u8 b a := by
  rw [u8_or a b a0 a1 b0 b1, u8_or b a b0 b1 a0 a1, Nat.or_comm]
theorem xor_turn (a b : Int) (a0 : 0 ≤ a) (a1 : a < 256) (b0 : 0 ≤ b) (b1 : b < 256) : bits .xor .u8 a b = bits .xor .u8 b a := by
  rw [u8_xor a b a0 a1 b0 b1, u8_xor b a b0 b1 a0 a1, Nat.xor_comm]
theorem and_self8 (a : Int) (a0 : 0 ≤ a) (a1 : a < 256) : bits .and .u8 a a = a := by
  rw [u8_and a a a0 a1 a0 a1, Nat.and_self]; omega
theorem or_self8 (a : Int) (a0 : 0 ≤ a) (a1 : a < 256) : bits .or .u8 a a = a := by
  rw [u8_or a a a0 a1 a0 a1, Nat.or_self]; omega
theorem xor_self8 (a : Int) (a0 : 0 ≤ a) (a1 : a < 256) : bits .xor .u8 a a = 0 := by
  rw [u8_xor a a a0 a1 a0 a1, Nat.xor_self]; rfl
end Go.Proofs.Ytedlfcmlchjjlaa
