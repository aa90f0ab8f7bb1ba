/-   -/
import Derived.Laws.BitsAllLaws
import Derived.OpenShut
import Derived.Lib.Hide
import Derived.ProofKit
import Derived.Test.YtgaihekapakoeaaGreatDoorZB
namespace Go.Proofs.YtgaihekapakoeaaGreatDoor
open Go.RowKit

def flg (b : Bool) (k : Int) : Int := if b = true then k else 0
def num1 (c : Bool) : Int := if c = true then 1 else 0
def ownB (r : Int) : Int := bits .or .u8 (bits .and .u8 r 168) (flg (r == 0) 64)
def onesN : Nat → Nat → Nat
  | 0, _ => 0
  | k + 1, r => onesN k r + r / 2 ^ k % 2
def onesB (r : Nat) : Nat := onesN 8 r
def evenB (r : Int) : Bool := (onesB r.toNat : Int) % 2 == 0
/-- A byte as a number of -128 to 127. -/
def sgn (a : Int) : Int := if a < 128 then a else a - 256
def flC (r : Int) (c h p : Bool) : Int := bits .or .u8 (bits .or .u8 (bits .or .u8 (ownB r) (flg c 1)) (flg h 16)) (flg p 4)
def addR (a b : Int) (c : Bool) : Int := (a + b + num1 c) % 256
def outS (s : Int) : Bool := decide (s < -128) || decide (127 < s)
theorem a5_ret64 {a b : Int} (h : a = b) : Ending.returned (.int .i64 a) = .returned (.int .i64 b) := by rw [h]
theorem ret_u8 {a b : Int} (h : a = b) : Ending.returned (.int .u8 a) = .returned (.int .u8 b) := by rw [h]
theorem ret_u8u8 {a b c d : Int} (h : a = b) (k : c = d) : Ending.returned (.tuple #[.int .u8 a, .int .u8 c]) = .returned (.tuple #[.int .u8 b, .int .u8 d]) := by rw [h, k]
def addF (a b : Int) (c : Bool) : Int := flC (addR a b c) (decide (255 < a + b + num1 c)) (decide (15 < a % 16 + b % 16 + num1 c)) (outS (sgn a + sgn b + num1 c))
def subR (a b : Int) (c : Bool) : Int := (a - b - num1 c) % 256
def subF (a b : Int) (c : Bool) : Int := bits .or .u8 (flC (subR a b c) (decide (a - b - num1 c < 0)) (decide (a % 16 - b % 16 - num1 c < 0)) (outS (sgn a - sgn b - num1 c))) 2
def logB (r : Int) : Int := bits .or .u8 (ownB r) (flg (evenB r) 4)
/-- f, but the flags of m as g has them. -/
def mixB (f g m : Int) : Int := bits .or .u8 (bits .andNot .u8 f m) (bits .and .u8 g m)
def cpF (a b : Int) : Int := mixB (subF a b false) b 40

def cyB (f : Int) : Bool := bits .and .u8 f 1 != 0
/-- What the operator k makes of a, b and f: an answer and flags. -/
def doR (k : Nat) (a b f : Int) : Int :=
  match k with
  | 0 => addR a b false
  | 1 => addR a b (cyB f)
  | 2 => subR a b false
  | 3 => subR a b (cyB f)
  | 4 => bits .and .u8 a b
  | 5 => bits .xor .u8 a b
  | 6 => bits .or .u8 a b
  | _ => a
def doF (k : Nat) (a b f : Int) : Int :=
  match k with
  | 0 => addF a b false
  | 1 => addF a b (cyB f)
  | 2 => subF a b false
  | 3 => subF a b (cyB f)
  | 4 => bits .or .u8 (logB (bits .and .u8 a b)) 16
  | 5 => logB (bits .xor .u8 a b)
  | 6 => logB (bits .or .u8 a b)
  | _ => cpF a b

theorem byte_all {P : Int → Prop} (h : ∀ i : Fin 256, P (i.val : Int)) (r : Int) (h0 : 0 ≤ r) (h1 : r < 256) : P r := by
  have h2 := h ⟨r.toNat, by omega⟩
  simpa [Int.toNat_of_nonneg h0] using h2

theorem wf_u8 {a : Int} (h : (Lit.int .u8 a).wf = true) : 0 ≤ a ∧ a < 256 := by have := bounds_u8 h; omega
theorem byte_wf {a : Int} (h0 : 0 ≤ a) (h1 : a < 256) : (Lit.int .u8 a).wf = true := by
  revert a; intro a h0 h1
  exact byte_all (P := fun a => (Lit.int .u8 a).wf = true) (by decide +kernel) a h0 h1

theorem ownB_in (r : Int) (h0 : 0 ≤ r) (h1 : r < 256) : 0 ≤ ownB r ∧ ownB r < 256 :=
  byte_all (P := fun r => 0 ≤ ownB r ∧ ownB r < 256) (by decide +kernel) r h0 h1

/-- What each flag is. -/
def FlSays (r : Int) (c h p : Bool) : Prop :=
  (0 ≤ flC r c h p ∧ flC r c h p < 256) ∧ bits .and .u8 (flC r c h p) 1 = flg c 1 ∧ bits .and .u8 (flC r c h p) 2 = 0 ∧ bits .and .u8 (flC r c h p) 64 = flg (r == 0) 64 ∧
  bits .and .u8 (flC r c h p) 168 = bits .and .u8 r 168 ∧ bits .and .u8 (flC r c h p) 4 = flg p 4 ∧ bits .and .u8 (flC r c h p) 16 = flg h 16
instance (r : Int) (c h p : Bool) : Decidable (FlSays r c h p) := by unfold FlSays; infer_instance
theorem fl_says (r : Int) (h0 : 0 ≤ r) (h1 : r < 256) (c h p : Bool) : FlSays r c h p := by
  have := byte_all (P := fun r => ∀ c h p : Bool, FlSays r c h p) (by decide +kernel) r h0 h1
  exact this c h p
/-- What each flag is behind a subtraction. -/
def FlSays2 (r : Int) (c h p : Bool) : Prop :=
  (0 ≤ bits .or .u8 (flC r c h p) 2 ∧ bits .or .u8 (flC r c h p) 2 < 256) ∧ bits .and .u8 (bits .or .u8 (flC r c h p) 2) 1 = flg c 1 ∧ bits .and .u8 (bits .or .u8 (flC r c h p) 2) 2 = 2 ∧
  bits .and .u8 (bits .or .u8 (flC r c h p) 2) 4 = flg p 4
instance (r : Int) (c h p : Bool) : Decidable (FlSays2 r c h p) := by unfold FlSays2; infer_instance
theorem fl_says2 (r : Int) (h0 : 0 ≤ r) (h1 : r < 256) (c h p : Bool) : FlSays2 r c h p := by
  have := byte_all (P := fun r => ∀ c h p : Bool, FlSays2 r c h p) (by decide +kernel) r h0 h1
  exact this c h p

theorem addR_in (a b : Int) (c : Bool) : 0 ≤ addR a b c ∧ addR a b c < 256 := by unfold addR; omega
theorem subR_in (a b : Int) (c : Bool) : 0 ≤ subR a b c ∧ subR a b c < 256 := by unfold subR; omega
theorem addF_in (a b : Int) (c : Bool) : 0 ≤ addF a b c ∧ addF a b c < 256 := (fl_says _ (addR_in a b c).1 (addR_in a b c).2 _ _ _).1
theorem subF_in (a b : Int) (c : Bool) : 0 ≤ subF a b c ∧ subF a b c < 256 := (fl_says2 _ (subR_in a b c).1 (subR_in a b c).2 _ _ _).1
theorem sgn_eq (a : Int) (h0 : 0 ≤ a) (h1 : a < 256) : IntKind.i8.wrap a = sgn a :=
  byte_all (P := fun a => IntKind.i8.wrap a = sgn a) (by decide +kernel) a h0 h1
theorem num1_in (c : Bool) : 0 ≤ num1 c ∧ num1 c ≤ 1 := by cases c <;> decide
theorem onesN_le : ∀ (k r : Nat), onesN k r ≤ k
  | 0, _ => Nat.le_refl _
  | k + 1, r => by have := onesN_le k r; simp only [onesN]; omega
theorem sgn_in (a : Int) (h0 : 0 ≤ a) (h1 : a < 256) : -128 ≤ sgn a ∧ sgn a ≤ 127 := by unfold sgn; split <;> omega
theorem and_in (a b : Int) (a0 : 0 ≤ a) (a1 : a < 256) (b0 : 0 ≤ b) (b1 : b < 256) : 0 ≤ bits .and .u8 a b ∧ bits .and .u8 a b < 256 := by
  rw [u8_and a b a0 a1 b0 b1]
  have : a.toNat &&& b.toNat < 2 ^ 8 := Nat.and_lt_two_pow _ (by omega)
  omega
theorem or_in (a b : Int) (a0 : 0 ≤ a) (a1 : a < 256) (b0 : 0 ≤ b) (b1 : b < 256) : 0 ≤ bits .or .u8 a b ∧ bits .or .u8 a b < 256 := by
  rw [u8_or a b a0 a1 b0 b1]
  have : a.toNat ||| b.toNat < 2 ^ 8 := Nat.or_lt_two_pow (by omega) (by omega)
  omega
theorem xor_in (a b : Int) (a0 : 0 ≤ a) (a1 : a < 256) (b0 : 0 ≤ b) (b1 : b < 256) : 0 ≤ bits .xor .u8 a b ∧ bits .xor .u8 a b < 256 := by
  rw [u8_xor a b a0 a1 b0 b1]
  have : a.toNat ^^^ b.toNat < 2 ^ 8 := Nat.xor_lt_two_pow (by omega) (by omega)
  omega
theorem and_turn (a b : Int) (a0 : 0 ≤ a) (a1 : a < 256) (b0 : 0 ≤ b) (b1 : b < 256) : bits .and .u8 a b = bits .and .u8 b a := by
  rw [u8_and a b a0 a1 b0 b1, u8_and b a b0 b1 a0 a1, Nat.and_comm]
theorem or_turn (a b : Int) (a0 : 0 ≤ a) (a1 : a < 256) (b0 : 0 ≤ b) (b1 : b < 256) : bits .or .u8 a b = bits .or .u8 b a := by
  rw [u8_or a b a0 a1 b0 b1, u8_or b a b0 b1 a0 a1, Nat.or_comm]
theorem xor_turn (a b : Int) (a0 : 0 ≤ a) (a1 : a < 256) (b0 : 0 ≤ b) (b1 : b < 256) : bits .xor .u8 a b = bits .xor .u8 b a := by
  rw [u8_xor a b a0 a1 b0 b1, u8_xor b a b0 b1 a0 a1, Nat.xor_comm]
theorem and_self8 (a : Int) (a0 : 0 ≤ a) (a1 : a < 256) : bits .and .u8 a a = a := by
  rw [u8_and a a a0 a1 a0 a1, Nat.and_self]; omega
theorem or_self8 (a : Int) (a0 : 0 ≤ a) (a1 : a < 256) : bits .or .u8 a a = a := by
  rw [u8_or a a a0 a1 a0 a1, Nat.or_self]; omega
theorem xor_self8 (a : Int) (a0 : 0 ≤ a) (a1 : a < 256) : bits .xor .u8 a a = 0 := by
  rw [u8_xor a a a0 a1 a0 a1, Nat.xor_self]; rfl
end Go.Proofs.YtgaihekapakoeaaGreatDoor
namespace Go.Proofs.YtgaihekapakoeaaGreatDoor
open Go.RowKit
set_option linter.unusedVariables false

def addW (a b : Int) (c : Bool) : Int := (a + b + num1 c) % 65536
def subW (a b : Int) (c : Bool) : Int := (a - b - num1 c) % 65536
/-- A word as a number of -32768 to 32767. -/
def sgnW (a : Int) : Int := if a < 32768 then a else a - 65536
def outW (s : Int) : Bool := decide (s < -32768) || decide (32767 < s)
/-- S, Z, Y, X by a high byte, then C, H, P. -/
def flW (hi : Int) (z c h p : Bool) : Int :=
  bits .or .u8 (bits .or .u8 (bits .or .u8 (bits .or .u8 (bits .or .u8 (bits .and .u8 hi 128) (flg z 64)) (bits .and .u8 hi 40)) (flg c 1)) (flg h 16)) (flg p 4)
def adcF (a b : Int) (c : Bool) : Int := flW (addW a b c / 256) (addW a b c == 0) (decide (65535 < a + b + num1 c)) (decide (4095 < a % 4096 + b % 4096 + num1 c)) (outW (sgnW a + sgnW b + num1 c))
def sbcF (a b : Int) (c : Bool) : Int := bits .or .u8 (flW (subW a b c / 256) (subW a b c == 0) (decide (a - b - num1 c < 0)) (decide (a % 4096 - b % 4096 - num1 c < 0)) (outW (sgnW a - sgnW b - num1 c))) 2
/-- What stays of f, Y and X by a high byte, then C and H. -/
def flA (f hi : Int) (c h : Bool) : Int := bits .or .u8 (bits .or .u8 (bits .or .u8 (bits .and .u8 f 196) (bits .and .u8 hi 40)) (flg c 1)) (flg h 16)
def addWF (a b f : Int) : Int := flA f (addW a b false / 256) (decide (65535 < a + b)) (decide (4095 < a % 4096 + b % 4096))
def oddB (n : Int) : Int := bits .or .u8 (flg (n / 2 % 2 == 1) 32) (flg (n / 8 % 2 == 1) 8)
def moveF (a v left f : Int) : Int := bits .or .u8 (bits .or .u8 (bits .and .u8 f 193) (oddB ((a + v) % 256))) (flg (left != 0) 4)
/-- Of a less v, 1 less where H is set. -/
def findN (a v : Int) : Int := if bits .and .u8 (subF a v false) 16 = 0 then subR a v false else (subR a v false - 1) % 256
def findF (a v left f : Int) : Int := bits .or .u8 (bits .or .u8 (bits .or .u8 (bits .or .u8 (bits .and .u8 (subF a v false) 208) 2) (oddB (findN a v))) (flg (left != 0) 4)) (bits .and .u8 f 1)
def portF (v b to : Int) : Int := bits .or .u8 (bits .or .u8 (bits .or .u8 (ownB b) (flg (decide (128 ≤ v)) 2)) (flg (decide (255 < v + to)) 17)) (flg (evenB (bits .xor .u8 ((v + to) % 8) b)) 4)

theorem wf_u16 {a : Int} (h : (Lit.int .u16 a).wf = true) : 0 ≤ a ∧ a < 65536 := by have := bounds_u16 h; omega
theorem ret_u16u8 {a b c d : Int} (h : a = b) (k : c = d) : Ending.returned (.tuple #[.int .u16 a, .int .u8 c]) = .returned (.tuple #[.int .u16 b, .int .u8 d]) := by rw [h, k]
theorem ret_u16b {a b : Int} {c d : Bool} (h : a = b) (k : c = d) : Ending.returned (.tuple #[.int .u16 a, .bool c]) = .returned (.tuple #[.int .u16 b, .bool d]) := by rw [h, k]
theorem ret_u16 {a b : Int} (h : a = b) : Ending.returned (.int .u16 a) = .returned (.int .u16 b) := by rw [h]
theorem wrap_u16 (n : Int) : IntKind.u16.wrap n = n % 65536 := by simp [IntKind.wrap, IntKind.bits, IntKind.signed]
theorem wrap_u8 (n : Int) : IntKind.u8.wrap n = n % 256 := by simp [IntKind.wrap, IntKind.bits, IntKind.signed]

theorem addW_in (a b : Int) (c : Bool) : 0 ≤ addW a b c ∧ addW a b c < 65536 := by unfold addW; omega
theorem subW_in (a b : Int) (c : Bool) : 0 ≤ subW a b c ∧ subW a b c < 65536 := by unfold subW; omega
theorem hi_in {r : Int} (h : 0 ≤ r ∧ r < 65536) : 0 ≤ r / 256 ∧ r / 256 < 256 := by omega
theorem sgnW_in (a : Int) (h0 : 0 ≤ a) (h1 : a < 65536) : -32768 ≤ sgnW a ∧ sgnW a ≤ 32767 := by unfold sgnW; split <;> omega
theorem sgnW_eq (a : Int) (h0 : 0 ≤ a) (h1 : a < 65536) : IntKind.i16.wrap a = sgnW a := by
  have h : IntKind.i16.wrap a = if a % 65536 < 32768 then a % 65536 else a % 65536 - 65536 := by
    simp [IntKind.wrap, IntKind.bits, IntKind.signed]
    repeat' split
    all_goals omega
  rw [h]; unfold sgnW; rw [Int.emod_eq_of_lt h0 h1]
theorem cy_num (f : Int) (h0 : 0 ≤ f) (h1 : f < 256) : f % 2 = num1 (cyB f) :=
  byte_all (P := fun f => f % 2 = num1 (cyB f)) (by decide +kernel) f h0 h1

/-- What is moved to the top and wraps round there is above the low bits. -/
theorem half_sum (a b c : Int) (c0 : 0 ≤ c) (c1 : c ≤ 1) : decide (65535 < a * 16 % 65536 + b * 16 % 65536 + c * 16) = decide (4095 < a % 4096 + b % 4096 + c) := by
  rw [decide_eq_decide]; omega
theorem half_diff (a b c : Int) (c0 : 0 ≤ c) (c1 : c ≤ 1) : decide (a * 16 % 65536 - b * 16 % 65536 - c * 16 < 0) = decide (a % 4096 - b % 4096 - c < 0) := by
  rw [decide_eq_decide]; omega
theorem out_sum (a b : Int) (c : Bool) (a0 : 0 ≤ a) (a1 : a < 65536) (b0 : 0 ≤ b) (b1 : b < 65536) : (sgnW (addW a b c) != sgnW a + sgnW b + num1 c) = outW (sgnW a + sgnW b + num1 c) := by
  unfold outW sgnW addW; cases c <;> simp only [num1] <;> (rw [Bool.eq_iff_iff]; simp; repeat' split) <;> omega
theorem out_diff (a b : Int) (c : Bool) (a0 : 0 ≤ a) (a1 : a < 65536) (b0 : 0 ≤ b) (b1 : b < 65536) : (sgnW (subW a b c) != sgnW a - sgnW b - num1 c) = outW (sgnW a - sgnW b - num1 c) := by
  unfold outW sgnW subW; cases c <;> simp only [num1] <;> (rw [Bool.eq_iff_iff]; simp; repeat' split) <;> omega

theorem fl_code (hi : Int) (h0 : 0 ≤ hi) (h1 : hi < 256) (z c h p : Bool) :
    bits .or .u8 (bits .or .u8 (bits .or .u8 (bits .andNot .u8 (ownB hi) 64) (flg z 64)) (flg p 4)) (bits .or .u8 (flg c 1) (flg h 16)) = flW hi z c h p := by
  have := byte_all (P := fun hi => ∀ z c h p : Bool, bits .or .u8 (bits .or .u8 (bits .or .u8 (bits .andNot .u8 (ownB hi) 64) (flg z 64)) (flg p 4)) (bits .or .u8 (flg c 1) (flg h 16)) = flW hi z c h p) (by decide +kernel) hi h0 h1
  exact this z c h p
theorem fl_ref (hi : Int) (h0 : 0 ≤ hi) (h1 : hi < 256) : bits .and .u8 (bits .andNot .u8 (ownB hi) 64) 40 = bits .and .u8 hi 40 :=
  byte_all (P := fun hi => bits .and .u8 (bits .andNot .u8 (ownB hi) 64) 40 = bits .and .u8 hi 40) (by decide +kernel) hi h0 h1
theorem or_two (x : Int) (h0 : 0 ≤ x) (h1 : x < 256) (c h : Bool) : bits .or .u8 x (bits .or .u8 (flg c 1) (flg h 16)) = bits .or .u8 (bits .or .u8 x (flg c 1)) (flg h 16) := by
  have := byte_all (P := fun x => ∀ c h : Bool, bits .or .u8 x (bits .or .u8 (flg c 1) (flg h 16)) = bits .or .u8 (bits .or .u8 x (flg c 1)) (flg h 16)) (by decide +kernel) x h0 h1
  exact this c h
theorem odd_code (n : Int) (h0 : 0 ≤ n) (h1 : n < 256) : bits .or .u8 (bits .and .u8 (n * 16 % 256) 32) (bits .and .u8 n 8) = oddB n :=
  byte_all (P := fun n => bits .or .u8 (bits .and .u8 (n * 16 % 256) 32) (bits .and .u8 n 8) = oddB n) (by decide +kernel) n h0 h1
theorem flg_two (c : Bool) : bits .or .u8 (flg c 1) (flg c 16) = flg c 17 := by cases c <;> decide
theorem findN_in (a v : Int) : 0 ≤ findN a v ∧ findN a v < 256 := by unfold findN; have := subR_in a v false; split <;> omega
theorem flg_in (b : Bool) (k : Int) (h0 : 0 ≤ k) (h1 : k < 256) : 0 ≤ flg b k ∧ flg b k < 256 := by unfold flg; split <;> omega
theorem oddB_in (n : Int) : 0 ≤ oddB n ∧ oddB n < 256 := by
  have h1 := flg_in (n / 2 % 2 == 1) 32 (by decide) (by decide)
  have h2 := flg_in (n / 8 % 2 == 1) 8 (by decide) (by decide)
  exact or_in _ _ h1.1 h1.2 h2.1 h2.2
theorem flW_in (hi : Int) (h0 : 0 ≤ hi) (h1 : hi < 256) (z c h p : Bool) : 0 ≤ flW hi z c h p ∧ flW hi z c h p < 256 := by
  have := byte_all (P := fun hi => ∀ z c h p : Bool, 0 ≤ flW hi z c h p ∧ flW hi z c h p < 256) (by decide +kernel) hi h0 h1
  exact this z c h p
theorem and_le (f k : Int) (f0 : 0 ≤ f) (f1 : f < 256) (k0 : 0 ≤ k) (k1 : k < 256) : 0 ≤ bits .and .u8 f k ∧ bits .and .u8 f k < 256 := and_in f k f0 f1 k0 k1

/-- A word of two bytes. -/
theorem pair_eq (h l : Int) (h0 : 0 ≤ h) (h1 : h < 256) (l0 : 0 ≤ l) (l1 : l < 256) : bits .or .u16 (h * 256) l = h * 256 + l := by
  rw [u16_or (h * 256) l (by omega) (by omega) l0 (by omega)]
  rw [nat_join 8 _ _ (by show (h * 256).toNat % 256 = 0; omega) (by show l.toNat < 256; omega)]
  omega

/-- Of the flags all but Z are those of the high bytes' sum. -/
theorem fl_bytes (hi : Int) (h0 : 0 ≤ hi) (h1 : hi < 256) (z c h p : Bool) :
    bits .andNot .u8 (flW hi z c h p) 64 = bits .andNot .u8 (flC hi c h p) 64 ∧ bits .and .u8 (flW hi z c h p) 64 = flg z 64 ∧
    bits .andNot .u8 (bits .or .u8 (flW hi z c h p) 2) 64 = bits .andNot .u8 (bits .or .u8 (flC hi c h p) 2) 64 ∧ bits .and .u8 (bits .or .u8 (flW hi z c h p) 2) 64 = flg z 64 := by
  have := byte_all (P := fun hi => ∀ z c h p : Bool, bits .andNot .u8 (flW hi z c h p) 64 = bits .andNot .u8 (flC hi c h p) 64 ∧ bits .and .u8 (flW hi z c h p) 64 = flg z 64 ∧
    bits .andNot .u8 (bits .or .u8 (flW hi z c h p) 2) 64 = bits .andNot .u8 (bits .or .u8 (flC hi c h p) 2) 64 ∧ bits .and .u8 (bits .or .u8 (flW hi z c h p) 2) 64 = flg z 64) (by decide +kernel) hi h0 h1
  exact this z c h p
end Go.Proofs.YtgaihekapakoeaaGreatDoor
