
/- What octet.Number, Signed, Block and their like in the reference put. -/
import Derived.Test.YtljgpaiojeffcaaC
import Derived.Test.YtljgpaiojeffcaaN
import Derived.Test.YtljgpaiojeffcaaL
namespace Go.Proofs.Ytljgpaiojeffcaa
open Go.RowKit
set_option maxRecDepth 100000

theorem wrap8 (y : Nat) : IntKind.u8.wrap (y : Int) = ((y % 256 : Nat) : Int) := by rw [IntKind.wrap_u8]; omega

theorem and1 (n : Int) (h0 : 0 ≤ n) (h1 : n < 18446744073709551616) : bits .and .u64 n 1 = n % 2 := by
  rw [u64_and n 1 h0 h1 (by omega) (by omega)]
  have : n.toNat &&& 1 = n.toNat % 2 := nat_mask1 _
  rw [show (1 : Int).toNat = 1 from rfl, this]; omega

theorem xor_all (n : Int) : (BitVec.ofInt 64 (-1) ^^^ BitVec.ofInt 64 n).toNat = 18446744073709551615 - (n % 18446744073709551616).toNat := by
  have h1 : BitVec.ofInt 64 (-1) = BitVec.allOnes 64 := by decide
  rw [h1, BitVec.allOnes_xor, BitVec.toNat_not, BitVec.toNat_ofInt]
  rfl

theorem i64_not (n : Int) (h0 : -9223372036854775808 ≤ n) (h1 : n < 9223372036854775808) : bits .xor .i64 (-1) n = -n - 1 := by
  show IntKind.i64.wrap ((BitVec.ofInt 64 (-1) ^^^ BitVec.ofInt 64 n).toNat : Int) = _
  rw [xor_all, IntKind.wrap_i64]; omega

theorem u64_not (n : Int) (h0 : 0 ≤ n) (h1 : n < 18446744073709551616) : bits .xor .u64 IntKind.u64.max n = 18446744073709551615 - n := by
  show IntKind.u64.wrap ((BitVec.ofInt 64 IntKind.u64.max ^^^ BitVec.ofInt 64 n).toNat : Int) = _
  have h2 : BitVec.ofInt 64 IntKind.u64.max = BitVec.ofInt 64 (-1) := by decide
  rw [h2, xor_all, IntKind.wrap_u64]; omega

/-- A slice of the call's own, and no error; nothing below B has turned. -/
def FreshOk (B : Nat) (w : World) (l : List Int) (e : Ending) (w' : World) : Prop :=
  ∃ A c, e = .returned (.tuple #[.slice A l.length c, .int .i64 0]) ∧ OB w' B A c l ∧ Below B w w'

/-- The answer is a slice of the call's own from block B on. -/
def FreshFrom (B : Nat) (w : World) (l : List Int) (e : Ending) (w' : World) : Prop :=
  ∃ A c, e = .returned (.slice A l.length c) ∧ OB w' B A c l ∧ Below B w w'

end Go.Proofs.Ytljgpaiojeffcaa
