/-  -/
import Derived.Test.YtofenjloieagaaaZC
namespace Go.Proofs.Ytofenjloieagaaa
open Go.RowKit

/-- One doubling. -/
def stp (v : BitVec 16) : BitVec 16 := if v.msb then (v <<< 1) ^^^ 0x1021#16 else v <<< 1
def st8 (v : BitVec 16) : BitVec 16 := stp (stp (stp (stp (stp (stp (stp (stp v)))))))
/-- A byte more. -/
def byt (s : BitVec 16) (c : Int) : BitVec 16 := st8 (s ^^^ BitVec.ofNat 16 (c.toNat * 256))
def sumFrom (s : BitVec 16) (l : List Int) : BitVec 16 := l.foldl byt s
def sumL (l : List Int) : BitVec 16 := sumFrom 0xffff#16 l

theorem sumFrom_append (s : BitVec 16) (l m : List Int) : sumFrom s (l ++ m) = sumFrom (sumFrom s l) m := by simp [sumFrom]
theorem sumFrom_snoc (s : BitVec 16) (l : List Int) (c : Int) : sumFrom s (l ++ [c]) = byt (sumFrom s l) c := by simp [sumFrom]
theorem take_snoc (l : List Int) (k : Nat) (h : k < l.length) : l.take (k + 1) = l.take k ++ [l.getD k 0] := by
  rw [List.take_succ_eq_append_getElem h, getD_lt h]

theorem stp_xor (a b : BitVec 16) : stp (a ^^^ b) = stp a ^^^ stp b := by
  unfold stp
  rw [BitVec.msb_xor, BitVec.shiftLeft_xor_distrib]
  cases a.msb <;> cases b.msb <;> simp [BitVec.xor_assoc]
  · rw [BitVec.xor_comm (b <<< 1), BitVec.xor_comm (4129#16)]
  · rw [BitVec.xor_comm (b <<< 1), ← BitVec.xor_assoc, BitVec.xor_self, BitVec.zero_xor]

theorem st8_xor (a b : BitVec 16) : st8 (a ^^^ b) = st8 a ^^^ st8 b := by unfold st8; simp only [stp_xor]

/-- What eight doublings make of a high byte. -/
def wordB (h : Nat) : BitVec 16 := st8 (BitVec.ofNat 16 (h * 256))

theorem st8_low : ∀ n : Fin 256, st8 (BitVec.ofNat 16 n.val) = BitVec.ofNat 16 (n.val * 256) := by decide +kernel

theorem nat_split (s c : Nat) : s ^^^ (c * 256) = (((s / 256) ^^^ c) * 256) ^^^ (s % 256) := by
  have e : ∀ x : Nat, x * 256 = x <<< 8 := fun x => by rw [Nat.shiftLeft_eq]
  rw [e, e]
  apply Nat.eq_of_testBit_eq
  intro i
  have h256 : s % 256 = s % 2 ^ 8 := rfl
  have hd : s / 256 = s / 2 ^ 8 := rfl
  rw [h256, hd]
  simp only [Nat.testBit_xor, Nat.testBit_shiftLeft, Nat.testBit_mod_two_pow, Nat.testBit_div_two_pow]
  by_cases h : i < 8
  · simp [h, show ¬ 8 ≤ i by omega]
  · simp [h, show 8 ≤ i by omega]

theorem byt_word (s : BitVec 16) (c : Nat) : byt s c = BitVec.ofNat 16 (s.toNat % 256 * 256) ^^^ wordB ((s.toNat / 256) ^^^ c) := by
  have hs := s.isLt
  have hx : s ^^^ BitVec.ofNat 16 (c * 256) = BitVec.ofNat 16 (((s.toNat / 256) ^^^ c) * 256) ^^^ BitVec.ofNat 16 (s.toNat % 256) := by
    have h1 : s = BitVec.ofNat 16 s.toNat := by simp
    conv => lhs; rw [h1]
    rw [← BitVec.ofNat_xor, ← BitVec.ofNat_xor, nat_split]
  unfold byt
  rw [Int.toNat_natCast, hx, st8_xor, BitVec.xor_comm]
  congr 1
  exact st8_low ⟨s.toNat % 256, Nat.mod_lt _ (by omega)⟩

def wordI (n : Int) : Int := bits .xor .u16 (bits .xor .u16 (IntKind.u16.wrap (IntKind.u16.wrap (bits .xor .u8 n (n / 16)) * 4096)) (IntKind.u16.wrap (IntKind.u16.wrap (bits .xor .u8 n (n / 16)) * 32))) (IntKind.u16.wrap (bits .xor .u8 n (n / 16)))

theorem wordI_eq : ∀ n : Fin 256, wordI (n.val : Int) = ((wordB n.val).toNat : Int) := by decide +kernel

/-- The argument and the answer of a round, as the walk spells them. -/
theorem round_arg (s : BitVec 16) (c : Int) (h0 : 0 ≤ c) (h1 : c < 256) : bits .xor .u8 ((s.toNat : Int) / 256) c = (((s.toNat / 256) ^^^ c.toNat : Nat) : Int) := by
  have hs := s.isLt
  rw [u8_xor _ _ (by omega) (by omega) h0 h1]
  congr 2

theorem round_lt (s : BitVec 16) (c : Int) (h0 : 0 ≤ c) (h1 : c < 256) : (s.toNat / 256) ^^^ c.toNat < 256 := by
  have hs := s.isLt
  exact Nat.xor_lt_two_pow (n := 8) (by omega) (by omega)

theorem round_val (s : BitVec 16) (c : Int) (h0 : 0 ≤ c) : bits .xor .u16 (IntKind.u16.wrap ((s.toNat : Int) * 256)) ((wordB ((s.toNat / 256) ^^^ c.toNat)).toNat : Int) = ((byt s c).toNat : Int) := by
  have hs := s.isLt
  obtain ⟨d, rfl⟩ := Int.eq_ofNat_of_zero_le h0
  rw [Int.toNat_natCast, byt_word s d, BitVec.toNat_xor, IntKind.wrap_u16]
  have e : ((s.toNat : Int) * 256) % 65536 = ((s.toNat % 256 * 256 : Nat) : Int) := by omega
  rw [e, u16_xor_nat _ _ (by omega) (BitVec.isLt _)]
  congr 2
  rw [BitVec.toNat_ofNat]; exact (Nat.mod_eq_of_lt (by omega)).symm

def stpN : Nat → BitVec 16 → BitVec 16
  | 0, v => v
  | n + 1, v => stp (stpN n v)
theorem stpN_8 (v : BitVec 16) : stpN 8 v = st8 v := rfl

theorem stp_hi (v : BitVec 16) (h : 32768 ≤ v.toNat) : bits .xor .u16 (IntKind.u16.wrap ((v.toNat : Int) * 2)) 4129 = ((stp v).toNat : Int) := by
  have hv := v.isLt
  have hm : v.msb = true := by rw [BitVec.msb_eq_decide]; simp; omega
  unfold stp
  rw [hm, if_pos rfl, BitVec.toNat_xor, IntKind.wrap_u16]
  have e : ((v.toNat : Int) * 2) % 65536 = ((v.toNat * 2 % 65536 : Nat) : Int) := by omega
  rw [e]
  have := u16_xor_nat (v.toNat * 2 % 65536) 4129 (by omega) (by omega)
  rw [show ((4129 : Nat) : Int) = 4129 from rfl] at this
  rw [this]
  congr 2
  rw [BitVec.toNat_shiftLeft, Nat.shiftLeft_eq]

theorem stp_lo (v : BitVec 16) (h : v.toNat < 32768) : IntKind.u16.wrap ((v.toNat : Int) * 2) = ((stp v).toNat : Int) := by
  have hm : v.msb = false := by rw [BitVec.msb_eq_decide]; simp; omega
  unfold stp
  rw [hm, if_neg (by decide), BitVec.toNat_shiftLeft, Nat.shiftLeft_eq, IntKind.wrap_u16]
  omega

theorem ref_first (t : BitVec 16) (x : Int) (h0 : 0 ≤ x) (h1 : x < 256) : bits .xor .u16 (t.toNat : Int) (x * 256) = ((t ^^^ BitVec.ofNat 16 (x.toNat * 256)).toNat : Int) := by
  have ht := t.isLt
  obtain ⟨d, rfl⟩ := Int.eq_ofNat_of_zero_le h0
  have e : ((d : Int) * 256) = ((d * 256 : Nat) : Int) := by omega
  rw [e, u16_xor_nat _ _ ht (by omega), BitVec.toNat_xor, Int.toNat_natCast, BitVec.toNat_ofNat]
  congr 2
  exact (Nat.mod_eq_of_lt (by omega)).symm

end Go.Proofs.Ytofenjloieagaaa
