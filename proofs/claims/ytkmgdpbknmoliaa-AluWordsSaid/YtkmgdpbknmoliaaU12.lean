
/- Numbers of eight bytes, byte by byte: the plain mathematics. -/
import Derived.Test.YtkmgdpbknmoliaaU1
namespace Go.Proofs.Ytkmgdpbknmoliaa
open Go.RowKit

structure Words (x y one : Int) (k : Nat) (S L : Int) (C D : Bool) : Prop where
  s0 : 0 ≤ S
  s1 : S < 2 ^ (8 * k)
  l0 : 0 ≤ L
  l1 : L < 2 ^ (8 * k)
  sum : S + num1 C * 2 ^ (8 * k) = x % 2 ^ (8 * k) + y % 2 ^ (8 * k) + one
  less : L - num1 D * 2 ^ (8 * k) = x % 2 ^ (8 * k) - y % 2 ^ (8 * k) - one

theorem pow8 (k : Nat) : (2 : Int) ^ (8 * (k + 1)) = 2 ^ (8 * k) * 256 := by
  rw [Nat.mul_succ, Int.pow_add]; rfl
theorem pow_pos8 (k : Nat) : (0 : Int) < 2 ^ (8 * k) := Int.pow_pos (by decide)
theorem pow_le8 (k : Nat) (hk : k ≤ 7) : (2 : Int) ^ (8 * k) ≤ 72057594037927936 := by
  obtain rfl | rfl | rfl | rfl | rfl | rfl | rfl | rfl : k = 0 ∨ k = 1 ∨ k = 2 ∨ k = 3 ∨ k = 4 ∨ k = 5 ∨ k = 6 ∨ k = 7 := by omega
  all_goals decide

theorem emod_next (x M : Int) (hM : 0 < M) : x % (M * 256) = x % M + x / M % 256 * M := by
  have h1 := Int.emod_add_mul_ediv x M
  have h2 := Int.emod_add_mul_ediv (x / M) 256
  have h3 := Int.emod_nonneg x (Int.ne_of_gt hM)
  have h4 := Int.emod_lt_of_pos x hM
  have h5 := Int.emod_nonneg (x / M) (b := 256) (by decide)
  have h6 := Int.emod_lt_of_pos (x / M) (b := 256) (by decide)
  generalize x / M % 256 = a at *
  generalize x / M / 256 = q2 at *
  generalize x / M = q at *
  generalize x % M = m at *
  subst h2
  have e : x = (m + a * M) + (M * 256) * q2 := by
    rw [← h1, Int.mul_add, Int.mul_comm M a, Int.add_assoc, Int.mul_assoc]
  have hp : 0 ≤ a * M := Int.mul_nonneg h5 (Int.le_of_lt hM)
  have hq : a * M ≤ 255 * M := Int.mul_le_mul_of_nonneg_right (by omega) (Int.le_of_lt hM)
  rw [e, Int.add_mul_emod_self_left]
  exact Int.emod_eq_of_lt (by omega) (by omega)

theorem or_join (S r : Int) (k : Nat) (hk : k ≤ 7) (s0 : 0 ≤ S) (s1 : S < 2 ^ (8 * k)) (r0 : 0 ≤ r) (r1 : r < 256) : bits .or .u64 S (IntKind.u64.wrap (r * 2 ^ (8 * k))) = S + r * 2 ^ (8 * k) := by
  have hM := pow_le8 k hk
  have hM0 := pow_pos8 k
  have hp : 0 ≤ r * 2 ^ (8 * k) := Int.mul_nonneg r0 (Int.le_of_lt hM0)
  have hq : r * 2 ^ (8 * k) ≤ 255 * 2 ^ (8 * k) := Int.mul_le_mul_of_nonneg_right (by omega) (Int.le_of_lt hM0)
  rw [show IntKind.u64.wrap (r * 2 ^ (8 * k)) = r * 2 ^ (8 * k) from by
    have : IntKind.u64.wrap (r * 2 ^ (8 * k)) = (r * 2 ^ (8 * k)) % 18446744073709551616 := by simp [IntKind.wrap, IntKind.bits, IntKind.signed]
    rw [this]; exact Int.emod_eq_of_lt hp (by omega)]
  rw [u64_or S _ s0 (by omega) hp (by omega), Nat.or_comm]
  have e : (r * 2 ^ (8 * k)).toNat = r.toNat * 2 ^ (8 * k) := by
    have : (((r.toNat * 2 ^ (8 * k) : Nat)) : Int) = r * 2 ^ (8 * k) := by
      rw [Int.natCast_mul, Int.toNat_of_nonneg r0, Int.natCast_pow]; rfl
    omega
  have hs : S.toNat < 2 ^ (8 * k) := by
    have : (((2 ^ (8 * k) : Nat)) : Int) = 2 ^ (8 * k) := by rw [Int.natCast_pow]; rfl
    omega
  rw [nat_join (8 * k) _ _ (by rw [e]; exact Nat.mul_mod_left _ _) hs]
  omega

theorem Words.next {x y one : Int} {k : Nat} {S L : Int} {C D : Bool} (h : Words x y one k S L C D) {a b : Int} (ha : x / 2 ^ (8 * k) % 256 = a) (hb : y / 2 ^ (8 * k) % 256 = b) :
    Words x y one (k + 1) (S + addR a b C * 2 ^ (8 * k)) (L + subR a b D * 2 ^ (8 * k)) (decide (255 < a + b + num1 C)) (decide (a - b - num1 D < 0)) := by
  have hM := pow_pos8 k
  have hx := emod_next x _ hM
  have hy := emod_next y _ hM
  have a0 : 0 ≤ a ∧ a < 256 := by omega
  have b0 : 0 ≤ b ∧ b < 256 := by omega
  have nC := num1_in C
  have nD := num1_in D
  rw [ha] at hx
  rw [hb] at hy
  obtain ⟨s0, s1, l0, l1, hs, hl⟩ := h
  obtain ⟨r0, r1⟩ := addR_in a b C
  obtain ⟨d0, d1⟩ := subR_in a b D
  have e1 : addR a b C + num1 (decide (255 < a + b + num1 C)) * 256 = a + b + num1 C := by
    by_cases h : 255 < a + b + num1 C
    · rw [decide_eq_true h]; show addR a b C + 1 * 256 = _; unfold addR; omega
    · rw [decide_eq_false h]; show addR a b C + 0 * 256 = _; unfold addR; omega
  have e2 : subR a b D - num1 (decide (a - b - num1 D < 0)) * 256 = a - b - num1 D := by
    by_cases h : a - b - num1 D < 0
    · rw [decide_eq_true h]; show subR a b D - 1 * 256 = _; unfold subR; omega
    · rw [decide_eq_false h]; show subR a b D - 0 * 256 = _; unfold subR; omega
  suffices H : 0 ≤ S + addR a b C * 2 ^ (8 * k) ∧ S + addR a b C * 2 ^ (8 * k) < 2 ^ (8 * (k + 1)) ∧ 0 ≤ L + subR a b D * 2 ^ (8 * k) ∧ L + subR a b D * 2 ^ (8 * k) < 2 ^ (8 * (k + 1)) ∧
      S + addR a b C * 2 ^ (8 * k) + num1 (decide (255 < a + b + num1 C)) * 2 ^ (8 * (k + 1)) = x % 2 ^ (8 * (k + 1)) + y % 2 ^ (8 * (k + 1)) + one ∧
      L + subR a b D * 2 ^ (8 * k) - num1 (decide (a - b - num1 D < 0)) * 2 ^ (8 * (k + 1)) = x % 2 ^ (8 * (k + 1)) - y % 2 ^ (8 * (k + 1)) - one by
    obtain ⟨h1, h2, h3, h4, h5, h6⟩ := H
    exact ⟨h1, h2, h3, h4, h5, h6⟩
  generalize num1 (decide (255 < a + b + num1 C)) = c' at *
  generalize num1 (decide (a - b - num1 D < 0)) = d' at *
  generalize addR a b C = r at *
  generalize subR a b D = t at *
  generalize num1 C = c at *
  generalize num1 D = d at *
  have p1 : 0 ≤ r * 2 ^ (8 * k) := Int.mul_nonneg r0 (Int.le_of_lt hM)
  have p2 : r * 2 ^ (8 * k) ≤ 255 * 2 ^ (8 * k) := Int.mul_le_mul_of_nonneg_right (by omega) (Int.le_of_lt hM)
  have p3 : 0 ≤ t * 2 ^ (8 * k) := Int.mul_nonneg d0 (Int.le_of_lt hM)
  have p4 : t * 2 ^ (8 * k) ≤ 255 * 2 ^ (8 * k) := Int.mul_le_mul_of_nonneg_right (by omega) (Int.le_of_lt hM)
  have f1 := congrArg (· * (2 : Int) ^ (8 * k)) e1
  have f2 := congrArg (· * (2 : Int) ^ (8 * k)) e2
  simp only [Int.add_mul, Int.sub_mul] at f1 f2
  generalize hMM : (2 : Int) ^ (8 * k) = M at *
  refine ⟨by omega, by rw [pow8, hMM]; omega, by omega, by rw [pow8, hMM]; omega, ?_, ?_⟩
  · rw [pow8, hMM, hx, hy, Int.mul_comm M 256, ← Int.mul_assoc]; omega
  · rw [pow8, hMM, hx, hy, Int.mul_comm M 256, ← Int.mul_assoc]; omega

theorem wrap_u64 (n : Int) : IntKind.u64.wrap n = n % 18446744073709551616 := by simp [IntKind.wrap, IntKind.bits, IntKind.signed]

theorem Words.done {x y : Int} {S L : Int} {C D : Bool} (h : Words x y 0 8 S L C D) (x0 : 0 ≤ x) (x1 : x < 18446744073709551616) (y0 : 0 ≤ y) (y1 : y < 18446744073709551616) :
    S = IntKind.u64.wrap (IntKind.u64.wrap (x + y)) ∧ L = IntKind.u64.wrap (IntKind.u64.wrap (x - y)) ∧ C = decide (IntKind.u64.wrap (IntKind.u64.wrap (x + y)) < x) ∧ D = decide (x < y) := by
  obtain ⟨s0, s1, l0, l1, hs, hl⟩ := h
  have e : (2 : Int) ^ (8 * 8) = 18446744073709551616 := by decide
  rw [e] at s1 l1 hs hl
  rw [Int.emod_eq_of_lt x0 x1, Int.emod_eq_of_lt y0 y1] at hs hl
  rw [wrap_u64, wrap_u64, wrap_u64, wrap_u64, Int.emod_emod, Int.emod_emod]
  have hS : S = (x + y) % 18446744073709551616 := by cases C <;> simp only [num1, Bool.false_eq_true, if_false, if_true] at hs <;> omega
  have hL : L = (x - y) % 18446744073709551616 := by cases D <;> simp only [num1, Bool.false_eq_true, if_false, if_true] at hl <;> omega
  refine ⟨hS, hL, ?_, ?_⟩
  · rw [← hS]; cases C <;> simp only [num1, Bool.false_eq_true, if_false, if_true] at hs <;> symm <;> simp <;> omega
  · cases D <;> simp only [num1, Bool.false_eq_true, if_false, if_true] at hl <;> symm <;> simp <;> omega

theorem Words.done1 {x y : Int} {S L : Int} {C D : Bool} (h : Words x y 1 8 S L C D) (x0 : 0 ≤ x) (x1 : x < 18446744073709551616) (y0 : 0 ≤ y) (y1 : y < 18446744073709551616) :
    S = IntKind.u64.wrap (IntKind.u64.wrap (x + y) + 1) ∧ L = IntKind.u64.wrap (IntKind.u64.wrap (x - y) - 1) ∧ C = (decide (IntKind.u64.wrap (IntKind.u64.wrap (x + y) + 1) < x) || IntKind.u64.wrap (IntKind.u64.wrap (x + y) + 1) == x) ∧ D = (decide (x < y) || x == y) := by
  obtain ⟨s0, s1, l0, l1, hs, hl⟩ := h
  have e : (2 : Int) ^ (8 * 8) = 18446744073709551616 := by decide
  rw [e] at s1 l1 hs hl
  rw [Int.emod_eq_of_lt x0 x1, Int.emod_eq_of_lt y0 y1] at hs hl
  rw [wrap_u64, wrap_u64, wrap_u64, wrap_u64]
  have hS : S = ((x + y) % 18446744073709551616 + 1) % 18446744073709551616 := by cases C <;> simp only [num1, Bool.false_eq_true, if_false, if_true] at hs <;> omega
  have hL : L = ((x - y) % 18446744073709551616 - 1) % 18446744073709551616 := by cases D <;> simp only [num1, Bool.false_eq_true, if_false, if_true] at hl <;> omega
  refine ⟨hS, hL, ?_, ?_⟩
  · rw [← hS]; cases C <;> simp only [num1, Bool.false_eq_true, if_false, if_true] at hs <;> symm <;> simp <;> omega
  · cases D <;> simp only [num1, Bool.false_eq_true, if_false, if_true] at hl <;> symm <;> simp <;> omega
end Go.Proofs.Ytkmgdpbknmoliaa
