
/- The walk of AluWords. -/
import Derived.Test.YtkmgdpbknmoliaaU9
import Derived.Test.YtkmgdpbknmoliaaU12
namespace Go.Proofs.Ytkmgdpbknmoliaa
open Go.RowKit
set_option linter.unusedSimpArgs false
set_option linter.unusedVariables false

set_option maxRecDepth 100000 in
set_option maxHeartbeats 4000000 in
theorem walk_AluWords (w : World) (x : Int) (wx : (Lit.int .u64 x).wf = true) (y : Int) (wy : (Lit.int .u64 y).wf = true) (carry : Bool) :
    Calls Try.prog 7 #[.int .u64 x, .int .u64 y, .bool carry] w fun e w' => e = .returned (.bool true) ∧ Below w.heap.size w w' := by
  have hx : 0 ≤ x ∧ x < 18446744073709551616 := by have := bounds_u64 wx; omega
  have hy : 0 ≤ y ∧ y < 18446744073709551616 := by have := bounds_u64 wy; omega
  obtain ⟨x0, x1⟩ := hx
  obtain ⟨y0, y1⟩ := hy
  clear wx wy
  go_enter Try.func7, Try.ntmps7
  go_wp2_with (first
      | (go_at_call 13; (with_reducible refine (lives5_any _).mono ?_); rintro e w' ⟨rfl, rfl⟩))
  go_loop [7, 8, 9, 10, 11] (fun s l c d o => ∃ (k : Nat) (S L : Int) (C D : Bool), k ≤ 8 ∧ o = .int .i64 k ∧ s = .int .u64 S ∧ l = .int .u64 L ∧ c = .bool C ∧ d = .bool D ∧ Words x y (num1 carry) k S L C D) (fun _ _ _ _ o => 8 - (intOf o).toNat)
  case atStart =>
    refine ⟨0, 0, 0, carry, carry, by omega, rfl, rfl, rfl, rfl, rfl, ?_⟩
    have e : (2 : Int) ^ (8 * 0) = 1 := rfl
    exact ⟨by omega, by rw [e]; omega, by omega, by rw [e]; omega, by rw [e, Int.emod_one, Int.emod_one]; omega, by rw [e, Int.emod_one, Int.emod_one]; omega⟩
  case round =>
    obtain ⟨k, S, L, C, D, hk, rfl, rfl, rfl, rfl, rfl, hW⟩ := hrel
    by_cases h7 : k < 8
    · have hW' := hW
      obtain ⟨S0, S1, L0, L1, _, _⟩ := hW'
      have S2 : S < 18446744073709551616 := by have := pow_le8 k (by omega); omega
      have L2 : L < 18446744073709551616 := by have := pow_le8 k (by omega); omega
      go_wp2_with fail
      have ha : 0 ≤ x / 2 ^ (8 * k) % 256 ∧ x / 2 ^ (8 * k) % 256 < 256 := by omega
      have hb : 0 ≤ y / 2 ^ (8 * k) % 256 ∧ y / 2 ^ (8 * k) % 256 < 256 := by omega
      generalize hga : x / 2 ^ (8 * k) % 256 = a at *
      generalize hgb : y / 2 ^ (8 * k) % 256 = b at *
      obtain ⟨a0, a1⟩ := ha
      obtain ⟨b0, b1⟩ := hb
      have hN := hW.next hga hgb
      clear hga hgb
      obtain ⟨_, fC, _⟩ := add_says a b C
      obtain ⟨_, gC, _⟩ := sub_says a b D
      have k1 := flg_ne (decide (255 < a + b + num1 C)) 1 (by decide)
      have k2 := flg_ne (decide (a - b - num1 D < 0)) 1 (by decide)
      obtain ⟨r0, r1⟩ := addR_in a b C
      obtain ⟨s0, s1⟩ := subR_in a b D
      have j1 := or_join S (addR a b C) k (by omega) S0 S1 r0 r1
      have j2 := or_join L (subR a b D) k (by omega) L0 L1 s0 s1
      have J1 := Lib.hid j1
      have J2 := Lib.hid j2
      clear j1 j2
      refine (a5_add a b C _ a0 a1 b0 b1).mono ?_
      rintro e w' ⟨rfl, rfl⟩
      go_wp2_with fail
      refine (a5_sub a b D _ a0 a1 b0 b1).mono ?_
      rintro e w' ⟨rfl, rfl⟩
      go_wp2_with fail
      go_round
      case rel => exact ⟨k + 1, _, _, _, _, by omega, by go_num, by rw [J1.out], by rw [J2.out], rfl, rfl, hN⟩
      case measure => simp [intOf]; omega
    · obtain rfl : k = 8 := by omega
      cases carry
      · have H := Lib.hid (Words.done hW x0 x1 y0 y1)
        clear hW
        go_wp2_with fail
        all_goals
          go_ret
          refine ⟨?_, Below.refl _ _⟩
          obtain ⟨h1, h2, h3, h4⟩ := H.out
          first
            | exact absurd h1 (by assumption)
            | exact absurd h2 (by assumption)
            | exact absurd h3 (by assumption)
            | (refine congrArg (fun b => Ending.returned (.bool b)) (?_ : _ = true)
               first
                 | (rw [h4]; exact beq_self_eq_true _)
                 | (rw [h4, decide_eq_true (by assumption)]; done)
                 | (rw [h4, decide_eq_true (by assumption)]; rfl)
                 | exact absurd (h3.trans (decide_eq_true (by assumption))) (by assumption)
                 | exact absurd (h3.trans (by rw [decide_eq_true (by assumption)]; first | done | rfl)) (by assumption))
      · have H := Lib.hid (Words.done1 hW x0 x1 y0 y1)
        clear hW
        go_wp2_with fail
        all_goals
          go_ret
          refine ⟨?_, Below.refl _ _⟩
          obtain ⟨h1, h2, h3, h4⟩ := H.out
          first
            | exact absurd h1 (by assumption)
            | exact absurd h2 (by assumption)
            | exact absurd h3 (by assumption)
            | (refine congrArg (fun b => Ending.returned (.bool b)) (?_ : _ = true)
               first
                 | (rw [h4]; exact beq_self_eq_true _)
                 | (rw [h4, decide_eq_true (by assumption)]; done)
                 | (rw [h4, decide_eq_true (by assumption)]; rfl)
                 | exact absurd (h3.trans (decide_eq_true (by assumption))) (by assumption)
                 | exact absurd (h3.trans (by rw [decide_eq_true (by assumption)]; first | done | rfl)) (by assumption))
end Go.Proofs.Ytkmgdpbknmoliaa
