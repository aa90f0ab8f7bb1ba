
/- The walk of AluSame. -/
import Derived.Test.YtkmgdpbknmoliaaU9
namespace Go.Proofs.Ytkmgdpbknmoliaa
open Go.RowKit
set_option linter.unusedSimpArgs false
set_option linter.unusedVariables false

theorem mix_other (f g : Int) (f0 : 0 ≤ f) (f1 : f < 256) (g0 : 0 ≤ g) (g1 : g < 256) : bits .andNot .u8 (mixB f g 40) 40 = bits .andNot .u8 f 40 ∧ bits .and .u8 (mixB f g 40) 40 = bits .and .u8 g 40 := by
  have hf : (f.toNat &&& 215 : Nat) < 2 ^ 8 := Nat.and_lt_two_pow _ (by decide)
  have hg : (g.toNat &&& 40 : Nat) < 2 ^ 8 := Nat.and_lt_two_pow _ (by decide)
  have hm : ((f.toNat &&& 215 : Nat) ||| (g.toNat &&& 40 : Nat)) < 2 ^ 8 := Nat.or_lt_two_pow hf hg
  have e1 : bits .andNot .u8 f 40 = ((f.toNat &&& 215 : Nat) : Int) := u8_andNot f 40 f0 f1 (by decide) (by decide)
  have e2 : bits .and .u8 g 40 = ((g.toNat &&& 40 : Nat) : Int) := u8_and g 40 g0 g1 (by decide) (by decide)
  have e3 : mixB f g 40 = ((((f.toNat &&& 215 : Nat) ||| (g.toNat &&& 40 : Nat)) : Nat) : Int) := by
    unfold mixB; rw [e1, e2]; exact u8_or_nat _ _ hf hg
  rw [e3, e1, e2]
  refine ⟨?_, ?_⟩
  · rw [show bits .andNot .u8 ((((f.toNat &&& 215 : Nat) ||| (g.toNat &&& 40 : Nat)) : Nat) : Int) 40 = ((((f.toNat &&& 215) ||| (g.toNat &&& 40)) &&& (255 - 40) : Nat) : Int) from u8_andNot_nat _ 40 hm (by decide)]
    congr 1
    rw [Nat.and_or_distrib_right, Nat.and_assoc, Nat.and_assoc]
    simp
  · rw [show bits .and .u8 ((((f.toNat &&& 215 : Nat) ||| (g.toNat &&& 40 : Nat)) : Nat) : Int) 40 = ((((f.toNat &&& 215) ||| (g.toNat &&& 40)) &&& 40 : Nat) : Int) from u8_and_nat _ 40 hm (by decide)]
    congr 1
    rw [Nat.and_or_distrib_right, Nat.and_assoc, Nat.and_assoc]
    simp
theorem mix_c (f g : Int) (f0 : 0 ≤ f) (f1 : f < 256) (g0 : 0 ≤ g) (g1 : g < 256) : (0 ≤ mixB f g 1 ∧ mixB f g 1 < 256) ∧ bits .and .u8 (mixB f g 1) 1 = bits .and .u8 g 1 := by
  have hf : (f.toNat &&& 254 : Nat) < 2 ^ 8 := Nat.and_lt_two_pow _ (by decide)
  have hg : (g.toNat &&& 1 : Nat) < 2 ^ 8 := Nat.and_lt_two_pow _ (by decide)
  have hm : ((f.toNat &&& 254 : Nat) ||| (g.toNat &&& 1 : Nat)) < 2 ^ 8 := Nat.or_lt_two_pow hf hg
  have e1 : bits .andNot .u8 f 1 = ((f.toNat &&& 254 : Nat) : Int) := u8_andNot f 1 f0 f1 (by decide) (by decide)
  have e2 : bits .and .u8 g 1 = ((g.toNat &&& 1 : Nat) : Int) := u8_and g 1 g0 g1 (by decide) (by decide)
  have e3 : mixB f g 1 = ((((f.toNat &&& 254 : Nat) ||| (g.toNat &&& 1 : Nat)) : Nat) : Int) := by
    unfold mixB; rw [e1, e2]; exact u8_or_nat _ _ hf hg
  rw [e3, e2]
  refine ⟨by omega, ?_⟩
  rw [show bits .and .u8 ((((f.toNat &&& 254 : Nat) ||| (g.toNat &&& 1 : Nat)) : Nat) : Int) 1 = ((((f.toNat &&& 254) ||| (g.toNat &&& 1)) &&& 1 : Nat) : Int) from u8_and_nat _ 1 hm (by decide)]
  congr 1
  rw [Nat.and_or_distrib_right, Nat.and_assoc, Nat.and_assoc]
  simp
theorem addR_turn (a b : Int) (c : Bool) : addR a b c = addR b a c := by unfold addR; rw [Int.add_comm a b]
theorem addF_turn (a b : Int) (c : Bool) : addF a b c = addF b a c := by
  unfold addF; rw [addR_turn a b, Int.add_comm a b, Int.add_comm (a % 16), Int.add_comm (sgn a)]
theorem do_turn (k : Nat) (hk : k = 0 ∨ k = 4 ∨ k = 5 ∨ k = 6) (a b f : Int) (a0 : 0 ≤ a) (a1 : a < 256) (b0 : 0 ≤ b) (b1 : b < 256) : doR k b a f = doR k a b f ∧ doF k b a f = doF k a b f := by
  rcases hk with rfl | rfl | rfl | rfl <;> simp only [doR, doF]
  · exact ⟨addR_turn _ _ _, addF_turn _ _ _⟩
  · rw [and_turn b a b0 b1 a0 a1]; exact ⟨rfl, rfl⟩
  · rw [xor_turn b a b0 b1 a0 a1]; exact ⟨rfl, rfl⟩
  · rw [or_turn b a b0 b1 a0 a1]; exact ⟨rfl, rfl⟩
theorem tmod_in (n : Int) : -8 < n.tmod 8 ∧ n.tmod 8 < 8 ∧ (n.tmod 8 + 8) % 8 = n % 8 := by
  by_cases h : 0 ≤ n
  · rw [Int.tmod_eq_emod_of_nonneg h]; omega
  · have e : n.tmod 8 = -((-n) % 8) := by rw [← Int.tmod_eq_emod_of_nonneg (by omega : 0 ≤ -n), Int.neg_tmod, Int.neg_neg]
    omega

theorem do_two (k : Nat) (hk : k = 0 ∨ k = 4 ∨ k = 5 ∨ k = 6) (a b f : Int) (a0 : 0 ≤ a) (a1 : a < 256) (b0 : 0 ≤ b) (b1 : b < 256) : ∃ R G : Int,
    (∀ w, Calls Try.prog 23 #[.int .i64 k, .int .u8 a, .int .u8 b, .int .u8 f] w fun e w' => e = .returned (.tuple #[.int .u8 R, .int .u8 G]) ∧ Below w.heap.size w w') ∧
    (∀ w, Calls Try.prog 23 #[.int .i64 k, .int .u8 b, .int .u8 a, .int .u8 f] w fun e w' => e = .returned (.tuple #[.int .u8 R, .int .u8 G]) ∧ Below w.heap.size w w') := by
  have hk8 : ((k : Int) % 8).toNat = k := by omega
  obtain ⟨h1, h2⟩ := do_turn k hk a b f a0 a1 b0 b1
  refine ⟨doR k a b f, doF k a b f, fun w => ?_, fun w => ?_⟩
  · have := a5_do k a b f w a0 a1 b0 b1
    rwa [hk8] at this
  · have := a5_do k b a f w b0 b1 a0 a1
    rwa [hk8, h1, h2] at this
theorem do_eight (op a b f : Int) (a0 : 0 ≤ a) (a1 : a < 256) (b0 : 0 ≤ b) (b1 : b < 256) : ∃ R G : Int,
    (∀ w, Calls Try.prog 23 #[.int .i64 op, .int .u8 a, .int .u8 b, .int .u8 f] w fun e w' => e = .returned (.tuple #[.int .u8 R, .int .u8 G]) ∧ Below w.heap.size w w') ∧
    (∀ w, Calls Try.prog 23 #[.int .i64 (op.tmod 8 + 8), .int .u8 a, .int .u8 b, .int .u8 f] w fun e w' => e = .returned (.tuple #[.int .u8 R, .int .u8 G]) ∧ Below w.heap.size w w') := by
  refine ⟨doR (op % 8).toNat a b f, doF (op % 8).toNat a b f, fun w => a5_do op a b f w a0 a1 b0 b1, fun w => ?_⟩
  have := a5_do (op.tmod 8 + 8) a b f w a0 a1 b0 b1
  rwa [(tmod_in op).2.2] at this

theorem same_0 : logB 0 = 68 := by decide +kernel
theorem subR_self (a : Int) : subR a a false = 0 := by unfold subR num1; simp

set_option maxRecDepth 100000 in
set_option maxHeartbeats 4000000 in
theorem walk_AluSame (w : World) (a : Int) (wa : (Lit.int .u8 a).wf = true) (b : Int) (wb : (Lit.int .u8 b).wf = true) (f : Int) (wf : (Lit.int .u8 f).wf = true) (op : Int) (wo : (Lit.int .i64 op).wf = true) :
    Calls Try.prog 8 #[.int .u8 a, .int .u8 b, .int .u8 f, .int .i64 op] w fun e w' => e = .returned (.bool true) ∧ Below w.heap.size w w' := by
  obtain ⟨a0, a1⟩ := wf_u8 wa
  obtain ⟨b0, b1⟩ := wf_u8 wb
  obtain ⟨f0, f1⟩ := wf_u8 wf
  clear wa wb wf wo
  obtain ⟨q0, q1⟩ := subF_in a b false
  obtain ⟨m1, m2⟩ := mix_other (subF a b false) b q0 q1 b0 b1
  rw [show mixB (subF a b false) b 40 = cpF a b from rfl] at m1 m2
  have s1 := and_self8 a a0 a1
  have s2 := or_self8 a a0 a1
  have s3 := xor_self8 a a0 a1
  have s4 := subR_self a
  have s5 := same_0
  obtain ⟨i0, i1⟩ := addR_in a 1 false
  obtain ⟨j0, j1⟩ := addF_in a 1 false
  obtain ⟨⟨k0, k1⟩, n1⟩ := mix_c (addF a 1 false) f j0 j1 f0 f1
  obtain ⟨l0, l1⟩ := subF_in (addR a 1 false) 1 false
  obtain ⟨_, n2⟩ := mix_c (subF (addR a 1 false) 1 false) (mixB (addF a 1 false) f 1) l0 l1 k0 k1
  rw [n1] at n2
  have s6 := sub_add a 1 false a0 a1
  obtain ⟨t0, t1, _⟩ := tmod_in op
  obtain ⟨R, G, hD1, hD2⟩ := do_eight op a b f a0 a1 b0 b1
  have HD1 := Lib.hid hD1
  have HD2 := Lib.hid hD2
  clear hD1 hD2 q0 q1 l0 l1 k0 k1 j0 j1 f0 f1
  go_enter Try.func8, Try.ntmps8
  go_wp2_with (first
      | (go_at_call 13; (with_reducible refine (lives5_any _).mono ?_); rintro e w' ⟨rfl, rfl⟩)
      | (go_at_call 15; (with_reducible refine (a5_sub a b false _ a0 a1 b0 b1).mono ?_); rintro e w' ⟨rfl, rfl⟩)
      | (go_at_call 17; (with_reducible refine (a5_cp _ _ _ a0 a1 b0 b1).mono ?_); rintro e w' ⟨rfl, rfl⟩))
  go_loopw [13] (fun o wr => (∃ k : Nat, k ≤ 7 ∧ o = .int .i64 k) ∧ Below w.heap.size w wr) (fun o _ => 7 - (intOf o).toNat)
  case atStart => exact ⟨⟨0, by omega, rfl⟩, Below.refl _ _⟩
  case round =>
    obtain ⟨⟨k, hk, rfl⟩, hb⟩ := hrel
    by_cases h7 : k = 7
    · subst h7
      go_wp2_with (first
        | (go_at_call 10; (with_reducible refine (a5_and _ _ _ a0 a1 a0 a1).mono ?_); rintro e w' ⟨rfl, rfl⟩)
        | (go_at_call 27; (with_reducible refine (a5_or _ _ _ a0 a1 a0 a1).mono ?_); rintro e w' ⟨rfl, rfl⟩)
        | (go_at_call 29; (with_reducible refine (a5_xor _ _ _ a0 a1 a0 a1).mono ?_); rintro e w' ⟨rfl, rfl⟩)
        | (go_at_call 15; (with_reducible refine (a5_sub a a false _ a0 a1 a0 a1).mono ?_); rintro e w' ⟨rfl, rfl⟩)
        | (go_at_call 11; (with_reducible refine (a5_inc _ _ _ a0 a1).mono ?_); rintro e w' ⟨rfl, rfl⟩)
        | (go_at_call 31; (with_reducible refine (a5_dec _ _ _ i0 i1).mono ?_); rintro e w' ⟨rfl, rfl⟩)
        | (go_at_call 23; (with_reducible refine (HD1.out _).mono ?_); rintro e w1 ⟨rfl, hb1⟩)
        | (go_at_call 23; (with_reducible refine (HD2.out _).mono ?_); rintro e w2 ⟨rfl, hb2⟩))
      go_ret
      exact ⟨rfl, hb.trans ((hb1.trans (hb2.mono hb1.size)).mono hb.size)⟩
    · by_cases hc : k = 1 ∨ k = 2 ∨ k = 3
      · rcases hc with rfl | rfl | rfl
        all_goals
          go_wp2
          go_roundw
          case rel => exact ⟨⟨_, by decide, rfl⟩, hb⟩
          case measure => simp [intOf]
      · have hk4 : k = 0 ∨ k = 4 ∨ k = 5 ∨ k = 6 := by omega
        obtain ⟨X, Y, hE1, hE2⟩ := do_two k hk4 a b f a0 a1 b0 b1
        have HE1 := Lib.hid hE1
        have HE2 := Lib.hid hE2
        clear hE1 hE2 hc h7
        have n1 : ((k : Int) == 1) = false := by simp; omega
        have n2 : ((k : Int) == 2) = false := by simp; omega
        have n3 : ((k : Int) == 3) = false := by simp; omega
        have n4 : k < 7 := by omega
        go_wp2_with fail
        refine (HE1.out _).mono ?_
        rintro e w1 ⟨rfl, hb1⟩
        go_wp2_with fail
        refine (HE2.out _).mono ?_
        rintro e w2 ⟨rfl, hb2⟩
        go_wp2_with fail
        go_roundw
        case rel => exact ⟨⟨k + 1, by omega, by go_num⟩, hb.trans ((hb1.trans (hb2.mono hb1.size)).mono hb.size)⟩
        case measure => simp [intOf]; omega
end Go.Proofs.Ytkmgdpbknmoliaa
