
/- What the document's own answers of chapter 5 are, further. -/
import Derived.Test.YtkmgdpbknmoliaaU5
namespace Go.Proofs.Ytkmgdpbknmoliaa
open Go.RowKit
set_option linter.unusedSimpArgs false

theorem r5_logic (r : Int) (w : World) (h0 : 0 ≤ r) (h1 : r < 256) : Calls Try.prog 45 #[.int .u8 r] w fun e w' => e = .returned (.int .u8 (logB r)) ∧ w = w' := by
  go_enter Try.func45, Try.ntmps45
  go_wp2_with (first | (go_at_call 40; (with_reducible refine (r5_flag _ _ _).mono ?_); rintro e w' ⟨rfl, rfl⟩) | (go_at_call 22; (with_reducible refine (r5_parity _ _ h0 h1).mono ?_); rintro e w' ⟨rfl, rfl⟩) | (go_at_call 20; (with_reducible refine (r5_own _ _ h0 h1).mono ?_); rintro e w' ⟨rfl, rfl⟩))
  go_ret
  exact ⟨rfl, rfl⟩

theorem r5_and (a b : Int) (w : World) (a0 : 0 ≤ a) (a1 : a < 256) (b0 : 0 ≤ b) (b1 : b < 256) : Calls Try.prog 26 #[.int .u8 a, .int .u8 b] w fun e w' => e = .returned (.tuple #[.int .u8 (bits .and .u8 a b), .int .u8 (bits .or .u8 (logB (bits .and .u8 a b)) 16)]) ∧ w = w' := by
  obtain ⟨h0, h1⟩ := and_in a b a0 a1 b0 b1
  go_enter Try.func26, Try.ntmps26
  go_wp2_with (go_at_call 45; (with_reducible refine (r5_logic _ _ h0 h1).mono ?_); rintro e w' ⟨rfl, rfl⟩)
  go_ret2
  exact ⟨rfl, rfl⟩

theorem r5_or (a b : Int) (w : World) (a0 : 0 ≤ a) (a1 : a < 256) (b0 : 0 ≤ b) (b1 : b < 256) : Calls Try.prog 28 #[.int .u8 a, .int .u8 b] w fun e w' => e = .returned (.tuple #[.int .u8 (bits .or .u8 a b), .int .u8 (logB (bits .or .u8 a b))]) ∧ w = w' := by
  obtain ⟨h0, h1⟩ := or_in a b a0 a1 b0 b1
  go_enter Try.func28, Try.ntmps28
  go_wp2_with (go_at_call 45; (with_reducible refine (r5_logic _ _ h0 h1).mono ?_); rintro e w' ⟨rfl, rfl⟩)
  go_ret2
  exact ⟨rfl, rfl⟩

theorem r5_xor (a b : Int) (w : World) (a0 : 0 ≤ a) (a1 : a < 256) (b0 : 0 ≤ b) (b1 : b < 256) : Calls Try.prog 30 #[.int .u8 a, .int .u8 b] w fun e w' => e = .returned (.tuple #[.int .u8 (bits .xor .u8 a b), .int .u8 (logB (bits .xor .u8 a b))]) ∧ w = w' := by
  obtain ⟨h0, h1⟩ := xor_in a b a0 a1 b0 b1
  go_enter Try.func30, Try.ntmps30
  go_wp2_with (go_at_call 45; (with_reducible refine (r5_logic _ _ h0 h1).mono ?_); rintro e w' ⟨rfl, rfl⟩)
  go_ret2
  exact ⟨rfl, rfl⟩

theorem r5_cp (a b : Int) (w : World) (a0 : 0 ≤ a) (a1 : a < 256) (b0 : 0 ≤ b) (b1 : b < 256) : Calls Try.prog 18 #[.int .u8 a, .int .u8 b] w fun e w' => e = .returned (.int .u8 (cpF a b)) ∧ w = w' := by
  go_enter Try.func18, Try.ntmps18
  go_wp2_with (go_at_call 16; (with_reducible refine (r5_sub _ _ _ _ a0 a1 b0 b1).mono ?_); rintro e w' ⟨rfl, rfl⟩)
  go_ret
  exact ⟨rfl, rfl⟩

theorem r5_inc (a f : Int) (w : World) (a0 : 0 ≤ a) (a1 : a < 256) : Calls Try.prog 25 #[.int .u8 a, .int .u8 f] w fun e w' => e = .returned (.tuple #[.int .u8 (addR a 1 false), .int .u8 (mixB (addF a 1 false) f 1)]) ∧ w = w' := by
  go_enter Try.func25, Try.ntmps25
  go_wp2_with (go_at_call 14; (with_reducible refine (r5_add _ _ _ _ a0 a1 (by decide) (by decide)).mono ?_); rintro e w' ⟨rfl, rfl⟩)
  go_ret2
  exact ⟨rfl, rfl⟩

theorem r5_dec (a f : Int) (w : World) (a0 : 0 ≤ a) (a1 : a < 256) : Calls Try.prog 32 #[.int .u8 a, .int .u8 f] w fun e w' => e = .returned (.tuple #[.int .u8 (subR a 1 false), .int .u8 (mixB (subF a 1 false) f 1)]) ∧ w = w' := by
  go_enter Try.func32, Try.ntmps32
  go_wp2_with (go_at_call 16; (with_reducible refine (r5_sub _ _ _ _ a0 a1 (by decide) (by decide)).mono ?_); rintro e w' ⟨rfl, rfl⟩)
  go_ret2
  exact ⟨rfl, rfl⟩

theorem r5_neg (a : Int) (w : World) (a0 : 0 ≤ a) (a1 : a < 256) : Calls Try.prog 33 #[.int .u8 a] w fun e w' => e = .returned (.tuple #[.int .u8 (subR 0 a false), .int .u8 (subF 0 a false)]) ∧ w = w' := by
  go_enter Try.func33, Try.ntmps33
  go_wp2_with (go_at_call 16; (with_reducible refine (r5_sub _ _ _ _ (by decide) (by decide) a0 a1).mono ?_); rintro e w' ⟨rfl, rfl⟩)
  go_ret2
  exact ⟨rfl, rfl⟩

theorem r5_mod (n : Int) (w : World) (hn : (Lit.int .i64 n).wf = true) : Calls Try.prog 44 #[.int .i64 n, .int .i64 8] w fun e w' => e = .returned (.int .i64 (n % 8)) ∧ w = w' := by
  have hb := bounds_i64 hn
  by_cases h : 0 ≤ n
  · go_enter Try.func44, Try.ntmps44
    go_wp2
    go_ret
    exact ⟨rfl, rfl⟩
  · obtain ⟨h1, h2, h3⟩ : -8 < n.tmod 8 ∧ n.tmod 8 ≤ 0 ∧ (if n.tmod 8 < 0 then n.tmod 8 + 8 else n.tmod 8) = n % 8 := by
      have e : n.tmod 8 = -((-n) % 8) := by rw [← Int.tmod_eq_emod_of_nonneg (by omega : 0 ≤ -n), Int.neg_tmod, Int.neg_neg]
      refine ⟨?_, ?_, ?_⟩ <;> (try split) <;> omega
    by_cases h4 : n.tmod 8 < 0
    · rw [if_pos h4] at h3
      have H3 := Lib.hid h3
      clear h3
      go_enter Try.func44, Try.ntmps44
      go_wp2
      go_ret
      exact ⟨a5_ret64 H3.out, rfl⟩
    · rw [if_neg h4] at h3
      have H3 := Lib.hid h3
      clear h3
      go_enter Try.func44, Try.ntmps44
      go_wp2
      go_ret
      exact ⟨a5_ret64 H3.out, rfl⟩

theorem cy_eq (f : Int) (h0 : 0 ≤ f) (h1 : f < 256) : (f % 2 == 1) = cyB f :=
  byte_all (P := fun f => (f % 2 == 1) = cyB f) (by decide +kernel) f h0 h1

set_option maxHeartbeats 1000000 in
theorem r5_do (op a b f : Int) (w : World) (hn : (Lit.int .i64 op).wf = true) (a0 : 0 ≤ a) (a1 : a < 256) (b0 : 0 ≤ b) (b1 : b < 256) (f0 : 0 ≤ f) (f1 : f < 256) : Calls Try.prog 24 #[.int .i64 op, .int .u8 a, .int .u8 b, .int .u8 f] w fun e w' =>
    e = .returned (.tuple #[.int .u8 (doR (op % 8).toNat a b f), .int .u8 (doF (op % 8).toNat a b f)]) ∧ w = w' := by
  have hmod := fun w => r5_mod op w hn
  obtain ⟨k, hk⟩ : ∃ k : Nat, op % 8 = k := ⟨(op % 8).toNat, by omega⟩
  rw [hk] at hmod ⊢
  rw [Int.toNat_natCast]
  have hk8 : k < 8 := by omega
  clear hk
  have hcy := cy_eq f f0 f1
  have HM := Lib.hid hmod
  clear hmod
  obtain rfl | rfl | rfl | rfl | rfl | rfl | rfl | rfl : k = 0 ∨ k = 1 ∨ k = 2 ∨ k = 3 ∨ k = 4 ∨ k = 5 ∨ k = 6 ∨ k = 7 := by omega
  all_goals
    go_enter Try.func24, Try.ntmps24
    go_wp2_with (first
      | (go_at_call 44; (with_reducible refine (HM.out _).mono ?_); rintro e w' ⟨rfl, rfl⟩)
      | (go_at_call 14; (with_reducible refine (r5_add _ _ _ _ a0 a1 b0 b1).mono ?_); rintro e w' ⟨rfl, rfl⟩)
      | (go_at_call 16; (with_reducible refine (r5_sub _ _ _ _ a0 a1 b0 b1).mono ?_); rintro e w' ⟨rfl, rfl⟩)
      | (go_at_call 26; (with_reducible refine (r5_and _ _ _ a0 a1 b0 b1).mono ?_); rintro e w' ⟨rfl, rfl⟩)
      | (go_at_call 28; (with_reducible refine (r5_or _ _ _ a0 a1 b0 b1).mono ?_); rintro e w' ⟨rfl, rfl⟩)
      | (go_at_call 30; (with_reducible refine (r5_xor _ _ _ a0 a1 b0 b1).mono ?_); rintro e w' ⟨rfl, rfl⟩)
      | (go_at_call 18; (with_reducible refine (r5_cp _ _ _ a0 a1 b0 b1).mono ?_); rintro e w' ⟨rfl, rfl⟩))
    go_ret2
    exact ⟨rfl, rfl⟩
end Go.Proofs.Ytkmgdpbknmoliaa
