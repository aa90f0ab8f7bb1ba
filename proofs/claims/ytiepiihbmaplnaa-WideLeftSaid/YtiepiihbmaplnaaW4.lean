
/- What the document's own answers of chapter 7 are. -/
import Derived.Test.YtiepiihbmaplnaaW1
import Derived.Test.YtiepiihbmaplnaaU5
namespace Go.Proofs.Ytiepiihbmaplnaa
open Go.RowKit
set_option linter.unusedSimpArgs false
set_option linter.unusedVariables false

theorem div256 (r : Int) (r0 : 0 ≤ r) (r1 : r < 65536) : IntKind.u16.wrap (r.tdiv 256) = r / 256 := by
  rw [wrap_u16, Int.tdiv_eq_ediv_of_nonneg r0]; omega
theorem mod256 (r : Int) (r0 : 0 ≤ r) (r1 : r < 65536) : r / 256 % 256 = r / 256 := by omega
theorem r4_in (x : Int) : 0 ≤ IntKind.u16.wrap x ∧ IntKind.u16.wrap x < 65536 := by rw [wrap_u16]; omega

theorem r7_pair (h l : Int) (w : World) (h0 : 0 ≤ h) (h1 : h < 256) (l0 : 0 ≤ l) (l1 : l < 256) : Calls Try.prog 22 #[.int .u8 h, .int .u8 l] w fun e w' => e = .returned (.int .u16 (h * 256 + l)) ∧ w = w' := by
  go_enter Try.func22, Try.ntmps22
  go_wp2
  go_ret
  exact ⟨ret_u16 (by simp only [wrap_u16] <;> omega), rfl⟩

theorem r7_split (r : Int) (w : World) (r0 : 0 ≤ r) (r1 : r < 65536) : Calls Try.prog 21 #[.int .u16 r] w fun e w' => e = .returned (.tuple #[.int .u8 (r / 256), .int .u8 (r % 256)]) ∧ w = w' := by
  have q1 := div256 r r0 r1
  have q2 := mod256 r r0 r1
  go_enter Try.func21, Try.ntmps21
  go_wp2
  go_ret2
  exact ⟨rfl, rfl⟩

theorem r7_signed (v : Int) (w : World) (v0 : 0 ≤ v) (v1 : v < 256) : Calls Try.prog 23 #[.int .u8 v] w fun e w' => e = .returned (.int .i64 (sgn v)) ∧ w = w' := by
  go_enter Try.func23, Try.ntmps23
  go_wp2
  all_goals
    go_ret
    exact ⟨a5_ret64 (by unfold sgn; first | rw [if_pos (by omega)] | rw [if_neg (by omega)]), rfl⟩

theorem r7_plus (r d : Int) (w : World) (r0 : 0 ≤ r) (r1 : r < 65536) (d0 : 0 ≤ d) (d1 : d < 256) : Calls Try.prog 24 #[.int .u16 r, .int .u8 d] w fun e w' => e = .returned (.int .u16 ((r + sgn d) % 65536)) ∧ w = w' := by
  obtain ⟨s0, s1⟩ := sgn_in d d0 d1
  go_enter Try.func24, Try.ntmps24
  go_wp2_with (go_at_call 23; (with_reducible refine (r7_signed _ _ d0 d1).mono ?_); rintro e w' ⟨rfl, rfl⟩)
  go_ret
  exact ⟨ret_u16 (by simp only [wrap_u16] <;> omega), rfl⟩

theorem r7_yx (r : Int) (w : World) (r0 : 0 ≤ r) (r1 : r < 65536) : Calls Try.prog 38 #[.int .u16 r] w fun e w' => e = .returned (.int .u8 (bits .and .u8 (r / 256) 40)) ∧ w = w' := by
  have q1 := div256 r r0 r1
  have q2 := mod256 r r0 r1
  go_enter Try.func38, Try.ntmps38
  go_wp2
  go_ret
  exact ⟨rfl, rfl⟩

theorem r7_wsigned (a : Int) (w : World) (a0 : 0 ≤ a) (a1 : a < 65536) : Calls Try.prog 42 #[.int .u16 a] w fun e w' => e = .returned (.int .i64 (sgnW a)) ∧ w = w' := by
  go_enter Try.func42, Try.ntmps42
  go_wp2
  all_goals
    go_ret
    exact ⟨a5_ret64 (by unfold sgnW; first | rw [if_pos (by omega)] | rw [if_neg (by omega)]), rfl⟩

theorem r7_sz (r : Int) (w : World) (r0 : 0 ≤ r) (r1 : r < 65536) : Calls Try.prog 43 #[.int .u16 r] w fun e w' => e = .returned (.int .u8 (bits .or .u8 (bits .or .u8 (bits .and .u8 (r / 256) 128) (flg (r == 0) 64)) (bits .and .u8 (r / 256) 40))) ∧ w = w' := by
  have q1 := div256 r r0 r1
  have q2 := mod256 r r0 r1
  go_enter Try.func43, Try.ntmps43
  go_wp2_with (first
    | (go_at_call 39; (with_reducible refine (r5_flag _ _ _).mono ?_); rintro e w' ⟨rfl, rfl⟩)
    | (go_at_call 38; (with_reducible refine (r7_yx _ _ r0 r1).mono ?_); rintro e w' ⟨rfl, rfl⟩))
  go_ret
  exact ⟨rfl, rfl⟩

set_option maxHeartbeats 800000 in
theorem r7_add (a b f : Int) (w : World) (a0 : 0 ≤ a) (a1 : a < 65536) (b0 : 0 ≤ b) (b1 : b < 65536) (f0 : 0 ≤ f) (f1 : f < 256) : Calls Try.prog 16 #[.int .u16 a, .int .u16 b, .int .u8 f] w fun e w' =>
    e = .returned (.tuple #[.int .u16 (addW a b false), .int .u8 (addWF a b f)]) ∧ w = w' := by
  have hr : IntKind.u16.wrap (a + b) = addW a b false := by rw [wrap_u16]; simp [addW, num1]
  obtain ⟨r0, r1⟩ := addW_in a b false
  unfold addWF flA
  generalize addW a b false = r at *
  go_enter Try.func16, Try.ntmps16
  go_wp2_with (first
    | (go_at_call 39; (with_reducible refine (r5_flag _ _ _).mono ?_); rintro e w' ⟨rfl, rfl⟩)
    | (go_at_call 38; (with_reducible refine (r7_yx _ _ r0 r1).mono ?_); rintro e w' ⟨rfl, rfl⟩))
  go_ret2
  exact ⟨rfl, rfl⟩

set_option maxHeartbeats 800000 in
theorem r7_adc (a b f : Int) (w : World) (a0 : 0 ≤ a) (a1 : a < 65536) (b0 : 0 ≤ b) (b1 : b < 65536) (f0 : 0 ≤ f) (f1 : f < 256) : Calls Try.prog 18 #[.int .u16 a, .int .u16 b, .int .u8 f] w fun e w' =>
    e = .returned (.tuple #[.int .u16 (addW a b (cyB f)), .int .u8 (adcF a b (cyB f))]) ∧ w = w' := by
  have hc := cy_num f f0 f1
  obtain ⟨n0, n1⟩ := num1_in (cyB f)
  generalize cyB f = c at *
  obtain ⟨sa0, sa1⟩ := sgnW_in a a0 a1
  obtain ⟨sb0, sb1⟩ := sgnW_in b b0 b1
  have hr : IntKind.u16.wrap (a + b + num1 c) = addW a b c := by rw [wrap_u16]; rfl
  obtain ⟨r0, r1⟩ := addW_in a b c
  unfold adcF flW
  generalize addW a b c = r at *
  go_enter Try.func18, Try.ntmps18
  go_wp2_with (first
    | (go_at_call 39; (with_reducible refine (r5_flag _ _ _).mono ?_); rintro e w' ⟨rfl, rfl⟩)
    | (go_at_call 42; (with_reducible refine (r7_wsigned _ _ (by assumption) (by assumption)).mono ?_); rintro e w' ⟨rfl, rfl⟩)
    | (go_at_call 43; (with_reducible refine (r7_sz _ _ r0 r1).mono ?_); rintro e w' ⟨rfl, rfl⟩))
  all_goals
    go_ret2
    exact ⟨ret_u16u8 rfl (by unfold outW; simp only [*, decide_true, decide_false, Bool.or_true, Bool.true_or, Bool.or_false, Bool.false_or]), rfl⟩

set_option maxHeartbeats 800000 in
theorem r7_sbc (a b f : Int) (w : World) (a0 : 0 ≤ a) (a1 : a < 65536) (b0 : 0 ≤ b) (b1 : b < 65536) (f0 : 0 ≤ f) (f1 : f < 256) : Calls Try.prog 20 #[.int .u16 a, .int .u16 b, .int .u8 f] w fun e w' =>
    e = .returned (.tuple #[.int .u16 (subW a b (cyB f)), .int .u8 (sbcF a b (cyB f))]) ∧ w = w' := by
  have hc := cy_num f f0 f1
  obtain ⟨n0, n1⟩ := num1_in (cyB f)
  generalize cyB f = c at *
  obtain ⟨sa0, sa1⟩ := sgnW_in a a0 a1
  obtain ⟨sb0, sb1⟩ := sgnW_in b b0 b1
  have hr : IntKind.u16.wrap (a - b - num1 c) = subW a b c := by rw [wrap_u16]; rfl
  obtain ⟨r0, r1⟩ := subW_in a b c
  unfold sbcF flW
  generalize subW a b c = r at *
  go_enter Try.func20, Try.ntmps20
  go_wp2_with (first
    | (go_at_call 39; (with_reducible refine (r5_flag _ _ _).mono ?_); rintro e w' ⟨rfl, rfl⟩)
    | (go_at_call 42; (with_reducible refine (r7_wsigned _ _ (by assumption) (by assumption)).mono ?_); rintro e w' ⟨rfl, rfl⟩)
    | (go_at_call 43; (with_reducible refine (r7_sz _ _ r0 r1).mono ?_); rintro e w' ⟨rfl, rfl⟩))
  all_goals
    go_ret2
    exact ⟨ret_u16u8 rfl (by unfold outW; simp only [*, decide_true, decide_false, Bool.or_true, Bool.true_or, Bool.or_false, Bool.false_or]), rfl⟩

theorem r7_odd (n : Int) (w : World) (n0 : 0 ≤ n) (n1 : n < 256) : Calls Try.prog 46 #[.int .u8 n] w fun e w' => e = .returned (.int .u8 (oddB n)) ∧ w = w' := by
  go_enter Try.func46, Try.ntmps46
  go_wp2_with (go_at_call 39; (with_reducible refine (r5_flag _ _ _).mono ?_); rintro e w' ⟨rfl, rfl⟩)
  go_ret
  exact ⟨rfl, rfl⟩

theorem r7_move (a v l f : Int) (w : World) (a0 : 0 ≤ a) (a1 : a < 256) (v0 : 0 ≤ v) (v1 : v < 256) : Calls Try.prog 25 #[.int .u8 a, .int .u8 v, .int .u16 l, .int .u8 f] w fun e w' => e = .returned (.int .u8 (moveF a v l f)) ∧ w = w' := by
  go_enter Try.func25, Try.ntmps25
  go_wp2_with (first
    | (go_at_call 46; (with_reducible refine (r7_odd _ _ (by omega) (by omega)).mono ?_); rintro e w' ⟨rfl, rfl⟩)
    | (go_at_call 39; (with_reducible refine (r5_flag _ _ _).mono ?_); rintro e w' ⟨rfl, rfl⟩))
  go_ret
  exact ⟨rfl, rfl⟩

theorem r7_find (a v l f : Int) (w : World) (a0 : 0 ≤ a) (a1 : a < 256) (v0 : 0 ≤ v) (v1 : v < 256) (f0 : 0 ≤ f) (f1 : f < 256) : Calls Try.prog 27 #[.int .u8 a, .int .u8 v, .int .u16 l, .int .u8 f] w fun e w' => e = .returned (.int .u8 (findF a v l f)) ∧ w = w' := by
  obtain ⟨g0, g1⟩ := subF_in a v false
  obtain ⟨r0, r1⟩ := subR_in a v false
  obtain ⟨n0, n1⟩ := findN_in a v
  have hN : findN a v = if bits .and .u8 (subF a v false) 16 = 0 then subR a v false else (subR a v false - 1) % 256 := rfl
  unfold findF
  have hA := fun w => r5_sub a v false w a0 a1 v0 v1
  have HA := Lib.hid hA
  clear hA
  generalize findN a v = n at *
  generalize subF a v false = g at *
  generalize subR a v false = r at *
  by_cases hh : bits .and .u8 g 16 = 0
  · rw [if_pos hh] at hN
    subst hN
    go_enter Try.func27, Try.ntmps27
    go_wp2_with (first
      | (go_at_call 31; (with_reducible refine (HA.out _).mono ?_); rintro e w' ⟨rfl, rfl⟩)
      | (go_at_call 46; (with_reducible refine (r7_odd _ _ n0 n1).mono ?_); rintro e w' ⟨rfl, rfl⟩)
      | (go_at_call 39; (with_reducible refine (r5_flag _ _ _).mono ?_); rintro e w' ⟨rfl, rfl⟩))
    go_ret
    exact ⟨rfl, rfl⟩
  · rw [if_neg hh] at hN
    subst hN
    go_enter Try.func27, Try.ntmps27
    go_wp2_with (first
      | (go_at_call 31; (with_reducible refine (HA.out _).mono ?_); rintro e w' ⟨rfl, rfl⟩)
      | (go_at_call 46; (with_reducible refine (r7_odd _ _ n0 n1).mono ?_); rintro e w' ⟨rfl, rfl⟩)
      | (go_at_call 39; (with_reducible refine (r5_flag _ _ _).mono ?_); rintro e w' ⟨rfl, rfl⟩))
    go_ret
    exact ⟨rfl, rfl⟩

theorem r7_port (v b t : Int) (w : World) (v0 : 0 ≤ v) (v1 : v < 256) (b0 : 0 ≤ b) (b1 : b < 256) (t0 : 0 ≤ t) (t1 : t < 256) : Calls Try.prog 29 #[.int .u8 v, .int .u8 b, .int .u8 t] w fun e w' => e = .returned (.int .u8 (portF v b t)) ∧ w = w' := by
  have hx := xor_in ((v + t) % 8) b (by omega) (by omega) b0 b1
  unfold portF
  go_enter Try.func29, Try.ntmps29
  go_wp2_with (first
    | (go_at_call 51; (with_reducible refine (r5_own _ _ b0 b1).mono ?_); rintro e w' ⟨rfl, rfl⟩)
    | (go_at_call 39; (with_reducible refine (r5_flag _ _ _).mono ?_); rintro e w' ⟨rfl, rfl⟩)
    | (go_at_call 52; (with_reducible refine (r5_parity _ _ hx.1 hx.2).mono ?_); rintro e w' ⟨rfl, rfl⟩))
  go_ret
  exact ⟨rfl, rfl⟩
end Go.Proofs.Ytiepiihbmaplnaa
