
/- What the functions of package wide make of the flags for block instructions. -/
import Derived.Test.YtiepiihbmaplnaaW2
namespace Go.Proofs.Ytiepiihbmaplnaa
open Go.RowKit
set_option linter.unusedSimpArgs false
set_option linter.unusedVariables false

theorem w7_odd (n : Int) (w : World) (n0 : 0 ≤ n) (n1 : n < 256) : Calls Try.prog 36 #[.int .u8 n] w fun e w' => e = .returned (.int .u8 (oddB n)) ∧ w = w' := by
  have e := odd_code n n0 n1
  have E := Lib.hid e
  clear e
  go_enter Try.func36, Try.ntmps36
  go_wp2
  go_ret
  exact ⟨ret_u8 E.out, rfl⟩

theorem w7_more (l : Int) (w : World) : Calls Try.prog 37 #[.int .u16 l] w fun e w' => e = .returned (.int .u8 (flg (l != 0) 4)) ∧ w = w' := by
  go_enter Try.func37, Try.ntmps37
  go_wp2_with (go_at_call 49; (with_reducible refine (w7_flag _ _ _).mono ?_); rintro e w' ⟨rfl, rfl⟩)
  go_ret
  exact ⟨rfl, rfl⟩

theorem w7_move (a v l f : Int) (w : World) (a0 : 0 ≤ a) (a1 : a < 256) (v0 : 0 ≤ v) (v1 : v < 256) : Calls Try.prog 12 #[.int .u8 a, .int .u8 v, .int .u16 l, .int .u8 f] w fun e w' => e = .returned (.int .u8 (moveF a v l f)) ∧ w = w' := by
  go_enter Try.func12, Try.ntmps12
  go_wp2_with (first
    | (go_at_call 36; (with_reducible refine (w7_odd _ _ (by omega) (by omega)).mono ?_); rintro e w' ⟨rfl, rfl⟩)
    | (go_at_call 37; (with_reducible refine (w7_more _ _).mono ?_); rintro e w' ⟨rfl, rfl⟩))
  go_ret
  exact ⟨rfl, rfl⟩

theorem w7_find (a v l f : Int) (w : World) (a0 : 0 ≤ a) (a1 : a < 256) (v0 : 0 ≤ v) (v1 : v < 256) (f0 : 0 ≤ f) (f1 : f < 256) : Calls Try.prog 26 #[.int .u8 a, .int .u8 v, .int .u16 l, .int .u8 f] w fun e w' => e = .returned (.int .u8 (findF a v l f)) ∧ w = w' := by
  obtain ⟨g0, g1⟩ := subF_in a v false
  obtain ⟨r0, r1⟩ := subR_in a v false
  obtain ⟨n0, n1⟩ := findN_in a v
  have k := or_turn 2 (bits .and .u8 (subF a v false) 208) (by decide) (by decide) (and_in _ 208 g0 g1 (by decide) (by decide)).1 (and_in _ 208 g0 g1 (by decide) (by decide)).2
  have hF : findF a v l f = bits .or .u8 (bits .or .u8 (bits .or .u8 (bits .or .u8 2 (bits .and .u8 (subF a v false) 208)) (oddB (findN a v))) (flg (l != 0) 4)) (bits .and .u8 f 1) := by rw [k]; rfl
  have hN : findN a v = if bits .and .u8 (subF a v false) 16 = 0 then subR a v false else (subR a v false - 1) % 256 := rfl
  rw [hF]
  have hA := fun w => a5_sub a v false w a0 a1 v0 v1
  have HA := Lib.hid hA
  clear hA k hF
  generalize findN a v = n at *
  generalize subF a v false = g at *
  generalize subR a v false = r at *
  by_cases hh : bits .and .u8 g 16 = 0
  · rw [if_pos hh] at hN
    subst hN
    go_enter Try.func26, Try.ntmps26
    go_wp2_with (first
      | (go_at_call 47; (with_reducible refine (HA.out _).mono ?_); rintro e w' ⟨rfl, rfl⟩)
      | (go_at_call 36; (with_reducible refine (w7_odd _ _ n0 n1).mono ?_); rintro e w' ⟨rfl, rfl⟩)
      | (go_at_call 37; (with_reducible refine (w7_more _ _).mono ?_); rintro e w' ⟨rfl, rfl⟩))
    go_ret
    exact ⟨rfl, rfl⟩
  · rw [if_neg hh] at hN
    subst hN
    go_enter Try.func26, Try.ntmps26
    go_wp2_with (first
      | (go_at_call 47; (with_reducible refine (HA.out _).mono ?_); rintro e w' ⟨rfl, rfl⟩)
      | (go_at_call 36; (with_reducible refine (w7_odd _ _ n0 n1).mono ?_); rintro e w' ⟨rfl, rfl⟩)
      | (go_at_call 37; (with_reducible refine (w7_more _ _).mono ?_); rintro e w' ⟨rfl, rfl⟩))
    go_ret
    exact ⟨rfl, rfl⟩

theorem w7_port (v b t : Int) (w : World) (v0 : 0 ≤ v) (v1 : v < 256) (b0 : 0 ≤ b) (b1 : b < 256) (t0 : 0 ≤ t) (t1 : t < 256) : Calls Try.prog 28 #[.int .u8 v, .int .u8 b, .int .u8 t] w fun e w' => e = .returned (.int .u8 (portF v b t)) ∧ w = w' := by
  have h8 : (v + t) % 256 % 8 = (v + t) % 8 := by omega
  have hx := xor_in ((v + t) % 8) b (by omega) (by omega) b0 b1
  have ho : decide ((v + t) % 256 < v) = decide (255 < v + t) := by rw [decide_eq_decide]; omega
  have hv : (v / 128 != 0) = decide (128 ≤ v) := by rw [Bool.eq_iff_iff]; simp; omega
  have ht := flg_two (decide (255 < v + t))
  have hE : portF v b t = bits .or .u8 (bits .or .u8 (bits .or .u8 (ownB b) (flg (v / 128 != 0) 2)) (bits .or .u8 (flg (decide ((v + t) % 256 < v)) 1) (flg (decide ((v + t) % 256 < v)) 16))) (flg (evenB (bits .xor .u8 ((v + t) % 8) b)) 4) := by
    rw [ho, hv, ht]; rfl
  rw [hE]
  clear ho hv ht hE
  go_enter Try.func28, Try.ntmps28
  go_wp2_with (first
    | (go_at_call 48; (with_reducible refine (a5_own _ _).mono ?_); rintro e w' ⟨rfl, rfl⟩)
    | (go_at_call 49; (with_reducible refine (w7_flag _ _ _).mono ?_); rintro e w' ⟨rfl, rfl⟩)
    | (go_at_call 34; (with_reducible refine (w7_carries _ _ _).mono ?_); rintro e w' ⟨rfl, rfl⟩)
    | (go_at_call 50; (with_reducible refine (a5_parity _ _ hx.1 hx.2).mono ?_); rintro e w' ⟨rfl, rfl⟩))
  go_ret
  exact ⟨rfl, rfl⟩
end Go.Proofs.Ytiepiihbmaplnaa
