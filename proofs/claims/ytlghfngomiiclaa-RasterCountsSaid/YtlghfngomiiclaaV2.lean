
/- Package raster: within, isByte, Pixel, Attr, Where. -/
import Derived.Test.YtlghfngomiiclaaV1
import Derived.WalkKit
import Derived.WalkSpells
import Derived.WalkLawsBesides
import Derived.Lib.Hide
import Derived.Lib.BitFns
namespace Go.Proofs.Ytlghfngomiiclaa
open Go.RowKit
set_option linter.unusedSimpArgs false
set_option linter.unusedVariables false
set_option maxRecDepth 100000

theorem within_any (n m : Int) (w : World) : Calls Try.prog 21 #[.int .i64 n, .int .i64 m] w fun e w' => e = .returned (.bool (decide (0 ≤ n ∧ n < m))) ∧ w = w' := by
  by_cases h0 : 0 ≤ n
  · by_cases h1 : n < m
    · go_enter Try.func21, Try.ntmps21
      go_wp2
      go_ret
      exact ⟨by simp [h0, h1], rfl⟩
    · have h2 : m ≤ n := by omega
      go_enter Try.func21, Try.ntmps21
      go_wp2
      go_ret
      exact ⟨by simp [h0, h1], rfl⟩
  · have h2 : n < 0 := by omega
    go_enter Try.func21, Try.ntmps21
    go_wp2
    go_ret
    exact ⟨by simp; omega, rfl⟩

theorem results_tmp4 {fn : Func} {t u v q : Tmp} (h : fn.results = #[.tmp t, .tmp u, .tmp v, .tmp q]) (tmps : Array Value) (P : Program) (w : World) :
    (results fn tmps).run P w = .ok (.tuple #[tmps.getD t undef, tmps.getD u undef, tmps.getD v undef, tmps.getD q undef]) w := by
  unfold results
  rw [h]
  simp [go_sem]

theorem isbyte_any (x y : Int) (w : World) : Calls Try.prog 20 #[.int .i64 x, .int .i64 y] w fun e w' => e = .returned (.bool (decide (IsB x y))) ∧ w = w' := by
  by_cases h : 0 ≤ x ∧ x < 32
  · by_cases k : 0 ≤ y ∧ y < 192
    · rw [decide_eq_true (show IsB x y from ⟨h, k⟩)]
      go_enter Try.func20, Try.ntmps20
      go_wp2_with fail
      refine (within_any x 32 w).mono ?_
      rintro e w2 ⟨rfl, rfl⟩
      rw [decide_eq_true h]
      go_wp2_with fail
      refine (within_any y 192 w).mono ?_
      rintro e w2 ⟨rfl, rfl⟩
      rw [decide_eq_true k]
      go_wp2_with fail
      go_ret
      exact ⟨rfl, rfl⟩
    · rw [decide_eq_false (show ¬ IsB x y from fun z => k z.2)]
      go_enter Try.func20, Try.ntmps20
      go_wp2_with fail
      refine (within_any x 32 w).mono ?_
      rintro e w2 ⟨rfl, rfl⟩
      rw [decide_eq_true h]
      go_wp2_with fail
      refine (within_any y 192 w).mono ?_
      rintro e w2 ⟨rfl, rfl⟩
      rw [decide_eq_false k]
      go_wp2_with fail
      go_ret
      exact ⟨rfl, rfl⟩
  · rw [decide_eq_false (show ¬ IsB x y from fun z => h z.1)]
    go_enter Try.func20, Try.ntmps20
    go_wp2_with fail
    refine (within_any x 32 w).mono ?_
    rintro e w2 ⟨rfl, rfl⟩
    rw [decide_eq_false h]
    go_wp2_with fail
    go_ret
    exact ⟨rfl, rfl⟩

theorem pixel_any (x y : Int) (w : World) : Calls Try.prog 18 #[.int .i64 x, .int .i64 y] w fun e w' => e = .returned (.tuple #[.int .i64 (if IsB x y then pixP x y else 0), .bool (decide (IsB x y))]) ∧ w = w' := by
  by_cases h : IsB x y
  · rw [decide_eq_true h, if_pos h]
    go_enter Try.func18, Try.ntmps18
    go_wp2_with fail
    refine (isbyte_any x y w).mono ?_
    rintro e w2 ⟨rfl, rfl⟩
    rw [decide_eq_true h]
    have hb := pix_bits x y h
    obtain ⟨hx, hy⟩ := h
    go_wp2_with fail
    go_ret2
    exact ⟨rfl, rfl⟩
  · rw [decide_eq_false h, if_neg h]
    go_enter Try.func18, Try.ntmps18
    go_wp2_with fail
    refine (isbyte_any x y w).mono ?_
    rintro e w2 ⟨rfl, rfl⟩
    rw [decide_eq_false h]
    go_wp2_with fail
    go_ret2
    exact ⟨rfl, rfl⟩

theorem attr_any (x y : Int) (w : World) : Calls Try.prog 8 #[.int .i64 x, .int .i64 y] w fun e w' => e = .returned (.tuple #[.int .i64 (if IsB x y then attP x y else 0), .bool (decide (IsB x y))]) ∧ w = w' := by
  by_cases h : IsB x y
  · rw [decide_eq_true h, if_pos h]
    go_enter Try.func8, Try.ntmps8
    go_wp2_with fail
    refine (isbyte_any x y w).mono ?_
    rintro e w2 ⟨rfl, rfl⟩
    rw [decide_eq_true h]
    have hb := att_bits x y h
    obtain ⟨hx, hy⟩ := h
    go_wp2_with fail
    go_ret2
    exact ⟨rfl, rfl⟩
  · rw [decide_eq_false h, if_neg h]
    go_enter Try.func8, Try.ntmps8
    go_wp2_with fail
    refine (isbyte_any x y w).mono ?_
    rintro e w2 ⟨rfl, rfl⟩
    rw [decide_eq_false h]
    go_wp2_with fail
    go_ret2
    exact ⟨rfl, rfl⟩

theorem where_any (p : Int) (w : World) (h : 0 ≤ p ∧ p < 6912) : Calls Try.prog 9 #[.int .i64 p] w fun e w' => e = .returned (.tuple #[.int .i64 (p % 32), .int .i64 (if 6144 ≤ p then (p - 6144) / 32 * 8 else p / 2048 * 64 + p / 256 % 8 + p / 32 % 8 * 8), .bool (decide (6144 ≤ p)), .bool true]) ∧ w = w' := by
  by_cases k : 6144 ≤ p
  · rw [decide_eq_true k, if_pos k]
    go_enter Try.func9, Try.ntmps9
    go_wp2_with fail
    refine (within_any p 6912 w).mono ?_
    rintro e w2 ⟨rfl, rfl⟩
    rw [decide_eq_true h]
    obtain ⟨h0, h1⟩ := h
    go_wp2_with fail
    (try simp only [Exit.inBlock, Exit.then]); refine bodyPost_ret (results_tmp4 rfl _ _ _) rfl ?_
    refine ⟨?_, rfl⟩
    obtain ⟨n, rfl⟩ : ∃ n : Nat, p = n := ⟨p.toNat, by omega⟩
    have e1 := whr_x ⟨n, by omega⟩
    have e2 := whr_a ⟨(n - 6144) / 4, by omega⟩
    simp only at e1 e2
    rw [show (((n - 6144) / 4 : Nat) : Int) = ((n : Int) - 6144) / 4 by omega] at e2
    show Ending.returned (.tuple #[.int .i64 (bits .and .i64 (n : Int) 31), .int .i64 (bits .andNot .i64 (((n : Int) - 6144) / 4) 7), .bool true, .bool true]) = _
    rw [e1, e2, show ((n : Int) - 6144) / 4 / 8 = ((n : Int) - 6144) / 32 by omega]
  · rw [decide_eq_false k, if_neg k]
    have k2 : p < 6144 := by omega
    go_enter Try.func9, Try.ntmps9
    go_wp2_with fail
    refine (within_any p 6912 w).mono ?_
    rintro e w2 ⟨rfl, rfl⟩
    rw [decide_eq_true h]
    obtain ⟨h0, h1⟩ := h
    go_wp2_with fail
    (try simp only [Exit.inBlock, Exit.then]); refine bodyPost_ret (results_tmp4 rfl _ _ _) rfl ?_
    refine ⟨?_, rfl⟩
    obtain ⟨n, rfl⟩ : ∃ n : Nat, p = n := ⟨p.toNat, by omega⟩
    have e1 := whr_x ⟨n, by omega⟩
    have e2 := whr_y ⟨n, by omega⟩
    simp only at e1 e2
    show Ending.returned (.tuple #[.int .i64 (bits .and .i64 (n : Int) 31), .int .i64 (bits .or .i64 (bits .or .i64 (bits .and .i64 ((n : Int) / 32) 192) (bits .and .i64 ((n : Int) / 256) 7)) (bits .and .i64 ((n : Int) / 4) 56)), .bool false, .bool true]) = _
    rw [e1, e2]
theorem where_none (p : Int) (w : World) (h : ¬ (0 ≤ p ∧ p < 6912)) : Calls Try.prog 9 #[.int .i64 p] w fun e w' => e = .returned (.tuple #[.int .i64 0, .int .i64 0, .bool false, .bool false]) ∧ w = w' := by
  go_enter Try.func9, Try.ntmps9
  go_wp2_with fail
  refine (within_any p 6912 w).mono ?_
  rintro e w2 ⟨rfl, rfl⟩
  rw [decide_eq_false h]
  go_wp2_with fail
  (try simp only [Exit.inBlock, Exit.then]); refine bodyPost_ret (results_tmp4 rfl _ _ _) rfl ⟨rfl, rfl⟩
end Go.Proofs.Ytlghfngomiiclaa
