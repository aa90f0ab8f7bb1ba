
/- Package raster: Count, When; the kit's Pick. -/
import Derived.Test.YtlghfngomiiclaaV5
import Derived.OwnWalk
import Derived.OpenShut
namespace Go.Proofs.Ytlghfngomiiclaa
open Go.RowKit
set_option linter.unusedSimpArgs false
set_option linter.unusedVariables false
set_option maxRecDepth 100000

theorem SB.boxed {w w2 : World} {s : Scr} (hb : Below (w.alloc (scO s)).heap.size (w.alloc (scO s)) w2) : Below w.heap.size w w2 ∧ SB w2 w.heap.size s ∧ w.heap.size < w2.heap.size := by
  have := hb.size
  simp at this
  exact ⟨((Below.refl _ _).alloc (Nat.le_refl _) _).trans (hb.mono (by simp)), SB.laid s (hb.mono (by simp)), by omega⟩

theorem check_yes (s : Scr) (hm : s.May) (w : World) : Calls Try.prog 26 #[s.val] w fun e w' => e = .returned (.int .i64 0) ∧ Below w.heap.size w w' := by
  refine (check_any w s).mono ?_
  rintro e w' ⟨h, hb⟩
  rcases h with ⟨h, _⟩ | ⟨_, h⟩
  · exact ⟨h, hb⟩
  · exact absurd hm h
theorem check_no (s : Scr) (hm : ¬ s.May) (w : World) : Calls Try.prog 26 #[s.val] w fun e w' => e = .returned (.int .i64 2) ∧ Below w.heap.size w w' := by
  refine (check_any w s).mono ?_
  rintro e w' ⟨h, hb⟩
  rcases h with ⟨_, h⟩ | ⟨h, _⟩
  · exact absurd h hm
  · exact ⟨h, hb⟩

/-- How many borders a frame has. -/
def borN (s : Scr) : Int := s.lines * ((s.columns + 7) / 8) - s.rows * s.wide / 2
set_option maxHeartbeats 1000000 in
theorem count_yes (s : Scr) (hm : s.May) (w : World) : Calls Try.prog 12 #[s.val] w fun e w' => e = .returned (.tuple #[.int .i64 (s.rows * s.wide), .int .i64 (s.rows * s.wide), .int .i64 (borN s)]) ∧ Below w.heap.size w w' := by
  have hC := fun w => check_yes s hm w
  obtain ⟨⟨l0, l1⟩, ⟨b0, b1⟩, _, ⟨r0, r1, _⟩, _, ⟨w0, w1, _⟩, _⟩ := hm.bnd
  have hn1 := Int.mul_le_mul r1 w1 w0 (by omega)
  have hn0 := Int.mul_nonneg r0 w0
  have hk0 : 1 ≤ (s.columns + 7) / 8 := by omega
  have hk1 : (s.columns + 7) / 8 ≤ 50 := by omega
  have hp1 := Int.mul_le_mul l1 hk1 (by omega) (by omega)
  have hp0 := Int.mul_nonneg (show 0 ≤ s.lines by omega) (show 0 ≤ (s.columns + 7) / 8 by omega)
  have hk : s.columns + 8 - 1 = s.columns + 7 := by omega
  have hB : borN s = s.lines * ((s.columns + 7) / 8) - s.rows * s.wide / 2 := rfl
  rw [hB]
  clear hB
  unfold Scr.val
  go_enter Try.func12, Try.ntmps12
  go_wp2_with fail
  refine (hC _).mono ?_
  rintro e w2 ⟨rfl, hb⟩
  obtain ⟨hB, hS, hlt⟩ := SB.boxed hb
  clear hb hC
  obtain ⟨c0, c1, c2, c3, c4, c5, c6⟩ := hS
  go_upto_region 5 with fail
  go_region
  go_wp2_with fail
  go_ret3
  exact ⟨rfl, hB.drew⟩
theorem count_no (s : Scr) (hm : ¬ s.May) (w : World) : Calls Try.prog 12 #[s.val] w fun e w' => e = .returned (.tuple #[.int .i64 0, .int .i64 0, .int .i64 0]) ∧ Below w.heap.size w w' := by
  have hC := fun w => check_no s hm w
  unfold Scr.val
  go_enter Try.func12, Try.ntmps12
  go_wp2_with fail
  refine (hC _).mono ?_
  rintro e w2 ⟨rfl, hb⟩
  obtain ⟨hB, hS, hlt⟩ := SB.boxed hb
  clear hb hC
  go_wp2_with fail
  go_ret3
  exact ⟨rfl, hB⟩

/-- When a byte is fetched. -/
def whenT (s : Scr) (x y : Int) : Int := (s.top + y) * s.columns + s.left + (x / 2 * 8 + x % 2 * 2)
/-- Is it a byte of this screen? -/
def IsS (s : Scr) (x y : Int) : Prop := (0 ≤ x ∧ x < s.wide) ∧ 0 ≤ y ∧ y < s.rows
set_option maxHeartbeats 1000000 in
theorem when_yes (s : Scr) (hm : s.May) (x y : Int) (h : IsS s x y) (w : World) : Calls Try.prog 17 #[s.val, .int .i64 x, .int .i64 y] w fun e w' => e = .returned (.tuple #[.int .i64 (whenT s x y), .bool true]) ∧ Below w.heap.size w w' := by
  have hC := fun w => check_yes s hm w
  obtain ⟨hx, hy⟩ := h
  obtain ⟨⟨l0, l1⟩, ⟨b0, b1⟩, _, ⟨r0, r1, _⟩, ⟨t0, t1⟩, ⟨w0, w1, _⟩, ⟨f0, f1⟩⟩ := hm.bnd
  have hn1 := Int.mul_le_mul (show s.top + y ≤ 400 by omega) b1 (by omega) (by omega)
  have hn0 := Int.mul_nonneg (show 0 ≤ s.top + y by omega) (show 0 ≤ s.columns by omega)
  unfold whenT
  unfold Scr.val
  go_enter Try.func17, Try.ntmps17
  go_wp2_with fail
  refine (hC _).mono ?_
  rintro e w2 ⟨rfl, hb⟩
  obtain ⟨hB, hS, hlt⟩ := SB.boxed hb
  clear hb hC
  obtain ⟨c0, c1, c2, c3, c4, c5, c6⟩ := hS
  go_wp2_with fail
  refine (within_any _ _ _).mono ?_
  rintro e w3 ⟨rfl, rfl⟩
  rw [decide_eq_true hx]
  go_wp2_with fail
  refine (within_any _ _ _).mono ?_
  rintro e w3 ⟨rfl, rfl⟩
  rw [decide_eq_true hy]
  obtain ⟨x0, x1⟩ := hx
  obtain ⟨y0, y1⟩ := hy
  go_wp2_with fail
  go_ret2
  exact ⟨rfl, hB⟩
theorem when_no (s : Scr) (hm : s.May) (x y : Int) (h : ¬ IsS s x y) (w : World) : Calls Try.prog 17 #[s.val, .int .i64 x, .int .i64 y] w fun e w' => e = .returned (.tuple #[.int .i64 0, .bool false]) ∧ Below w.heap.size w w' := by
  have hC := fun w => check_yes s hm w
  by_cases hx : 0 ≤ x ∧ x < s.wide
  · have hy : ¬ (0 ≤ y ∧ y < s.rows) := fun hy => h ⟨hx, hy⟩
    clear h
    unfold Scr.val
    go_enter Try.func17, Try.ntmps17
    go_wp2_with fail
    refine (hC _).mono ?_
    rintro e w2 ⟨rfl, hb⟩
    obtain ⟨hB, hS, hlt⟩ := SB.boxed hb
    clear hb hC
    obtain ⟨c0, c1, c2, c3, c4, c5, c6⟩ := hS
    go_wp2_with fail
    refine (within_any _ _ _).mono ?_
    rintro e w3 ⟨rfl, rfl⟩
    rw [decide_eq_true hx]
    go_wp2_with fail
    refine (within_any _ _ _).mono ?_
    rintro e w3 ⟨rfl, rfl⟩
    rw [decide_eq_false hy]
    go_wp2_with fail
    go_ret2
    exact ⟨rfl, hB⟩
  · clear h
    unfold Scr.val
    go_enter Try.func17, Try.ntmps17
    go_wp2_with fail
    refine (hC _).mono ?_
    rintro e w2 ⟨rfl, hb⟩
    obtain ⟨hB, hS, hlt⟩ := SB.boxed hb
    clear hb hC
    obtain ⟨c0, c1, c2, c3, c4, c5, c6⟩ := hS
    go_wp2_with fail
    refine (within_any _ _ _).mono ?_
    rintro e w3 ⟨rfl, rfl⟩
    rw [decide_eq_false hx]
    go_wp2_with fail
    go_ret2
    exact ⟨rfl, hB⟩

theorem pick_any (a m : Int) (w : World) (hm : 1 ≤ m) (hm2 : m < 9223372036854775808) : Calls Try.prog 16 #[.int .i64 a, .int .i64 m] w fun e w' => (∃ r : Int, e = .returned (.int .i64 r) ∧ 0 ≤ r ∧ r < m) ∧ w = w' := by
  have h1 : a.tmod m < m := Int.tmod_lt_of_pos a (by omega)
  have h2 : -m < a.tmod m := Int.lt_tmod_of_pos a (by omega)
  have hne : ¬ m = 0 := by omega
  have hneb : (m == 0) = false := by simpa using hne
  generalize hr : a.tmod m = r at *
  have hd : IntKind.i64.wrap r = r := by
    rw [IntKind.wrap_i64]
    omega
  by_cases h0 : r < 0
  · go_enter Try.func16, Try.ntmps16
    go_wp2
    go_ret
    exact ⟨⟨_, rfl, by omega, by omega⟩, rfl⟩
  · have h3 : 0 ≤ r := by omega
    go_enter Try.func16, Try.ntmps16
    go_wp2
    go_ret
    exact ⟨⟨_, rfl, by omega, by omega⟩, rfl⟩
end Go.Proofs.Ytlghfngomiiclaa
