
/- RasterPlaces. -/
import Derived.Test.YtlghfngomiiclaaV5
import Derived.OpenShut
namespace Go.Proofs.Ytlghfngomiiclaa
open Go.RowKit
set_option linter.unusedSimpArgs false
set_option linter.unusedVariables false
set_option maxRecDepth 100000

theorem place_att {p : Int} (h : 0 ≤ p ∧ p < 6912) (k : 6144 ≤ p) : IsB (p % 32) ((p - 6144) / 32 * 8) ∧ attP (p % 32) ((p - 6144) / 32 * 8) = p := by
  unfold IsB attP
  omega
theorem place_pix {p : Int} (h : 0 ≤ p ∧ p < 6912) (k : ¬ 6144 ≤ p) : IsB (p % 32) (p / 2048 * 64 + p / 256 % 8 + p / 32 % 8 * 8) ∧ pixP (p % 32) (p / 2048 * 64 + p / 256 % 8 + p / 32 % 8 * 8) = p := by
  have e : p = 2048 * (p / 2048) + 256 * (p / 256 % 8) + 32 * (p / 32 % 8) + p % 32 := by
    have e1 : p / 256 / 8 = p / 2048 := by omega
    have e2 : p / 32 / 8 = p / 256 := by omega
    omega
  have ha : 0 ≤ p / 2048 ∧ p / 2048 < 3 := by omega
  have hb : 0 ≤ p / 256 % 8 ∧ p / 256 % 8 < 8 := by omega
  have hc : 0 ≤ p / 32 % 8 ∧ p / 32 % 8 < 8 := by omega
  have hd : 0 ≤ p % 32 ∧ p % 32 < 32 := by omega
  generalize p / 2048 = a at *
  generalize p / 256 % 8 = b at *
  generalize p / 32 % 8 = c at *
  generalize p % 32 = d at *
  clear h k
  have y1 : (a * 64 + b + c * 8) / 64 = a := by omega
  have y2 : (a * 64 + b + c * 8) % 8 = b := by omega
  have y3 : (a * 64 + b + c * 8) / 8 % 8 = c := by omega
  unfold IsB pixP
  rw [y1, y2, y3]
  omega
theorem pix_lo {x y : Int} (b : IsB x y) : 0 ≤ pixP x y := by obtain ⟨hx, hy⟩ := b; unfold pixP; omega
theorem pix_hi {x y : Int} (b : IsB x y) : pixP x y < 6144 := by obtain ⟨hx, hy⟩ := b; unfold pixP; omega
theorem att_lo {x y : Int} (b : IsB x y) : 6144 ≤ attP x y := by obtain ⟨hx, hy⟩ := b; unfold attP; omega
theorem att_hi {x y : Int} (b : IsB x y) : attP x y < 6912 := by obtain ⟨hx, hy⟩ := b; unfold attP; omega
theorem where_p (x y : Int) (b : IsB x y) (w : World) : Calls Try.prog 9 #[.int .i64 (pixP x y)] w fun e w' => e = .returned (.tuple #[.int .i64 x, .int .i64 y, .bool false, .bool true]) ∧ w = w' := by
  have h0 := pix_lo b
  have h1 := pix_hi b
  have := where_any (pixP x y) w ⟨h0, by omega⟩
  rw [if_neg (by omega), decide_eq_false (show ¬ 6144 ≤ pixP x y by omega)] at this
  have ex : pixP x y % 32 = x := by obtain ⟨hx, hy⟩ := b; unfold pixP; omega
  have ey : pixP x y / 2048 * 64 + pixP x y / 256 % 8 + pixP x y / 32 % 8 * 8 = y := by
    obtain ⟨hx, hy⟩ := b
    unfold pixP
    have e : y = y / 64 * 64 + y % 8 + y / 8 % 8 * 8 := by
      have e1 : y / 8 / 8 = y / 64 := by omega
      omega
    have ha : 0 ≤ y / 64 ∧ y / 64 < 3 := by omega
    have hb : 0 ≤ y % 8 ∧ y % 8 < 8 := by omega
    have hc : 0 ≤ y / 8 % 8 ∧ y / 8 % 8 < 8 := by omega
    generalize y / 64 = a at *
    generalize y % 8 = b at *
    generalize y / 8 % 8 = c at *
    have y1 : (a * 2048 + b * 256 + c * 32 + x) / 2048 = a := by omega
    have y2 : (a * 2048 + b * 256 + c * 32 + x) / 256 % 8 = b := by
      have : (a * 2048 + b * 256 + c * 32 + x) / 256 = a * 8 + b := by omega
      omega
    have y3 : (a * 2048 + b * 256 + c * 32 + x) / 32 % 8 = c := by
      have : (a * 2048 + b * 256 + c * 32 + x) / 32 = a * 64 + b * 8 + c := by omega
      omega
    rw [y1, y2, y3]
    omega
  rw [ex, ey] at this
  exact this
theorem where_a (x y : Int) (b : IsB x y) (w : World) : Calls Try.prog 9 #[.int .i64 (attP x y)] w fun e w' => e = .returned (.tuple #[.int .i64 x, .int .i64 (y / 8 * 8), .bool true, .bool true]) ∧ w = w' := by
  have h0 := att_lo b
  have h1 := att_hi b
  have := where_any (attP x y) w ⟨by omega, by omega⟩
  rw [if_pos (by omega), decide_eq_true (show 6144 ≤ attP x y by omega)] at this
  have ex : attP x y % 32 = x := by obtain ⟨hx, hy⟩ := b; unfold attP; omega
  have ey : (attP x y - 6144) / 32 * 8 = y / 8 * 8 := by obtain ⟨hx, hy⟩ := b; unfold attP; omega
  rw [ex, ey] at this
  exact this

set_option maxHeartbeats 2000000 in
theorem places_none1_in (w : World) (x y p : Int) (h : p < 0) (b : IsB x y) : Calls Try.prog 6 #[.int .i64 x, .int .i64 y, .int .i64 p] w fun e w' => e = .returned (.bool true) ∧ Below w.heap.size w w' := by
  obtain ⟨⟨x0, x1⟩, y0, y1⟩ := b
  have b : IsB x y := ⟨⟨x0, x1⟩, y0, y1⟩
  have p0 := pix_lo b
  have p1 := pix_hi b
  have q0 := att_lo b
  have q1 := att_hi b
  go_enter Try.func6, Try.ntmps6
  go_wp2_with fail
  refine (lives15_any _).mono ?_
  rintro e w2 ⟨rfl, hB2⟩
  go_wp2_with fail
  refine (where_none p _ (by omega)).mono ?_
  rintro e w3 ⟨rfl, rfl⟩
  go_wp2_with fail
  refine (pixel_any x y _).mono ?_
  rintro e w3 ⟨rfl, rfl⟩
  rw [if_pos b, decide_eq_true b]
  go_wp2_with fail
  refine (attr_any x y _).mono ?_
  rintro e w3 ⟨rfl, rfl⟩
  rw [if_pos b, decide_eq_true b]
  go_wp2_with fail
  refine (where_p x y b _).mono ?_
  rintro e w3 ⟨rfl, rfl⟩
  go_wp2_with fail
  refine (where_a x y b _).mono ?_
  rintro e w3 ⟨rfl, rfl⟩
  go_wp2_with fail
  go_ret
  exact ⟨rfl, hB2⟩

set_option maxHeartbeats 2000000 in
theorem places_none2_in (w : World) (x y p : Int) (h : 6912 ≤ p) (b : IsB x y) : Calls Try.prog 6 #[.int .i64 x, .int .i64 y, .int .i64 p] w fun e w' => e = .returned (.bool true) ∧ Below w.heap.size w w' := by
  obtain ⟨⟨x0, x1⟩, y0, y1⟩ := b
  have b : IsB x y := ⟨⟨x0, x1⟩, y0, y1⟩
  have p0 := pix_lo b
  have p1 := pix_hi b
  have q0 := att_lo b
  have q1 := att_hi b
  have h0 : 0 ≤ p := by omega
  go_enter Try.func6, Try.ntmps6
  go_wp2_with fail
  refine (lives15_any _).mono ?_
  rintro e w2 ⟨rfl, hB2⟩
  go_wp2_with fail
  refine (where_none p _ (by omega)).mono ?_
  rintro e w3 ⟨rfl, rfl⟩
  go_wp2_with fail
  refine (pixel_any x y _).mono ?_
  rintro e w3 ⟨rfl, rfl⟩
  rw [if_pos b, decide_eq_true b]
  go_wp2_with fail
  refine (attr_any x y _).mono ?_
  rintro e w3 ⟨rfl, rfl⟩
  rw [if_pos b, decide_eq_true b]
  go_wp2_with fail
  refine (where_p x y b _).mono ?_
  rintro e w3 ⟨rfl, rfl⟩
  go_wp2_with fail
  refine (where_a x y b _).mono ?_
  rintro e w3 ⟨rfl, rfl⟩
  go_wp2_with fail
  go_ret
  exact ⟨rfl, hB2⟩

set_option maxHeartbeats 2000000 in
theorem places_none1_out (w : World) (x y p : Int) (h : p < 0) (b : ¬ IsB x y) : Calls Try.prog 6 #[.int .i64 x, .int .i64 y, .int .i64 p] w fun e w' => e = .returned (.bool true) ∧ Below w.heap.size w w' := by
  go_enter Try.func6, Try.ntmps6
  go_wp2_with fail
  refine (lives15_any _).mono ?_
  rintro e w2 ⟨rfl, hB2⟩
  go_wp2_with fail
  refine (where_none p _ (by omega)).mono ?_
  rintro e w3 ⟨rfl, rfl⟩
  go_wp2_with fail
  refine (pixel_any x y _).mono ?_
  rintro e w3 ⟨rfl, rfl⟩
  rw [if_neg b, decide_eq_false b]
  go_wp2_with fail
  refine (attr_any x y _).mono ?_
  rintro e w3 ⟨rfl, rfl⟩
  rw [if_neg b, decide_eq_false b]
  go_wp2_with fail
  go_ret
  exact ⟨rfl, hB2⟩

set_option maxHeartbeats 2000000 in
theorem places_none2_out (w : World) (x y p : Int) (h : 6912 ≤ p) (b : ¬ IsB x y) : Calls Try.prog 6 #[.int .i64 x, .int .i64 y, .int .i64 p] w fun e w' => e = .returned (.bool true) ∧ Below w.heap.size w w' := by
  have h0 : 0 ≤ p := by omega
  go_enter Try.func6, Try.ntmps6
  go_wp2_with fail
  refine (lives15_any _).mono ?_
  rintro e w2 ⟨rfl, hB2⟩
  go_wp2_with fail
  refine (where_none p _ (by omega)).mono ?_
  rintro e w3 ⟨rfl, rfl⟩
  go_wp2_with fail
  refine (pixel_any x y _).mono ?_
  rintro e w3 ⟨rfl, rfl⟩
  rw [if_neg b, decide_eq_false b]
  go_wp2_with fail
  refine (attr_any x y _).mono ?_
  rintro e w3 ⟨rfl, rfl⟩
  rw [if_neg b, decide_eq_false b]
  go_wp2_with fail
  go_ret
  exact ⟨rfl, hB2⟩

set_option maxHeartbeats 2000000 in
theorem places_attr_in (w : World) (x y p : Int) (h : 0 ≤ p ∧ p < 6912) (k : 6144 ≤ p) (b : IsB x y) : Calls Try.prog 6 #[.int .i64 x, .int .i64 y, .int .i64 p] w fun e w' => e = .returned (.bool true) ∧ Below w.heap.size w w' := by
  obtain ⟨hb1, hb2⟩ := place_att h k
  obtain ⟨h0, h1⟩ := h
  have h : 0 ≤ p ∧ p < 6912 := ⟨h0, h1⟩
  obtain ⟨⟨x0, x1⟩, y0, y1⟩ := b
  have b : IsB x y := ⟨⟨x0, x1⟩, y0, y1⟩
  have p0 := pix_lo b
  have p1 := pix_hi b
  have q0 := att_lo b
  have q1 := att_hi b
  go_enter Try.func6, Try.ntmps6
  go_wp2_with fail
  refine (lives15_any _).mono ?_
  rintro e w2 ⟨rfl, hB2⟩
  go_wp2_with fail
  refine (where_any p _ h).mono ?_
  rintro e w3 ⟨rfl, rfl⟩
  rw [decide_eq_true k, if_pos k]
  go_wp2_with fail
  refine (pixel_any _ _ _).mono ?_
  rintro e w3 ⟨rfl, rfl⟩
  go_wp2_with fail
  refine (attr_any _ _ _).mono ?_
  rintro e w3 ⟨rfl, rfl⟩
  rw [if_pos hb1, hb2]
  go_wp2_with fail
  refine (pixel_any x y _).mono ?_
  rintro e w3 ⟨rfl, rfl⟩
  rw [if_pos b, decide_eq_true b]
  go_wp2_with fail
  refine (attr_any x y _).mono ?_
  rintro e w3 ⟨rfl, rfl⟩
  rw [if_pos b, decide_eq_true b]
  go_wp2_with fail
  refine (where_p x y b _).mono ?_
  rintro e w3 ⟨rfl, rfl⟩
  go_wp2_with fail
  refine (where_a x y b _).mono ?_
  rintro e w3 ⟨rfl, rfl⟩
  go_wp2_with fail
  go_ret
  exact ⟨rfl, hB2⟩

set_option maxHeartbeats 2000000 in
theorem places_attr_out (w : World) (x y p : Int) (h : 0 ≤ p ∧ p < 6912) (k : 6144 ≤ p) (b : ¬ IsB x y) : Calls Try.prog 6 #[.int .i64 x, .int .i64 y, .int .i64 p] w fun e w' => e = .returned (.bool true) ∧ Below w.heap.size w w' := by
  obtain ⟨hb1, hb2⟩ := place_att h k
  obtain ⟨h0, h1⟩ := h
  have h : 0 ≤ p ∧ p < 6912 := ⟨h0, h1⟩
  go_enter Try.func6, Try.ntmps6
  go_wp2_with fail
  refine (lives15_any _).mono ?_
  rintro e w2 ⟨rfl, hB2⟩
  go_wp2_with fail
  refine (where_any p _ h).mono ?_
  rintro e w3 ⟨rfl, rfl⟩
  rw [decide_eq_true k, if_pos k]
  go_wp2_with fail
  refine (pixel_any _ _ _).mono ?_
  rintro e w3 ⟨rfl, rfl⟩
  go_wp2_with fail
  refine (attr_any _ _ _).mono ?_
  rintro e w3 ⟨rfl, rfl⟩
  rw [if_pos hb1, hb2]
  go_wp2_with fail
  refine (pixel_any x y _).mono ?_
  rintro e w3 ⟨rfl, rfl⟩
  rw [if_neg b, decide_eq_false b]
  go_wp2_with fail
  refine (attr_any x y _).mono ?_
  rintro e w3 ⟨rfl, rfl⟩
  rw [if_neg b, decide_eq_false b]
  go_wp2_with fail
  go_ret
  exact ⟨rfl, hB2⟩

set_option maxHeartbeats 2000000 in
theorem places_pixel_in (w : World) (x y p : Int) (h : 0 ≤ p ∧ p < 6912) (k : ¬ 6144 ≤ p) (b : IsB x y) : Calls Try.prog 6 #[.int .i64 x, .int .i64 y, .int .i64 p] w fun e w' => e = .returned (.bool true) ∧ Below w.heap.size w w' := by
  obtain ⟨hb1, hb2⟩ := place_pix h k
  obtain ⟨h0, h1⟩ := h
  have k1 : p < 6144 := by omega
  have h : 0 ≤ p ∧ p < 6912 := ⟨h0, h1⟩
  obtain ⟨⟨x0, x1⟩, y0, y1⟩ := b
  have b : IsB x y := ⟨⟨x0, x1⟩, y0, y1⟩
  have p0 := pix_lo b
  have p1 := pix_hi b
  have q0 := att_lo b
  have q1 := att_hi b
  go_enter Try.func6, Try.ntmps6
  go_wp2_with fail
  refine (lives15_any _).mono ?_
  rintro e w2 ⟨rfl, hB2⟩
  go_wp2_with fail
  refine (where_any p _ h).mono ?_
  rintro e w3 ⟨rfl, rfl⟩
  rw [decide_eq_false (show ¬ 6144 ≤ p by omega), if_neg (show ¬ 6144 ≤ p by omega)]
  go_wp2_with fail
  refine (pixel_any _ _ _).mono ?_
  rintro e w3 ⟨rfl, rfl⟩
  rw [if_pos hb1, hb2]
  go_wp2_with fail
  refine (pixel_any x y _).mono ?_
  rintro e w3 ⟨rfl, rfl⟩
  rw [if_pos b, decide_eq_true b]
  go_wp2_with fail
  refine (attr_any x y _).mono ?_
  rintro e w3 ⟨rfl, rfl⟩
  rw [if_pos b, decide_eq_true b]
  go_wp2_with fail
  refine (where_p x y b _).mono ?_
  rintro e w3 ⟨rfl, rfl⟩
  go_wp2_with fail
  refine (where_a x y b _).mono ?_
  rintro e w3 ⟨rfl, rfl⟩
  go_wp2_with fail
  go_ret
  exact ⟨rfl, hB2⟩

set_option maxHeartbeats 2000000 in
theorem places_pixel_out (w : World) (x y p : Int) (h : 0 ≤ p ∧ p < 6912) (k : ¬ 6144 ≤ p) (b : ¬ IsB x y) : Calls Try.prog 6 #[.int .i64 x, .int .i64 y, .int .i64 p] w fun e w' => e = .returned (.bool true) ∧ Below w.heap.size w w' := by
  obtain ⟨hb1, hb2⟩ := place_pix h k
  obtain ⟨h0, h1⟩ := h
  have k1 : p < 6144 := by omega
  have h : 0 ≤ p ∧ p < 6912 := ⟨h0, h1⟩
  go_enter Try.func6, Try.ntmps6
  go_wp2_with fail
  refine (lives15_any _).mono ?_
  rintro e w2 ⟨rfl, hB2⟩
  go_wp2_with fail
  refine (where_any p _ h).mono ?_
  rintro e w3 ⟨rfl, rfl⟩
  rw [decide_eq_false (show ¬ 6144 ≤ p by omega), if_neg (show ¬ 6144 ≤ p by omega)]
  go_wp2_with fail
  refine (pixel_any _ _ _).mono ?_
  rintro e w3 ⟨rfl, rfl⟩
  rw [if_pos hb1, hb2]
  go_wp2_with fail
  refine (pixel_any x y _).mono ?_
  rintro e w3 ⟨rfl, rfl⟩
  rw [if_neg b, decide_eq_false b]
  go_wp2_with fail
  refine (attr_any x y _).mono ?_
  rintro e w3 ⟨rfl, rfl⟩
  rw [if_neg b, decide_eq_false b]
  go_wp2_with fail
  go_ret
  exact ⟨rfl, hB2⟩

theorem walk_RasterPlaces (w : World) (x : Int) (wx : (Lit.int .i64 x).wf = true) (y : Int) (wy : (Lit.int .i64 y).wf = true) (p : Int) (wp : (Lit.int .i64 p).wf = true) : Calls Try.prog 6 #[.int .i64 x, .int .i64 y, .int .i64 p] w fun e w' => e = .returned (.bool true) ∧ Below w.heap.size w w' := by
  by_cases b : IsB x y
  · by_cases h : 0 ≤ p ∧ p < 6912
    · by_cases k : 6144 ≤ p
      · exact places_attr_in w x y p h k b
      · exact places_pixel_in w x y p h k b
    · by_cases h0 : p < 0
      · exact places_none1_in w x y p h0 b
      · exact places_none2_in w x y p (by omega) b
  · by_cases h : 0 ≤ p ∧ p < 6912
    · by_cases k : 6144 ≤ p
      · exact places_attr_out w x y p h k b
      · exact places_pixel_out w x y p h k b
    · by_cases h0 : p < 0
      · exact places_none1_out w x y p h0 b
      · exact places_none2_out w x y p (by omega) b
end Go.Proofs.Ytlghfngomiiclaa
