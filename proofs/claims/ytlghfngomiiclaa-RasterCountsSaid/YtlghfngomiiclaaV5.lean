
/- The examples: lives, RasterNames. -/
import Derived.Test.YtlghfngomiiclaaV4
namespace Go.Proofs.Ytlghfngomiiclaa
open Go.RowKit
set_option linter.unusedSimpArgs false
set_option linter.unusedVariables false
set_option maxRecDepth 100000

theorem rclassic (w : World) : Calls Try.prog 25 #[] w fun e w' => e = .returned classicV ∧ Below w.heap.size w w' := by
  go_enter Try.func25, Try.ntmps25
  go_wp2_with fail
  (try simp only [Exit.inBlock, Exit.then])
  refine bodyPost_ret (v := classicV) ?_ rfl ⟨rfl, (Below.refl _ _).alloc (Nat.le_refl _) _⟩
  simp [results, go_sem]

theorem at_c (t d x y : Int) (h0 : 0 ≤ t) (h1 : t ≤ 1099511627776) (he : spotB classicS (t % 70908 / 228) (t % 70908 % 228) = (d, x, y)) (w : World) : Calls Try.prog 10 #[classicV, .int .i64 t] w fun e w' => e = .returned (.tuple #[.agg #[.int .i64 d, .int .i64 x, .int .i64 y], .int .i64 0]) ∧ Below w.heap.size w w' := by
  refine (at_yes w classicS t may_classic h0 h1).mono ?_
  rintro e w' ⟨h, hb⟩
  have e1 : beamB classicS t = (d, x, y) := by
    unfold beamB
    rw [len_classic]
    exact he
  rw [e1] at h
  exact ⟨h, hb⟩
theorem at_14378 (w : World) : Calls Try.prog 10 #[classicV, .int .i64 14378] w fun e w' => e = .returned (.tuple #[.agg #[.int .i64 1, .int .i64 0, .int .i64 0], .int .i64 0]) ∧ Below w.heap.size w w' := at_c 14378 1 0 0 (by decide) (by decide) (by decide +kernel) w
theorem at_14379 (w : World) : Calls Try.prog 10 #[classicV, .int .i64 14379] w fun e w' => e = .returned (.tuple #[.agg #[.int .i64 2, .int .i64 0, .int .i64 0], .int .i64 0]) ∧ Below w.heap.size w w' := at_c 14379 2 0 0 (by decide) (by decide) (by decide +kernel) w
theorem at_14380 (w : World) : Calls Try.prog 10 #[classicV, .int .i64 14380] w fun e w' => e = .returned (.tuple #[.agg #[.int .i64 1, .int .i64 1, .int .i64 0], .int .i64 0]) ∧ Below w.heap.size w w' := at_c 14380 1 1 0 (by decide) (by decide) (by decide +kernel) w
theorem at_14382 (w : World) : Calls Try.prog 10 #[classicV, .int .i64 14382] w fun e w' => e = .returned (.tuple #[.agg #[.int .i64 0, .int .i64 0, .int .i64 0], .int .i64 0]) ∧ Below w.heap.size w w' := at_c 14382 0 0 0 (by decide) (by decide) (by decide +kernel) w
theorem at_z (w : World) : Calls Try.prog 10 #[.agg #[.int .i64 0, .int .i64 0, .int .i64 0, .int .i64 0, .int .i64 0, .int .i64 0, .int .i64 0], .int .i64 0] w fun e w' => e = .returned (.tuple #[.agg #[.int .i64 0, .int .i64 0, .int .i64 0], .int .i64 2]) ∧ Below w.heap.size w w' := at_no w zeroS 0 (fun h => may_zero h.1)
theorem pixel_01 (w : World) : Calls Try.prog 18 #[.int .i64 0, .int .i64 1] w fun e w' => e = .returned (.tuple #[.int .i64 256, .bool true]) ∧ w = w' := pixel_any 0 1 w
theorem pixel_31 (w : World) : Calls Try.prog 18 #[.int .i64 31, .int .i64 191] w fun e w' => e = .returned (.tuple #[.int .i64 6143, .bool true]) ∧ w = w' := pixel_any 31 191 w
theorem attr_08 (w : World) : Calls Try.prog 8 #[.int .i64 0, .int .i64 8] w fun e w' => e = .returned (.tuple #[.int .i64 6176, .bool true]) ∧ w = w' := attr_any 0 8 w
theorem where_6176 (w : World) : Calls Try.prog 9 #[.int .i64 6176] w fun e w' => e = .returned (.tuple #[.int .i64 0, .int .i64 8, .bool true, .bool true]) ∧ w = w' := where_any 6176 w (by decide)
theorem where_256 (w : World) : Calls Try.prog 9 #[.int .i64 256] w fun e w' => e = .returned (.tuple #[.int .i64 0, .int .i64 1, .bool false, .bool true]) ∧ w = w' := where_any 256 w (by decide)
theorem where_6912 (w : World) : Calls Try.prog 9 #[.int .i64 6912] w fun e w' => e = .returned (.tuple #[.int .i64 0, .int .i64 0, .bool false, .bool false]) ∧ w = w' := where_none 6912 w (by decide)

/-- Behind an alloc and a call that lays memory. -/
theorem behind {w w1 w2 : World} {o : Obj} (hB : Below w.heap.size w w1) (hb : Below (w1.alloc o).heap.size (w1.alloc o) w2) : Below w.heap.size w w2 ∧ w1.heap.size < w2.heap.size := by
  have := hb.size
  simp at this
  exact ⟨(hB.alloc hB.size o).trans (hb.mono (by have := hB.size; simp; omega)), by omega⟩
theorem SB.behind {w1 w2 : World} {o : Obj} {b : Nat} {s : Scr} (h : SB w1 b s) (hlt : b < w1.heap.size) (hb : Below (w1.alloc o).heap.size (w1.alloc o) w2) : SB w2 b s :=
  (h.below ((Below.refl _ _).alloc (Nat.le_refl _) o) hlt).below hb (by simp; omega)
theorem BW.behind {w1 w2 : World} {o : Obj} {b : Nat} {d x y : Int} (h : BW w1 b d x y) (hb : Below (w1.alloc o).heap.size (w1.alloc o) w2) : BW w2 b d x y :=
  (h.alloc o).below hb (by have := h.lt; simp; omega)
theorem BW.laid {w1 w2 : World} (d x y : Int) (hb : Below (w1.alloc (bmO d x y)).heap.size (w1.alloc (bmO d x y)) w2) : BW w2 w1.heap.size d x y :=
  (BW.now w1 d x y).below hb (by simp)

set_option maxHeartbeats 2000000 in
theorem lives15_any (w : World) : Calls Try.prog 11 #[] w fun e w' => e = .returned (.bool true) ∧ Below w.heap.size w w' := by
  go_enter Try.func11, Try.ntmps11
  go_wp2_with fail
  refine (rclassic _).mono ?_
  rintro e w1 ⟨rfl, hB1⟩
  go_wp2_with fail
  refine (at_14378 _).mono ?_
  rintro e w2 ⟨rfl, hb⟩
  have hS2 : SB w2 w1.heap.size classicS := SB.laid classicS (hb.mono (by simp))
  obtain ⟨hB2, hl12⟩ := behind hB1 hb
  clear hb
  obtain ⟨c0, c1, c2, c3, c4, c5, c6⟩ := SC.of hS2
  go_wp2_with fail
  clear c0 c1 c2 c3 c4 c5 c6
  refine (at_14379 _).mono ?_
  rintro e w3 ⟨rfl, hb⟩
  have hS3 := hS2.behind hl12 hb
  have hP3 := BW.laid 1 0 0 hb
  obtain ⟨hB3, hl23⟩ := behind hB2 hb
  have hl13 : w1.heap.size < w3.heap.size := by omega
  clear hb hS2
  obtain ⟨c0, c1, c2, c3, c4, c5, c6⟩ := SC.of hS3
  go_wp2_with fail
  clear c0 c1 c2 c3 c4 c5 c6
  refine (at_14380 _).mono ?_
  rintro e w4 ⟨rfl, hb⟩
  have hS4 := hS3.behind hl13 hb
  have hP4 := hP3.behind hb
  have hQ4 := BW.laid 2 0 0 hb
  obtain ⟨hB4, hl34⟩ := behind hB3 hb
  have hl14 : w1.heap.size < w4.heap.size := by omega
  clear hb hS3 hP3
  obtain ⟨c0, c1, c2, c3, c4, c5, c6⟩ := SC.of hS4
  go_wp2_with fail
  clear c0 c1 c2 c3 c4 c5 c6
  refine (at_14382 _).mono ?_
  rintro e w5 ⟨rfl, hb⟩
  have hP5 := hP4.behind hb
  have hQ5 := hQ4.behind hb
  have hR5 := BW.laid 1 1 0 hb
  obtain ⟨hB5, hl45⟩ := behind hB4 hb
  clear hb hS4 hP4 hQ4
  have hl25 : w2.heap.size < w5.heap.size := by omega
  have hl35 : w3.heap.size < w5.heap.size := by omega
  have d0 := hP5.c0
  have d1 := hP5.c1
  have d2 := hP5.c2
  have f0 := hQ5.c0
  have f1 := hQ5.c1
  have f2 := hQ5.c2
  have r0 := hR5.c0
  have r1 := hR5.c1
  have r2 := hR5.c2
  clear hP5 hQ5 hR5
  go_wp2_with fail
  refine (pixel_01 _).mono ?_
  rintro e w6 ⟨rfl, rfl⟩
  go_wp2_with fail
  refine (pixel_31 _).mono ?_
  rintro e w6 ⟨rfl, rfl⟩
  go_wp2_with fail
  go_ret
  exact ⟨rfl, hB5.alloc hB5.size _⟩

set_option maxHeartbeats 2000000 in
theorem walk_RasterNames (w : World) : Calls Try.prog 3 #[] w fun e w' => e = .returned (.bool true) ∧ Below w.heap.size w w' := by
  go_enter Try.func3, Try.ntmps3
  go_wp2_with fail
  refine (attr_08 _).mono ?_
  rintro e w1 ⟨rfl, rfl⟩
  go_wp2_with fail
  refine (where_6176 _).mono ?_
  rintro e w1 ⟨rfl, rfl⟩
  go_wp2_with fail
  refine (where_256 _).mono ?_
  rintro e w1 ⟨rfl, rfl⟩
  go_wp2_with fail
  refine (where_6912 _).mono ?_
  rintro e w1 ⟨rfl, rfl⟩
  go_wp2_with fail
  refine (at_z _).mono ?_
  rintro e w1 ⟨rfl, hB1⟩
  go_wp2_with fail
  refine (lives15_any _).mono ?_
  rintro e w2 ⟨rfl, hb⟩
  obtain ⟨hB2, _⟩ := behind hB1 hb
  go_wp2_with fail
  go_ret
  exact ⟨rfl, hB2⟩
end Go.Proofs.Ytlghfngomiiclaa
