
/- Package contend: the examples: lives, ContendNames. -/
import Derived.Test.YtljgpaiojeffcaaM5
namespace Go.Proofs.Ytljgpaiojeffcaa
open Go.RowKit
set_option linter.unusedSimpArgs false
set_option linter.unusedVariables false
set_option maxRecDepth 100000

theorem wf_c (t : Int) : wF classicS t = wAt classicS (t % 70908 / 228) (t % 70908 % 228) := by
  unfold wF
  rw [len_classic]
  rfl
theorem wait_c (t n : Int) (h0 : 0 ≤ t) (h1 : t ≤ 1099511627776) (he : wAt classicS (t % 70908 / 228) (t % 70908 % 228) = n) (w : World) : Calls Try.prog 16 #[classicV, .int .i64 t] w fun e w' => e = .returned (.int .i64 n) ∧ Below w.heap.size w w' := by
  refine (wait_yes w classicS t may_classic h0 h1).mono ?_
  rintro e w' ⟨h, hb⟩
  rw [wf_c, he] at h
  exact ⟨h, hb⟩
theorem wait_14377 (w : World) : Calls Try.prog 16 #[classicV, .int .i64 14377] w fun e w' => e = .returned (.int .i64 6) ∧ Below w.heap.size w w' := wait_c 14377 6 (by decide) (by decide) (by decide) w
theorem wait_14378 (w : World) : Calls Try.prog 16 #[classicV, .int .i64 14378] w fun e w' => e = .returned (.int .i64 5) ∧ Below w.heap.size w w' := wait_c 14378 5 (by decide) (by decide) (by decide) w
theorem wait_14383 (w : World) : Calls Try.prog 16 #[classicV, .int .i64 14383] w fun e w' => e = .returned (.int .i64 0) ∧ Below w.heap.size w w' := wait_c 14383 0 (by decide) (by decide) (by decide) w
theorem wait_14384 (w : World) : Calls Try.prog 16 #[classicV, .int .i64 14384] w fun e w' => e = .returned (.int .i64 0) ∧ Below w.heap.size w w' := wait_c 14384 0 (by decide) (by decide) (by decide) w
theorem wait_14385 (w : World) : Calls Try.prog 16 #[classicV, .int .i64 14385] w fun e w' => e = .returned (.int .i64 6) ∧ Below w.heap.size w w' := wait_c 14385 6 (by decide) (by decide) (by decide) w
theorem gf_c : gF classicS 14377 = 14383 := by unfold gF; rw [wf_c]; decide
theorem req_read (w : World) : Calls Try.prog 8 #[classicV, .agg #[.int .i64 2, .int .u16 0, .int .u8 0, .int .i64 3], .bool true, .int .i64 14377] w fun e w' => e = .returned (.tuple #[.int .i64 14383, .int .i64 14386, .int .i64 0]) ∧ Below w.heap.size w w' := by
  refine (request_yes w classicS ⟨2, 0, 0, 3⟩ true 14377 ⟨by decide, by decide, by decide, by decide⟩ ⟨may_classic, by decide, by decide, by decide⟩).mono ?_
  rintro e w' ⟨h, hb⟩
  have e1 : reqAt classicS ⟨2, 0, 0, 3⟩ true 14377 = 14383 := by
    unfold reqAt
    rw [if_neg (by decide), show (Rq.waits ⟨2, 0, 0, 3⟩ true) = true from rfl, stF_yes, gf_c]
  have e2 : reqEnd classicS ⟨2, 0, 0, 3⟩ true 14377 = 14386 := by
    unfold reqEnd
    rw [if_neg (by decide), show (Rq.waits ⟨2, 0, 0, 3⟩ true) = true from rfl, stF_yes, gf_c]
    rfl
  rw [e1, e2] at h
  exact ⟨h, hb⟩
theorem port_c2 : portT classicS false false 14376 2 = 14384 := by
  have h1 : portT classicS false false 14376 1 = 14377 := by
    show stF classicS (waitsP 0 false false) 14376 + 1 = 14377
    rw [show waitsP 0 false false = false from rfl, stF_no]
    rfl
  show stF classicS (waitsP 1 false false) (portT classicS false false 14376 1) + 1 = 14384
  rw [h1, show waitsP 1 false false = true from rfl, stF_yes, gf_c]
  rfl
theorem port_c4 : portT classicS false false 14376 4 = 14386 := by
  have h3 : portT classicS false false 14376 3 = 14385 := by
    show stF classicS (waitsP 2 false false) (portT classicS false false 14376 2) + 1 = 14385
    rw [port_c2, show waitsP 2 false false = false from rfl, stF_no]
    rfl
  show stF classicS (waitsP 3 false false) (portT classicS false false 14376 3) + 1 = 14386
  rw [h3, show waitsP 3 false false = false from rfl, stF_no]
  rfl
theorem req_in_c (w : World) : Calls Try.prog 8 #[classicV, .agg #[.int .i64 4, .int .u16 254, .int .u8 0, .int .i64 4], .bool false, .int .i64 14376] w fun e w' => e = .returned (.tuple #[.int .i64 14383, .int .i64 14386, .int .i64 0]) ∧ Below w.heap.size w w' := by
  refine (request_yes w classicS ⟨4, 254, 0, 4⟩ false 14376 ⟨by decide, by decide, by decide, by decide⟩ ⟨may_classic, by decide, by decide, by decide⟩).mono ?_
  rintro e w' ⟨h, hb⟩
  have e1 : reqAt classicS ⟨4, 254, 0, 4⟩ false 14376 = 14383 := by
    unfold reqAt
    rw [if_pos (by decide), show (Rq.odd ⟨4, 254, 0, 4⟩) = false from rfl, port_c2]
    rfl
  have e2 : reqEnd classicS ⟨4, 254, 0, 4⟩ false 14376 = 14386 := by
    unfold reqEnd
    rw [if_pos (by decide), show (Rq.odd ⟨4, 254, 0, 4⟩) = false from rfl, port_c4]
  rw [e1, e2] at h
  exact ⟨h, hb⟩
theorem req_none (w : World) : Calls Try.prog 8 #[classicV, .agg #[.int .i64 0, .int .u16 0, .int .u8 0, .int .i64 0], .bool true, .int .i64 0] w fun e w' => e = .returned (.tuple #[.int .i64 0, .int .i64 0, .int .i64 2]) ∧ Below w.heap.size w w' :=
  request_no w classicS ⟨0, 0, 0, 0⟩ true 0 (fun h => absurd h.2.1 (by decide))
theorem req_early (w : World) : Calls Try.prog 8 #[classicV, .agg #[.int .i64 2, .int .u16 0, .int .u8 0, .int .i64 3], .bool true, .int .i64 (-1)] w fun e w' => e = .returned (.tuple #[.int .i64 0, .int .i64 0, .int .i64 2]) ∧ Below w.heap.size w w' :=
  request_no w classicS ⟨2, 0, 0, 3⟩ true (-1) (fun h => absurd h.2.2.1 (by decide))
theorem most_c (w : World) : Calls Try.prog 11 #[classicV, .agg #[.int .i64 5, .int .u16 0, .int .u8 0, .int .i64 0]] w fun e w' => e = .returned (.int .i64 24) ∧ Below w.heap.size w w' :=
  most_any classicS ⟨5, 0, 0, 0⟩ w

theorem SB.kept {w1 w2 : World} {b : Nat} {s : Scr} (h : SB w1 b s) (hlt : b < w1.heap.size) (hb : Below w1.heap.size w1 w2) : SB w2 b s ∧ b < w2.heap.size := ⟨h.below hb hlt, by have := hb.size; omega⟩

set_option maxHeartbeats 2000000 in
theorem lives16_any (w : World) : Calls Try.prog 9 #[] w fun e w' => e = .returned (.bool true) ∧ Below w.heap.size w w' := by
  go_enter Try.func9, Try.ntmps9
  go_wp2_with fail
  refine (rclassic _).mono ?_
  rintro e w1 ⟨rfl, hB1⟩
  go_wp2_with fail
  refine (req_read _).mono ?_
  rintro e w2 ⟨rfl, hb⟩
  have hS2 : SB w2 w1.heap.size classicS := SB.laid classicS (hb.mono (by simp))
  obtain ⟨hB2, hl2⟩ := behind hB1 hb
  clear hb
  obtain ⟨c0, c1, c2, c3, c4, c5, c6⟩ := SC.of hS2
  go_wp2_with fail
  clear c0 c1 c2 c3 c4 c5 c6
  refine (req_in_c _).mono ?_
  rintro e w3 ⟨rfl, hb⟩
  obtain ⟨hS3, hl3⟩ := hS2.kept hl2 hb
  have hB3 := hB2.trans (hb.mono hB2.size)
  clear hb hS2 hl2
  obtain ⟨c0, c1, c2, c3, c4, c5, c6⟩ := SC.of hS3
  go_wp2_with fail
  clear c0 c1 c2 c3 c4 c5 c6
  refine (wait_14377 _).mono ?_
  rintro e w4 ⟨rfl, hb⟩
  obtain ⟨hS4, hl4⟩ := hS3.kept hl3 hb
  have hB4 := hB3.trans (hb.mono hB3.size)
  clear hb hS3 hl3
  obtain ⟨c0, c1, c2, c3, c4, c5, c6⟩ := SC.of hS4
  go_wp2_with fail
  clear c0 c1 c2 c3 c4 c5 c6
  refine (wait_14378 _).mono ?_
  rintro e w5 ⟨rfl, hb⟩
  obtain ⟨hS5, hl5⟩ := hS4.kept hl4 hb
  have hB5 := hB4.trans (hb.mono hB4.size)
  clear hb hS4 hl4
  obtain ⟨c0, c1, c2, c3, c4, c5, c6⟩ := SC.of hS5
  go_wp2_with fail
  clear c0 c1 c2 c3 c4 c5 c6
  refine (wait_14383 _).mono ?_
  rintro e w6 ⟨rfl, hb⟩
  obtain ⟨hS6, hl6⟩ := hS5.kept hl5 hb
  have hB6 := hB5.trans (hb.mono hB5.size)
  clear hb hS5 hl5
  obtain ⟨c0, c1, c2, c3, c4, c5, c6⟩ := SC.of hS6
  go_wp2_with fail
  clear c0 c1 c2 c3 c4 c5 c6
  refine (wait_14384 _).mono ?_
  rintro e w7 ⟨rfl, hb⟩
  obtain ⟨hS7, hl7⟩ := hS6.kept hl6 hb
  have hB7 := hB6.trans (hb.mono hB6.size)
  clear hb hS6 hl6
  obtain ⟨c0, c1, c2, c3, c4, c5, c6⟩ := SC.of hS7
  go_wp2_with fail
  clear c0 c1 c2 c3 c4 c5 c6
  refine (wait_14385 _).mono ?_
  rintro e w8 ⟨rfl, hb⟩
  have hB8 := hB7.trans (hb.mono hB7.size)
  clear hb hS7 hl7
  go_wp2_with fail
  go_ret
  exact ⟨rfl, hB8⟩

theorem slow_160_5 (w : World) : Calls Try.prog 10 #[.int .u8 160, .int .i64 5] w fun e w' => e = .returned (.bool true) ∧ w = w' := by
  go_enter Try.func10, Try.ntmps10
  go_wp2
  go_ret
  exact ⟨rfl, rfl⟩
theorem slow_160_6 (w : World) : Calls Try.prog 10 #[.int .u8 160, .int .i64 6] w fun e w' => e = .returned (.bool false) ∧ w = w' := by
  go_enter Try.func10, Try.ntmps10
  go_wp2
  go_ret
  exact ⟨rfl, rfl⟩
theorem slow_255_8 (w : World) : Calls Try.prog 10 #[.int .u8 255, .int .i64 8] w fun e w' => e = .returned (.bool false) ∧ w = w' := by
  go_enter Try.func10, Try.ntmps10
  go_wp2
  go_ret
  exact ⟨rfl, rfl⟩

set_option maxHeartbeats 2000000 in
theorem walk_ContendNames (w : World) : Calls Try.prog 3 #[] w fun e w' => e = .returned (.bool true) ∧ Below w.heap.size w w' := by
  go_enter Try.func3, Try.ntmps3
  go_wp2_with fail
  refine (rclassic _).mono ?_
  rintro e w1 ⟨rfl, hB1⟩
  go_wp2_with fail
  refine (req_none _).mono ?_
  rintro e w2 ⟨rfl, hb⟩
  have hS2 : SB w2 w1.heap.size classicS := SB.laid classicS (hb.mono (by simp))
  obtain ⟨hB2, hl2⟩ := behind hB1 hb
  clear hb
  obtain ⟨c0, c1, c2, c3, c4, c5, c6⟩ := SC.of hS2
  go_wp2_with fail
  clear c0 c1 c2 c3 c4 c5 c6
  refine (req_early _).mono ?_
  rintro e w3 ⟨rfl, hb⟩
  obtain ⟨hS3, hl3⟩ := hS2.kept hl2 hb
  have hB3 := hB2.trans (hb.mono hB2.size)
  clear hb hS2 hl2
  go_wp2_with fail
  refine (lives16_any _).mono ?_
  rintro e w4 ⟨rfl, hb⟩
  obtain ⟨hS4, hl4⟩ := hS3.kept hl3 hb
  have hB4 := hB3.trans (hb.mono hB3.size)
  clear hb hS3 hl3
  go_wp2_with fail
  refine (slow_160_5 _).mono ?_
  rintro e w5 ⟨rfl, rfl⟩
  go_wp2_with fail
  refine (slow_160_6 _).mono ?_
  rintro e w5 ⟨rfl, rfl⟩
  go_wp2_with fail
  refine (slow_255_8 _).mono ?_
  rintro e w5 ⟨rfl, rfl⟩
  obtain ⟨c0, c1, c2, c3, c4, c5, c6⟩ := SC.of hS4
  go_wp2_with fail
  clear c0 c1 c2 c3 c4 c5 c6
  refine (most_c _).mono ?_
  rintro e w5 ⟨rfl, hb⟩
  go_wp2_with fail
  go_ret
  exact ⟨rfl, hB4.trans (hb.mono hB4.size)⟩
end Go.Proofs.Ytljgpaiojeffcaa
