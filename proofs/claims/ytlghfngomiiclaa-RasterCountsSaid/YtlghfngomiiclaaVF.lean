
/- The reference's Count; RasterCounts. -/
import Derived.Test.YtlghfngomiiclaaVD
import Derived.Test.YtlghfngomiiclaaVE
namespace Go.Proofs.Ytlghfngomiiclaa
open Go.RowKit
set_option linter.unusedSimpArgs false
set_option linter.unusedVariables false
set_option maxRecDepth 100000

/-- What is counted so far. -/
structure CntR (s : Scr) (k : Nat) (x y z : Int) : Prop where
  one : x = cnt (doF s) 1 k
  two : y = cnt (doF s) 2 k
  three : z = cnt (doF s) 3 k
theorem CntR.zero (s : Scr) : CntR s 0 0 0 0 := ⟨rfl, rfl, rfl⟩
theorem CntR.in_ {s : Scr} {k : Nat} {x y z : Int} (h : CntR s k x y z) : (0 ≤ x ∧ x ≤ k) ∧ (0 ≤ y ∧ y ≤ k) ∧ (0 ≤ z ∧ z ≤ k) := by
  rw [h.one, h.two, h.three]
  exact ⟨cnt_in _ _ _, cnt_in _ _ _, cnt_in _ _ _⟩
theorem CntR.next {s : Scr} {k : Nat} {x y z : Int} (h : CntR s k x y z) : CntR s (k + 1) (x + if (beamB s k).1 = 1 then 1 else 0) (y + if (beamB s k).1 = 2 then 1 else 0) (z + if (beamB s k).1 = 3 then 1 else 0) := by
  rw [h.one, h.two, h.three]
  exact ⟨rfl, rfl, rfl⟩
theorem beam_ways (s : Scr) (t : Int) : (beamB s t).1 = 0 ∨ (beamB s t).1 = 1 ∨ (beamB s t).1 = 2 ∨ (beamB s t).1 = 3 := by
  unfold beamB spotB
  split
  · rw [pic_do]
    repeat' split
    all_goals simp
  · rw [bor_do]
    split <;> simp

set_option maxHeartbeats 4000000 in
theorem rcount_yes (w : World) (s : Scr) (hm : s.May) : Calls Try.prog 13 #[s.val] w fun e w' => e = .returned (.tuple #[.int .i64 (s.rows * s.wide), .int .i64 (s.rows * s.wide), .int .i64 (borN s)]) ∧ Below w.heap.size w w' := by
  obtain ⟨hl, hL0, hL1⟩ := Scr.len_may hm
  obtain ⟨L, hL⟩ : ∃ L : Nat, s.len = L := ⟨s.len.toNat, by omega⟩
  have hfin : CntR s L (s.rows * s.wide) (s.rows * s.wide) (borN s) := by
    obtain ⟨e1, e2, e3⟩ := count_frame hm
    rw [show s.len.toNat = L by omega] at e1 e2 e3
    exact ⟨e1.symm, e2.symm, e3.symm⟩
  have hLn := fun w => rlen_any w s
  rw [hL] at hLn hL0 hL1
  have hA := fun (k : Nat) (h : k < L) (w : World) => rat_yes w s k hm (by omega) (by omega)
  have HA := Lib.hid hA
  have HF := Lib.hid hfin
  clear hA hfin hl hL
  unfold Scr.val
  go_enter Try.func13, Try.ntmps13
  go_wp2_with fail
  go_loopw [5, 6, 7, 8] (fun p a b t wr => ∃ (k : Nat) (x y z : Int), k ≤ L ∧ p = .int .i64 x ∧ a = .int .i64 y ∧ b = .int .i64 z ∧ t = .int .i64 k ∧ CntR s k x y z ∧ SB wr w.heap.size s ∧ w.heap.size < wr.heap.size ∧ Below w.heap.size w wr) (fun _ _ _ t _ => L - (intOf t).toNat)
  case atStart =>
    exact ⟨0, 0, 0, 0, by omega, rfl, rfl, rfl, rfl, CntR.zero s, SB.now w s, by simp, (Below.refl _ _).alloc (Nat.le_refl _) _⟩
  case round =>
    obtain ⟨k, x, y, z, hk, rfl, rfl, rfl, rfl, hC, hS, hl0, hB⟩ := hrel
    obtain ⟨⟨x0, x1⟩, ⟨y0, y1⟩, ⟨z0, z1⟩⟩ := hC.in_
    obtain ⟨c0, c1, c2, c3, c4, c5, c6⟩ := hS
    have hS : SB wr w.heap.size s := ⟨c0, c1, c2, c3, c4, c5, c6⟩
    go_wp2_with fail
    refine (hLn _).mono ?_
    rintro e w2 ⟨rfl, hb⟩
    have hS2 := hS.below hb hl0
    have hB2 := hB.trans (hb.mono hB.size)
    have hl2 : w.heap.size < w2.heap.size := by have := hb.size; omega
    clear hb hS c0 c1 c2 c3 c4 c5 c6 hB
    by_cases hkL : k < L
    · obtain ⟨c0, c1, c2, c3, c4, c5, c6⟩ := hS2
      have hS2 : SB w2 w.heap.size s := ⟨c0, c1, c2, c3, c4, c5, c6⟩
      have hNx := Lib.hid hC.next
      have hW := beam_ways s k
      have hAk := HA.out k hkL
      obtain ⟨⟨d, u, v⟩, hg⟩ : ∃ g, beamB s (k : Int) = g := ⟨_, rfl⟩
      simp only [hg] at hAk hW
      have hNx := hNx.out
      rw [hg] at hNx
      simp only at hNx
      clear hg hC
      go_wp2_with fail
      clear c0 c1 c2 c3 c4 c5 c6
      refine (hAk _).mono ?_
      rintro e w3 ⟨rfl, hb⟩
      have hS3 := (hS2.below hb hl2)
      have hB3 := hB2.trans (hb.mono hB2.size)
      have hl3 : w.heap.size < w3.heap.size := by have := hb.size; omega
      clear hb hS2 hAk
      rcases hW with rfl | rfl | rfl | rfl
      all_goals
        have HN := Lib.hid hNx
        clear hNx
        go_wp2_with fail
        go_roundw
        case rel =>
          have hNx := HN.out
          simp at hNx
          exact ⟨k + 1, _, _, _, by omega, rfl, rfl, rfl, rfl, hNx, hS3.below ((Below.refl _ _).alloc (Nat.le_refl _) _) hl3, by simp; omega, hB3.alloc hB3.size _⟩
        case measure => simp [intOf]; omega
    · obtain rfl : k = L := by omega
      obtain ⟨e1, e2, e3⟩ := HF.out
      have f1 := hC.one
      have f2 := hC.two
      have f3 := hC.three
      rw [← e1] at f1
      rw [← e2] at f2
      rw [← e3] at f3
      have G1 := Lib.hid f1
      have G2 := Lib.hid f2
      have G3 := Lib.hid f3
      clear e1 e2 e3 f1 f2 f3 hC HF HA
      go_wp2_with fail
      go_ret3
      refine ⟨?_, hB2⟩
      show Ending.returned (.tuple #[.int .i64 x, .int .i64 y, .int .i64 z]) = _
      rw [G1.out, G2.out, G3.out]

set_option maxHeartbeats 1000000 in
theorem rcount_no (w : World) (s : Scr) (hm : ¬ s.May) : Calls Try.prog 13 #[s.val] w fun e w' => e = .returned (.tuple #[.int .i64 0, .int .i64 0, .int .i64 0]) ∧ Below w.heap.size w w' := by
  have hLn := fun w => rlen_any w s
  rw [Scr.len_not hm] at hLn
  unfold Scr.val
  go_enter Try.func13, Try.ntmps13
  go_wp2_with fail
  go_loopw [5, 6, 7, 8] (fun p a b t wr => p = .int .i64 0 ∧ a = .int .i64 0 ∧ b = .int .i64 0 ∧ t = .int .i64 0 ∧ SB wr w.heap.size s ∧ w.heap.size < wr.heap.size ∧ Below w.heap.size w wr) (fun _ _ _ t _ => 0)
  case atStart =>
    exact ⟨rfl, rfl, rfl, rfl, SB.now w s, by simp, (Below.refl _ _).alloc (Nat.le_refl _) _⟩
  case round =>
    obtain ⟨rfl, rfl, rfl, rfl, hS, hl0, hB⟩ := hrel
    obtain ⟨c0, c1, c2, c3, c4, c5, c6⟩ := hS
    go_wp2_with fail
    refine (hLn _).mono ?_
    rintro e w2 ⟨rfl, hb⟩
    have hB2 := hB.trans (hb.mono hB.size)
    go_wp2_with fail
    go_ret3
    exact ⟨rfl, hB2⟩

set_option maxHeartbeats 2000000 in
theorem walk_RasterCounts (w : World) (s : Scr) (ws : s.wf) : Calls Try.prog 4 #[s.val] w fun e w' => e = .returned (.bool true) ∧ Below w.heap.size w w' := by
  by_cases hm : s.May
  · have hC := fun w => count_yes s hm w
    have hD := fun w => rcount_yes w s hm
    have hE := fun w => rcheck_yes s hm w
    obtain ⟨_, _, _, ⟨r0, r1, _⟩, _, ⟨w0, w1, _⟩, _⟩ := hm.bnd
    have hn1 := Int.mul_le_mul r1 w1 w0 (by omega)
    have hn0 := Int.mul_nonneg r0 w0
    generalize borN s = B at *
    unfold Scr.val
    go_enter Try.func4, Try.ntmps4
    go_wp2_with fail
    refine (lives15_any _).mono ?_
    rintro e w1 ⟨rfl, hb⟩
    obtain ⟨hB1, hS1, hl1⟩ := SB.boxed hb
    clear hb
    obtain ⟨c0, c1, c2, c3, c4, c5, c6⟩ := hS1
    have hS1 : SB w1 w.heap.size s := ⟨c0, c1, c2, c3, c4, c5, c6⟩
    go_wp2_with fail
    refine (hC _).mono ?_
    rintro e w2 ⟨rfl, hb⟩
    have hS2 := hS1.below hb hl1
    have hB2 := hB1.trans (hb.mono hB1.size)
    have hl2 : w.heap.size < w2.heap.size := by have := hb.size; omega
    clear hb hS1 c0 c1 c2 c3 c4 c5 c6
    obtain ⟨c0, c1, c2, c3, c4, c5, c6⟩ := hS2
    have hS2 : SB w2 w.heap.size s := ⟨c0, c1, c2, c3, c4, c5, c6⟩
    go_wp2_with fail
    refine (hD _).mono ?_
    rintro e w3 ⟨rfl, hb⟩
    have hS3 := hS2.below hb hl2
    have hB3 := hB2.trans (hb.mono hB2.size)
    have hl3 : w.heap.size < w3.heap.size := by have := hb.size; omega
    clear hb hS2 c0 c1 c2 c3 c4 c5 c6
    obtain ⟨c0, c1, c2, c3, c4, c5, c6⟩ := hS3
    have hS3 : SB w3 w.heap.size s := ⟨c0, c1, c2, c3, c4, c5, c6⟩
    go_wp2_with fail
    refine (hE _).mono ?_
    rintro e w4 ⟨rfl, hb⟩
    have hS4 := hS3.below hb hl3
    have hB4 := hB3.trans (hb.mono hB3.size)
    clear hb hS3 c0 c1 c2 c3 c4 c5 c6
    obtain ⟨c0, c1, c2, c3, c4, c5, c6⟩ := hS4
    go_wp2_with fail
    go_ret
    exact ⟨rfl, hB4⟩
  · have hC := fun w => count_no s hm w
    have hD := fun w => rcount_no w s hm
    have hE := fun w => rcheck_no s hm w
    unfold Scr.val
    go_enter Try.func4, Try.ntmps4
    go_wp2_with fail
    refine (lives15_any _).mono ?_
    rintro e w1 ⟨rfl, hb⟩
    obtain ⟨hB1, hS1, hl1⟩ := SB.boxed hb
    clear hb
    obtain ⟨c0, c1, c2, c3, c4, c5, c6⟩ := hS1
    have hS1 : SB w1 w.heap.size s := ⟨c0, c1, c2, c3, c4, c5, c6⟩
    go_wp2_with fail
    refine (hC _).mono ?_
    rintro e w2 ⟨rfl, hb⟩
    have hS2 := hS1.below hb hl1
    have hB2 := hB1.trans (hb.mono hB1.size)
    have hl2 : w.heap.size < w2.heap.size := by have := hb.size; omega
    clear hb hS1 c0 c1 c2 c3 c4 c5 c6
    obtain ⟨c0, c1, c2, c3, c4, c5, c6⟩ := hS2
    have hS2 : SB w2 w.heap.size s := ⟨c0, c1, c2, c3, c4, c5, c6⟩
    go_wp2_with fail
    refine (hD _).mono ?_
    rintro e w3 ⟨rfl, hb⟩
    have hS3 := hS2.below hb hl2
    have hB3 := hB2.trans (hb.mono hB2.size)
    clear hb hS2 c0 c1 c2 c3 c4 c5 c6
    obtain ⟨c0, c1, c2, c3, c4, c5, c6⟩ := hS3
    go_wp2_with fail
    refine (hE _).mono ?_
    rintro e w4 ⟨rfl, hb⟩
    have hB4 := hB3.trans (hb.mono hB3.size)
    go_wp2_with fail
    go_ret
    exact ⟨rfl, hB4⟩
end Go.Proofs.Ytlghfngomiiclaa
