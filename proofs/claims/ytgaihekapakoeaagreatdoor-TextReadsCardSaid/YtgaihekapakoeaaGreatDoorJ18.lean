/-   -/
import Derived.Test.YtgaihekapakoeaaGreatDoorJ13
import Derived.Test.YtgaihekapakoeaaGreatDoorJ10
set_option linter.unusedVariables false
set_option linter.unusedSimpArgs false
namespace Go.Proofs.YtgaihekapakoeaaGreatDoor
open Go.RowKit


set_option maxRecDepth 100000

def noneR (i : In) : Bool := i.may && (i.s == 2 && noneI i.o)
def twinR (i : In) : In := if i.may = true ∧ i.s = 2 then twinI i else i
theorem noneI_eq {o : Int} (h0 : 0 ≤ o) (h1 : o < 256) : noneI o = ((o / 64 == 0 || o / 64 == 3) || ((o / 64 == 2 && (decide (o / 8 % 8 < 4) || decide (3 < o % 8))) || (o == 119 || o == 127))) :=
 fin9 (P := fun o => noneI o = ((o / 64 == 0 || o / 64 == 3) || ((o / 64 == 2 && (decide (o / 8 % 8 < 4) || decide (3 < o % 8))) || (o == 119 || o == 127)))) (by decide +kernel) h0 h1

set_option maxHeartbeats 4000000 in
theorem r9_nothing (i : In) (hi : i.Wf) (w : World) : Calls Tryz.prog 26 #[i.val] w fun e w' => e = .returned (.bool (noneR i)) ∧ Below w.heap.size w w' := by
 obtain ⟨w1, hw1⟩ : ∃ w1, w.alloc (inO i) = w1 := ⟨_, rfl⟩
 have hL : InW w1 w.heap.size i := hw1 ▸ InW.laid w i
 have hb0 : Below w.heap.size w w1 := hw1 ▸ (Below.refl _ _).alloc (Nat.le_refl _) _
 have HL := z_ hL
 have hck := r9_check i hi w1
 obtain ⟨q, hq⟩ : ∃ q, noneR i = q := ⟨_, rfl⟩
 rw [hq]
 unfold noneR at hq
 obtain ⟨m, hm⟩ : ∃ m, i.may = m := ⟨_, rfl⟩
 have hcs := @may_one i
 rw [hm] at hq hck hcs
 rw [in_val]
 unfold inO at hw1
 obtain ⟨s, hs⟩ : ∃ s, i.s = s := ⟨_, rfl⟩
 obtain ⟨o, ho⟩ : ∃ o, i.o = o := ⟨_, rfl⟩
 rw [hs, ho] at hq
 have HG := z_ (fun (w2 : World) (hb : Below w1.heap.size w1 w2) => (⟨hs ▸ (HL.out.below hb HL.out.lt).gs, ho ▸ (HL.out.below hb HL.out.lt).go⟩ : w2.cell? ⟨w.heap.size, 0, none⟩ = some (.int .i64 s) ∧ w2.cell? ⟨w.heap.size, 2, none⟩ = some (.int .i64 o)))
 cases m with
 | false =>
  rw [Bool.false_and] at hq
  rw [if_neg (by decide)] at hck
  have HC := z_ hck
  have HQ := z_ hq
  clear hq hck hcs hm hs ho hL
  go_enter Tryz.func26, Tryz.ntmps26
  go_wp2_with (refine lr w.heap.size rfl rfl rfl HL.out ?_)
  refine HC.out.mono ?_
  rintro e w2 ⟨rfl, hb⟩
  obtain ⟨k0, k2⟩ := HG.out w2 hb
  have hB := hb0.trans (hb.mono hb0.size)
  clear hb hb0 hw1
  go_wp2_with fail
  go_ret
  exact ⟨HQ.out ▸ rfl, hB⟩
 | true =>
  rw [Bool.true_and] at hq
  rw [if_pos rfl] at hck
  obtain ⟨h1, -, -⟩ := hcs rfl
  obtain ⟨-, -, o0, o1⟩ := one_cases h1
  rw [ho] at o0 o1
  have HC := z_ hck
  clear hck hcs hm hs ho hL h1
  by_cases hs2 : s = 2
  ·subst hs2
   rw [beq_self_eq_true, Bool.true_and, noneI_eq o0 o1] at hq
   have HP := fun w => r9_parts o w o0 o1
   generalize o / 64 = X at *
   generalize o / 8 % 8 = Y at *
   generalize o % 8 = Z at *
   have HQ := z_ hq
   have HP := z_ HP
   clear hq o0 o1
   go_enter Tryz.func26, Tryz.ntmps26
   go_wp2_with (refine lr w.heap.size rfl rfl rfl HL.out ?_)
   refine HC.out.mono ?_
   rintro e w2 ⟨rfl, hb⟩
   obtain ⟨k0, k2⟩ := HG.out w2 hb
   have hB := hb0.trans (hb.mono hb0.size)
   clear hb hb0 hw1
   go_wp2_with (go_at_call 49; (with_reducible refine (HP.out _).mono ?_); rintro e w' ⟨rfl, rfl⟩)
   all_goals
    go_ret
    exact ⟨ret_b (by rw [← HQ.out]; grind), hB⟩
  ·have hse : (s == 2) = false := beq_eq_false_iff_ne.2 hs2
   have hsn : (s != 2) = true := bne_iff_ne.2 hs2
   rw [hse, Bool.false_and] at hq
   have HQ := z_ hq
   clear hq hs2
   go_enter Tryz.func26, Tryz.ntmps26
   go_wp2_with (refine lr w.heap.size rfl rfl rfl HL.out ?_)
   refine HC.out.mono ?_
   rintro e w2 ⟨rfl, hb⟩
   obtain ⟨k0, k2⟩ := HG.out w2 hb
   have hB := hb0.trans (hb.mono hb0.size)
   clear hb hb0 hw1
   go_wp2_with fail
   go_ret
   exact ⟨HQ.out ▸ rfl, hB⟩
end Go.Proofs.YtgaihekapakoeaaGreatDoor
namespace Go.Proofs.YtgaihekapakoeaaGreatDoor
open Go.RowKit


set_option maxRecDepth 100000

set_option maxHeartbeats 8000000 in
theorem r9_twin (i : In) (hi : i.Wf) (w : World) : Calls Tryz.prog 25 #[i.val] w fun e w' => e = .returned (twinR i).val ∧ Below w.heap.size w w' := by
 have hb2 : Below w.heap.size w ((w.alloc (inO i)).alloc (inO zeroI)) := ((Below.refl _ _).alloc (Nat.le_refl _) _).alloc (by simp) _
 have hI := (InW.laid w i).more (inO zeroI)
 have hZ := InW.laid (w.alloc (inO i)) zeroI
 have hsz : (w.alloc (inO i)).heap.size = w.heap.size + 1 := by simp
 rw [hsz] at hZ
 obtain ⟨w1, hw1⟩ : ∃ w2, (w.alloc (inO i)).alloc (inO zeroI) = w2 := ⟨_, rfl⟩
 rw [hw1] at hb2 hI hZ
 have HL := z_ hI
 have HZ := z_ hZ
 have hck := r9_check i hi w1
 obtain ⟨R, hR⟩ : ∃ R, twinR i = R := ⟨_, rfl⟩
 rw [hR]
 unfold twinR at hR
 obtain ⟨m, hm⟩ : ∃ m, i.may = m := ⟨_, rfl⟩
 have hcs := @may_one i
 rw [hm] at hR hck hcs
 rw [in_val]
 unfold inO zeroI at hw1
 obtain ⟨s, hs⟩ : ∃ s, i.s = s := ⟨_, rfl⟩
 obtain ⟨o, ho⟩ : ∃ o, i.o = o := ⟨_, rfl⟩
 have HO := z_ ho
 have HS := z_ hs
 clear hI hZ hsz
 rw [hs] at hR
 cases m with
 | false =>
  rw [if_neg (fun h => absurd h.1 (by decide))] at hR
  rw [if_neg (by decide)] at hck
  have HR := z_ hR
  have HC := z_ hck
  clear hR hck hm hcs hs ho
  go_enter Tryz.func25, Tryz.ntmps25
  go_wp2_with (refine lr w.heap.size rfl rfl rfl HL.out ?_)
  refine HC.out.mono ?_
  rintro e w2 ⟨rfl, hb⟩
  have hL2 := HL.out.below hb HL.out.lt
  have hZ2 := HZ.out.below hb HZ.out.lt
  have hB2 := hb2.trans (hb.mono hb2.size)
  have k0 := hL2.gs
  have k2 := hL2.go
  have k4 := hL2.gm
  rw [HO.out] at k2
  rw [HS.out] at k0
  have f2 := hL2.free 2
  have HL3 := z_ hL2
  have HZ3 := z_ hZ2
  have HB3 := z_ hB2
  clear hb HL HZ hb2 hw1 hL2 hZ2 hB2
  go_wp2_with (first
   | (refine lr w.heap.size rfl rfl rfl HL3.out ?_)
   | (refine sr (w.heap.size + 1) rfl rfl rfl rfl HZ3.out (in_one _) ?_))
  (try simp only [Exit.inBlock, Exit.then])
  exact bodyPost_ret (results_cell_row rfl _ _ _ _ _ (0, 0) _ rfl (setRow_heap _ _ _ _ _ _ HZ3.out) Tryz.underlying23 rfl in_info) rfl ⟨by rw [← HR.out]; rfl, below_setRow HB3.out (by omega) _⟩
 | true =>
  rw [if_pos rfl] at hck
  obtain ⟨h1, -, -⟩ := hcs rfl
  obtain ⟨-, -, o0, o1⟩ := one_cases h1
  rw [ho] at o0 o1
  clear h1
  by_cases hs2 : s = 2
  ·subst hs2
   rw [if_pos ⟨rfl, rfl⟩] at hR
   unfold twinI twinO at hR
   rw [ho] at hR
   have HP := fun w => r9_parts o w o0 o1
   have h99 : o = 99 → o / 64 = 1 ∧ o % 8 = 3 := by omega
   have h107 : o = 107 → o / 64 = 1 ∧ o % 8 = 3 := by omega
   have h77 : o / 64 = 1 → o % 8 = 5 → o / 8 % 8 = 1 → o = 77 := by omega
   obtain ⟨X, hX⟩ : ∃ X, o / 64 = X := ⟨_, rfl⟩
   obtain ⟨Y, hY⟩ : ∃ Y, o / 8 % 8 = Y := ⟨_, rfl⟩
   obtain ⟨Z, hZZ⟩ : ∃ Z, o % 8 = Z := ⟨_, rfl⟩
   have hY0 : 0 ≤ Y := by omega
   have hY8 : Y < 8 := by omega
   rw [hX, hY, hZZ] at HP hR h77
   rw [hX, hZZ] at h99 h107
   have hcases : X ≠ 1 ∨ (X = 1 ∧ Z = 4) ∨ (X = 1 ∧ Z = 5 ∧ Y = 1) ∨ (X = 1 ∧ Z = 5 ∧ Y ≠ 1) ∨ (X = 1 ∧ Z = 6) ∨ o = 99 ∨ o = 107 ∨ (X = 1 ∧ Z ≠ 4 ∧ Z ≠ 5 ∧ Z ≠ 6 ∧ o ≠ 99 ∧ o ≠ 107) := by omega
   have hr4 : Y.tmod 4 = Y % 4 := Int.tmod_eq_emod_of_nonneg hY0
   clear hX hY hZZ o0 o1 hcs
   rcases hcases with hx | ⟨rfl, rfl⟩ | ⟨rfl, rfl, rfl⟩ | ⟨rfl, rfl, hy⟩ | ⟨rfl, rfl⟩ | rfl | rfl | ⟨rfl, z4, z5, z6, n99, n107⟩
   ·have hxn : (X != 1) = true := bne_iff_ne.2 hx
    rw [if_neg (fun e => hx (h99 e).1), if_neg (fun e => hx (h107 e).1), if_neg (fun e => hx e.1), if_neg (fun e => hx e.1), if_neg (fun e => hx e.1)] at hR
    have HP := z_ HP
    have HR := z_ hR
    have HC := z_ hck
    clear hR hck h99 h107 h77 hx hs ho hm
    go_enter Tryz.func25, Tryz.ntmps25
    go_wp2_with (refine lr w.heap.size rfl rfl rfl HL.out ?_)
    refine HC.out.mono ?_
    rintro e w2 ⟨rfl, hb⟩
    have hL2 := HL.out.below hb HL.out.lt
    have hZ2 := HZ.out.below hb HZ.out.lt
    have hB2 := hb2.trans (hb.mono hb2.size)
    have k0 := hL2.gs
    have k2 := hL2.go
    have k4 := hL2.gm
    rw [HO.out] at k2
    rw [HS.out] at k0
    have f2 := hL2.free 2
    have HL3 := z_ hL2
    have HZ3 := z_ hZ2
    have HB3 := z_ hB2
    clear hb HL HZ hb2 hw1 hL2 hZ2 hB2
    go_wp2_with (first
     | (go_at_call 49; (with_reducible refine (HP.out _).mono ?_); rintro e w' ⟨rfl, rfl⟩)
     | (refine lr w.heap.size rfl rfl rfl HL3.out ?_)
     | (refine sr (w.heap.size + 1) rfl rfl rfl rfl HZ3.out (in_one _) ?_))
    (try simp only [Exit.inBlock, Exit.then])
    exact bodyPost_ret (results_cell_row rfl _ _ _ _ _ (0, 0) _ rfl (setRow_heap _ _ _ _ _ _ HZ3.out) Tryz.underlying23 rfl in_info) rfl ⟨by rw [← HR.out, ← HO.out]; cases i; rfl, below_setRow HB3.out (by omega) _⟩
   ·rw [if_neg (fun e => absurd (h99 e).2 (by decide)), if_neg (fun e => absurd (h107 e).2 (by decide)), if_pos ⟨rfl, rfl⟩] at hR
    have HP := z_ HP
    have HR := z_ hR
    have HC := z_ hck
    clear hR hck h99 h107 h77 hs ho hm
    go_enter Tryz.func25, Tryz.ntmps25
    go_wp2_with (refine lr w.heap.size rfl rfl rfl HL.out ?_)
    refine HC.out.mono ?_
    rintro e w2 ⟨rfl, hb⟩
    have hL2 := HL.out.below hb HL.out.lt
    have hZ2 := HZ.out.below hb HZ.out.lt
    have hB2 := hb2.trans (hb.mono hb2.size)
    have k0 := hL2.gs
    have k2 := hL2.go
    have k4 := hL2.gm
    rw [HO.out] at k2
    rw [HS.out] at k0
    have f2 := hL2.free 2
    have HL3 := z_ (hL2.po (68))
    have HZ3 := z_ (show InW (w2.setCell ⟨w.heap.size, 2, none⟩ (.int .i64 (68))) (w.heap.size + 1) zeroI from (heap_setCell_other w2 _ _ _ (by simp)).trans hZ2)
    have HB3 := z_ (hB2.setCell (p := ⟨w.heap.size, 2, none⟩) (Nat.le_refl _) (.int .i64 (68)))
    clear hb HL HZ hb2 hw1 hL2 hZ2 hB2
    go_wp2_with (first
     | (go_at_call 49; (with_reducible refine (HP.out _).mono ?_); rintro e w' ⟨rfl, rfl⟩)
     | (refine lr w.heap.size rfl rfl rfl HL3.out ?_)
     | (refine sr (w.heap.size + 1) rfl rfl rfl rfl HZ3.out (in_one _) ?_))
    (try simp only [Exit.inBlock, Exit.then])
    exact bodyPost_ret (results_cell_row rfl _ _ _ _ _ (0, 0) _ rfl (setRow_heap _ _ _ _ _ _ HZ3.out) Tryz.underlying23 rfl in_info) rfl ⟨by rw [← HR.out]; rfl, below_setRow HB3.out (by omega) _⟩
   ·rw [if_neg (fun e => absurd (h99 e).2 (by decide)), if_neg (fun e => absurd (h107 e).2 (by decide)), if_neg (by decide), if_neg (by decide), if_neg (by decide)] at hR
    have ho77 := h77 rfl rfl rfl
    subst ho77
    have HP := z_ HP
    have HR := z_ hR
    have HC := z_ hck
    clear hR hck h99 h107 h77 hs ho hm
    go_enter Tryz.func25, Tryz.ntmps25
    go_wp2_with (refine lr w.heap.size rfl rfl rfl HL.out ?_)
    refine HC.out.mono ?_
    rintro e w2 ⟨rfl, hb⟩
    have hL2 := HL.out.below hb HL.out.lt
    have hZ2 := HZ.out.below hb HZ.out.lt
    have hB2 := hb2.trans (hb.mono hb2.size)
    have k0 := hL2.gs
    have k2 := hL2.go
    have k4 := hL2.gm
    rw [HO.out] at k2
    rw [HS.out] at k0
    have f2 := hL2.free 2
    have HL3 := z_ (hL2.po (77))
    have HZ3 := z_ (show InW (w2.setCell ⟨w.heap.size, 2, none⟩ (.int .i64 (77))) (w.heap.size + 1) zeroI from (heap_setCell_other w2 _ _ _ (by simp)).trans hZ2)
    have HB3 := z_ (hB2.setCell (p := ⟨w.heap.size, 2, none⟩) (Nat.le_refl _) (.int .i64 (77)))
    clear hb HL HZ hb2 hw1 hL2 hZ2 hB2
    go_wp2_with (first
     | (go_at_call 49; (with_reducible refine (HP.out _).mono ?_); rintro e w' ⟨rfl, rfl⟩)
     | (refine lr w.heap.size rfl rfl rfl HL3.out ?_)
     | (refine sr (w.heap.size + 1) rfl rfl rfl rfl HZ3.out (in_one _) ?_))
    (try simp only [Exit.inBlock, Exit.then])
    exact bodyPost_ret (results_cell_row rfl _ _ _ _ _ (0, 0) _ rfl (setRow_heap _ _ _ _ _ _ HZ3.out) Tryz.underlying23 rfl in_info) rfl ⟨by rw [← HR.out]; rfl, below_setRow HB3.out (by omega) _⟩
   ·have hye : (Y == 1) = false := beq_eq_false_iff_ne.2 hy
    rw [if_neg (fun e => absurd (h99 e).2 (by decide)), if_neg (fun e => absurd (h107 e).2 (by decide)), if_neg (by decide), if_pos ⟨rfl, rfl, hy⟩] at hR
    have HP := z_ HP
    have HR := z_ hR
    have HC := z_ hck
    clear hR hck h99 h107 h77 hy hs ho hm
    go_enter Tryz.func25, Tryz.ntmps25
    go_wp2_with (refine lr w.heap.size rfl rfl rfl HL.out ?_)
    refine HC.out.mono ?_
    rintro e w2 ⟨rfl, hb⟩
    have hL2 := HL.out.below hb HL.out.lt
    have hZ2 := HZ.out.below hb HZ.out.lt
    have hB2 := hb2.trans (hb.mono hb2.size)
    have k0 := hL2.gs
    have k2 := hL2.go
    have k4 := hL2.gm
    rw [HO.out] at k2
    rw [HS.out] at k0
    have f2 := hL2.free 2
    have HL3 := z_ (hL2.po (69))
    have HZ3 := z_ (show InW (w2.setCell ⟨w.heap.size, 2, none⟩ (.int .i64 (69))) (w.heap.size + 1) zeroI from (heap_setCell_other w2 _ _ _ (by simp)).trans hZ2)
    have HB3 := z_ (hB2.setCell (p := ⟨w.heap.size, 2, none⟩) (Nat.le_refl _) (.int .i64 (69)))
    clear hb HL HZ hb2 hw1 hL2 hZ2 hB2
    go_wp2_with (first
     | (go_at_call 49; (with_reducible refine (HP.out _).mono ?_); rintro e w' ⟨rfl, rfl⟩)
     | (refine lr w.heap.size rfl rfl rfl HL3.out ?_)
     | (refine sr (w.heap.size + 1) rfl rfl rfl rfl HZ3.out (in_one _) ?_))
    (try simp only [Exit.inBlock, Exit.then])
    exact bodyPost_ret (results_cell_row rfl _ _ _ _ _ (0, 0) _ rfl (setRow_heap _ _ _ _ _ _ HZ3.out) Tryz.underlying23 rfl in_info) rfl ⟨by rw [← HR.out]; rfl, below_setRow HB3.out (by omega) _⟩
   ·rw [if_neg (fun e => absurd (h99 e).2 (by decide)), if_neg (fun e => absurd (h107 e).2 (by decide)), if_neg (by decide), if_neg (by omega), if_pos ⟨rfl, rfl⟩] at hR
    have hk4 : Y % 4 = 0 ∨ Y % 4 = 1 ∨ Y % 4 = 2 ∨ Y % 4 = 3 := by omega
    have HP := z_ HP
    clear h99 h107 h77 hs ho hm
    rcases hk4 with hk | hk | hk | hk
    ·rw [hk] at hr4 hR
     rw [show twin6 0 = 70 from rfl] at hR
     clear hk
     have HR := z_ hR
     have HC := z_ hck
     clear hR hck 
     go_enter Tryz.func25, Tryz.ntmps25
     go_wp2_with (refine lr w.heap.size rfl rfl rfl HL.out ?_)
     refine HC.out.mono ?_
     rintro e w2 ⟨rfl, hb⟩
     have hL2 := HL.out.below hb HL.out.lt
     have hZ2 := HZ.out.below hb HZ.out.lt
     have hB2 := hb2.trans (hb.mono hb2.size)
     have k0 := hL2.gs
     have k2 := hL2.go
     have k4 := hL2.gm
     rw [HO.out] at k2
     rw [HS.out] at k0
     have f2 := hL2.free 2
     have hal : Below w2.heap.size w2 (w2.alloc (.cells #[.int .i64 70, .int .i64 70, .int .i64 86, .int .i64 94] 3)) := (Below.refl _ _).alloc (Nat.le_refl _) _
     obtain ⟨wx, hwx⟩ : ∃ wx, w2.alloc (.cells #[.int .i64 70, .int .i64 70, .int .i64 86, .int .i64 94] 3) = wx := ⟨_, rfl⟩
     have cx : wx.cell? ⟨w2.heap.size, 0, none⟩ = some (.int .i64 70) := by rw [← hwx, World.cell?_alloc_at _ _ _ _ rfl]; rfl
     rw [hwx] at hal
     have hLx := hL2.below hal hL2.lt
     have hZx := hZ2.below hal hZ2.lt
     have hBx := hB2.trans (hal.mono hB2.size)
     have fx := hLx.free 2
     have kx := hLx.go
     have HL3 := z_ (hLx.po 70)
     have HZ3 := z_ (show InW (wx.setCell ⟨w.heap.size, 2, none⟩ (.int .i64 70)) (w.heap.size + 1) zeroI from (heap_setCell_other wx _ _ _ (by simp)).trans hZx)
     have HB3 := z_ (hBx.setCell (p := ⟨w.heap.size, 2, none⟩) (Nat.le_refl _) (.int .i64 70))
     clear hal hLx hZx hBx
     clear hb HL HZ hb2 hw1 hL2 hZ2 hB2
     go_wp2_with (first
      | (go_at_call 49; (with_reducible refine (HP.out _).mono ?_); rintro e w' ⟨rfl, rfl⟩)
      | (refine lr w.heap.size rfl rfl rfl HL3.out ?_)
      | (refine sr (w.heap.size + 1) rfl rfl rfl rfl HZ3.out (in_one _) ?_))
     (try simp only [Exit.inBlock, Exit.then])
     exact bodyPost_ret (results_cell_row rfl _ _ _ _ _ (0, 0) _ rfl (setRow_heap _ _ _ _ _ _ HZ3.out) Tryz.underlying23 rfl in_info) rfl ⟨by rw [← HR.out]; rfl, below_setRow HB3.out (by omega) _⟩
    ·rw [hk] at hr4 hR
     rw [show twin6 1 = 70 from rfl] at hR
     clear hk
     have HR := z_ hR
     have HC := z_ hck
     clear hR hck 
     go_enter Tryz.func25, Tryz.ntmps25
     go_wp2_with (refine lr w.heap.size rfl rfl rfl HL.out ?_)
     refine HC.out.mono ?_
     rintro e w2 ⟨rfl, hb⟩
     have hL2 := HL.out.below hb HL.out.lt
     have hZ2 := HZ.out.below hb HZ.out.lt
     have hB2 := hb2.trans (hb.mono hb2.size)
     have k0 := hL2.gs
     have k2 := hL2.go
     have k4 := hL2.gm
     rw [HO.out] at k2
     rw [HS.out] at k0
     have f2 := hL2.free 2
     have hal : Below w2.heap.size w2 (w2.alloc (.cells #[.int .i64 70, .int .i64 70, .int .i64 86, .int .i64 94] 3)) := (Below.refl _ _).alloc (Nat.le_refl _) _
     obtain ⟨wx, hwx⟩ : ∃ wx, w2.alloc (.cells #[.int .i64 70, .int .i64 70, .int .i64 86, .int .i64 94] 3) = wx := ⟨_, rfl⟩
     have cx : wx.cell? ⟨w2.heap.size, 1, none⟩ = some (.int .i64 70) := by rw [← hwx, World.cell?_alloc_at _ _ _ _ rfl]; rfl
     rw [hwx] at hal
     have hLx := hL2.below hal hL2.lt
     have hZx := hZ2.below hal hZ2.lt
     have hBx := hB2.trans (hal.mono hB2.size)
     have fx := hLx.free 2
     have kx := hLx.go
     have HL3 := z_ (hLx.po 70)
     have HZ3 := z_ (show InW (wx.setCell ⟨w.heap.size, 2, none⟩ (.int .i64 70)) (w.heap.size + 1) zeroI from (heap_setCell_other wx _ _ _ (by simp)).trans hZx)
     have HB3 := z_ (hBx.setCell (p := ⟨w.heap.size, 2, none⟩) (Nat.le_refl _) (.int .i64 70))
     clear hal hLx hZx hBx
     clear hb HL HZ hb2 hw1 hL2 hZ2 hB2
     go_wp2_with (first
      | (go_at_call 49; (with_reducible refine (HP.out _).mono ?_); rintro e w' ⟨rfl, rfl⟩)
      | (refine lr w.heap.size rfl rfl rfl HL3.out ?_)
      | (refine sr (w.heap.size + 1) rfl rfl rfl rfl HZ3.out (in_one _) ?_))
     (try simp only [Exit.inBlock, Exit.then])
     exact bodyPost_ret (results_cell_row rfl _ _ _ _ _ (0, 0) _ rfl (setRow_heap _ _ _ _ _ _ HZ3.out) Tryz.underlying23 rfl in_info) rfl ⟨by rw [← HR.out]; rfl, below_setRow HB3.out (by omega) _⟩
    ·rw [hk] at hr4 hR
     rw [show twin6 2 = 86 from rfl] at hR
     clear hk
     have HR := z_ hR
     have HC := z_ hck
     clear hR hck 
     go_enter Tryz.func25, Tryz.ntmps25
     go_wp2_with (refine lr w.heap.size rfl rfl rfl HL.out ?_)
     refine HC.out.mono ?_
     rintro e w2 ⟨rfl, hb⟩
     have hL2 := HL.out.below hb HL.out.lt
     have hZ2 := HZ.out.below hb HZ.out.lt
     have hB2 := hb2.trans (hb.mono hb2.size)
     have k0 := hL2.gs
     have k2 := hL2.go
     have k4 := hL2.gm
     rw [HO.out] at k2
     rw [HS.out] at k0
     have f2 := hL2.free 2
     have hal : Below w2.heap.size w2 (w2.alloc (.cells #[.int .i64 70, .int .i64 70, .int .i64 86, .int .i64 94] 3)) := (Below.refl _ _).alloc (Nat.le_refl _) _
     obtain ⟨wx, hwx⟩ : ∃ wx, w2.alloc (.cells #[.int .i64 70, .int .i64 70, .int .i64 86, .int .i64 94] 3) = wx := ⟨_, rfl⟩
     have cx : wx.cell? ⟨w2.heap.size, 2, none⟩ = some (.int .i64 86) := by rw [← hwx, World.cell?_alloc_at _ _ _ _ rfl]; rfl
     rw [hwx] at hal
     have hLx := hL2.below hal hL2.lt
     have hZx := hZ2.below hal hZ2.lt
     have hBx := hB2.trans (hal.mono hB2.size)
     have fx := hLx.free 2
     have kx := hLx.go
     have HL3 := z_ (hLx.po 86)
     have HZ3 := z_ (show InW (wx.setCell ⟨w.heap.size, 2, none⟩ (.int .i64 86)) (w.heap.size + 1) zeroI from (heap_setCell_other wx _ _ _ (by simp)).trans hZx)
     have HB3 := z_ (hBx.setCell (p := ⟨w.heap.size, 2, none⟩) (Nat.le_refl _) (.int .i64 86))
     clear hal hLx hZx hBx
     clear hb HL HZ hb2 hw1 hL2 hZ2 hB2
     go_wp2_with (first
      | (go_at_call 49; (with_reducible refine (HP.out _).mono ?_); rintro e w' ⟨rfl, rfl⟩)
      | (refine lr w.heap.size rfl rfl rfl HL3.out ?_)
      | (refine sr (w.heap.size + 1) rfl rfl rfl rfl HZ3.out (in_one _) ?_))
     (try simp only [Exit.inBlock, Exit.then])
     exact bodyPost_ret (results_cell_row rfl _ _ _ _ _ (0, 0) _ rfl (setRow_heap _ _ _ _ _ _ HZ3.out) Tryz.underlying23 rfl in_info) rfl ⟨by rw [← HR.out]; rfl, below_setRow HB3.out (by omega) _⟩
    ·rw [hk] at hr4 hR
     rw [show twin6 3 = 94 from rfl] at hR
     clear hk
     have HR := z_ hR
     have HC := z_ hck
     clear hR hck 
     go_enter Tryz.func25, Tryz.ntmps25
     go_wp2_with (refine lr w.heap.size rfl rfl rfl HL.out ?_)
     refine HC.out.mono ?_
     rintro e w2 ⟨rfl, hb⟩
     have hL2 := HL.out.below hb HL.out.lt
     have hZ2 := HZ.out.below hb HZ.out.lt
     have hB2 := hb2.trans (hb.mono hb2.size)
     have k0 := hL2.gs
     have k2 := hL2.go
     have k4 := hL2.gm
     rw [HO.out] at k2
     rw [HS.out] at k0
     have f2 := hL2.free 2
     have hal : Below w2.heap.size w2 (w2.alloc (.cells #[.int .i64 70, .int .i64 70, .int .i64 86, .int .i64 94] 3)) := (Below.refl _ _).alloc (Nat.le_refl _) _
     obtain ⟨wx, hwx⟩ : ∃ wx, w2.alloc (.cells #[.int .i64 70, .int .i64 70, .int .i64 86, .int .i64 94] 3) = wx := ⟨_, rfl⟩
     have cx : wx.cell? ⟨w2.heap.size, 3, none⟩ = some (.int .i64 94) := by rw [← hwx, World.cell?_alloc_at _ _ _ _ rfl]; rfl
     rw [hwx] at hal
     have hLx := hL2.below hal hL2.lt
     have hZx := hZ2.below hal hZ2.lt
     have hBx := hB2.trans (hal.mono hB2.size)
     have fx := hLx.free 2
     have kx := hLx.go
     have HL3 := z_ (hLx.po 94)
     have HZ3 := z_ (show InW (wx.setCell ⟨w.heap.size, 2, none⟩ (.int .i64 94)) (w.heap.size + 1) zeroI from (heap_setCell_other wx _ _ _ (by simp)).trans hZx)
     have HB3 := z_ (hBx.setCell (p := ⟨w.heap.size, 2, none⟩) (Nat.le_refl _) (.int .i64 94))
     clear hal hLx hZx hBx
     clear hb HL HZ hb2 hw1 hL2 hZ2 hB2
     go_wp2_with (first
      | (go_at_call 49; (with_reducible refine (HP.out _).mono ?_); rintro e w' ⟨rfl, rfl⟩)
      | (refine lr w.heap.size rfl rfl rfl HL3.out ?_)
      | (refine sr (w.heap.size + 1) rfl rfl rfl rfl HZ3.out (in_one _) ?_))
     (try simp only [Exit.inBlock, Exit.then])
     exact bodyPost_ret (results_cell_row rfl _ _ _ _ _ (0, 0) _ rfl (setRow_heap _ _ _ _ _ _ HZ3.out) Tryz.underlying23 rfl in_info) rfl ⟨by rw [← HR.out]; rfl, below_setRow HB3.out (by omega) _⟩
   ·obtain ⟨rfl, rfl⟩ := h99 rfl
    rw [if_pos rfl] at hR
    have HP := z_ HP
    have HR := z_ hR
    have HC := z_ hck
    clear hR hck h99 h107 h77 hs ho hm
    go_enter Tryz.func25, Tryz.ntmps25
    go_wp2_with (refine lr w.heap.size rfl rfl rfl HL.out ?_)
    refine HC.out.mono ?_
    rintro e w2 ⟨rfl, hb⟩
    have hL2 := HL.out.below hb HL.out.lt
    have hZ2 := HZ.out.below hb HZ.out.lt
    have hB2 := hb2.trans (hb.mono hb2.size)
    have k0 := hL2.gs
    have k2 := hL2.go
    have k4 := hL2.gm
    rw [HO.out] at k2
    rw [HS.out] at k0
    have f2 := hL2.free 2
    have HL3 := z_ hL2
    have HZ3 := z_ hZ2
    have HB3 := z_ hB2
    clear hb HL HZ hb2 hw1 hL2 hZ2 hB2
    go_wp2_with (first
     | (go_at_call 49; (with_reducible refine (HP.out _).mono ?_); rintro e w' ⟨rfl, rfl⟩)
     | (refine sr (w.heap.size + 1) rfl rfl rfl rfl HZ3.out (in_one ⟨0, 0, 34, 0, i.m, 3⟩) ?_))
    (try simp only [Exit.inBlock, Exit.then])
    exact bodyPost_ret (results_cell_row rfl _ _ _ _ _ (0, 0) _ rfl (setRow_heap _ _ _ _ _ _ HZ3.out) Tryz.underlying23 rfl in_info) rfl ⟨by rw [← HR.out]; rfl, below_setRow HB3.out (by omega) _⟩
   ·obtain ⟨rfl, rfl⟩ := h107 rfl
    rw [if_neg (by decide), if_pos rfl] at hR
    have HP := z_ HP
    have HR := z_ hR
    have HC := z_ hck
    clear hR hck h99 h107 h77 hs ho hm
    go_enter Tryz.func25, Tryz.ntmps25
    go_wp2_with (refine lr w.heap.size rfl rfl rfl HL.out ?_)
    refine HC.out.mono ?_
    rintro e w2 ⟨rfl, hb⟩
    have hL2 := HL.out.below hb HL.out.lt
    have hZ2 := HZ.out.below hb HZ.out.lt
    have hB2 := hb2.trans (hb.mono hb2.size)
    have k0 := hL2.gs
    have k2 := hL2.go
    have k4 := hL2.gm
    rw [HO.out] at k2
    rw [HS.out] at k0
    have f2 := hL2.free 2
    have HL3 := z_ hL2
    have HZ3 := z_ hZ2
    have HB3 := z_ hB2
    clear hb HL HZ hb2 hw1 hL2 hZ2 hB2
    go_wp2_with (first
     | (go_at_call 49; (with_reducible refine (HP.out _).mono ?_); rintro e w' ⟨rfl, rfl⟩)
     | (refine sr (w.heap.size + 1) rfl rfl rfl rfl HZ3.out (in_one ⟨0, 0, 42, 0, i.m, 3⟩) ?_))
    (try simp only [Exit.inBlock, Exit.then])
    exact bodyPost_ret (results_cell_row rfl _ _ _ _ _ (0, 0) _ rfl (setRow_heap _ _ _ _ _ _ HZ3.out) Tryz.underlying23 rfl in_info) rfl ⟨by rw [← HR.out]; rfl, below_setRow HB3.out (by omega) _⟩
   ·have y4 : (Z == 4) = false := beq_eq_false_iff_ne.2 z4
    have y5 : (Z == 5) = false := beq_eq_false_iff_ne.2 z5
    have y6 : (Z == 6) = false := beq_eq_false_iff_ne.2 z6
    have m99 : (o == 99) = false := beq_eq_false_iff_ne.2 n99
    have m107 : (o == 107) = false := beq_eq_false_iff_ne.2 n107
    rw [if_neg n99, if_neg n107, if_neg (fun e => z4 e.2), if_neg (fun e => z5 e.2.1), if_neg (fun e => z6 e.2)] at hR
    have HP := z_ HP
    have HR := z_ hR
    have HC := z_ hck
    clear hR hck h99 h107 h77 z4 z5 z6 n99 n107 hs ho hm
    go_enter Tryz.func25, Tryz.ntmps25
    go_wp2_with (refine lr w.heap.size rfl rfl rfl HL.out ?_)
    refine HC.out.mono ?_
    rintro e w2 ⟨rfl, hb⟩
    have hL2 := HL.out.below hb HL.out.lt
    have hZ2 := HZ.out.below hb HZ.out.lt
    have hB2 := hb2.trans (hb.mono hb2.size)
    have k0 := hL2.gs
    have k2 := hL2.go
    have k4 := hL2.gm
    rw [HO.out] at k2
    rw [HS.out] at k0
    have f2 := hL2.free 2
    have HL3 := z_ hL2
    have HZ3 := z_ hZ2
    have HB3 := z_ hB2
    clear hb HL HZ hb2 hw1 hL2 hZ2 hB2
    go_wp2_with (first
     | (go_at_call 49; (with_reducible refine (HP.out _).mono ?_); rintro e w' ⟨rfl, rfl⟩)
     | (refine lr w.heap.size rfl rfl rfl HL3.out ?_)
     | (refine sr (w.heap.size + 1) rfl rfl rfl rfl HZ3.out (in_one _) ?_))
    (try simp only [Exit.inBlock, Exit.then])
    exact bodyPost_ret (results_cell_row rfl _ _ _ _ _ (0, 0) _ rfl (setRow_heap _ _ _ _ _ _ HZ3.out) Tryz.underlying23 rfl in_info) rfl ⟨by rw [← HR.out, ← HO.out]; cases i; rfl, below_setRow HB3.out (by omega) _⟩
  ·have hsn : (s != 2) = true := bne_iff_ne.2 hs2
   have hse : (s == 2) = false := beq_eq_false_iff_ne.2 hs2
   rw [if_neg (fun h => hs2 h.2)] at hR
   clear hs2
   have HR := z_ hR
   have HC := z_ hck
   clear hR hck hm hcs hs ho o0 o1
   go_enter Tryz.func25, Tryz.ntmps25
   go_wp2_with (refine lr w.heap.size rfl rfl rfl HL.out ?_)
   refine HC.out.mono ?_
   rintro e w2 ⟨rfl, hb⟩
   have hL2 := HL.out.below hb HL.out.lt
   have hZ2 := HZ.out.below hb HZ.out.lt
   have hB2 := hb2.trans (hb.mono hb2.size)
   have k0 := hL2.gs
   have k2 := hL2.go
   have k4 := hL2.gm
   rw [HO.out] at k2
   rw [HS.out] at k0
   have f2 := hL2.free 2
   have HL3 := z_ hL2
   have HZ3 := z_ hZ2
   have HB3 := z_ hB2
   clear hb HL HZ hb2 hw1 hL2 hZ2 hB2
   go_wp2_with (first
    | (refine lr w.heap.size rfl rfl rfl HL3.out ?_)
    | (refine sr (w.heap.size + 1) rfl rfl rfl rfl HZ3.out (in_one _) ?_))
   (try simp only [Exit.inBlock, Exit.then])
   exact bodyPost_ret (results_cell_row rfl _ _ _ _ _ (0, 0) _ rfl (setRow_heap _ _ _ _ _ _ HZ3.out) Tryz.underlying23 rfl in_info) rfl ⟨by rw [← HR.out]; rfl, below_setRow HB3.out (by omega) _⟩
end Go.Proofs.YtgaihekapakoeaaGreatDoor
