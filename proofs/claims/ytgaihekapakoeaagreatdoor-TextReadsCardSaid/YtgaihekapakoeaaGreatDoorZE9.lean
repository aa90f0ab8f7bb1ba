/-  -/
import Derived.Test.YtgaihekapakoeaaGreatDoorZE8
set_option linter.unusedVariables false
set_option linter.unusedSimpArgs false
namespace Go.Proofs.YtgaihekapakoeaaGreatDoor
open Go.RowKit


set_option maxRecDepth 100000

theorem one_lone {x o : Int} (h : isOneI 0 x o = true) (ho : o = 221 ∨ o = 253) : x = 0 := by
 obtain ⟨-, hx, -, -⟩ := one_cases h
 rcases hx with rfl | rfl | rfl
 ·rfl
 ·rcases ho with rfl | rfl <;> exact absurd h (by decide)
 ·rcases ho with rfl | rfl <;> exact absurd h (by decide)

set_option maxHeartbeats 16000000 in
theorem bare_lone (i : In) (hi : i.Wf) (hm : i.may = true) (hs : i.s = 0) (ho : i.o = 221 ∨ i.o = 253) (w : World) : Calls Tryz.prog 37 #[i.val] w fun e w' => e = .returned (.bool (isBytesI i)) ∧ Below w.heap.size w w' := by
 have h1 := (may_one hm).1
 obtain ⟨-, hx3, o0, o1⟩ := one_cases h1
 obtain ⟨w1, hw1⟩ : ∃ w1, w.alloc (inO i) = w1 := ⟨_, rfl⟩
 have hb1 : Below w.heap.size w w1 := hw1 ▸ (Below.refl _ _).alloc (Nat.le_refl _) _
 have hr : InW w1 w.heap.size i := hw1 ▸ InW.laid w i
 have hN := fun w => r9_nothing i hi w
 have hT := fun w => r9_twin i hi w
 have hPa := fun w => r9_parts i.o w o0 o1
 obtain ⟨q, hq⟩ : ∃ q, isBytesI i = q := ⟨_, rfl⟩
 rw [hq]
 unfold isBytesI at hq
 rw [hs] at hq
 have hx := one_lone (hs ▸ h1) ho
 have hq1 : q = true := by
  rw [← hq, if_pos rfl]
  unfold loneI
  rw [hx]
  rcases ho with h | h <;> rw [h] <;> rfl
 subst hq1
 clear hq hPa hN hT
 obtain ⟨s, x, o, d, m, n⟩ := i
 simp only at hs ho hm hi
 subst hs
 have gs : ∀ p : M.Of (M.Base w1), p.w.cell? ⟨w.heap.size, 0, none⟩ = some (.int .i64 0) := fun p => (InW.on hr p.ok).gs
 have go : ∀ p : M.Of (M.Base w1), p.w.cell? ⟨w.heap.size, 2, none⟩ = some (.int .i64 o) := fun p => (InW.on hr p.ok).go
 have gs1 := hr.gs
 have gx1 := hr.gx
 have go1 := hr.go
 simp only at gs1 gx1 go1
 unfold inO at hw1
 rw [in_val]
 simp only at hw1 ⊢
 have HR := z_ hr
 have HB := z_ hb1
 clear gx1 hr hb1
 rcases ho with rfl | rfl
 all_goals
  go_enter Tryz.func37, Tryz.ntmps37
  go_upto_region 1 with fail
  refine M.rg ?_
  refine M.sg [0, 1, 2, 3, 4, 5, 6, 7, 8, 9, 10, 11, 12, 13, 14, 15, 16, 17, 18, 19, 20, 21, 22] 0 ?_
  repeat (go_big_quiet_step (fail))
  refine wpQuiet_nil ?_
  refine M.en ?_
  intro wc sc
  go_wp2_with fail
  go_ret
  exact ⟨rfl, HB.out.trans (sc.2.mono HB.out.size)⟩

set_option maxHeartbeats 16000000 in
theorem bare_main (i : In) (hi : i.Wf) (hm : i.may = true) (hs : i.s = 0) (ho : ¬ (i.o = 221 ∨ i.o = 253)) (w : World) : Calls Tryz.prog 37 #[i.val] w fun e w' => e = .returned (.bool (isBytesI i)) ∧ Below w.heap.size w w' := by
 have h1 := (may_one hm).1
 obtain ⟨-, hx3, o0, o1⟩ := one_cases h1
 obtain ⟨w1, hw1⟩ : ∃ w1, w.alloc (inO i) = w1 := ⟨_, rfl⟩
 have hb1 : Below w.heap.size w w1 := hw1 ▸ (Below.refl _ _).alloc (Nat.le_refl _) _
 have hr : InW w1 w.heap.size i := hw1 ▸ InW.laid w i
 have hN := fun w => r9_nothing i hi w
 have hT := fun w => r9_twin i hi w
 have hPa := fun w => r9_parts i.o w o0 o1
 obtain ⟨q, hq⟩ : ∃ q, isBytesI i = q := ⟨_, rfl⟩
 rw [hq]
 unfold isBytesI at hq
 rw [hs] at hq
 have hn0 : noneR i = false := by unfold noneR; rw [hs]; cases i.may <;> rfl
 have ht0 : twinR i = i := by unfold twinR; rw [if_neg (by rw [hs]; simp)]
 have hl0 : loneI i = false := by
  unfold loneI
  rw [show (i.o == 221 || i.o == 253) = false by simp only [Bool.or_eq_false_iff, beq_eq_false_iff_ne]; omega]
  simp
 rw [hl0, if_pos rfl, Bool.false_or] at hq
 rw [hn0] at hN
 rw [ht0] at hT
 have hpl := plok_may hm (fun h => by rw [hs] at h; cases h)
 have hpt := pl_toks h1 (fun ⟨_, _, h⟩ => ho h) (fun h => by rw [hs] at h; rcases h with h | h <;> cases h)
 have hpb := fun hx => pl_bare (hs ▸ h1) hx
 obtain ⟨X, hX, cX⟩ := (say_plain i hpl).named
 obtain ⟨Y, hY, cY⟩ := (say_plain _ (hpl.bare hs)).named
 have hXt : X = ⟨(toldT false i).toArray⟩ := by rw [hX.out, hpt]; rfl
 have hYt : i.x ≠ 0 → Y = ⟨(toldT false i.bare).toArray⟩ := fun hx => by
  obtain ⟨e1, e2⟩ := hpb hx
  rw [hY.out]
  simp only [hs]
  rw [e1]
  unfold rs toldT In.bare
  simp only [hs]
  rw [rend_no258 i.d i.m _ e2]
 have hin := fun w => in_neq_same i w
 obtain ⟨hh1, hh2⟩ : i.o ≠ 221 ∧ i.o ≠ 253 := ⟨fun h => ho (.inl h), fun h => ho (.inr h)⟩
 have hq2 : i.x ≠ 0 → q = (X.toList == Y.toList) := fun hx => by
  rw [← hq, hXt, hYt hx, bne_iff_ne.2 hx, Bool.true_and]
 have hq3 : i.x = 0 → q = false := fun hx => by rw [← hq, hx]; rfl
 rw [in_val] at hN hT cX hin
 clear hq hXt hYt hX hY hpb hpt hpl hl0 hn0 ht0
 obtain ⟨s, x, o, d, m, n⟩ := i
 simp only at hs ho hm hi hN hT hPa cX cY hin hh1 hh2 hq2 hq3 hx3
 subst hs
 have gs : ∀ p : M.Of (M.Base w1), p.w.cell? ⟨w.heap.size, 0, none⟩ = some (.int .i64 0) := fun p => (InW.on hr p.ok).gs
 have go : ∀ p : M.Of (M.Base w1), p.w.cell? ⟨w.heap.size, 2, none⟩ = some (.int .i64 o) := fun p => (InW.on hr p.ok).go
 have gs1 := hr.gs
 have gx1 := hr.gx
 have go1 := hr.go
 simp only at gs1 gx1 go1
 unfold inO at hw1
 rw [in_val]
 simp only at hw1 ⊢
 have HR := z_ hr
 have HB := z_ hb1
 have ho1 : (o == 221) = false := beq_eq_false_iff_ne.2 hh1
 have ho2 : (o == 253) = false := beq_eq_false_iff_ne.2 hh2
 have HN := z_ hN
 have HT := z_ hT
 have HPa := z_ hPa
 have HQ2 := z_ hq2
 have HQ3 := z_ hq3
 clear hN hT hPa hr hb1 hh1 hh2 ho hq2 hq3
 by_cases hx0 : x = 0
 ·subst hx0
  have HQ := z_ (HQ3.out rfl)
  go_enter Tryz.func37, Tryz.ntmps37
  go_upto_region 1 with fail
  refine M.rg ?_
  refine M.sg [0, 1, 2, 3, 4, 5, 6, 7, 8, 9, 10, 11, 12, 13] 9 ?_
  repeat (go_big_quiet_step (fail))
  refine wpQuiet_nil ?_
  refine M.cm 14 (.agg #[.int .i64 0, .int .i64 0, .int .i64 o, .int .i64 d, .int .i64 m, .int .i64 n]) ?_ ?_
  ·intro wz sz
   exact dl (InW.on HR.out sz)
  go_simp
  refine M.cm 15 (.bool false) ?_ ?_
  ·intro wz sz
   unfold Oper.does
   go_simp
   exact (HN.out wz).mono fun e w' ⟨he, hw⟩ => ⟨_, he, rfl, Save.of_below hw⟩
  go_simp
  refine M.sg [16, 17] 5 ?_
  repeat (go_big_quiet_step (fail))
  refine wpQuiet_nil ?_
  refine M.cm 18 (.agg #[.int .i64 0, .int .i64 0, .int .i64 o, .int .i64 d, .int .i64 m, .int .i64 n]) ?_ ?_
  ·intro wz sz
   exact dl (InW.on HR.out sz)
  go_simp
  refine M.cm 19 (.agg #[.int .i64 0, .int .i64 0, .int .i64 o, .int .i64 d, .int .i64 m, .int .i64 n]) ?_ ?_
  ·intro wz sz
   unfold Oper.does
   go_simp
   exact (HT.out wz).mono fun e w' ⟨he, hw⟩ => ⟨_, he, rfl, Save.of_below hw⟩
  go_simp
  refine M.cm 20 (.agg #[.int .i64 0, .int .i64 0, .int .i64 o, .int .i64 d, .int .i64 m, .int .i64 n]) ?_ ?_
  ·intro wz sz
   exact dl (InW.on HR.out sz)
  go_simp
  refine M.sg [21, 22] 0 ?_
  repeat (go_big_quiet_step (fail))
  refine wpQuiet_nil ?_
  refine M.en ?_
  intro wc sc
  have HRc := z_ (InW.on HR.out sc)
  have HBc := z_ (HB.out.trans (sc.2.mono HB.out.size))
  have gs2 := HRc.out.gs
  have gx2 := HRc.out.gx
  have go2 := HRc.out.go
  simp only at gs2 gx2 go2
  clear sc gs1 gx1 go1
  clear hin
  go_wp2_with (first | (go_at_call 49; refine (HPa.out _).mono ?_; rintro e wp ⟨rfl, rfl⟩) | fail)
  go_ret
  exact ⟨by rw [HQ.out]; rfl, HBc.out⟩
 ·have HQ := z_ (HQ2.out hx0)
  have hxb : (x == 0) = false := beq_eq_false_iff_ne.2 hx0
  rw [in_val] at cY
  simp only at cY
  go_enter Tryz.func37, Tryz.ntmps37
  go_upto_region 1 with fail
  refine M.rg ?_
  refine M.sg [0, 1, 2, 3, 4, 5, 6, 7, 8, 9, 10, 11, 12, 13] 9 ?_
  repeat (go_big_quiet_step (fail))
  refine wpQuiet_nil ?_
  refine M.cm 14 (.agg #[.int .i64 0, .int .i64 x, .int .i64 o, .int .i64 d, .int .i64 m, .int .i64 n]) ?_ ?_
  ·intro wz sz
   exact dl (InW.on HR.out sz)
  go_simp
  refine M.cm 15 (.bool false) ?_ ?_
  ·intro wz sz
   unfold Oper.does
   go_simp
   exact (HN.out wz).mono fun e w' ⟨he, hw⟩ => ⟨_, he, rfl, Save.of_below hw⟩
  go_simp
  refine M.sg [16, 17] 5 ?_
  repeat (go_big_quiet_step (fail))
  refine wpQuiet_nil ?_
  refine M.cm 18 (.agg #[.int .i64 0, .int .i64 x, .int .i64 o, .int .i64 d, .int .i64 m, .int .i64 n]) ?_ ?_
  ·intro wz sz
   exact dl (InW.on HR.out sz)
  go_simp
  refine M.cm 19 (.agg #[.int .i64 0, .int .i64 x, .int .i64 o, .int .i64 d, .int .i64 m, .int .i64 n]) ?_ ?_
  ·intro wz sz
   unfold Oper.does
   go_simp
   exact (HT.out wz).mono fun e w' ⟨he, hw⟩ => ⟨_, he, rfl, Save.of_below hw⟩
  go_simp
  refine M.cm 20 (.agg #[.int .i64 0, .int .i64 x, .int .i64 o, .int .i64 d, .int .i64 m, .int .i64 n]) ?_ ?_
  ·intro wz sz
   exact dl (InW.on HR.out sz)
  go_simp
  refine M.sg [21, 22] 0 ?_
  repeat (go_big_quiet_step (fail))
  refine wpQuiet_nil ?_
  refine M.en ?_
  intro wc sc
  have HRc := z_ (InW.on HR.out sc)
  have HBc := z_ (HB.out.trans (sc.2.mono HB.out.size))
  have gs2 := HRc.out.gs
  have gx2 := HRc.out.gx
  have go2 := HRc.out.go
  simp only at gs2 gx2 go2
  clear sc gs1 gx1 go1
  clear hin
  go_upto_region 9 with (first
   | (go_at_call 49; refine (HPa.out _).mono ?_; rintro e wp ⟨rfl, rfl⟩)
   | (refine lr w.heap.size rfl rfl rfl HRc.out ?_)
   | (refine sr wc.heap.size rfl rfl rfl rfl (InW.laid wc zeroI) (in_one _) ?_))
  obtain ⟨w4, hw4⟩ : ∃ w4, (wc.alloc (Obj.cells #[.int .i64 0, .int .i64 0, .int .i64 0, .int .i64 0, .int .i64 0, .int .i64 0] 23)).setRow wc.heap.size (In.cells ⟨0, x, o, d, m, n⟩) = w4 := ⟨_, rfl⟩
  have hlt := HRc.out.lt
  have hI4 : InW w4 wc.heap.size ⟨0, x, o, d, m, n⟩ := by rw [← hw4]; exact setRow_heap _ _ _ _ _ _ (InW.laid wc zeroI)
  have hr4 : InW w4 w.heap.size ⟨0, x, o, d, m, n⟩ := by rw [← hw4]; exact (setRow_other _ _ _ _ (by omega)).trans (HRc.out.more _)
  have hb4 : Below w.heap.size w w4 := by rw [← hw4]; exact below_setRow (HBc.out.alloc HBc.out.size _) (by omega) _
  rw [hw4]
  obtain ⟨Nn, hNn⟩ : ∃ N, N = wc.heap.size := ⟨_, rfl⟩
  rw [← hNn] at hI4 hlt ⊢
  have f1 := hI4.free 1
  have f3 := hI4.free 3
  have g1 := hI4.gx
  have g3 := hI4.gd
  simp only at g1 g3
  have HI5 := z_ (show InW ((w4.setCell ⟨Nn, 1, none⟩ (.int .i64 0)).setCell ⟨Nn, 3, none⟩ (.int .i64 0)) Nn ⟨0, 0, o, 0, m, n⟩ from (hI4.px 0).pd 0)
  have HR5 := z_ (show InW ((w4.setCell ⟨Nn, 1, none⟩ (.int .i64 0)).setCell ⟨Nn, 3, none⟩ (.int .i64 0)) w.heap.size ⟨0, x, o, d, m, n⟩ from (heap_setCell_other _ _ _ _ (by simp; omega)).trans ((heap_setCell_other _ _ _ _ (by simp; omega)).trans hr4))
  have HB5 := z_ ((hb4.setCell (p := ⟨Nn, 1, none⟩) (by show w.heap.size ≤ Nn; omega) (.int .i64 0)).setCell (p := ⟨Nn, 3, none⟩) (by show w.heap.size ≤ Nn; omega) (.int .i64 0))
  clear hI4 hr4 hb4 hw4 hNn gs2 gx2 go2
  go_upto_region 11 with fail
  obtain ⟨w5, hw5⟩ : ∃ w5, (w4.setCell ⟨Nn, 1, none⟩ (.int .i64 0)).setCell ⟨Nn, 3, none⟩ (.int .i64 0) = w5 := ⟨_, rfl⟩
  rw [hw5] at HI5 HR5 HB5 ⊢
  clear hw5 f1 f3 g1 g3
  refine M.rg ?_
  refine M.cm 0 (.agg #[.int .i64 0, .int .i64 x, .int .i64 o, .int .i64 d, .int .i64 m, .int .i64 n]) ?_ ?_
  ·intro wz sz
   exact dl (InW.on HR5.out sz)
  go_simp
  refine M.cm 1 (.string X) ?_ ?_
  ·intro wz sz
   unfold Oper.does
   go_simp
   exact (cX.out wz).mono fun e w' ⟨he, hw⟩ => ⟨_, he, rfl, Save.of_below hw⟩
  go_simp
  refine M.cm 2 (.agg #[.int .i64 0, .int .i64 0, .int .i64 o, .int .i64 0, .int .i64 m, .int .i64 n]) ?_ ?_
  ·intro wz sz
   exact dl (InW.on HI5.out sz)
  go_simp
  refine M.cm 3 (.string Y) ?_ ?_
  ·intro wz sz
   unfold Oper.does
   go_simp
   exact (cY.out wz).mono fun e w' ⟨he, hw⟩ => ⟨_, he, rfl, Save.of_below hw⟩
  go_simp
  refine M.sg [4, 5] 0 ?_
  repeat (go_big_quiet_step (fail))
  refine wpQuiet_nil ?_
  refine M.en ?_
  intro wc sc
  go_wp2_with fail
  go_ret
  exact ⟨by rw [HQ.out]; rfl, HB5.out.trans (sc.2.mono HB5.out.size)⟩

set_option maxHeartbeats 16000000 in
theorem bare_bits (i : In) (hi : i.Wf) (hm : i.may = true) (hs : i.s = 1) (w : World) : Calls Tryz.prog 37 #[i.val] w fun e w' => e = .returned (.bool (isBytesI i)) ∧ Below w.heap.size w w' := by
 have h1 := (may_one hm).1
 obtain ⟨-, hx3, o0, o1⟩ := one_cases h1
 obtain ⟨w1, hw1⟩ : ∃ w1, w.alloc (inO i) = w1 := ⟨_, rfl⟩
 have hb1 : Below w.heap.size w w1 := hw1 ▸ (Below.refl _ _).alloc (Nat.le_refl _) _
 have hr : InW w1 w.heap.size i := hw1 ▸ InW.laid w i
 have hN := fun w => r9_nothing i hi w
 have hT := fun w => r9_twin i hi w
 have hPa := fun w => r9_parts i.o w o0 o1
 obtain ⟨q, hq⟩ : ∃ q, isBytesI i = q := ⟨_, rfl⟩
 rw [hq]
 unfold isBytesI at hq
 rw [hs] at hq
 have hx := one_x0 (.inl rfl) (hs ▸ h1)
 have hn0 : noneR i = false := by unfold noneR; rw [hs]; cases i.may <;> rfl
 have ht0 : twinR i = i := by unfold twinR; rw [if_neg (by rw [hs]; simp)]
 have hq1 : q = false := by rw [← hq]; simp
 rw [hn0] at hN
 rw [ht0] at hT
 have hin := fun w => in_neq_same i w
 rw [in_val] at hN hT hin
 clear hq hn0 ht0
 obtain ⟨s, x, o, d, m, n⟩ := i
 simp only at hs hm hi hN hT hPa hin hx
 subst hs
 have gs : ∀ p : M.Of (M.Base w1), p.w.cell? ⟨w.heap.size, 0, none⟩ = some (.int .i64 1) := fun p => (InW.on hr p.ok).gs
 have go : ∀ p : M.Of (M.Base w1), p.w.cell? ⟨w.heap.size, 2, none⟩ = some (.int .i64 o) := fun p => (InW.on hr p.ok).go
 have gs1 := hr.gs
 have gx1 := hr.gx
 have go1 := hr.go
 simp only at gs1 gx1 go1
 unfold inO at hw1
 rw [in_val]
 simp only at hw1 ⊢
 have HR := z_ hr
 have HB := z_ hb1
 subst hx
 have HN := z_ hN
 have HT := z_ hT
 have HPa := z_ hPa
 have HQ := z_ hq1
 clear hN hT hPa hr hb1 hq1
 go_enter Tryz.func37, Tryz.ntmps37
 go_upto_region 1 with fail
 refine M.rg ?_
 refine M.sg [0, 1, 2, 3, 4, 5, 6, 7, 8, 9, 10, 11, 12, 13] 9 ?_
 repeat (go_big_quiet_step (fail))
 refine wpQuiet_nil ?_
 refine M.cm 14 (.agg #[.int .i64 1, .int .i64 0, .int .i64 o, .int .i64 d, .int .i64 m, .int .i64 n]) ?_ ?_
 ·intro wz sz
  exact dl (InW.on HR.out sz)
 go_simp
 refine M.cm 15 (.bool false) ?_ ?_
 ·intro wz sz
  unfold Oper.does
  go_simp
  exact (HN.out wz).mono fun e w' ⟨he, hw⟩ => ⟨_, he, rfl, Save.of_below hw⟩
 go_simp
 refine M.sg [16, 17] 5 ?_
 repeat (go_big_quiet_step (fail))
 refine wpQuiet_nil ?_
 refine M.cm 18 (.agg #[.int .i64 1, .int .i64 0, .int .i64 o, .int .i64 d, .int .i64 m, .int .i64 n]) ?_ ?_
 ·intro wz sz
  exact dl (InW.on HR.out sz)
 go_simp
 refine M.cm 19 (.agg #[.int .i64 1, .int .i64 0, .int .i64 o, .int .i64 d, .int .i64 m, .int .i64 n]) ?_ ?_
 ·intro wz sz
  unfold Oper.does
  go_simp
  exact (HT.out wz).mono fun e w' ⟨he, hw⟩ => ⟨_, he, rfl, Save.of_below hw⟩
 go_simp
 refine M.cm 20 (.agg #[.int .i64 1, .int .i64 0, .int .i64 o, .int .i64 d, .int .i64 m, .int .i64 n]) ?_ ?_
 ·intro wz sz
  exact dl (InW.on HR.out sz)
 go_simp
 refine M.sg [21, 22] 0 ?_
 repeat (go_big_quiet_step (fail))
 refine wpQuiet_nil ?_
 refine M.en ?_
 intro wc sc
 have HRc := z_ (InW.on HR.out sc)
 have HBc := z_ (HB.out.trans (sc.2.mono HB.out.size))
 have gs2 := HRc.out.gs
 have gx2 := HRc.out.gx
 have go2 := HRc.out.go
 simp only at gs2 gx2 go2
 clear sc gs1 gx1 go1
 clear hin
 go_wp2_with (first | (go_at_call 49; refine (HPa.out _).mono ?_; rintro e wp ⟨rfl, rfl⟩) | fail)
 go_ret
 exact ⟨by rw [HQ.out]; rfl, HBc.out⟩

set_option maxHeartbeats 16000000 in
theorem bare_none (i : In) (hi : i.Wf) (hm : i.may = true) (hs : i.s = 2) (hno : noneI i.o = true) (w : World) : Calls Tryz.prog 37 #[i.val] w fun e w' => e = .returned (.bool (isBytesI i)) ∧ Below w.heap.size w w' := by
 have h1 := (may_one hm).1
 obtain ⟨-, hx3, o0, o1⟩ := one_cases h1
 obtain ⟨w1, hw1⟩ : ∃ w1, w.alloc (inO i) = w1 := ⟨_, rfl⟩
 have hb1 : Below w.heap.size w w1 := hw1 ▸ (Below.refl _ _).alloc (Nat.le_refl _) _
 have hr : InW w1 w.heap.size i := hw1 ▸ InW.laid w i
 have hN := fun w => r9_nothing i hi w
 have hT := fun w => r9_twin i hi w
 have hPa := fun w => r9_parts i.o w o0 o1
 obtain ⟨q, hq⟩ : ∃ q, isBytesI i = q := ⟨_, rfl⟩
 rw [hq]
 unfold isBytesI at hq
 rw [hs] at hq
 have hn0 : noneR i = true := by unfold noneR; rw [hs, hm, hno]; rfl
 have hq1 : q = true := by rw [← hq, hno]; simp
 rw [hn0] at hN
 rw [in_val] at hN
 clear hq hn0 hno hT hPa
 obtain ⟨s, x, o, d, m, n⟩ := i
 simp only at hs hm hi hN
 subst hs
 have gs : ∀ p : M.Of (M.Base w1), p.w.cell? ⟨w.heap.size, 0, none⟩ = some (.int .i64 2) := fun p => (InW.on hr p.ok).gs
 have go : ∀ p : M.Of (M.Base w1), p.w.cell? ⟨w.heap.size, 2, none⟩ = some (.int .i64 o) := fun p => (InW.on hr p.ok).go
 have gs1 := hr.gs
 have gx1 := hr.gx
 have go1 := hr.go
 simp only at gs1 gx1 go1
 unfold inO at hw1
 rw [in_val]
 simp only at hw1 ⊢
 have HR := z_ hr
 have HB := z_ hb1
 have HN := z_ hN
 have HQ := z_ hq1
 clear hN hr hb1 hq1
 go_enter Tryz.func37, Tryz.ntmps37
 go_upto_region 1 with fail
 refine M.rg ?_
 refine M.sg [0, 1, 2, 3, 4, 5, 6, 7, 8, 9, 10, 11, 12, 13] 9 ?_
 repeat (go_big_quiet_step (fail))
 refine wpQuiet_nil ?_
 refine M.cm 14 (.agg #[.int .i64 2, .int .i64 x, .int .i64 o, .int .i64 d, .int .i64 m, .int .i64 n]) ?_ ?_
 ·intro wz sz
  exact dl (InW.on HR.out sz)
 go_simp
 refine M.cm 15 (.bool true) ?_ ?_
 ·intro wz sz
  unfold Oper.does
  go_simp
  exact (HN.out wz).mono fun e w' ⟨he, hw⟩ => ⟨_, he, rfl, Save.of_below hw⟩
 go_simp
 refine M.sg [16, 17, 18, 19, 20, 21, 22] 0 ?_
 repeat (go_big_quiet_step (fail))
 refine wpQuiet_nil ?_
 refine M.en ?_
 intro wc sc
 go_wp2_with fail
 go_ret
 exact ⟨by rw [HQ.out]; rfl, HB.out.trans (sc.2.mono HB.out.size)⟩

set_option maxHeartbeats 16000000 in
theorem bare_more (i : In) (hi : i.Wf) (hm : i.may = true) (hs : i.s = 2) (hno : noneI i.o = false) (w : World) : Calls Tryz.prog 37 #[i.val] w fun e w' => e = .returned (.bool (isBytesI i)) ∧ Below w.heap.size w w' := by
 have h1 := (may_one hm).1
 obtain ⟨-, hx3, o0, o1⟩ := one_cases h1
 obtain ⟨w1, hw1⟩ : ∃ w1, w.alloc (inO i) = w1 := ⟨_, rfl⟩
 have hb1 : Below w.heap.size w w1 := hw1 ▸ (Below.refl _ _).alloc (Nat.le_refl _) _
 have hr : InW w1 w.heap.size i := hw1 ▸ InW.laid w i
 have hN := fun w => r9_nothing i hi w
 have hT := fun w => r9_twin i hi w
 have hPa := fun w => r9_parts i.o w o0 o1
 obtain ⟨q, hq⟩ : ∃ q, isBytesI i = q := ⟨_, rfl⟩
 rw [hq]
 unfold isBytesI at hq
 rw [hs] at hq
 have hx := one_x0 (.inr rfl) (hs ▸ h1)
 have hn0 : noneR i = false := by unfold noneR; rw [hs, hm, hno]; rfl
 have ht0 : twinR i = twinI i := by unfold twinR; rw [if_pos ⟨hm, hs⟩]
 rw [hno, Bool.false_or] at hq
 simp only [show ¬ (2 : Int) = 0 by decide, if_false, if_true] at hq
 rw [hn0] at hN
 rw [ht0] at hT
 obtain ⟨tw, htw⟩ : ∃ tw, twinI i = tw := ⟨_, rfl⟩
 rw [htw] at hT hq
 rw [in_val] at hN hT
 clear hn0 ht0 htw hno
 obtain ⟨s, x, o, d, m, n⟩ := i
 simp only at hs hm hi hN hT hPa hq hx
 subst hs
 have gs : ∀ p : M.Of (M.Base w1), p.w.cell? ⟨w.heap.size, 0, none⟩ = some (.int .i64 2) := fun p => (InW.on hr p.ok).gs
 have go : ∀ p : M.Of (M.Base w1), p.w.cell? ⟨w.heap.size, 2, none⟩ = some (.int .i64 o) := fun p => (InW.on hr p.ok).go
 have gs1 := hr.gs
 have gx1 := hr.gx
 have go1 := hr.go
 simp only at gs1 gx1 go1
 unfold inO at hw1
 rw [in_val]
 simp only at hw1 ⊢
 have HR := z_ hr
 have HB := z_ hb1
 subst hx
 have HN := z_ hN
 have HT := z_ hT
 have HPa := z_ hPa
 have HD := z_ hq
 clear hN hT hPa hr hb1 hq
 cases q with
 | true =>
  go_enter Tryz.func37, Tryz.ntmps37
  go_upto_region 1 with fail
  refine M.rg ?_
  refine M.sg [0, 1, 2, 3, 4, 5, 6, 7, 8, 9, 10, 11, 12, 13] 9 ?_
  repeat (go_big_quiet_step (fail))
  refine wpQuiet_nil ?_
  refine M.cm 14 (.agg #[.int .i64 2, .int .i64 0, .int .i64 o, .int .i64 d, .int .i64 m, .int .i64 n]) ?_ ?_
  ·intro wz sz
   exact dl (InW.on HR.out sz)
  go_simp
  refine M.cm 15 (.bool false) ?_ ?_
  ·intro wz sz
   unfold Oper.does
   go_simp
   exact (HN.out wz).mono fun e w' ⟨he, hw⟩ => ⟨_, he, rfl, Save.of_below hw⟩
  go_simp
  refine M.sg [16, 17] 5 ?_
  repeat (go_big_quiet_step (fail))
  refine wpQuiet_nil ?_
  refine M.cm 18 (.agg #[.int .i64 2, .int .i64 0, .int .i64 o, .int .i64 d, .int .i64 m, .int .i64 n]) ?_ ?_
  ·intro wz sz
   exact dl (InW.on HR.out sz)
  go_simp
  refine M.cm 19 tw.val ?_ ?_
  ·intro wz sz
   unfold Oper.does
   go_simp
   exact (HT.out wz).mono fun e w' ⟨he, hw⟩ => ⟨_, he, rfl, Save.of_below hw⟩
  go_simp
  refine M.cm 20 (.agg #[.int .i64 2, .int .i64 0, .int .i64 o, .int .i64 d, .int .i64 m, .int .i64 n]) ?_ ?_
  ·intro wz sz
   exact dl (InW.on HR.out sz)
  go_simp
  refine M.cm 21 (.bool true) ?_ ?_
  ·intro wz sz
   exact does_in_neq _ _ rfl tw ⟨2, 0, o, d, m, n⟩ rfl rfl ⟨by rw [HD.out], Save.refl _ _⟩
  go_simp
  refine M.sg [22] 0 ?_
  repeat (go_big_quiet_step (fail))
  refine wpQuiet_nil ?_
  refine M.en ?_
  intro wc sc
  go_wp2_with fail
  go_ret
  exact ⟨rfl, HB.out.trans (sc.2.mono HB.out.size)⟩

 | false =>
  go_enter Tryz.func37, Tryz.ntmps37
  go_upto_region 1 with fail
  refine M.rg ?_
  refine M.sg [0, 1, 2, 3, 4, 5, 6, 7, 8, 9, 10, 11, 12, 13] 9 ?_
  repeat (go_big_quiet_step (fail))
  refine wpQuiet_nil ?_
  refine M.cm 14 (.agg #[.int .i64 2, .int .i64 0, .int .i64 o, .int .i64 d, .int .i64 m, .int .i64 n]) ?_ ?_
  ·intro wz sz
   exact dl (InW.on HR.out sz)
  go_simp
  refine M.cm 15 (.bool false) ?_ ?_
  ·intro wz sz
   unfold Oper.does
   go_simp
   exact (HN.out wz).mono fun e w' ⟨he, hw⟩ => ⟨_, he, rfl, Save.of_below hw⟩
  go_simp
  refine M.sg [16, 17] 5 ?_
  repeat (go_big_quiet_step (fail))
  refine wpQuiet_nil ?_
  refine M.cm 18 (.agg #[.int .i64 2, .int .i64 0, .int .i64 o, .int .i64 d, .int .i64 m, .int .i64 n]) ?_ ?_
  ·intro wz sz
   exact dl (InW.on HR.out sz)
  go_simp
  refine M.cm 19 tw.val ?_ ?_
  ·intro wz sz
   unfold Oper.does
   go_simp
   exact (HT.out wz).mono fun e w' ⟨he, hw⟩ => ⟨_, he, rfl, Save.of_below hw⟩
  go_simp
  refine M.cm 20 (.agg #[.int .i64 2, .int .i64 0, .int .i64 o, .int .i64 d, .int .i64 m, .int .i64 n]) ?_ ?_
  ·intro wz sz
   exact dl (InW.on HR.out sz)
  go_simp
  refine M.cm 21 (.bool false) ?_ ?_
  ·intro wz sz
   exact does_in_neq _ _ rfl tw ⟨2, 0, o, d, m, n⟩ rfl rfl ⟨by rw [HD.out], Save.refl _ _⟩
  go_simp
  refine M.sg [22] 0 ?_
  repeat (go_big_quiet_step (fail))
  refine wpQuiet_nil ?_
  refine M.en ?_
  intro wc sc
  have HRc := z_ (InW.on HR.out sc)
  have HBc := z_ (HB.out.trans (sc.2.mono HB.out.size))
  have gs2 := HRc.out.gs
  have gx2 := HRc.out.gx
  have go2 := HRc.out.go
  simp only at gs2 gx2 go2
  clear sc gs1 gx1 go1
  go_wp2_with (first | (go_at_call 49; refine (HPa.out _).mono ?_; rintro e wp ⟨rfl, rfl⟩) | fail)
  go_ret
  exact ⟨rfl, HBc.out⟩

set_option maxHeartbeats 16000000 in
theorem bare_both (i : In) (hi : i.Wf) (hm : i.may = true) (hs : i.s = 3) (w : World) : Calls Tryz.prog 37 #[i.val] w fun e w' => e = .returned (.bool (isBytesI i)) ∧ Below w.heap.size w w' := by
 have h1 := (may_one hm).1
 obtain ⟨-, hx3, o0, o1⟩ := one_cases h1
 obtain ⟨w1, hw1⟩ : ∃ w1, w.alloc (inO i) = w1 := ⟨_, rfl⟩
 have hb1 : Below w.heap.size w w1 := hw1 ▸ (Below.refl _ _).alloc (Nat.le_refl _) _
 have hr : InW w1 w.heap.size i := hw1 ▸ InW.laid w i
 have hN := fun w => r9_nothing i hi w
 have hT := fun w => r9_twin i hi w
 have hPa := fun w => r9_parts i.o w o0 o1
 obtain ⟨q, hq⟩ : ∃ q, isBytesI i = q := ⟨_, rfl⟩
 rw [hq]
 unfold isBytesI at hq
 rw [hs] at hq
 have hn0 : noneR i = false := by unfold noneR; rw [hs]; cases i.may <;> rfl
 have ht0 : twinR i = i := by unfold twinR; rw [if_neg (by rw [hs]; simp)]
 have hq1 : q = (i.o / 64 == 1 && i.o % 8 != 6) := by rw [← hq]; simp
 rw [hn0] at hN
 rw [ht0] at hT
 have hin := fun w => in_neq_same i w
 rw [in_val] at hN hT hin
 clear hq hn0 ht0
 obtain ⟨s, x, o, d, m, n⟩ := i
 simp only at hs hm hi hN hT hPa hin hq1
 subst hs
 have gs : ∀ p : M.Of (M.Base w1), p.w.cell? ⟨w.heap.size, 0, none⟩ = some (.int .i64 3) := fun p => (InW.on hr p.ok).gs
 have go : ∀ p : M.Of (M.Base w1), p.w.cell? ⟨w.heap.size, 2, none⟩ = some (.int .i64 o) := fun p => (InW.on hr p.ok).go
 have gs1 := hr.gs
 have gx1 := hr.gx
 have go1 := hr.go
 simp only at gs1 gx1 go1
 unfold inO at hw1
 rw [in_val]
 simp only at hw1 ⊢
 have HR := z_ hr
 have HB := z_ hb1
 have HN := z_ hN
 have HT := z_ hT
 have HPa := z_ hPa
 clear hN hT hPa hr hb1
 by_cases h64 : o / 64 = 1
 ·have h64b : (o / 64 == 1) = true := by rw [h64]; rfl
  rw [h64b, Bool.true_and] at hq1
  have HQ := z_ hq1
  clear hq1 h64
  go_enter Tryz.func37, Tryz.ntmps37
  go_upto_region 1 with fail
  refine M.rg ?_
  refine M.sg [0, 1, 2, 3, 4, 5, 6, 7, 8, 9, 10, 11, 12, 13] 9 ?_
  repeat (go_big_quiet_step (fail))
  refine wpQuiet_nil ?_
  refine M.cm 14 (.agg #[.int .i64 3, .int .i64 x, .int .i64 o, .int .i64 d, .int .i64 m, .int .i64 n]) ?_ ?_
  ·intro wz sz
   exact dl (InW.on HR.out sz)
  go_simp
  refine M.cm 15 (.bool false) ?_ ?_
  ·intro wz sz
   unfold Oper.does
   go_simp
   exact (HN.out wz).mono fun e w' ⟨he, hw⟩ => ⟨_, he, rfl, Save.of_below hw⟩
  go_simp
  refine M.sg [16, 17] 5 ?_
  repeat (go_big_quiet_step (fail))
  refine wpQuiet_nil ?_
  refine M.cm 18 (.agg #[.int .i64 3, .int .i64 x, .int .i64 o, .int .i64 d, .int .i64 m, .int .i64 n]) ?_ ?_
  ·intro wz sz
   exact dl (InW.on HR.out sz)
  go_simp
  refine M.cm 19 (.agg #[.int .i64 3, .int .i64 x, .int .i64 o, .int .i64 d, .int .i64 m, .int .i64 n]) ?_ ?_
  ·intro wz sz
   unfold Oper.does
   go_simp
   exact (HT.out wz).mono fun e w' ⟨he, hw⟩ => ⟨_, he, rfl, Save.of_below hw⟩
  go_simp
  refine M.cm 20 (.agg #[.int .i64 3, .int .i64 x, .int .i64 o, .int .i64 d, .int .i64 m, .int .i64 n]) ?_ ?_
  ·intro wz sz
   exact dl (InW.on HR.out sz)
  go_simp
  refine M.sg [21, 22] 0 ?_
  repeat (go_big_quiet_step (fail))
  refine wpQuiet_nil ?_
  refine M.en ?_
  intro wc sc
  have HRc := z_ (InW.on HR.out sc)
  have HBc := z_ (HB.out.trans (sc.2.mono HB.out.size))
  have gs2 := HRc.out.gs
  have gx2 := HRc.out.gx
  have go2 := HRc.out.go
  simp only at gs2 gx2 go2
  clear sc gs1 gx1 go1
  clear hin
  go_wp2_with (first | (go_at_call 49; refine (HPa.out _).mono ?_; rintro e wp ⟨rfl, rfl⟩) | fail)
  go_ret
  exact ⟨by rw [HQ.out]; first | rfl | simp, HBc.out⟩

 ·have h64b : (o / 64 == 1) = false := beq_eq_false_iff_ne.2 h64
  rw [h64b, Bool.false_and] at hq1
  have HQ := z_ hq1
  clear hq1 h64
  go_enter Tryz.func37, Tryz.ntmps37
  go_upto_region 1 with fail
  refine M.rg ?_
  refine M.sg [0, 1, 2, 3, 4, 5, 6, 7, 8, 9, 10, 11, 12, 13] 9 ?_
  repeat (go_big_quiet_step (fail))
  refine wpQuiet_nil ?_
  refine M.cm 14 (.agg #[.int .i64 3, .int .i64 x, .int .i64 o, .int .i64 d, .int .i64 m, .int .i64 n]) ?_ ?_
  ·intro wz sz
   exact dl (InW.on HR.out sz)
  go_simp
  refine M.cm 15 (.bool false) ?_ ?_
  ·intro wz sz
   unfold Oper.does
   go_simp
   exact (HN.out wz).mono fun e w' ⟨he, hw⟩ => ⟨_, he, rfl, Save.of_below hw⟩
  go_simp
  refine M.sg [16, 17] 5 ?_
  repeat (go_big_quiet_step (fail))
  refine wpQuiet_nil ?_
  refine M.cm 18 (.agg #[.int .i64 3, .int .i64 x, .int .i64 o, .int .i64 d, .int .i64 m, .int .i64 n]) ?_ ?_
  ·intro wz sz
   exact dl (InW.on HR.out sz)
  go_simp
  refine M.cm 19 (.agg #[.int .i64 3, .int .i64 x, .int .i64 o, .int .i64 d, .int .i64 m, .int .i64 n]) ?_ ?_
  ·intro wz sz
   unfold Oper.does
   go_simp
   exact (HT.out wz).mono fun e w' ⟨he, hw⟩ => ⟨_, he, rfl, Save.of_below hw⟩
  go_simp
  refine M.cm 20 (.agg #[.int .i64 3, .int .i64 x, .int .i64 o, .int .i64 d, .int .i64 m, .int .i64 n]) ?_ ?_
  ·intro wz sz
   exact dl (InW.on HR.out sz)
  go_simp
  refine M.sg [21, 22] 0 ?_
  repeat (go_big_quiet_step (fail))
  refine wpQuiet_nil ?_
  refine M.en ?_
  intro wc sc
  have HRc := z_ (InW.on HR.out sc)
  have HBc := z_ (HB.out.trans (sc.2.mono HB.out.size))
  have gs2 := HRc.out.gs
  have gx2 := HRc.out.gx
  have go2 := HRc.out.go
  simp only at gs2 gx2 go2
  clear sc gs1 gx1 go1
  clear hin
  go_wp2_with (first | (go_at_call 49; refine (HPa.out _).mono ?_; rintro e wp ⟨rfl, rfl⟩) | fail)
  go_ret
  exact ⟨by rw [HQ.out]; first | rfl | simp, HBc.out⟩

theorem d10_bare (i : In) (hi : i.Wf) (hm : i.may = true) (w : World) : Calls Tryz.prog 37 #[i.val] w fun e w' => e = .returned (.bool (isBytesI i)) ∧ Below w.heap.size w w' := by
 obtain ⟨hs, -, -, -⟩ := one_cases (may_one hm).1
 rcases hs with hs | hs | hs | hs
 ·by_cases ho : i.o = 221 ∨ i.o = 253
  ·exact bare_lone i hi hm hs ho w
  ·exact bare_main i hi hm hs ho w
 ·exact bare_bits i hi hm hs w
 ·cases hno : noneI i.o with
  | true => exact bare_none i hi hm hs hno w
  | false => exact bare_more i hi hm hs hno w
 ·exact bare_both i hi hm hs w

end Go.Proofs.YtgaihekapakoeaaGreatDoor
