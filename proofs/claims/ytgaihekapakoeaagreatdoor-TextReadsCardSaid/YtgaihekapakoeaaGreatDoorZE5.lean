/-  -/
import Derived.Test.YtgaihekapakoeaaGreatDoorZE4
set_option linter.unusedVariables false
set_option linter.unusedSimpArgs false
namespace Go.Proofs.YtgaihekapakoeaaGreatDoor
open Go.RowKit


set_option maxRecDepth 100000

def highR1 (x y : Int) : List Nat := if y % 2 = 0 then tk [80, 79, 80, 32] ++ pairR x (y / 2) true else if y = 1 then tk [82, 69, 84] else if y = 3 then tk [69, 88, 88] else if y = 5 then (tk [74, 80, 32, 40] ++ tk (nth indexL3 x)) ++ tk [41] else tk [76, 68, 32, 83, 80, 44] ++ tk (nth indexL3 x)
def highR3 (x y : Int) : List Nat := if y = 0 then tk [74, 80, 32] ++ [256] else if y = 1 then tk [] else if y = 2 then (tk [79, 85, 84, 32, 40] ++ [256]) ++ tk [41, 44, 65] else if y = 3 then (tk [73, 78, 32, 65, 44, 40] ++ [256]) ++ tk [41] else if y = 4 then tk [69, 88, 32, 40, 83, 80, 41, 44] ++ tk (nth indexL3 x) else if y = 5 then tk [69, 88, 32, 68, 69, 44, 72, 76] else if y = 6 then tk [68, 73] else tk [69, 73]
def highT (x y z : Int) : List Nat :=
 if z = 0 then tk [82, 69, 84, 32] ++ tk (nth condL8 y) else if z = 1 then highR1 x y else if z = 2 then ((tk [74, 80, 32] ++ tk (nth condL8 y)) ++ tk [44]) ++ [256] else if z = 3 then highR3 x y else if z = 4 then ((tk [67, 65, 76, 76, 32] ++ tk (nth condL8 y)) ++ tk [44]) ++ [256] else if z = 5 then (if y % 2 = 0 then tk [80, 85, 83, 72, 32] ++ pairR x (y / 2) true else tk [67, 65, 76, 76, 32] ++ [256]) else if z = 6 then tk (nth operL8 y) ++ [256] else tk [82, 83, 84, 32] ++ tensL.getD y.toNat []
theorem tensLL (y : Nat) : (tensL.getD y []).length ≤ 2 := by
 rw [List.getD_eq_getElem?_getD]
 cases e : tensL[y]? with
 | none => simp
 | some l =>
  have h : ∀ l ∈ tensL, l.length ≤ 2 := by decide
  exact h l (List.mem_of_getElem? e)

set_option maxHeartbeats 16000000 in
theorem say_high0 (i : In) (h0 : 0 ≤ i.x) (h1 : i.x < 3) (hN : Nums i.d i.m) (o0 : 0 ≤ i.o) (o1 : i.o < 256) (hz : i.o % 8 = 0) (hm : 0 ≤ i.m) : SayR 84 #[i.val] i.d i.m (highT i.x (i.o / 8 % 8) 0) := by
 intro w
 obtain ⟨s, x, o, d, m, n⟩ := i
 simp only at h0 h1 hN o0 o1 hz hm ⊢
 obtain ⟨w1, hw1⟩ : ∃ w1, w.alloc (inO ⟨s, x, o, d, m, n⟩) = w1 := ⟨_, rfl⟩
 have hb1 : Below w.heap.size w w1 := hw1 ▸ (Below.refl _ _).alloc (Nat.le_refl _) _
 have hr : InW w1 w.heap.size ⟨s, x, o, d, m, n⟩ := hw1 ▸ InW.laid w _
 have go := hr.go
 have gm := hr.gm
 have HR := z_ hr
 have HB := z_ hb1
 have hPa := fun w => r9_parts o w o0 o1
 have hq : o / 8 % 2 = o / 8 % 8 % 2 := by omega
 obtain ⟨y, hy⟩ : ∃ y, o / 8 % 8 = y := ⟨_, rfl⟩
 have y0 : 0 ≤ y := by omega
 have y1 : y < 8 := by omega
 rw [hy] at hq
 simp only [hq, hy, hz] at hPa ⊢
 obtain ⟨tq, htq⟩ : ∃ tq, o / 64 = tq := ⟨_, rfl⟩
 simp only [htq] at hPa
 have HPa := z_ hPa
 unfold inO at hw1
 rw [in_val]
 simp only at hw1 go gm ⊢
 unfold highT
 clear hb1 hr hPa hq hy htq hz
 have hmax : max 0 m = m := by omega
 obtain ⟨Y, hY, cY⟩ := (say_digits d m hm hN.2.2.2).named
 rw [if_pos rfl]
 have l1 := condL y
 obtain ⟨X, hX, cX⟩ := (say_cond d m y y0 y1).named
 obtain ⟨R, hR, kR⟩ := kaL hN [82, 69, 84, 32] hX
 clear l1
 go_enter Tryz.func84, Tryz.ntmps84
 go_wp2_with (first
  | (go_at_call 49; (with_reducible refine (HPa.out _).mono ?_); rintro e wp ⟨rfl, rfl⟩)
  | (go_at_call 39; (with_reducible refine (cY.out _).mono ?_); rintro e w2 ⟨rfl, hb2⟩; have HR2 := z_ (HR.out.below hb2 HR.out.lt); have HB2 := z_ (HB.out.trans (hb2.mono HB.out.size)); clear hb2)
  | (go_at_call 126; refine (cX.out _).mono ?_; rintro e w3 ⟨rfl, hb3⟩))
 go_ret
 exact ⟨by rw [hR.out]; rfl, HB2.out.trans (hb3.mono HB2.out.size)⟩

set_option maxHeartbeats 16000000 in
theorem say_high1 (i : In) (h0 : 0 ≤ i.x) (h1 : i.x < 3) (hN : Nums i.d i.m) (o0 : 0 ≤ i.o) (o1 : i.o < 256) (hz : i.o % 8 = 1) (hm : 0 ≤ i.m) : SayR 84 #[i.val] i.d i.m (highT i.x (i.o / 8 % 8) 1) := by
 intro w
 obtain ⟨s, x, o, d, m, n⟩ := i
 simp only at h0 h1 hN o0 o1 hz hm ⊢
 obtain ⟨w1, hw1⟩ : ∃ w1, w.alloc (inO ⟨s, x, o, d, m, n⟩) = w1 := ⟨_, rfl⟩
 have hb1 : Below w.heap.size w w1 := hw1 ▸ (Below.refl _ _).alloc (Nat.le_refl _) _
 have hr : InW w1 w.heap.size ⟨s, x, o, d, m, n⟩ := hw1 ▸ InW.laid w _
 have go := hr.go
 have gm := hr.gm
 have HR := z_ hr
 have HB := z_ hb1
 have hPa := fun w => r9_parts o w o0 o1
 have hq : o / 8 % 2 = o / 8 % 8 % 2 := by omega
 obtain ⟨y, hy⟩ : ∃ y, o / 8 % 8 = y := ⟨_, rfl⟩
 have y0 : 0 ≤ y := by omega
 have y1 : y < 8 := by omega
 rw [hy] at hq
 simp only [hq, hy, hz] at hPa ⊢
 obtain ⟨tq, htq⟩ : ∃ tq, o / 64 = tq := ⟨_, rfl⟩
 simp only [htq] at hPa
 have HPa := z_ hPa
 unfold inO at hw1
 rw [in_val]
 simp only at hw1 go gm ⊢
 unfold highT
 clear hb1 hr hPa hq hy htq hz
 have hmax : max 0 m = m := by omega
 obtain ⟨Y, hY, cY⟩ := (say_digits d m hm hN.2.2.2).named
 rw [if_neg (by decide), if_pos rfl]
 unfold highR1
 have l1 := pairRL x (y / 2) true
 have l2 := idxL x
 by_cases hq : y % 2 = 0
 ·rw [if_pos hq]
  obtain ⟨X, hX, cX⟩ := (say_pair ⟨s, x, o, d, m, n⟩ (y / 2) true h0 h1 (by omega) (by omega)).named
  rw [in_val] at cX
  obtain ⟨R, hR, kR⟩ := kaL hN [80, 79, 80, 32] hX
  have q0 : (y % 2 == 0) = true := by rw [hq]; rfl
  clear l1 l2
  go_enter Tryz.func84, Tryz.ntmps84
  go_wp2_with (first
   | (go_at_call 49; (with_reducible refine (HPa.out _).mono ?_); rintro e wp ⟨rfl, rfl⟩)
   | (go_at_call 39; (with_reducible refine (cY.out _).mono ?_); rintro e w2 ⟨rfl, hb2⟩; have HR2 := z_ (HR.out.below hb2 HR.out.lt); have HB2 := z_ (HB.out.trans (hb2.mono HB.out.size)); clear hb2)
   | (refine lr w.heap.size rfl rfl rfl HR2.out ?_)
   | (go_at_call 125; refine (cX.out _).mono ?_; rintro e w3 ⟨rfl, hb3⟩))
  go_ret
  exact ⟨by rw [hR.out]; rfl, HB2.out.trans (hb3.mono HB2.out.size)⟩

 ·rw [if_neg hq]
  obtain ⟨X, hX, cX⟩ := (say_index ⟨s, x, o, d, m, n⟩ h0 h1).named
  rw [in_val] at cX
  obtain ⟨A1, hA1, kA1⟩ := kaL hN [74, 80, 32, 40] hX
  obtain ⟨A2, hA2, kA2⟩ := kaR hN [41] hA1
  obtain ⟨B1, hB1, kB1⟩ := kaL hN [76, 68, 32, 83, 80, 44] hX
  clear l1 l2
  have hyc : y = 1 ∨ y = 3 ∨ y = 5 ∨ y = 7 := by omega
  rcases hyc with rfl | rfl | rfl | rfl
  ·rw [if_pos rfl, ← rs_tk]
   go_enter Tryz.func84, Tryz.ntmps84
   go_upto_region 9 with (first
    | (go_at_call 49; (with_reducible refine (HPa.out _).mono ?_); rintro e wp ⟨rfl, rfl⟩)
    | (go_at_call 39; (with_reducible refine (cY.out _).mono ?_); rintro e w2 ⟨rfl, hb2⟩; have HR2 := z_ (HR.out.below hb2 HR.out.lt); have HB2 := z_ (HB.out.trans (hb2.mono HB.out.size)); clear hb2))
   refine M.rg ?_
   refine M.cm 0 (.agg #[.int .i64 s, .int .i64 x, .int .i64 o, .int .i64 d, .int .i64 m, .int .i64 n]) ?_ ?_
   ·intro wz sz
    exact dl (InW.on HR2.out sz)
   go_simp
   refine M.cm 1 (.string X) ?_ ?_
   ·intro wz sz
    unfold Oper.does
    go_simp
    exact (cX.out wz).mono fun e w' ⟨he, hw⟩ => ⟨_, he, rfl, Save.of_below hw⟩
   go_simp
   refine M.cm 4 (.agg #[.int .i64 s, .int .i64 x, .int .i64 o, .int .i64 d, .int .i64 m, .int .i64 n]) ?_ ?_
   ·intro wz sz
    exact dl (InW.on HR2.out sz)
   go_simp
   refine M.cm 5 (.string X) ?_ ?_
   ·intro wz sz
    unfold Oper.does
    go_simp
    exact (cX.out wz).mono fun e w' ⟨he, hw⟩ => ⟨_, he, rfl, Save.of_below hw⟩
   go_simp
   refine M.sg [2, 3, 6, 8] 4 ?_
   repeat (go_big_quiet_step (fail))
   refine wpQuiet_nil ?_
   refine M.cl 7 ?_
   intro wz sz
   unfold Oper.does
   go_simp
   refine ⟨TB w2 wz.heap.size #[.string { data := #[82, 69, 84] }, .string { data := #[69, 88, 88] }, .string A2, .string B1], TB.new sz, TB.closed, fun _ h => h.1, ?_⟩
   clear sz
   generalize wz.heap.size = N
   go_simp
   refine M.sg [9] 2 ?_
   repeat (go_big_quiet_step (fail))
   refine wpQuiet_nil ?_
   refine M.cl 10 ?_
   intro wy sy
   have hcell := sy.cell 0 _ rfl
   unfold Oper.does
   go_simp
   refine ⟨M.Base w2, sy.1, M.closed_base _, fun _ h => h, ?_⟩
   clear hcell sy
   go_simp
   refine M.sg [11] 0 ?_
   repeat (go_big_quiet_step (fail))
   refine wpQuiet_nil ?_
   refine M.en ?_
   intro wc sc
   go_wp2_with fail
   go_ret
   exact ⟨rfl, HB2.out.trans (sc.2.mono HB2.out.size)⟩
  ·rw [if_neg (by decide), if_pos rfl, ← rs_tk]
   go_enter Tryz.func84, Tryz.ntmps84
   go_upto_region 9 with (first
    | (go_at_call 49; (with_reducible refine (HPa.out _).mono ?_); rintro e wp ⟨rfl, rfl⟩)
    | (go_at_call 39; (with_reducible refine (cY.out _).mono ?_); rintro e w2 ⟨rfl, hb2⟩; have HR2 := z_ (HR.out.below hb2 HR.out.lt); have HB2 := z_ (HB.out.trans (hb2.mono HB.out.size)); clear hb2))
   refine M.rg ?_
   refine M.cm 0 (.agg #[.int .i64 s, .int .i64 x, .int .i64 o, .int .i64 d, .int .i64 m, .int .i64 n]) ?_ ?_
   ·intro wz sz
    exact dl (InW.on HR2.out sz)
   go_simp
   refine M.cm 1 (.string X) ?_ ?_
   ·intro wz sz
    unfold Oper.does
    go_simp
    exact (cX.out wz).mono fun e w' ⟨he, hw⟩ => ⟨_, he, rfl, Save.of_below hw⟩
   go_simp
   refine M.cm 4 (.agg #[.int .i64 s, .int .i64 x, .int .i64 o, .int .i64 d, .int .i64 m, .int .i64 n]) ?_ ?_
   ·intro wz sz
    exact dl (InW.on HR2.out sz)
   go_simp
   refine M.cm 5 (.string X) ?_ ?_
   ·intro wz sz
    unfold Oper.does
    go_simp
    exact (cX.out wz).mono fun e w' ⟨he, hw⟩ => ⟨_, he, rfl, Save.of_below hw⟩
   go_simp
   refine M.sg [2, 3, 6, 8] 4 ?_
   repeat (go_big_quiet_step (fail))
   refine wpQuiet_nil ?_
   refine M.cl 7 ?_
   intro wz sz
   unfold Oper.does
   go_simp
   refine ⟨TB w2 wz.heap.size #[.string { data := #[82, 69, 84] }, .string { data := #[69, 88, 88] }, .string A2, .string B1], TB.new sz, TB.closed, fun _ h => h.1, ?_⟩
   clear sz
   generalize wz.heap.size = N
   go_simp
   refine M.sg [9] 2 ?_
   repeat (go_big_quiet_step (fail))
   refine wpQuiet_nil ?_
   refine M.cl 10 ?_
   intro wy sy
   have hcell := sy.cell 1 _ rfl
   unfold Oper.does
   go_simp
   refine ⟨M.Base w2, sy.1, M.closed_base _, fun _ h => h, ?_⟩
   clear hcell sy
   go_simp
   refine M.sg [11] 0 ?_
   repeat (go_big_quiet_step (fail))
   refine wpQuiet_nil ?_
   refine M.en ?_
   intro wc sc
   go_wp2_with fail
   go_ret
   exact ⟨rfl, HB2.out.trans (sc.2.mono HB2.out.size)⟩
  ·rw [if_neg (by decide), if_neg (by decide), if_pos rfl]
   go_enter Tryz.func84, Tryz.ntmps84
   go_upto_region 9 with (first
    | (go_at_call 49; (with_reducible refine (HPa.out _).mono ?_); rintro e wp ⟨rfl, rfl⟩)
    | (go_at_call 39; (with_reducible refine (cY.out _).mono ?_); rintro e w2 ⟨rfl, hb2⟩; have HR2 := z_ (HR.out.below hb2 HR.out.lt); have HB2 := z_ (HB.out.trans (hb2.mono HB.out.size)); clear hb2))
   refine M.rg ?_
   refine M.cm 0 (.agg #[.int .i64 s, .int .i64 x, .int .i64 o, .int .i64 d, .int .i64 m, .int .i64 n]) ?_ ?_
   ·intro wz sz
    exact dl (InW.on HR2.out sz)
   go_simp
   refine M.cm 1 (.string X) ?_ ?_
   ·intro wz sz
    unfold Oper.does
    go_simp
    exact (cX.out wz).mono fun e w' ⟨he, hw⟩ => ⟨_, he, rfl, Save.of_below hw⟩
   go_simp
   refine M.cm 4 (.agg #[.int .i64 s, .int .i64 x, .int .i64 o, .int .i64 d, .int .i64 m, .int .i64 n]) ?_ ?_
   ·intro wz sz
    exact dl (InW.on HR2.out sz)
   go_simp
   refine M.cm 5 (.string X) ?_ ?_
   ·intro wz sz
    unfold Oper.does
    go_simp
    exact (cX.out wz).mono fun e w' ⟨he, hw⟩ => ⟨_, he, rfl, Save.of_below hw⟩
   go_simp
   refine M.sg [2, 3, 6, 8] 4 ?_
   repeat (go_big_quiet_step (fail))
   refine wpQuiet_nil ?_
   refine M.cl 7 ?_
   intro wz sz
   unfold Oper.does
   go_simp
   refine ⟨TB w2 wz.heap.size #[.string { data := #[82, 69, 84] }, .string { data := #[69, 88, 88] }, .string A2, .string B1], TB.new sz, TB.closed, fun _ h => h.1, ?_⟩
   clear sz
   generalize wz.heap.size = N
   go_simp
   refine M.sg [9] 2 ?_
   repeat (go_big_quiet_step (fail))
   refine wpQuiet_nil ?_
   refine M.cl 10 ?_
   intro wy sy
   have hcell := sy.cell 2 _ rfl
   unfold Oper.does
   go_simp
   refine ⟨M.Base w2, sy.1, M.closed_base _, fun _ h => h, ?_⟩
   clear hcell sy
   go_simp
   refine M.sg [11] 0 ?_
   repeat (go_big_quiet_step (fail))
   refine wpQuiet_nil ?_
   refine M.en ?_
   intro wc sc
   go_wp2_with fail
   go_ret
   exact ⟨by rw [hA2.out]; rfl, HB2.out.trans (sc.2.mono HB2.out.size)⟩
  ·rw [if_neg (by decide), if_neg (by decide), if_neg (by decide)]
   go_enter Tryz.func84, Tryz.ntmps84
   go_upto_region 9 with (first
    | (go_at_call 49; (with_reducible refine (HPa.out _).mono ?_); rintro e wp ⟨rfl, rfl⟩)
    | (go_at_call 39; (with_reducible refine (cY.out _).mono ?_); rintro e w2 ⟨rfl, hb2⟩; have HR2 := z_ (HR.out.below hb2 HR.out.lt); have HB2 := z_ (HB.out.trans (hb2.mono HB.out.size)); clear hb2))
   refine M.rg ?_
   refine M.cm 0 (.agg #[.int .i64 s, .int .i64 x, .int .i64 o, .int .i64 d, .int .i64 m, .int .i64 n]) ?_ ?_
   ·intro wz sz
    exact dl (InW.on HR2.out sz)
   go_simp
   refine M.cm 1 (.string X) ?_ ?_
   ·intro wz sz
    unfold Oper.does
    go_simp
    exact (cX.out wz).mono fun e w' ⟨he, hw⟩ => ⟨_, he, rfl, Save.of_below hw⟩
   go_simp
   refine M.cm 4 (.agg #[.int .i64 s, .int .i64 x, .int .i64 o, .int .i64 d, .int .i64 m, .int .i64 n]) ?_ ?_
   ·intro wz sz
    exact dl (InW.on HR2.out sz)
   go_simp
   refine M.cm 5 (.string X) ?_ ?_
   ·intro wz sz
    unfold Oper.does
    go_simp
    exact (cX.out wz).mono fun e w' ⟨he, hw⟩ => ⟨_, he, rfl, Save.of_below hw⟩
   go_simp
   refine M.sg [2, 3, 6, 8] 4 ?_
   repeat (go_big_quiet_step (fail))
   refine wpQuiet_nil ?_
   refine M.cl 7 ?_
   intro wz sz
   unfold Oper.does
   go_simp
   refine ⟨TB w2 wz.heap.size #[.string { data := #[82, 69, 84] }, .string { data := #[69, 88, 88] }, .string A2, .string B1], TB.new sz, TB.closed, fun _ h => h.1, ?_⟩
   clear sz
   generalize wz.heap.size = N
   go_simp
   refine M.sg [9] 2 ?_
   repeat (go_big_quiet_step (fail))
   refine wpQuiet_nil ?_
   refine M.cl 10 ?_
   intro wy sy
   have hcell := sy.cell 3 _ rfl
   unfold Oper.does
   go_simp
   refine ⟨M.Base w2, sy.1, M.closed_base _, fun _ h => h, ?_⟩
   clear hcell sy
   go_simp
   refine M.sg [11] 0 ?_
   repeat (go_big_quiet_step (fail))
   refine wpQuiet_nil ?_
   refine M.en ?_
   intro wc sc
   go_wp2_with fail
   go_ret
   exact ⟨by rw [hB1.out]; rfl, HB2.out.trans (sc.2.mono HB2.out.size)⟩

set_option maxHeartbeats 16000000 in
theorem say_high2 (i : In) (h0 : 0 ≤ i.x) (h1 : i.x < 3) (hN : Nums i.d i.m) (o0 : 0 ≤ i.o) (o1 : i.o < 256) (hz : i.o % 8 = 2) (hm : 0 ≤ i.m) : SayR 84 #[i.val] i.d i.m (highT i.x (i.o / 8 % 8) 2) := by
 intro w
 obtain ⟨s, x, o, d, m, n⟩ := i
 simp only at h0 h1 hN o0 o1 hz hm ⊢
 obtain ⟨w1, hw1⟩ : ∃ w1, w.alloc (inO ⟨s, x, o, d, m, n⟩) = w1 := ⟨_, rfl⟩
 have hb1 : Below w.heap.size w w1 := hw1 ▸ (Below.refl _ _).alloc (Nat.le_refl _) _
 have hr : InW w1 w.heap.size ⟨s, x, o, d, m, n⟩ := hw1 ▸ InW.laid w _
 have go := hr.go
 have gm := hr.gm
 have HR := z_ hr
 have HB := z_ hb1
 have hPa := fun w => r9_parts o w o0 o1
 have hq : o / 8 % 2 = o / 8 % 8 % 2 := by omega
 obtain ⟨y, hy⟩ : ∃ y, o / 8 % 8 = y := ⟨_, rfl⟩
 have y0 : 0 ≤ y := by omega
 have y1 : y < 8 := by omega
 rw [hy] at hq
 simp only [hq, hy, hz] at hPa ⊢
 obtain ⟨tq, htq⟩ : ∃ tq, o / 64 = tq := ⟨_, rfl⟩
 simp only [htq] at hPa
 have HPa := z_ hPa
 unfold inO at hw1
 rw [in_val]
 simp only at hw1 go gm ⊢
 unfold highT
 clear hb1 hr hPa hq hy htq hz
 have hmax : max 0 m = m := by omega
 obtain ⟨Y, hY, cY⟩ := (say_digits d m hm hN.2.2.2).named
 rw [if_neg (by decide), if_neg (by decide), if_pos rfl]
 have l1 := condL y
 obtain ⟨X, hX, cX⟩ := (say_cond d m y y0 y1).named
 obtain ⟨R1, hR1, kR1⟩ := kaL hN [74, 80, 32] hX
 obtain ⟨R2, hR2, kR2⟩ := kaR hN [44] hR1
 obtain ⟨R3, hR3, kR3⟩ := kaX hN hR2 hY
 clear l1
 go_enter Tryz.func84, Tryz.ntmps84
 go_wp2_with (first
  | (go_at_call 49; (with_reducible refine (HPa.out _).mono ?_); rintro e wp ⟨rfl, rfl⟩)
  | (go_at_call 39; (with_reducible refine (cY.out _).mono ?_); rintro e w2 ⟨rfl, hb2⟩; have HR2 := z_ (HR.out.below hb2 HR.out.lt); have HB2 := z_ (HB.out.trans (hb2.mono HB.out.size)); clear hb2)
  | (go_at_call 126; refine (cX.out _).mono ?_; rintro e w3 ⟨rfl, hb3⟩))
 go_ret
 exact ⟨by rw [hR3.out]; rfl, HB2.out.trans (hb3.mono HB2.out.size)⟩

set_option maxHeartbeats 16000000 in
theorem say_high3 (i : In) (h0 : 0 ≤ i.x) (h1 : i.x < 3) (hN : Nums i.d i.m) (o0 : 0 ≤ i.o) (o1 : i.o < 256) (hz : i.o % 8 = 3) (hm : 0 ≤ i.m) : SayR 84 #[i.val] i.d i.m (highT i.x (i.o / 8 % 8) 3) := by
 intro w
 obtain ⟨s, x, o, d, m, n⟩ := i
 simp only at h0 h1 hN o0 o1 hz hm ⊢
 obtain ⟨w1, hw1⟩ : ∃ w1, w.alloc (inO ⟨s, x, o, d, m, n⟩) = w1 := ⟨_, rfl⟩
 have hb1 : Below w.heap.size w w1 := hw1 ▸ (Below.refl _ _).alloc (Nat.le_refl _) _
 have hr : InW w1 w.heap.size ⟨s, x, o, d, m, n⟩ := hw1 ▸ InW.laid w _
 have go := hr.go
 have gm := hr.gm
 have HR := z_ hr
 have HB := z_ hb1
 have hPa := fun w => r9_parts o w o0 o1
 have hq : o / 8 % 2 = o / 8 % 8 % 2 := by omega
 obtain ⟨y, hy⟩ : ∃ y, o / 8 % 8 = y := ⟨_, rfl⟩
 have y0 : 0 ≤ y := by omega
 have y1 : y < 8 := by omega
 rw [hy] at hq
 simp only [hq, hy, hz] at hPa ⊢
 obtain ⟨tq, htq⟩ : ∃ tq, o / 64 = tq := ⟨_, rfl⟩
 simp only [htq] at hPa
 have HPa := z_ hPa
 unfold inO at hw1
 rw [in_val]
 simp only at hw1 go gm ⊢
 unfold highT
 clear hb1 hr hPa hq hy htq hz
 have hmax : max 0 m = m := by omega
 obtain ⟨Y, hY, cY⟩ := (say_digits d m hm hN.2.2.2).named
 rw [if_neg (by decide), if_neg (by decide), if_neg (by decide), if_pos rfl]
 unfold highR3
 have l2 := idxL x
 obtain ⟨X, hX, cX⟩ := (say_index ⟨s, x, o, d, m, n⟩ h0 h1).named
 rw [in_val] at cX
 obtain ⟨A1, hA1, kA1⟩ := kaL hN [74, 80, 32] hY
 obtain ⟨B1, hB1, kB1⟩ := kaL hN [79, 85, 84, 32, 40] hY
 obtain ⟨B2, hB2, kB2⟩ := kaR hN [41, 44, 65] hB1
 obtain ⟨C1, hC1, kC1⟩ := kaL hN [73, 78, 32, 65, 44, 40] hY
 obtain ⟨C2, hC2, kC2⟩ := kaR hN [41] hC1
 obtain ⟨D1, hD1, kD1⟩ := kaL hN [69, 88, 32, 40, 83, 80, 41, 44] hX
 clear l2
 have hyc : y = 0 ∨ y = 1 ∨ y = 2 ∨ y = 3 ∨ y = 4 ∨ y = 5 ∨ y = 6 ∨ y = 7 := by omega
 rcases hyc with rfl | rfl | rfl | rfl | rfl | rfl | rfl | rfl
 ·rw [if_pos rfl]
  go_enter Tryz.func84, Tryz.ntmps84
  go_wp2_with (first
   | (go_at_call 49; (with_reducible refine (HPa.out _).mono ?_); rintro e wp ⟨rfl, rfl⟩)
   | (go_at_call 39; (with_reducible refine (cY.out _).mono ?_); rintro e w2 ⟨rfl, hb2⟩; have HR2 := z_ (HR.out.below hb2 HR.out.lt); have HB2 := z_ (HB.out.trans (hb2.mono HB.out.size)); clear hb2)
   | (refine lr w.heap.size rfl rfl rfl HR2.out ?_)
   | (go_at_call 123; refine (cX.out _).mono ?_; rintro e w3 ⟨rfl, hb3⟩))
  go_ret
  exact ⟨by rw [hA1.out]; rfl, (HB2.out.trans (hb3.mono HB2.out.size)).alloc (Nat.le_trans HB2.out.size hb3.size) _⟩
 ·rw [if_neg (by decide), if_pos rfl, ← rs_tk]
  go_enter Tryz.func84, Tryz.ntmps84
  go_wp2_with (first
   | (go_at_call 49; (with_reducible refine (HPa.out _).mono ?_); rintro e wp ⟨rfl, rfl⟩)
   | (go_at_call 39; (with_reducible refine (cY.out _).mono ?_); rintro e w2 ⟨rfl, hb2⟩; have HR2 := z_ (HR.out.below hb2 HR.out.lt); have HB2 := z_ (HB.out.trans (hb2.mono HB.out.size)); clear hb2)
   | (refine lr w.heap.size rfl rfl rfl HR2.out ?_)
   | (go_at_call 123; refine (cX.out _).mono ?_; rintro e w3 ⟨rfl, hb3⟩))
  go_ret
  exact ⟨rfl, (HB2.out.trans (hb3.mono HB2.out.size)).alloc (Nat.le_trans HB2.out.size hb3.size) _⟩
 ·rw [if_neg (by decide), if_neg (by decide), if_pos rfl]
  go_enter Tryz.func84, Tryz.ntmps84
  go_wp2_with (first
   | (go_at_call 49; (with_reducible refine (HPa.out _).mono ?_); rintro e wp ⟨rfl, rfl⟩)
   | (go_at_call 39; (with_reducible refine (cY.out _).mono ?_); rintro e w2 ⟨rfl, hb2⟩; have HR2 := z_ (HR.out.below hb2 HR.out.lt); have HB2 := z_ (HB.out.trans (hb2.mono HB.out.size)); clear hb2)
   | (refine lr w.heap.size rfl rfl rfl HR2.out ?_)
   | (go_at_call 123; refine (cX.out _).mono ?_; rintro e w3 ⟨rfl, hb3⟩))
  go_ret
  exact ⟨by rw [hB2.out]; rfl, (HB2.out.trans (hb3.mono HB2.out.size)).alloc (Nat.le_trans HB2.out.size hb3.size) _⟩
 ·rw [if_neg (by decide), if_neg (by decide), if_neg (by decide), if_pos rfl]
  go_enter Tryz.func84, Tryz.ntmps84
  go_wp2_with (first
   | (go_at_call 49; (with_reducible refine (HPa.out _).mono ?_); rintro e wp ⟨rfl, rfl⟩)
   | (go_at_call 39; (with_reducible refine (cY.out _).mono ?_); rintro e w2 ⟨rfl, hb2⟩; have HR2 := z_ (HR.out.below hb2 HR.out.lt); have HB2 := z_ (HB.out.trans (hb2.mono HB.out.size)); clear hb2)
   | (refine lr w.heap.size rfl rfl rfl HR2.out ?_)
   | (go_at_call 123; refine (cX.out _).mono ?_; rintro e w3 ⟨rfl, hb3⟩))
  go_ret
  exact ⟨by rw [hC2.out]; rfl, (HB2.out.trans (hb3.mono HB2.out.size)).alloc (Nat.le_trans HB2.out.size hb3.size) _⟩
 ·rw [if_neg (by decide), if_neg (by decide), if_neg (by decide), if_neg (by decide), if_pos rfl]
  go_enter Tryz.func84, Tryz.ntmps84
  go_wp2_with (first
   | (go_at_call 49; (with_reducible refine (HPa.out _).mono ?_); rintro e wp ⟨rfl, rfl⟩)
   | (go_at_call 39; (with_reducible refine (cY.out _).mono ?_); rintro e w2 ⟨rfl, hb2⟩; have HR2 := z_ (HR.out.below hb2 HR.out.lt); have HB2 := z_ (HB.out.trans (hb2.mono HB.out.size)); clear hb2)
   | (refine lr w.heap.size rfl rfl rfl HR2.out ?_)
   | (go_at_call 123; refine (cX.out _).mono ?_; rintro e w3 ⟨rfl, hb3⟩))
  go_ret
  exact ⟨by rw [hD1.out]; rfl, (HB2.out.trans (hb3.mono HB2.out.size)).alloc (Nat.le_trans HB2.out.size hb3.size) _⟩
 ·rw [if_neg (by decide), if_neg (by decide), if_neg (by decide), if_neg (by decide), if_neg (by decide), if_pos rfl, ← rs_tk]
  go_enter Tryz.func84, Tryz.ntmps84
  go_wp2_with (first
   | (go_at_call 49; (with_reducible refine (HPa.out _).mono ?_); rintro e wp ⟨rfl, rfl⟩)
   | (go_at_call 39; (with_reducible refine (cY.out _).mono ?_); rintro e w2 ⟨rfl, hb2⟩; have HR2 := z_ (HR.out.below hb2 HR.out.lt); have HB2 := z_ (HB.out.trans (hb2.mono HB.out.size)); clear hb2)
   | (refine lr w.heap.size rfl rfl rfl HR2.out ?_)
   | (go_at_call 123; refine (cX.out _).mono ?_; rintro e w3 ⟨rfl, hb3⟩))
  go_ret
  exact ⟨rfl, (HB2.out.trans (hb3.mono HB2.out.size)).alloc (Nat.le_trans HB2.out.size hb3.size) _⟩
 ·rw [if_neg (by decide), if_neg (by decide), if_neg (by decide), if_neg (by decide), if_neg (by decide), if_neg (by decide), if_pos rfl, ← rs_tk]
  go_enter Tryz.func84, Tryz.ntmps84
  go_wp2_with (first
   | (go_at_call 49; (with_reducible refine (HPa.out _).mono ?_); rintro e wp ⟨rfl, rfl⟩)
   | (go_at_call 39; (with_reducible refine (cY.out _).mono ?_); rintro e w2 ⟨rfl, hb2⟩; have HR2 := z_ (HR.out.below hb2 HR.out.lt); have HB2 := z_ (HB.out.trans (hb2.mono HB.out.size)); clear hb2)
   | (refine lr w.heap.size rfl rfl rfl HR2.out ?_)
   | (go_at_call 123; refine (cX.out _).mono ?_; rintro e w3 ⟨rfl, hb3⟩))
  go_ret
  exact ⟨rfl, (HB2.out.trans (hb3.mono HB2.out.size)).alloc (Nat.le_trans HB2.out.size hb3.size) _⟩
 ·rw [if_neg (by decide), if_neg (by decide), if_neg (by decide), if_neg (by decide), if_neg (by decide), if_neg (by decide), if_neg (by decide), ← rs_tk]
  go_enter Tryz.func84, Tryz.ntmps84
  go_wp2_with (first
   | (go_at_call 49; (with_reducible refine (HPa.out _).mono ?_); rintro e wp ⟨rfl, rfl⟩)
   | (go_at_call 39; (with_reducible refine (cY.out _).mono ?_); rintro e w2 ⟨rfl, hb2⟩; have HR2 := z_ (HR.out.below hb2 HR.out.lt); have HB2 := z_ (HB.out.trans (hb2.mono HB.out.size)); clear hb2)
   | (refine lr w.heap.size rfl rfl rfl HR2.out ?_)
   | (go_at_call 123; refine (cX.out _).mono ?_; rintro e w3 ⟨rfl, hb3⟩))
  go_ret
  exact ⟨rfl, (HB2.out.trans (hb3.mono HB2.out.size)).alloc (Nat.le_trans HB2.out.size hb3.size) _⟩

set_option maxHeartbeats 16000000 in
theorem say_high4 (i : In) (h0 : 0 ≤ i.x) (h1 : i.x < 3) (hN : Nums i.d i.m) (o0 : 0 ≤ i.o) (o1 : i.o < 256) (hz : i.o % 8 = 4) (hm : 0 ≤ i.m) : SayR 84 #[i.val] i.d i.m (highT i.x (i.o / 8 % 8) 4) := by
 intro w
 obtain ⟨s, x, o, d, m, n⟩ := i
 simp only at h0 h1 hN o0 o1 hz hm ⊢
 obtain ⟨w1, hw1⟩ : ∃ w1, w.alloc (inO ⟨s, x, o, d, m, n⟩) = w1 := ⟨_, rfl⟩
 have hb1 : Below w.heap.size w w1 := hw1 ▸ (Below.refl _ _).alloc (Nat.le_refl _) _
 have hr : InW w1 w.heap.size ⟨s, x, o, d, m, n⟩ := hw1 ▸ InW.laid w _
 have go := hr.go
 have gm := hr.gm
 have HR := z_ hr
 have HB := z_ hb1
 have hPa := fun w => r9_parts o w o0 o1
 have hq : o / 8 % 2 = o / 8 % 8 % 2 := by omega
 obtain ⟨y, hy⟩ : ∃ y, o / 8 % 8 = y := ⟨_, rfl⟩
 have y0 : 0 ≤ y := by omega
 have y1 : y < 8 := by omega
 rw [hy] at hq
 simp only [hq, hy, hz] at hPa ⊢
 obtain ⟨tq, htq⟩ : ∃ tq, o / 64 = tq := ⟨_, rfl⟩
 simp only [htq] at hPa
 have HPa := z_ hPa
 unfold inO at hw1
 rw [in_val]
 simp only at hw1 go gm ⊢
 unfold highT
 clear hb1 hr hPa hq hy htq hz
 have hmax : max 0 m = m := by omega
 obtain ⟨Y, hY, cY⟩ := (say_digits d m hm hN.2.2.2).named
 rw [if_neg (by decide), if_neg (by decide), if_neg (by decide), if_neg (by decide), if_pos rfl]
 have l1 := condL y
 obtain ⟨X, hX, cX⟩ := (say_cond d m y y0 y1).named
 obtain ⟨R1, hR1, kR1⟩ := kaL hN [67, 65, 76, 76, 32] hX
 obtain ⟨R2, hR2, kR2⟩ := kaR hN [44] hR1
 obtain ⟨R3, hR3, kR3⟩ := kaX hN hR2 hY
 clear l1
 go_enter Tryz.func84, Tryz.ntmps84
 go_wp2_with (first
  | (go_at_call 49; (with_reducible refine (HPa.out _).mono ?_); rintro e wp ⟨rfl, rfl⟩)
  | (go_at_call 39; (with_reducible refine (cY.out _).mono ?_); rintro e w2 ⟨rfl, hb2⟩; have HR2 := z_ (HR.out.below hb2 HR.out.lt); have HB2 := z_ (HB.out.trans (hb2.mono HB.out.size)); clear hb2)
  | (go_at_call 126; refine (cX.out _).mono ?_; rintro e w3 ⟨rfl, hb3⟩))
 go_ret
 exact ⟨by rw [hR3.out]; rfl, HB2.out.trans (hb3.mono HB2.out.size)⟩

set_option maxHeartbeats 16000000 in
theorem say_high5 (i : In) (h0 : 0 ≤ i.x) (h1 : i.x < 3) (hN : Nums i.d i.m) (o0 : 0 ≤ i.o) (o1 : i.o < 256) (hz : i.o % 8 = 5) (hm : 0 ≤ i.m) : SayR 84 #[i.val] i.d i.m (highT i.x (i.o / 8 % 8) 5) := by
 intro w
 obtain ⟨s, x, o, d, m, n⟩ := i
 simp only at h0 h1 hN o0 o1 hz hm ⊢
 obtain ⟨w1, hw1⟩ : ∃ w1, w.alloc (inO ⟨s, x, o, d, m, n⟩) = w1 := ⟨_, rfl⟩
 have hb1 : Below w.heap.size w w1 := hw1 ▸ (Below.refl _ _).alloc (Nat.le_refl _) _
 have hr : InW w1 w.heap.size ⟨s, x, o, d, m, n⟩ := hw1 ▸ InW.laid w _
 have go := hr.go
 have gm := hr.gm
 have HR := z_ hr
 have HB := z_ hb1
 have hPa := fun w => r9_parts o w o0 o1
 have hq : o / 8 % 2 = o / 8 % 8 % 2 := by omega
 obtain ⟨y, hy⟩ : ∃ y, o / 8 % 8 = y := ⟨_, rfl⟩
 have y0 : 0 ≤ y := by omega
 have y1 : y < 8 := by omega
 rw [hy] at hq
 simp only [hq, hy, hz] at hPa ⊢
 obtain ⟨tq, htq⟩ : ∃ tq, o / 64 = tq := ⟨_, rfl⟩
 simp only [htq] at hPa
 have HPa := z_ hPa
 unfold inO at hw1
 rw [in_val]
 simp only at hw1 go gm ⊢
 unfold highT
 clear hb1 hr hPa hq hy htq hz
 have hmax : max 0 m = m := by omega
 obtain ⟨Y, hY, cY⟩ := (say_digits d m hm hN.2.2.2).named
 rw [if_neg (by decide), if_neg (by decide), if_neg (by decide), if_neg (by decide), if_neg (by decide), if_pos rfl]
 have l1 := pairRL x (y / 2) true
 by_cases hq : y % 2 = 0
 ·rw [if_pos hq]
  obtain ⟨X, hX, cX⟩ := (say_pair ⟨s, x, o, d, m, n⟩ (y / 2) true h0 h1 (by omega) (by omega)).named
  rw [in_val] at cX
  obtain ⟨R, hR, kR⟩ := kaL hN [80, 85, 83, 72, 32] hX
  have q0 : (y % 2 == 0) = true := by rw [hq]; rfl
  clear l1
  go_enter Tryz.func84, Tryz.ntmps84
  go_wp2_with (first
   | (go_at_call 49; (with_reducible refine (HPa.out _).mono ?_); rintro e wp ⟨rfl, rfl⟩)
   | (go_at_call 39; (with_reducible refine (cY.out _).mono ?_); rintro e w2 ⟨rfl, hb2⟩; have HR2 := z_ (HR.out.below hb2 HR.out.lt); have HB2 := z_ (HB.out.trans (hb2.mono HB.out.size)); clear hb2)
   | (refine lr w.heap.size rfl rfl rfl HR2.out ?_)
   | (go_at_call 125; refine (cX.out _).mono ?_; rintro e w3 ⟨rfl, hb3⟩))
  go_ret
  exact ⟨by rw [hR.out]; rfl, HB2.out.trans (hb3.mono HB2.out.size)⟩

 ·rw [if_neg hq]
  obtain ⟨R, hR, kR⟩ := kaL hN [67, 65, 76, 76, 32] hY
  have q0 : (y % 2 == 0) = false := beq_eq_false_iff_ne.2 hq
  clear l1
  go_enter Tryz.func84, Tryz.ntmps84
  go_wp2_with (first
   | (go_at_call 49; (with_reducible refine (HPa.out _).mono ?_); rintro e wp ⟨rfl, rfl⟩)
   | (go_at_call 39; (with_reducible refine (cY.out _).mono ?_); rintro e w2 ⟨rfl, hb2⟩; have HR2 := z_ (HR.out.below hb2 HR.out.lt); have HB2 := z_ (HB.out.trans (hb2.mono HB.out.size)); clear hb2))
  go_ret
  exact ⟨by rw [hR.out]; rfl, HB2.out⟩


set_option maxHeartbeats 16000000 in
theorem say_high6 (i : In) (h0 : 0 ≤ i.x) (h1 : i.x < 3) (hN : Nums i.d i.m) (o0 : 0 ≤ i.o) (o1 : i.o < 256) (hz : i.o % 8 = 6) (hm : 0 ≤ i.m) : SayR 84 #[i.val] i.d i.m (highT i.x (i.o / 8 % 8) 6) := by
 intro w
 obtain ⟨s, x, o, d, m, n⟩ := i
 simp only at h0 h1 hN o0 o1 hz hm ⊢
 obtain ⟨w1, hw1⟩ : ∃ w1, w.alloc (inO ⟨s, x, o, d, m, n⟩) = w1 := ⟨_, rfl⟩
 have hb1 : Below w.heap.size w w1 := hw1 ▸ (Below.refl _ _).alloc (Nat.le_refl _) _
 have hr : InW w1 w.heap.size ⟨s, x, o, d, m, n⟩ := hw1 ▸ InW.laid w _
 have go := hr.go
 have gm := hr.gm
 have HR := z_ hr
 have HB := z_ hb1
 have hPa := fun w => r9_parts o w o0 o1
 have hq : o / 8 % 2 = o / 8 % 8 % 2 := by omega
 obtain ⟨y, hy⟩ : ∃ y, o / 8 % 8 = y := ⟨_, rfl⟩
 have y0 : 0 ≤ y := by omega
 have y1 : y < 8 := by omega
 rw [hy] at hq
 simp only [hq, hy, hz] at hPa ⊢
 obtain ⟨tq, htq⟩ : ∃ tq, o / 64 = tq := ⟨_, rfl⟩
 simp only [htq] at hPa
 have HPa := z_ hPa
 unfold inO at hw1
 rw [in_val]
 simp only at hw1 go gm ⊢
 unfold highT
 clear hb1 hr hPa hq hy htq hz
 have hmax : max 0 m = m := by omega
 obtain ⟨Y, hY, cY⟩ := (say_digits d m hm hN.2.2.2).named
 rw [if_neg (by decide), if_neg (by decide), if_neg (by decide), if_neg (by decide), if_neg (by decide), if_neg (by decide), if_pos rfl]
 have l1 := operL y
 obtain ⟨X, hX, cX⟩ := (say_oper d m y y0 y1).named
 obtain ⟨R, hR, kR⟩ := kaX hN hX hY
 clear l1
 go_enter Tryz.func84, Tryz.ntmps84
 go_wp2_with (first
  | (go_at_call 49; (with_reducible refine (HPa.out _).mono ?_); rintro e wp ⟨rfl, rfl⟩)
  | (go_at_call 39; (with_reducible refine (cY.out _).mono ?_); rintro e w2 ⟨rfl, hb2⟩; have HR2 := z_ (HR.out.below hb2 HR.out.lt); have HB2 := z_ (HB.out.trans (hb2.mono HB.out.size)); clear hb2)
  | (go_at_call 83; refine (cX.out _).mono ?_; rintro e w3 ⟨rfl, hb3⟩))
 go_ret
 exact ⟨by rw [hR.out]; rfl, HB2.out.trans (hb3.mono HB2.out.size)⟩

set_option maxHeartbeats 16000000 in
theorem say_high7 (i : In) (h0 : 0 ≤ i.x) (h1 : i.x < 3) (hN : Nums i.d i.m) (o0 : 0 ≤ i.o) (o1 : i.o < 256) (hz : i.o % 8 = 7) (hm : 0 ≤ i.m) : SayR 84 #[i.val] i.d i.m (highT i.x (i.o / 8 % 8) 7) := by
 intro w
 obtain ⟨s, x, o, d, m, n⟩ := i
 simp only at h0 h1 hN o0 o1 hz hm ⊢
 obtain ⟨w1, hw1⟩ : ∃ w1, w.alloc (inO ⟨s, x, o, d, m, n⟩) = w1 := ⟨_, rfl⟩
 have hb1 : Below w.heap.size w w1 := hw1 ▸ (Below.refl _ _).alloc (Nat.le_refl _) _
 have hr : InW w1 w.heap.size ⟨s, x, o, d, m, n⟩ := hw1 ▸ InW.laid w _
 have go := hr.go
 have gm := hr.gm
 have HR := z_ hr
 have HB := z_ hb1
 have hPa := fun w => r9_parts o w o0 o1
 have hq : o / 8 % 2 = o / 8 % 8 % 2 := by omega
 obtain ⟨y, hy⟩ : ∃ y, o / 8 % 8 = y := ⟨_, rfl⟩
 have y0 : 0 ≤ y := by omega
 have y1 : y < 8 := by omega
 rw [hy] at hq
 simp only [hq, hy, hz] at hPa ⊢
 obtain ⟨tq, htq⟩ : ∃ tq, o / 64 = tq := ⟨_, rfl⟩
 simp only [htq] at hPa
 have HPa := z_ hPa
 unfold inO at hw1
 rw [in_val]
 simp only at hw1 go gm ⊢
 unfold highT
 clear hb1 hr hPa hq hy htq hz
 have hmax : max 0 m = m := by omega
 obtain ⟨Y, hY, cY⟩ := (say_digits d m hm hN.2.2.2).named
 rw [if_neg (by decide), if_neg (by decide), if_neg (by decide), if_neg (by decide), if_neg (by decide), if_neg (by decide), if_neg (by decide)]
 have l1 := tensLL y.toNat
 obtain ⟨X, hX, cX⟩ := (say_eight d m y y0 y1).named
 obtain ⟨R, hR, kR⟩ := kaL hN [82, 83, 84, 32] hX
 clear l1
 go_enter Tryz.func84, Tryz.ntmps84
 go_wp2_with (first
  | (go_at_call 49; (with_reducible refine (HPa.out _).mono ?_); rintro e wp ⟨rfl, rfl⟩)
  | (go_at_call 39; (with_reducible refine (cY.out _).mono ?_); rintro e w2 ⟨rfl, hb2⟩; have HR2 := z_ (HR.out.below hb2 HR.out.lt); have HB2 := z_ (HB.out.trans (hb2.mono HB.out.size)); clear hb2)
  | (go_at_call 39; refine (cX.out _).mono ?_; rintro e w3 ⟨rfl, hb3⟩))
 go_ret
 exact ⟨by rw [hR.out]; rfl, HB2.out.trans (hb3.mono HB2.out.size)⟩

theorem say_high (i : In) (h0 : 0 ≤ i.x) (h1 : i.x < 3) (hN : Nums i.d i.m) (o0 : 0 ≤ i.o) (o1 : i.o < 256) (hm : 0 ≤ i.m) : SayR 84 #[i.val] i.d i.m (highT i.x (i.o / 8 % 8) (i.o % 8)) := by
 have hz : i.o % 8 = 0 ∨ i.o % 8 = 1 ∨ i.o % 8 = 2 ∨ i.o % 8 = 3 ∨ i.o % 8 = 4 ∨ i.o % 8 = 5 ∨ i.o % 8 = 6 ∨ i.o % 8 = 7 := by omega
 rcases hz with hz | hz | hz | hz | hz | hz | hz | hz
 ·rw [hz]; exact say_high0 i h0 h1 hN o0 o1 hz hm
 ·rw [hz]; exact say_high1 i h0 h1 hN o0 o1 hz hm
 ·rw [hz]; exact say_high2 i h0 h1 hN o0 o1 hz hm
 ·rw [hz]; exact say_high3 i h0 h1 hN o0 o1 hz hm
 ·rw [hz]; exact say_high4 i h0 h1 hN o0 o1 hz hm
 ·rw [hz]; exact say_high5 i h0 h1 hN o0 o1 hz hm
 ·rw [hz]; exact say_high6 i h0 h1 hN o0 o1 hz hm
 ·rw [hz]; exact say_high7 i h0 h1 hN o0 o1 hz hm

end Go.Proofs.YtgaihekapakoeaaGreatDoor
