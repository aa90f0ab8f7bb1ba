/-  -/
import Derived.Test.YtgaihekapakoeaaGreatDoorZE5
set_option linter.unusedVariables false
set_option linter.unusedSimpArgs false
namespace Go.Proofs.YtgaihekapakoeaaGreatDoor
open Go.RowKit


set_option maxRecDepth 100000

def blkS : List (List UInt8) := [[73], [68], [73, 82], [68, 82]]
def blkO : List (List UInt8) := [[79, 85, 84, 73], [79, 85, 84, 68], [79, 84, 73, 82], [79, 84, 68, 82]]
def blkW : List (List UInt8) := [[76, 68], [67, 80], [73, 78]]
def sbcL : List (List UInt8) := [[83, 66, 67, 32, 72, 76, 44], [65, 68, 67, 32, 72, 76, 44]]
def retL : List (List UInt8) := [[82, 69, 84, 78], [82, 69, 84, 73]]
def imL : List (List UInt8) := [[48], [48], [49], [50]]
def mor7 : List (List UInt8) := [[76, 68, 32, 73, 44, 65], [76, 68, 32, 82, 44, 65], [76, 68, 32, 65, 44, 73], [76, 68, 32, 65, 44, 82], [82, 82, 68], [82, 76, 68], [], []]
def blkT (y z : Int) : List Nat := if z = 3 then tk (nth blkO (y - 4)) else tk (nth blkW z) ++ tk (nth blkS (y - 4))
def moreT (s x o y z : Int) : List Nat :=
 if z = 0 then (if y = 6 then tk [73, 78, 32, 70, 44, 40, 67, 41] else (tk [73, 78, 32] ++ byteR s x o y) ++ tk [44, 40, 67, 41])
 else if z = 1 then (if y = 6 then tk [79, 85, 84, 32, 40, 67, 41, 44, 48] else tk [79, 85, 84, 32, 40, 67, 41, 44] ++ byteR s x o y)
 else if z = 2 then tk (nth sbcL (y % 2)) ++ pairR x (y / 2) false
 else if z = 3 then (if y % 2 = 0 then ((tk [76, 68, 32] ++ numT10) ++ tk [44]) ++ pairR x (y / 2) false else ((tk [76, 68, 32] ++ pairR x (y / 2) false) ++ tk [44]) ++ numT10)
 else if z = 4 then tk [78, 69, 71] else if z = 5 then tk (nth retL (min 1 y)) else if z = 6 then tk [73, 77, 32] ++ tk (nth imL (y % 4)) else tk (nth mor7 y)

set_option maxHeartbeats 16000000 in
theorem say_more0 (i : In) (h0 : 0 ≤ i.x) (h1 : i.x < 3) (hN : Nums i.d i.m) (o0 : 0 ≤ i.o) (o1 : i.o < 256) (hz : i.o % 8 = 0) (ht : i.o / 64 ≠ 2) (hm : 0 ≤ i.m) : SayR 81 #[i.val] i.d i.m (moreT i.s i.x i.o (i.o / 8 % 8) 0) := by
 intro w
 obtain ⟨s, x, o, d, m, n⟩ := i
 simp only at h0 h1 hN o0 o1 hz ht hm ⊢
 obtain ⟨w1, hw1⟩ : ∃ w1, w.alloc (inO ⟨s, x, o, d, m, n⟩) = w1 := ⟨_, rfl⟩
 have hb1 : Below w.heap.size w w1 := hw1 ▸ (Below.refl _ _).alloc (Nat.le_refl _) _
 have hr : InW w1 w.heap.size ⟨s, x, o, d, m, n⟩ := hw1 ▸ InW.laid w _
 have go := hr.go
 have gm := hr.gm
 have HR := z_ hr
 have HB := z_ hb1
 have hPa := fun w => r9_parts o w o0 o1
 have hq : o / 8 % 2 = o / 8 % 8 % 2 := by omega
 obtain ⟨y, hy⟩ : ∃ y, o / 8 % 8 = y := ⟨_, rfl⟩
 have y0 : 0 ≤ y := by omega
 have y1 : y < 8 := by omega
 rw [hy] at hq
 simp only [hq, hy, hz] at hPa ⊢
 obtain ⟨tq, htq⟩ : ∃ tq, o / 64 = tq := ⟨_, rfl⟩
 simp only [htq] at hPa ht
 have ht2 : (tq == 2) = false := beq_eq_false_iff_ne.2 ht
 have HPa := z_ hPa
 unfold inO at hw1
 rw [in_val]
 simp only at hw1 go gm ⊢
 unfold moreT
 clear hb1 hr hPa hq hy htq hz ht
 obtain ⟨Y, hY, cY⟩ := (say_digits d m hm hN.2.2.2).named
 obtain ⟨P1, hP1, kP1⟩ := kaL hN [40] hY
 obtain ⟨N2, hN2, kN2⟩ := kaR hN [41] hP1
 have l3 : ((tk [40] ++ [256]) ++ tk [41]).length ≤ 3 := by decide
 rw [if_pos rfl]
 have l1 := byteRL s x o y
 by_cases h6 : y = 6
 ·subst h6
  rw [if_pos rfl, ← rs_tk]
  clear l1 l3
  go_enter Tryz.func81, Tryz.ntmps81
  go_wp2_with (first
   | (go_at_call 49; (with_reducible refine (HPa.out _).mono ?_); rintro e wp ⟨rfl, rfl⟩)
   | (go_at_call 39; refine (cY.out _).mono ?_; rintro e w2 ⟨rfl, hb2⟩; have HR2 := z_ (HR.out.below hb2 HR.out.lt); have HB2 := z_ (HB.out.trans (hb2.mono HB.out.size)); clear hb2))
  go_ret
  exact ⟨rfl, HB2.out⟩
 ·rw [if_neg h6]
  have h6b : (y == 6) = false := beq_eq_false_iff_ne.2 h6
  obtain ⟨X, hX, cX⟩ := (say_byte ⟨s, x, o, d, m, n⟩ y h0 h1 hN y0 y1).named
  rw [in_val] at cX
  obtain ⟨R1, hR1, kR1⟩ := kaL hN [73, 78, 32] hX
  obtain ⟨R, hR, kR⟩ := kaR hN [44, 40, 67, 41] hR1
  clear l1 l3
  go_enter Tryz.func81, Tryz.ntmps81
  go_wp2_with (first
   | (go_at_call 49; (with_reducible refine (HPa.out _).mono ?_); rintro e wp ⟨rfl, rfl⟩)
   | (go_at_call 39; refine (cY.out _).mono ?_; rintro e w2 ⟨rfl, hb2⟩; have HR2 := z_ (HR.out.below hb2 HR.out.lt); have HB2 := z_ (HB.out.trans (hb2.mono HB.out.size)); clear hb2)
   | (refine lr w.heap.size rfl rfl rfl HR2.out ?_)
   | (go_at_call 80; refine (cX.out _).mono ?_; rintro e w3 ⟨rfl, hb3⟩))
  go_ret
  exact ⟨by rw [hR.out]; rfl, HB2.out.trans (hb3.mono HB2.out.size)⟩

set_option maxHeartbeats 16000000 in
theorem say_more1 (i : In) (h0 : 0 ≤ i.x) (h1 : i.x < 3) (hN : Nums i.d i.m) (o0 : 0 ≤ i.o) (o1 : i.o < 256) (hz : i.o % 8 = 1) (ht : i.o / 64 ≠ 2) (hm : 0 ≤ i.m) : SayR 81 #[i.val] i.d i.m (moreT i.s i.x i.o (i.o / 8 % 8) 1) := by
 intro w
 obtain ⟨s, x, o, d, m, n⟩ := i
 simp only at h0 h1 hN o0 o1 hz ht hm ⊢
 obtain ⟨w1, hw1⟩ : ∃ w1, w.alloc (inO ⟨s, x, o, d, m, n⟩) = w1 := ⟨_, rfl⟩
 have hb1 : Below w.heap.size w w1 := hw1 ▸ (Below.refl _ _).alloc (Nat.le_refl _) _
 have hr : InW w1 w.heap.size ⟨s, x, o, d, m, n⟩ := hw1 ▸ InW.laid w _
 have go := hr.go
 have gm := hr.gm
 have HR := z_ hr
 have HB := z_ hb1
 have hPa := fun w => r9_parts o w o0 o1
 have hq : o / 8 % 2 = o / 8 % 8 % 2 := by omega
 obtain ⟨y, hy⟩ : ∃ y, o / 8 % 8 = y := ⟨_, rfl⟩
 have y0 : 0 ≤ y := by omega
 have y1 : y < 8 := by omega
 rw [hy] at hq
 simp only [hq, hy, hz] at hPa ⊢
 obtain ⟨tq, htq⟩ : ∃ tq, o / 64 = tq := ⟨_, rfl⟩
 simp only [htq] at hPa ht
 have ht2 : (tq == 2) = false := beq_eq_false_iff_ne.2 ht
 have HPa := z_ hPa
 unfold inO at hw1
 rw [in_val]
 simp only at hw1 go gm ⊢
 unfold moreT
 clear hb1 hr hPa hq hy htq hz ht
 obtain ⟨Y, hY, cY⟩ := (say_digits d m hm hN.2.2.2).named
 obtain ⟨P1, hP1, kP1⟩ := kaL hN [40] hY
 obtain ⟨N2, hN2, kN2⟩ := kaR hN [41] hP1
 have l3 : ((tk [40] ++ [256]) ++ tk [41]).length ≤ 3 := by decide
 rw [if_neg (by decide), if_pos rfl]
 have l1 := byteRL s x o y
 by_cases h6 : y = 6
 ·subst h6
  rw [if_pos rfl, ← rs_tk]
  clear l1 l3
  go_enter Tryz.func81, Tryz.ntmps81
  go_wp2_with (first
   | (go_at_call 49; (with_reducible refine (HPa.out _).mono ?_); rintro e wp ⟨rfl, rfl⟩)
   | (go_at_call 39; refine (cY.out _).mono ?_; rintro e w2 ⟨rfl, hb2⟩; have HR2 := z_ (HR.out.below hb2 HR.out.lt); have HB2 := z_ (HB.out.trans (hb2.mono HB.out.size)); clear hb2))
  go_ret
  exact ⟨rfl, HB2.out⟩
 ·rw [if_neg h6]
  have h6b : (y == 6) = false := beq_eq_false_iff_ne.2 h6
  obtain ⟨X, hX, cX⟩ := (say_byte ⟨s, x, o, d, m, n⟩ y h0 h1 hN y0 y1).named
  rw [in_val] at cX
  obtain ⟨R, hR, kR⟩ := kaL hN [79, 85, 84, 32, 40, 67, 41, 44] hX
  clear l1 l3
  go_enter Tryz.func81, Tryz.ntmps81
  go_wp2_with (first
   | (go_at_call 49; (with_reducible refine (HPa.out _).mono ?_); rintro e wp ⟨rfl, rfl⟩)
   | (go_at_call 39; refine (cY.out _).mono ?_; rintro e w2 ⟨rfl, hb2⟩; have HR2 := z_ (HR.out.below hb2 HR.out.lt); have HB2 := z_ (HB.out.trans (hb2.mono HB.out.size)); clear hb2)
   | (refine lr w.heap.size rfl rfl rfl HR2.out ?_)
   | (go_at_call 80; refine (cX.out _).mono ?_; rintro e w3 ⟨rfl, hb3⟩))
  go_ret
  exact ⟨by rw [hR.out]; rfl, HB2.out.trans (hb3.mono HB2.out.size)⟩

set_option maxHeartbeats 16000000 in
theorem say_more2 (i : In) (h0 : 0 ≤ i.x) (h1 : i.x < 3) (hN : Nums i.d i.m) (o0 : 0 ≤ i.o) (o1 : i.o < 256) (hz : i.o % 8 = 2) (ht : i.o / 64 ≠ 2) (hm : 0 ≤ i.m) : SayR 81 #[i.val] i.d i.m (moreT i.s i.x i.o (i.o / 8 % 8) 2) := by
 intro w
 obtain ⟨s, x, o, d, m, n⟩ := i
 simp only at h0 h1 hN o0 o1 hz ht hm ⊢
 obtain ⟨w1, hw1⟩ : ∃ w1, w.alloc (inO ⟨s, x, o, d, m, n⟩) = w1 := ⟨_, rfl⟩
 have hb1 : Below w.heap.size w w1 := hw1 ▸ (Below.refl _ _).alloc (Nat.le_refl _) _
 have hr : InW w1 w.heap.size ⟨s, x, o, d, m, n⟩ := hw1 ▸ InW.laid w _
 have go := hr.go
 have gm := hr.gm
 have HR := z_ hr
 have HB := z_ hb1
 have hPa := fun w => r9_parts o w o0 o1
 have hq : o / 8 % 2 = o / 8 % 8 % 2 := by omega
 obtain ⟨y, hy⟩ : ∃ y, o / 8 % 8 = y := ⟨_, rfl⟩
 have y0 : 0 ≤ y := by omega
 have y1 : y < 8 := by omega
 rw [hy] at hq
 simp only [hq, hy, hz] at hPa ⊢
 obtain ⟨tq, htq⟩ : ∃ tq, o / 64 = tq := ⟨_, rfl⟩
 simp only [htq] at hPa ht
 have ht2 : (tq == 2) = false := beq_eq_false_iff_ne.2 ht
 have HPa := z_ hPa
 unfold inO at hw1
 rw [in_val]
 simp only at hw1 go gm ⊢
 unfold moreT
 clear hb1 hr hPa hq hy htq hz ht
 obtain ⟨Y, hY, cY⟩ := (say_digits d m hm hN.2.2.2).named
 obtain ⟨P1, hP1, kP1⟩ := kaL hN [40] hY
 obtain ⟨N2, hN2, kN2⟩ := kaR hN [41] hP1
 have l3 : ((tk [40] ++ [256]) ++ tk [41]).length ≤ 3 := by decide
 rw [if_neg (by decide), if_neg (by decide), if_pos rfl]
 have l1 := pairRL x (y / 2) false
 obtain ⟨X, hX, cX⟩ := (say_pair ⟨s, x, o, d, m, n⟩ (y / 2) false h0 h1 (by omega) (by omega)).named
 rw [in_val] at cX
 have hq : y % 2 = 0 ∨ y % 2 = 1 := by omega
 obtain ⟨qq, hqq⟩ : ∃ qq, y % 2 = qq := ⟨_, rfl⟩
 rw [hqq] at hq HPa ⊢
 clear hqq
 rcases hq with rfl | rfl
 ·obtain ⟨R, hR, kR⟩ := kaL hN [83, 66, 67, 32, 72, 76, 44] hX
  clear l1 l3
  go_enter Tryz.func81, Tryz.ntmps81
  go_upto_region 18 with (first
   | (go_at_call 49; (with_reducible refine (HPa.out _).mono ?_); rintro e wp ⟨rfl, rfl⟩)
   | (go_at_call 39; refine (cY.out _).mono ?_; rintro e w2 ⟨rfl, hb2⟩; have HR2 := z_ (HR.out.below hb2 HR.out.lt); have HB2 := z_ (HB.out.trans (hb2.mono HB.out.size)); clear hb2))
  refine M.rg ?_
  refine M.cm 4 (.agg #[.int .i64 s, .int .i64 x, .int .i64 o, .int .i64 d, .int .i64 m, .int .i64 n]) ?_ ?_
  ·intro wz sz
   exact dl (InW.on HR2.out sz)
  go_simp
  refine M.sg [1, 5] 6 ?_
  repeat (go_big_quiet_step (fail))
  refine wpQuiet_nil ?_
  refine M.cm 6 (.string X) ?_ ?_
  ·intro wz sz
   unfold Oper.does
   go_simp
   exact (cX.out wz).mono fun e w' ⟨he, hw⟩ => ⟨_, he, rfl, Save.of_below hw⟩
  go_simp
  refine M.cl 0 ?_
  intro wz sz
  unfold Oper.does
  go_simp
  refine ⟨TB w2 wz.heap.size #[.string { data := #[83, 66, 67, 32, 72, 76, 44] }, .string { data := #[65, 68, 67, 32, 72, 76, 44] }], TB.new sz, TB.closed, fun _ h => h.1, ?_⟩
  clear sz
  generalize wz.heap.size = N
  go_simp
  refine M.sg [2] 3 ?_
  repeat (go_big_quiet_step (fail))
  refine wpQuiet_nil ?_
  refine M.cl 3 ?_
  intro wy sy
  have hcell := sy.cell 0 _ rfl
  unfold Oper.does
  go_simp
  refine ⟨M.Base w2, sy.1, M.closed_base _, fun _ h => h, ?_⟩
  clear hcell sy
  go_simp
  refine M.sg [7, 8] 0 ?_
  repeat (go_big_quiet_step (fail))
  refine wpQuiet_nil ?_
  refine M.en ?_
  intro wc sc
  go_wp2_with fail
  go_ret
  exact ⟨by rw [hR.out]; rfl, HB2.out.trans (sc.2.mono HB2.out.size)⟩
 ·obtain ⟨R, hR, kR⟩ := kaL hN [65, 68, 67, 32, 72, 76, 44] hX
  clear l1 l3
  go_enter Tryz.func81, Tryz.ntmps81
  go_upto_region 18 with (first
   | (go_at_call 49; (with_reducible refine (HPa.out _).mono ?_); rintro e wp ⟨rfl, rfl⟩)
   | (go_at_call 39; refine (cY.out _).mono ?_; rintro e w2 ⟨rfl, hb2⟩; have HR2 := z_ (HR.out.below hb2 HR.out.lt); have HB2 := z_ (HB.out.trans (hb2.mono HB.out.size)); clear hb2))
  refine M.rg ?_
  refine M.cm 4 (.agg #[.int .i64 s, .int .i64 x, .int .i64 o, .int .i64 d, .int .i64 m, .int .i64 n]) ?_ ?_
  ·intro wz sz
   exact dl (InW.on HR2.out sz)
  go_simp
  refine M.sg [1, 5] 6 ?_
  repeat (go_big_quiet_step (fail))
  refine wpQuiet_nil ?_
  refine M.cm 6 (.string X) ?_ ?_
  ·intro wz sz
   unfold Oper.does
   go_simp
   exact (cX.out wz).mono fun e w' ⟨he, hw⟩ => ⟨_, he, rfl, Save.of_below hw⟩
  go_simp
  refine M.cl 0 ?_
  intro wz sz
  unfold Oper.does
  go_simp
  refine ⟨TB w2 wz.heap.size #[.string { data := #[83, 66, 67, 32, 72, 76, 44] }, .string { data := #[65, 68, 67, 32, 72, 76, 44] }], TB.new sz, TB.closed, fun _ h => h.1, ?_⟩
  clear sz
  generalize wz.heap.size = N
  go_simp
  refine M.sg [2] 3 ?_
  repeat (go_big_quiet_step (fail))
  refine wpQuiet_nil ?_
  refine M.cl 3 ?_
  intro wy sy
  have hcell := sy.cell 1 _ rfl
  unfold Oper.does
  go_simp
  refine ⟨M.Base w2, sy.1, M.closed_base _, fun _ h => h, ?_⟩
  clear hcell sy
  go_simp
  refine M.sg [7, 8] 0 ?_
  repeat (go_big_quiet_step (fail))
  refine wpQuiet_nil ?_
  refine M.en ?_
  intro wc sc
  go_wp2_with fail
  go_ret
  exact ⟨by rw [hR.out]; rfl, HB2.out.trans (sc.2.mono HB2.out.size)⟩

set_option maxHeartbeats 16000000 in
theorem say_more3 (i : In) (h0 : 0 ≤ i.x) (h1 : i.x < 3) (hN : Nums i.d i.m) (o0 : 0 ≤ i.o) (o1 : i.o < 256) (hz : i.o % 8 = 3) (ht : i.o / 64 ≠ 2) (hm : 0 ≤ i.m) : SayR 81 #[i.val] i.d i.m (moreT i.s i.x i.o (i.o / 8 % 8) 3) := by
 intro w
 obtain ⟨s, x, o, d, m, n⟩ := i
 simp only at h0 h1 hN o0 o1 hz ht hm ⊢
 obtain ⟨w1, hw1⟩ : ∃ w1, w.alloc (inO ⟨s, x, o, d, m, n⟩) = w1 := ⟨_, rfl⟩
 have hb1 : Below w.heap.size w w1 := hw1 ▸ (Below.refl _ _).alloc (Nat.le_refl _) _
 have hr : InW w1 w.heap.size ⟨s, x, o, d, m, n⟩ := hw1 ▸ InW.laid w _
 have go := hr.go
 have gm := hr.gm
 have HR := z_ hr
 have HB := z_ hb1
 have hPa := fun w => r9_parts o w o0 o1
 have hq : o / 8 % 2 = o / 8 % 8 % 2 := by omega
 obtain ⟨y, hy⟩ : ∃ y, o / 8 % 8 = y := ⟨_, rfl⟩
 have y0 : 0 ≤ y := by omega
 have y1 : y < 8 := by omega
 rw [hy] at hq
 simp only [hq, hy, hz] at hPa ⊢
 obtain ⟨tq, htq⟩ : ∃ tq, o / 64 = tq := ⟨_, rfl⟩
 simp only [htq] at hPa ht
 have ht2 : (tq == 2) = false := beq_eq_false_iff_ne.2 ht
 have HPa := z_ hPa
 unfold inO at hw1
 rw [in_val]
 simp only at hw1 go gm ⊢
 unfold moreT
 clear hb1 hr hPa hq hy htq hz ht
 obtain ⟨Y, hY, cY⟩ := (say_digits d m hm hN.2.2.2).named
 obtain ⟨P1, hP1, kP1⟩ := kaL hN [40] hY
 obtain ⟨N2, hN2, kN2⟩ := kaR hN [41] hP1
 have l3 : ((tk [40] ++ [256]) ++ tk [41]).length ≤ 3 := by decide
 rw [if_neg (by decide), if_neg (by decide), if_neg (by decide), if_pos rfl]
 have l1 := pairRL x (y / 2) false
 obtain ⟨X, hX, cX⟩ := (say_pair ⟨s, x, o, d, m, n⟩ (y / 2) false h0 h1 (by omega) (by omega)).named
 rw [in_val] at cX
 by_cases hq : y % 2 = 0
 ·rw [if_pos hq]
  obtain ⟨A1, hA1, kA1⟩ := kaL hN [76, 68, 32] hN2
  obtain ⟨A2, hA2, kA2⟩ := kaR hN [44] hA1
  obtain ⟨R, hR, kR⟩ := kaX hN hA2 hX
  have q0 : (y % 2 == 0) = true := by rw [hq]; rfl
  clear l1 l3
  go_enter Tryz.func81, Tryz.ntmps81
  go_wp2_with (first
   | (go_at_call 49; (with_reducible refine (HPa.out _).mono ?_); rintro e wp ⟨rfl, rfl⟩)
   | (go_at_call 39; refine (cY.out _).mono ?_; rintro e w2 ⟨rfl, hb2⟩; have HR2 := z_ (HR.out.below hb2 HR.out.lt); have HB2 := z_ (HB.out.trans (hb2.mono HB.out.size)); clear hb2)
   | (refine lr w.heap.size rfl rfl rfl HR2.out ?_)
   | (go_at_call 125; refine (cX.out _).mono ?_; rintro e w3 ⟨rfl, hb3⟩))
  go_ret
  exact ⟨by rw [hR.out]; rfl, HB2.out.trans (hb3.mono HB2.out.size)⟩
 ·rw [if_neg hq]
  obtain ⟨A1, hA1, kA1⟩ := kaL hN [76, 68, 32] hX
  obtain ⟨A2, hA2, kA2⟩ := kaR hN [44] hA1
  obtain ⟨R, hR, kR⟩ := kaX hN hA2 hN2
  have q0 : (y % 2 == 0) = false := beq_eq_false_iff_ne.2 hq
  clear l1 l3
  go_enter Tryz.func81, Tryz.ntmps81
  go_wp2_with (first
   | (go_at_call 49; (with_reducible refine (HPa.out _).mono ?_); rintro e wp ⟨rfl, rfl⟩)
   | (go_at_call 39; refine (cY.out _).mono ?_; rintro e w2 ⟨rfl, hb2⟩; have HR2 := z_ (HR.out.below hb2 HR.out.lt); have HB2 := z_ (HB.out.trans (hb2.mono HB.out.size)); clear hb2)
   | (refine lr w.heap.size rfl rfl rfl HR2.out ?_)
   | (go_at_call 125; refine (cX.out _).mono ?_; rintro e w3 ⟨rfl, hb3⟩))
  go_ret
  exact ⟨by rw [hR.out]; rfl, HB2.out.trans (hb3.mono HB2.out.size)⟩

set_option maxHeartbeats 16000000 in
theorem say_more4 (i : In) (h0 : 0 ≤ i.x) (h1 : i.x < 3) (hN : Nums i.d i.m) (o0 : 0 ≤ i.o) (o1 : i.o < 256) (hz : i.o % 8 = 4) (ht : i.o / 64 ≠ 2) (hm : 0 ≤ i.m) : SayR 81 #[i.val] i.d i.m (moreT i.s i.x i.o (i.o / 8 % 8) 4) := by
 intro w
 obtain ⟨s, x, o, d, m, n⟩ := i
 simp only at h0 h1 hN o0 o1 hz ht hm ⊢
 obtain ⟨w1, hw1⟩ : ∃ w1, w.alloc (inO ⟨s, x, o, d, m, n⟩) = w1 := ⟨_, rfl⟩
 have hb1 : Below w.heap.size w w1 := hw1 ▸ (Below.refl _ _).alloc (Nat.le_refl _) _
 have hr : InW w1 w.heap.size ⟨s, x, o, d, m, n⟩ := hw1 ▸ InW.laid w _
 have go := hr.go
 have gm := hr.gm
 have HR := z_ hr
 have HB := z_ hb1
 have hPa := fun w => r9_parts o w o0 o1
 have hq : o / 8 % 2 = o / 8 % 8 % 2 := by omega
 obtain ⟨y, hy⟩ : ∃ y, o / 8 % 8 = y := ⟨_, rfl⟩
 have y0 : 0 ≤ y := by omega
 have y1 : y < 8 := by omega
 rw [hy] at hq
 simp only [hq, hy, hz] at hPa ⊢
 obtain ⟨tq, htq⟩ : ∃ tq, o / 64 = tq := ⟨_, rfl⟩
 simp only [htq] at hPa ht
 have ht2 : (tq == 2) = false := beq_eq_false_iff_ne.2 ht
 have HPa := z_ hPa
 unfold inO at hw1
 rw [in_val]
 simp only at hw1 go gm ⊢
 unfold moreT
 clear hb1 hr hPa hq hy htq hz ht
 obtain ⟨Y, hY, cY⟩ := (say_digits d m hm hN.2.2.2).named
 obtain ⟨P1, hP1, kP1⟩ := kaL hN [40] hY
 obtain ⟨N2, hN2, kN2⟩ := kaR hN [41] hP1
 have l3 : ((tk [40] ++ [256]) ++ tk [41]).length ≤ 3 := by decide
 rw [if_neg (by decide), if_neg (by decide), if_neg (by decide), if_neg (by decide), if_pos rfl]
 rw [← rs_tk]
 clear l3
 go_enter Tryz.func81, Tryz.ntmps81
 go_wp2_with (first
  | (go_at_call 49; (with_reducible refine (HPa.out _).mono ?_); rintro e wp ⟨rfl, rfl⟩)
  | (go_at_call 39; refine (cY.out _).mono ?_; rintro e w2 ⟨rfl, hb2⟩; have HR2 := z_ (HR.out.below hb2 HR.out.lt); have HB2 := z_ (HB.out.trans (hb2.mono HB.out.size)); clear hb2))
 go_ret
 exact ⟨rfl, HB2.out⟩

set_option maxHeartbeats 16000000 in
theorem say_more5 (i : In) (h0 : 0 ≤ i.x) (h1 : i.x < 3) (hN : Nums i.d i.m) (o0 : 0 ≤ i.o) (o1 : i.o < 256) (hz : i.o % 8 = 5) (ht : i.o / 64 ≠ 2) (hm : 0 ≤ i.m) : SayR 81 #[i.val] i.d i.m (moreT i.s i.x i.o (i.o / 8 % 8) 5) := by
 intro w
 obtain ⟨s, x, o, d, m, n⟩ := i
 simp only at h0 h1 hN o0 o1 hz ht hm ⊢
 obtain ⟨w1, hw1⟩ : ∃ w1, w.alloc (inO ⟨s, x, o, d, m, n⟩) = w1 := ⟨_, rfl⟩
 have hb1 : Below w.heap.size w w1 := hw1 ▸ (Below.refl _ _).alloc (Nat.le_refl _) _
 have hr : InW w1 w.heap.size ⟨s, x, o, d, m, n⟩ := hw1 ▸ InW.laid w _
 have go := hr.go
 have gm := hr.gm
 have HR := z_ hr
 have HB := z_ hb1
 have hPa := fun w => r9_parts o w o0 o1
 have hq : o / 8 % 2 = o / 8 % 8 % 2 := by omega
 obtain ⟨y, hy⟩ : ∃ y, o / 8 % 8 = y := ⟨_, rfl⟩
 have y0 : 0 ≤ y := by omega
 have y1 : y < 8 := by omega
 rw [hy] at hq
 simp only [hq, hy, hz] at hPa ⊢
 obtain ⟨tq, htq⟩ : ∃ tq, o / 64 = tq := ⟨_, rfl⟩
 simp only [htq] at hPa ht
 have ht2 : (tq == 2) = false := beq_eq_false_iff_ne.2 ht
 have HPa := z_ hPa
 unfold inO at hw1
 rw [in_val]
 simp only at hw1 go gm ⊢
 unfold moreT
 clear hb1 hr hPa hq hy htq hz ht
 obtain ⟨Y, hY, cY⟩ := (say_digits d m hm hN.2.2.2).named
 obtain ⟨P1, hP1, kP1⟩ := kaL hN [40] hY
 obtain ⟨N2, hN2, kN2⟩ := kaR hN [41] hP1
 have l3 : ((tk [40] ++ [256]) ++ tk [41]).length ≤ 3 := by decide
 rw [if_neg (by decide), if_neg (by decide), if_neg (by decide), if_neg (by decide), if_neg (by decide), if_pos rfl]
 clear l3
 have hyc : y = 0 ∨ y = 1 ∨ y = 2 ∨ y = 3 ∨ y = 4 ∨ y = 5 ∨ y = 6 ∨ y = 7 := by omega
 rcases hyc with rfl | rfl | rfl | rfl | rfl | rfl | rfl | rfl
 ·have hmn : (min 1 0 : Int) = 0 := by decide
  rw [hmn, ← rs_tk]
  go_enter Tryz.func81, Tryz.ntmps81
  go_wp2_with (first
   | (go_at_call 49; (with_reducible refine (HPa.out _).mono ?_); rintro e wp ⟨rfl, rfl⟩)
   | (go_at_call 39; refine (cY.out _).mono ?_; rintro e w2 ⟨rfl, hb2⟩; have HR2 := z_ (HR.out.below hb2 HR.out.lt); have HB2 := z_ (HB.out.trans (hb2.mono HB.out.size)); clear hb2))
  go_ret
  exact ⟨rfl, HB2.out.alloc HB2.out.size _⟩
 ·have hmn : (min 1 1 : Int) = 1 := by decide
  rw [hmn, ← rs_tk]
  go_enter Tryz.func81, Tryz.ntmps81
  go_wp2_with (first
   | (go_at_call 49; (with_reducible refine (HPa.out _).mono ?_); rintro e wp ⟨rfl, rfl⟩)
   | (go_at_call 39; refine (cY.out _).mono ?_; rintro e w2 ⟨rfl, hb2⟩; have HR2 := z_ (HR.out.below hb2 HR.out.lt); have HB2 := z_ (HB.out.trans (hb2.mono HB.out.size)); clear hb2))
  go_ret
  exact ⟨rfl, HB2.out.alloc HB2.out.size _⟩
 ·have hmn : (min 1 2 : Int) = 1 := by decide
  rw [hmn, ← rs_tk]
  go_enter Tryz.func81, Tryz.ntmps81
  go_wp2_with (first
   | (go_at_call 49; (with_reducible refine (HPa.out _).mono ?_); rintro e wp ⟨rfl, rfl⟩)
   | (go_at_call 39; refine (cY.out _).mono ?_; rintro e w2 ⟨rfl, hb2⟩; have HR2 := z_ (HR.out.below hb2 HR.out.lt); have HB2 := z_ (HB.out.trans (hb2.mono HB.out.size)); clear hb2))
  go_ret
  exact ⟨rfl, HB2.out.alloc HB2.out.size _⟩
 ·have hmn : (min 1 3 : Int) = 1 := by decide
  rw [hmn, ← rs_tk]
  go_enter Tryz.func81, Tryz.ntmps81
  go_wp2_with (first
   | (go_at_call 49; (with_reducible refine (HPa.out _).mono ?_); rintro e wp ⟨rfl, rfl⟩)
   | (go_at_call 39; refine (cY.out _).mono ?_; rintro e w2 ⟨rfl, hb2⟩; have HR2 := z_ (HR.out.below hb2 HR.out.lt); have HB2 := z_ (HB.out.trans (hb2.mono HB.out.size)); clear hb2))
  go_ret
  exact ⟨rfl, HB2.out.alloc HB2.out.size _⟩
 ·have hmn : (min 1 4 : Int) = 1 := by decide
  rw [hmn, ← rs_tk]
  go_enter Tryz.func81, Tryz.ntmps81
  go_wp2_with (first
   | (go_at_call 49; (with_reducible refine (HPa.out _).mono ?_); rintro e wp ⟨rfl, rfl⟩)
   | (go_at_call 39; refine (cY.out _).mono ?_; rintro e w2 ⟨rfl, hb2⟩; have HR2 := z_ (HR.out.below hb2 HR.out.lt); have HB2 := z_ (HB.out.trans (hb2.mono HB.out.size)); clear hb2))
  go_ret
  exact ⟨rfl, HB2.out.alloc HB2.out.size _⟩
 ·have hmn : (min 1 5 : Int) = 1 := by decide
  rw [hmn, ← rs_tk]
  go_enter Tryz.func81, Tryz.ntmps81
  go_wp2_with (first
   | (go_at_call 49; (with_reducible refine (HPa.out _).mono ?_); rintro e wp ⟨rfl, rfl⟩)
   | (go_at_call 39; refine (cY.out _).mono ?_; rintro e w2 ⟨rfl, hb2⟩; have HR2 := z_ (HR.out.below hb2 HR.out.lt); have HB2 := z_ (HB.out.trans (hb2.mono HB.out.size)); clear hb2))
  go_ret
  exact ⟨rfl, HB2.out.alloc HB2.out.size _⟩
 ·have hmn : (min 1 6 : Int) = 1 := by decide
  rw [hmn, ← rs_tk]
  go_enter Tryz.func81, Tryz.ntmps81
  go_wp2_with (first
   | (go_at_call 49; (with_reducible refine (HPa.out _).mono ?_); rintro e wp ⟨rfl, rfl⟩)
   | (go_at_call 39; refine (cY.out _).mono ?_; rintro e w2 ⟨rfl, hb2⟩; have HR2 := z_ (HR.out.below hb2 HR.out.lt); have HB2 := z_ (HB.out.trans (hb2.mono HB.out.size)); clear hb2))
  go_ret
  exact ⟨rfl, HB2.out.alloc HB2.out.size _⟩
 ·have hmn : (min 1 7 : Int) = 1 := by decide
  rw [hmn, ← rs_tk]
  go_enter Tryz.func81, Tryz.ntmps81
  go_wp2_with (first
   | (go_at_call 49; (with_reducible refine (HPa.out _).mono ?_); rintro e wp ⟨rfl, rfl⟩)
   | (go_at_call 39; refine (cY.out _).mono ?_; rintro e w2 ⟨rfl, hb2⟩; have HR2 := z_ (HR.out.below hb2 HR.out.lt); have HB2 := z_ (HB.out.trans (hb2.mono HB.out.size)); clear hb2))
  go_ret
  exact ⟨rfl, HB2.out.alloc HB2.out.size _⟩

set_option maxHeartbeats 16000000 in
theorem say_more6 (i : In) (h0 : 0 ≤ i.x) (h1 : i.x < 3) (hN : Nums i.d i.m) (o0 : 0 ≤ i.o) (o1 : i.o < 256) (hz : i.o % 8 = 6) (ht : i.o / 64 ≠ 2) (hm : 0 ≤ i.m) : SayR 81 #[i.val] i.d i.m (moreT i.s i.x i.o (i.o / 8 % 8) 6) := by
 intro w
 obtain ⟨s, x, o, d, m, n⟩ := i
 simp only at h0 h1 hN o0 o1 hz ht hm ⊢
 obtain ⟨w1, hw1⟩ : ∃ w1, w.alloc (inO ⟨s, x, o, d, m, n⟩) = w1 := ⟨_, rfl⟩
 have hb1 : Below w.heap.size w w1 := hw1 ▸ (Below.refl _ _).alloc (Nat.le_refl _) _
 have hr : InW w1 w.heap.size ⟨s, x, o, d, m, n⟩ := hw1 ▸ InW.laid w _
 have go := hr.go
 have gm := hr.gm
 have HR := z_ hr
 have HB := z_ hb1
 have hPa := fun w => r9_parts o w o0 o1
 have hq : o / 8 % 2 = o / 8 % 8 % 2 := by omega
 obtain ⟨y, hy⟩ : ∃ y, o / 8 % 8 = y := ⟨_, rfl⟩
 have y0 : 0 ≤ y := by omega
 have y1 : y < 8 := by omega
 rw [hy] at hq
 simp only [hq, hy, hz] at hPa ⊢
 obtain ⟨tq, htq⟩ : ∃ tq, o / 64 = tq := ⟨_, rfl⟩
 simp only [htq] at hPa ht
 have ht2 : (tq == 2) = false := beq_eq_false_iff_ne.2 ht
 have HPa := z_ hPa
 unfold inO at hw1
 rw [in_val]
 simp only at hw1 go gm ⊢
 unfold moreT
 clear hb1 hr hPa hq hy htq hz ht
 obtain ⟨Y, hY, cY⟩ := (say_digits d m hm hN.2.2.2).named
 obtain ⟨P1, hP1, kP1⟩ := kaL hN [40] hY
 obtain ⟨N2, hN2, kN2⟩ := kaR hN [41] hP1
 have l3 : ((tk [40] ++ [256]) ++ tk [41]).length ≤ 3 := by decide
 rw [if_neg (by decide), if_neg (by decide), if_neg (by decide), if_neg (by decide), if_neg (by decide), if_neg (by decide), if_pos rfl]
 clear l3
 have hyc : y = 0 ∨ y = 1 ∨ y = 2 ∨ y = 3 ∨ y = 4 ∨ y = 5 ∨ y = 6 ∨ y = 7 := by omega
 rcases hyc with rfl | rfl | rfl | rfl | rfl | rfl | rfl | rfl
 ·rw [show tk [73, 77, 32] ++ tk (nth imL (0 % 4)) = tk [73, 77, 32, 48] from rfl, ← rs_tk]
  go_enter Tryz.func81, Tryz.ntmps81
  go_wp2_with (first
   | (go_at_call 49; (with_reducible refine (HPa.out _).mono ?_); rintro e wp ⟨rfl, rfl⟩)
   | (go_at_call 39; refine (cY.out _).mono ?_; rintro e w2 ⟨rfl, hb2⟩; have HR2 := z_ (HR.out.below hb2 HR.out.lt); have HB2 := z_ (HB.out.trans (hb2.mono HB.out.size)); clear hb2))
  go_ret
  exact ⟨rfl, HB2.out.alloc HB2.out.size _⟩
 ·rw [show tk [73, 77, 32] ++ tk (nth imL (1 % 4)) = tk [73, 77, 32, 48] from rfl, ← rs_tk]
  go_enter Tryz.func81, Tryz.ntmps81
  go_wp2_with (first
   | (go_at_call 49; (with_reducible refine (HPa.out _).mono ?_); rintro e wp ⟨rfl, rfl⟩)
   | (go_at_call 39; refine (cY.out _).mono ?_; rintro e w2 ⟨rfl, hb2⟩; have HR2 := z_ (HR.out.below hb2 HR.out.lt); have HB2 := z_ (HB.out.trans (hb2.mono HB.out.size)); clear hb2))
  go_ret
  exact ⟨rfl, HB2.out.alloc HB2.out.size _⟩
 ·rw [show tk [73, 77, 32] ++ tk (nth imL (2 % 4)) = tk [73, 77, 32, 49] from rfl, ← rs_tk]
  go_enter Tryz.func81, Tryz.ntmps81
  go_wp2_with (first
   | (go_at_call 49; (with_reducible refine (HPa.out _).mono ?_); rintro e wp ⟨rfl, rfl⟩)
   | (go_at_call 39; refine (cY.out _).mono ?_; rintro e w2 ⟨rfl, hb2⟩; have HR2 := z_ (HR.out.below hb2 HR.out.lt); have HB2 := z_ (HB.out.trans (hb2.mono HB.out.size)); clear hb2))
  go_ret
  exact ⟨rfl, HB2.out.alloc HB2.out.size _⟩
 ·rw [show tk [73, 77, 32] ++ tk (nth imL (3 % 4)) = tk [73, 77, 32, 50] from rfl, ← rs_tk]
  go_enter Tryz.func81, Tryz.ntmps81
  go_wp2_with (first
   | (go_at_call 49; (with_reducible refine (HPa.out _).mono ?_); rintro e wp ⟨rfl, rfl⟩)
   | (go_at_call 39; refine (cY.out _).mono ?_; rintro e w2 ⟨rfl, hb2⟩; have HR2 := z_ (HR.out.below hb2 HR.out.lt); have HB2 := z_ (HB.out.trans (hb2.mono HB.out.size)); clear hb2))
  go_ret
  exact ⟨rfl, HB2.out.alloc HB2.out.size _⟩
 ·rw [show tk [73, 77, 32] ++ tk (nth imL (4 % 4)) = tk [73, 77, 32, 48] from rfl, ← rs_tk]
  go_enter Tryz.func81, Tryz.ntmps81
  go_wp2_with (first
   | (go_at_call 49; (with_reducible refine (HPa.out _).mono ?_); rintro e wp ⟨rfl, rfl⟩)
   | (go_at_call 39; refine (cY.out _).mono ?_; rintro e w2 ⟨rfl, hb2⟩; have HR2 := z_ (HR.out.below hb2 HR.out.lt); have HB2 := z_ (HB.out.trans (hb2.mono HB.out.size)); clear hb2))
  go_ret
  exact ⟨rfl, HB2.out.alloc HB2.out.size _⟩
 ·rw [show tk [73, 77, 32] ++ tk (nth imL (5 % 4)) = tk [73, 77, 32, 48] from rfl, ← rs_tk]
  go_enter Tryz.func81, Tryz.ntmps81
  go_wp2_with (first
   | (go_at_call 49; (with_reducible refine (HPa.out _).mono ?_); rintro e wp ⟨rfl, rfl⟩)
   | (go_at_call 39; refine (cY.out _).mono ?_; rintro e w2 ⟨rfl, hb2⟩; have HR2 := z_ (HR.out.below hb2 HR.out.lt); have HB2 := z_ (HB.out.trans (hb2.mono HB.out.size)); clear hb2))
  go_ret
  exact ⟨rfl, HB2.out.alloc HB2.out.size _⟩
 ·rw [show tk [73, 77, 32] ++ tk (nth imL (6 % 4)) = tk [73, 77, 32, 49] from rfl, ← rs_tk]
  go_enter Tryz.func81, Tryz.ntmps81
  go_wp2_with (first
   | (go_at_call 49; (with_reducible refine (HPa.out _).mono ?_); rintro e wp ⟨rfl, rfl⟩)
   | (go_at_call 39; refine (cY.out _).mono ?_; rintro e w2 ⟨rfl, hb2⟩; have HR2 := z_ (HR.out.below hb2 HR.out.lt); have HB2 := z_ (HB.out.trans (hb2.mono HB.out.size)); clear hb2))
  go_ret
  exact ⟨rfl, HB2.out.alloc HB2.out.size _⟩
 ·rw [show tk [73, 77, 32] ++ tk (nth imL (7 % 4)) = tk [73, 77, 32, 50] from rfl, ← rs_tk]
  go_enter Tryz.func81, Tryz.ntmps81
  go_wp2_with (first
   | (go_at_call 49; (with_reducible refine (HPa.out _).mono ?_); rintro e wp ⟨rfl, rfl⟩)
   | (go_at_call 39; refine (cY.out _).mono ?_; rintro e w2 ⟨rfl, hb2⟩; have HR2 := z_ (HR.out.below hb2 HR.out.lt); have HB2 := z_ (HB.out.trans (hb2.mono HB.out.size)); clear hb2))
  go_ret
  exact ⟨rfl, HB2.out.alloc HB2.out.size _⟩

set_option maxHeartbeats 16000000 in
theorem say_more7 (i : In) (h0 : 0 ≤ i.x) (h1 : i.x < 3) (hN : Nums i.d i.m) (o0 : 0 ≤ i.o) (o1 : i.o < 256) (hz : i.o % 8 = 7) (ht : i.o / 64 ≠ 2) (hm : 0 ≤ i.m) : SayR 81 #[i.val] i.d i.m (moreT i.s i.x i.o (i.o / 8 % 8) 7) := by
 intro w
 obtain ⟨s, x, o, d, m, n⟩ := i
 simp only at h0 h1 hN o0 o1 hz ht hm ⊢
 obtain ⟨w1, hw1⟩ : ∃ w1, w.alloc (inO ⟨s, x, o, d, m, n⟩) = w1 := ⟨_, rfl⟩
 have hb1 : Below w.heap.size w w1 := hw1 ▸ (Below.refl _ _).alloc (Nat.le_refl _) _
 have hr : InW w1 w.heap.size ⟨s, x, o, d, m, n⟩ := hw1 ▸ InW.laid w _
 have go := hr.go
 have gm := hr.gm
 have HR := z_ hr
 have HB := z_ hb1
 have hPa := fun w => r9_parts o w o0 o1
 have hq : o / 8 % 2 = o / 8 % 8 % 2 := by omega
 obtain ⟨y, hy⟩ : ∃ y, o / 8 % 8 = y := ⟨_, rfl⟩
 have y0 : 0 ≤ y := by omega
 have y1 : y < 8 := by omega
 rw [hy] at hq
 simp only [hq, hy, hz] at hPa ⊢
 obtain ⟨tq, htq⟩ : ∃ tq, o / 64 = tq := ⟨_, rfl⟩
 simp only [htq] at hPa ht
 have ht2 : (tq == 2) = false := beq_eq_false_iff_ne.2 ht
 have HPa := z_ hPa
 unfold inO at hw1
 rw [in_val]
 simp only at hw1 go gm ⊢
 unfold moreT
 clear hb1 hr hPa hq hy htq hz ht
 obtain ⟨Y, hY, cY⟩ := (say_digits d m hm hN.2.2.2).named
 obtain ⟨P1, hP1, kP1⟩ := kaL hN [40] hY
 obtain ⟨N2, hN2, kN2⟩ := kaR hN [41] hP1
 have l3 : ((tk [40] ++ [256]) ++ tk [41]).length ≤ 3 := by decide
 rw [if_neg (by decide), if_neg (by decide), if_neg (by decide), if_neg (by decide), if_neg (by decide), if_neg (by decide), if_neg (by decide)]
 rw [← rs_tk]
 clear l3
 have hyc : y = 0 ∨ y = 1 ∨ y = 2 ∨ y = 3 ∨ y = 4 ∨ y = 5 ∨ y = 6 ∨ y = 7 := by omega
 rcases hyc with rfl | rfl | rfl | rfl | rfl | rfl | rfl | rfl
 all_goals
  go_enter Tryz.func81, Tryz.ntmps81
  go_wp2_with (first
   | (go_at_call 49; (with_reducible refine (HPa.out _).mono ?_); rintro e wp ⟨rfl, rfl⟩)
   | (go_at_call 39; refine (cY.out _).mono ?_; rintro e w2 ⟨rfl, hb2⟩; have HR2 := z_ (HR.out.below hb2 HR.out.lt); have HB2 := z_ (HB.out.trans (hb2.mono HB.out.size)); clear hb2))
  go_ret
  exact ⟨rfl, HB2.out.alloc HB2.out.size _⟩

set_option maxHeartbeats 16000000 in
theorem say_blk (i : In) (h0 : 0 ≤ i.x) (h1 : i.x < 3) (hN : Nums i.d i.m) (o0 : 0 ≤ i.o) (o1 : i.o < 256) (ht : i.o / 64 = 2) (hy4 : 4 ≤ i.o / 8 % 8) (hz4 : i.o % 8 < 4) : SayR 81 #[i.val] i.d i.m (blkT (i.o / 8 % 8) (i.o % 8)) := by
 intro w
 obtain ⟨s, x, o, d, m, n⟩ := i
 simp only at h0 h1 hN o0 o1 ht hy4 hz4 ⊢
 obtain ⟨w1, hw1⟩ : ∃ w1, w.alloc (inO ⟨s, x, o, d, m, n⟩) = w1 := ⟨_, rfl⟩
 have hb1 : Below w.heap.size w w1 := hw1 ▸ (Below.refl _ _).alloc (Nat.le_refl _) _
 have hr : InW w1 w.heap.size ⟨s, x, o, d, m, n⟩ := hw1 ▸ InW.laid w _
 have go := hr.go
 have gm := hr.gm
 have HR := z_ hr
 have HB := z_ hb1
 have hPa := fun w => r9_parts o w o0 o1
 have hq : o / 8 % 2 = o / 8 % 8 % 2 := by omega
 obtain ⟨y, hy⟩ : ∃ y, o / 8 % 8 = y := ⟨_, rfl⟩
 have y0 : 0 ≤ y := by omega
 have y1 : y < 8 := by omega
 rw [hy] at hq
 rw [hy] at hy4
 obtain ⟨z, hz⟩ : ∃ z, o % 8 = z := ⟨_, rfl⟩
 have z0 : 0 ≤ z := by omega
 rw [hz] at hz4
 simp only [hq, hy, hz, ht] at hPa ⊢
 have HPa := z_ hPa
 unfold inO at hw1
 rw [in_val]
 simp only at hw1 go gm ⊢
 unfold blkT
 clear hb1 hr hPa hq hy ht hz
 have hyc : y = 4 ∨ y = 5 ∨ y = 6 ∨ y = 7 := by omega
 have hzc : z = 0 ∨ z = 1 ∨ z = 2 ∨ z = 3 := by omega
 rcases hyc with rfl | rfl | rfl | rfl <;> rcases hzc with rfl | rfl | rfl | rfl
 ·rw [if_neg (by decide), show tk (nth blkW 0) ++ tk (nth blkS (4 - 4)) = tk [76, 68, 73] from rfl, ← rs_tk]
  go_enter Tryz.func81, Tryz.ntmps81
  go_wp2_with (first
   | (go_at_call 49; (with_reducible refine (HPa.out _).mono ?_); rintro e wp ⟨rfl, rfl⟩)
   | fail)
  go_ret
  exact ⟨rfl, (HB.out.alloc HB.out.size _).alloc (by have := HB.out.size; simp; omega) _⟩
 ·rw [if_neg (by decide), show tk (nth blkW 1) ++ tk (nth blkS (4 - 4)) = tk [67, 80, 73] from rfl, ← rs_tk]
  go_enter Tryz.func81, Tryz.ntmps81
  go_wp2_with (first
   | (go_at_call 49; (with_reducible refine (HPa.out _).mono ?_); rintro e wp ⟨rfl, rfl⟩)
   | fail)
  go_ret
  exact ⟨rfl, (HB.out.alloc HB.out.size _).alloc (by have := HB.out.size; simp; omega) _⟩
 ·rw [if_neg (by decide), show tk (nth blkW 2) ++ tk (nth blkS (4 - 4)) = tk [73, 78, 73] from rfl, ← rs_tk]
  go_enter Tryz.func81, Tryz.ntmps81
  go_wp2_with (first
   | (go_at_call 49; (with_reducible refine (HPa.out _).mono ?_); rintro e wp ⟨rfl, rfl⟩)
   | fail)
  go_ret
  exact ⟨rfl, (HB.out.alloc HB.out.size _).alloc (by have := HB.out.size; simp; omega) _⟩
 ·rw [if_pos rfl, ← rs_tk]
  go_enter Tryz.func81, Tryz.ntmps81
  go_wp2_with (first
   | (go_at_call 49; (with_reducible refine (HPa.out _).mono ?_); rintro e wp ⟨rfl, rfl⟩)
   | fail)
  go_ret
  exact ⟨rfl, (HB.out.alloc HB.out.size _).alloc (by have := HB.out.size; simp; omega) _⟩
 ·rw [if_neg (by decide), show tk (nth blkW 0) ++ tk (nth blkS (5 - 4)) = tk [76, 68, 68] from rfl, ← rs_tk]
  go_enter Tryz.func81, Tryz.ntmps81
  go_wp2_with (first
   | (go_at_call 49; (with_reducible refine (HPa.out _).mono ?_); rintro e wp ⟨rfl, rfl⟩)
   | fail)
  go_ret
  exact ⟨rfl, (HB.out.alloc HB.out.size _).alloc (by have := HB.out.size; simp; omega) _⟩
 ·rw [if_neg (by decide), show tk (nth blkW 1) ++ tk (nth blkS (5 - 4)) = tk [67, 80, 68] from rfl, ← rs_tk]
  go_enter Tryz.func81, Tryz.ntmps81
  go_wp2_with (first
   | (go_at_call 49; (with_reducible refine (HPa.out _).mono ?_); rintro e wp ⟨rfl, rfl⟩)
   | fail)
  go_ret
  exact ⟨rfl, (HB.out.alloc HB.out.size _).alloc (by have := HB.out.size; simp; omega) _⟩
 ·rw [if_neg (by decide), show tk (nth blkW 2) ++ tk (nth blkS (5 - 4)) = tk [73, 78, 68] from rfl, ← rs_tk]
  go_enter Tryz.func81, Tryz.ntmps81
  go_wp2_with (first
   | (go_at_call 49; (with_reducible refine (HPa.out _).mono ?_); rintro e wp ⟨rfl, rfl⟩)
   | fail)
  go_ret
  exact ⟨rfl, (HB.out.alloc HB.out.size _).alloc (by have := HB.out.size; simp; omega) _⟩
 ·rw [if_pos rfl, ← rs_tk]
  go_enter Tryz.func81, Tryz.ntmps81
  go_wp2_with (first
   | (go_at_call 49; (with_reducible refine (HPa.out _).mono ?_); rintro e wp ⟨rfl, rfl⟩)
   | fail)
  go_ret
  exact ⟨rfl, (HB.out.alloc HB.out.size _).alloc (by have := HB.out.size; simp; omega) _⟩
 ·rw [if_neg (by decide), show tk (nth blkW 0) ++ tk (nth blkS (6 - 4)) = tk [76, 68, 73, 82] from rfl, ← rs_tk]
  go_enter Tryz.func81, Tryz.ntmps81
  go_wp2_with (first
   | (go_at_call 49; (with_reducible refine (HPa.out _).mono ?_); rintro e wp ⟨rfl, rfl⟩)
   | fail)
  go_ret
  exact ⟨rfl, (HB.out.alloc HB.out.size _).alloc (by have := HB.out.size; simp; omega) _⟩
 ·rw [if_neg (by decide), show tk (nth blkW 1) ++ tk (nth blkS (6 - 4)) = tk [67, 80, 73, 82] from rfl, ← rs_tk]
  go_enter Tryz.func81, Tryz.ntmps81
  go_wp2_with (first
   | (go_at_call 49; (with_reducible refine (HPa.out _).mono ?_); rintro e wp ⟨rfl, rfl⟩)
   | fail)
  go_ret
  exact ⟨rfl, (HB.out.alloc HB.out.size _).alloc (by have := HB.out.size; simp; omega) _⟩
 ·rw [if_neg (by decide), show tk (nth blkW 2) ++ tk (nth blkS (6 - 4)) = tk [73, 78, 73, 82] from rfl, ← rs_tk]
  go_enter Tryz.func81, Tryz.ntmps81
  go_wp2_with (first
   | (go_at_call 49; (with_reducible refine (HPa.out _).mono ?_); rintro e wp ⟨rfl, rfl⟩)
   | fail)
  go_ret
  exact ⟨rfl, (HB.out.alloc HB.out.size _).alloc (by have := HB.out.size; simp; omega) _⟩
 ·rw [if_pos rfl, ← rs_tk]
  go_enter Tryz.func81, Tryz.ntmps81
  go_wp2_with (first
   | (go_at_call 49; (with_reducible refine (HPa.out _).mono ?_); rintro e wp ⟨rfl, rfl⟩)
   | fail)
  go_ret
  exact ⟨rfl, (HB.out.alloc HB.out.size _).alloc (by have := HB.out.size; simp; omega) _⟩
 ·rw [if_neg (by decide), show tk (nth blkW 0) ++ tk (nth blkS (7 - 4)) = tk [76, 68, 68, 82] from rfl, ← rs_tk]
  go_enter Tryz.func81, Tryz.ntmps81
  go_wp2_with (first
   | (go_at_call 49; (with_reducible refine (HPa.out _).mono ?_); rintro e wp ⟨rfl, rfl⟩)
   | fail)
  go_ret
  exact ⟨rfl, (HB.out.alloc HB.out.size _).alloc (by have := HB.out.size; simp; omega) _⟩
 ·rw [if_neg (by decide), show tk (nth blkW 1) ++ tk (nth blkS (7 - 4)) = tk [67, 80, 68, 82] from rfl, ← rs_tk]
  go_enter Tryz.func81, Tryz.ntmps81
  go_wp2_with (first
   | (go_at_call 49; (with_reducible refine (HPa.out _).mono ?_); rintro e wp ⟨rfl, rfl⟩)
   | fail)
  go_ret
  exact ⟨rfl, (HB.out.alloc HB.out.size _).alloc (by have := HB.out.size; simp; omega) _⟩
 ·rw [if_neg (by decide), show tk (nth blkW 2) ++ tk (nth blkS (7 - 4)) = tk [73, 78, 68, 82] from rfl, ← rs_tk]
  go_enter Tryz.func81, Tryz.ntmps81
  go_wp2_with (first
   | (go_at_call 49; (with_reducible refine (HPa.out _).mono ?_); rintro e wp ⟨rfl, rfl⟩)
   | fail)
  go_ret
  exact ⟨rfl, (HB.out.alloc HB.out.size _).alloc (by have := HB.out.size; simp; omega) _⟩
 ·rw [if_pos rfl, ← rs_tk]
  go_enter Tryz.func81, Tryz.ntmps81
  go_wp2_with (first
   | (go_at_call 49; (with_reducible refine (HPa.out _).mono ?_); rintro e wp ⟨rfl, rfl⟩)
   | fail)
  go_ret
  exact ⟨rfl, (HB.out.alloc HB.out.size _).alloc (by have := HB.out.size; simp; omega) _⟩

def moreR (s x o : Int) : List Nat := if o / 64 = 2 then blkT (o / 8 % 8) (o % 8) else moreT s x o (o / 8 % 8) (o % 8)
theorem say_more (i : In) (h0 : 0 ≤ i.x) (h1 : i.x < 3) (hN : Nums i.d i.m) (o0 : 0 ≤ i.o) (o1 : i.o < 256) (hm : 0 ≤ i.m) (hb : i.o / 64 = 2 → 4 ≤ i.o / 8 % 8 ∧ i.o % 8 < 4) : SayR 81 #[i.val] i.d i.m (moreR i.s i.x i.o) := by
 unfold moreR
 by_cases ht : i.o / 64 = 2
 ·rw [if_pos ht]
  exact say_blk i h0 h1 hN o0 o1 ht (hb ht).1 (hb ht).2
 ·rw [if_neg ht]
  have hz : i.o % 8 = 0 ∨ i.o % 8 = 1 ∨ i.o % 8 = 2 ∨ i.o % 8 = 3 ∨ i.o % 8 = 4 ∨ i.o % 8 = 5 ∨ i.o % 8 = 6 ∨ i.o % 8 = 7 := by omega
  rcases hz with hz | hz | hz | hz | hz | hz | hz | hz
  ·rw [hz]; exact say_more0 i h0 h1 hN o0 o1 hz ht hm
  ·rw [hz]; exact say_more1 i h0 h1 hN o0 o1 hz ht hm
  ·rw [hz]; exact say_more2 i h0 h1 hN o0 o1 hz ht hm
  ·rw [hz]; exact say_more3 i h0 h1 hN o0 o1 hz ht hm
  ·rw [hz]; exact say_more4 i h0 h1 hN o0 o1 hz ht hm
  ·rw [hz]; exact say_more5 i h0 h1 hN o0 o1 hz ht hm
  ·rw [hz]; exact say_more6 i h0 h1 hN o0 o1 hz ht hm
  ·rw [hz]; exact say_more7 i h0 h1 hN o0 o1 hz ht hm

end Go.Proofs.YtgaihekapakoeaaGreatDoor
