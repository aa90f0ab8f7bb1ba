/-  -/
import Derived.Test.YtgaihekapakoeaaGreatDoorZE6
set_option linter.unusedVariables false
set_option linter.unusedSimpArgs false
namespace Go.Proofs.YtgaihekapakoeaaGreatDoor
open Go.RowKit


set_option maxRecDepth 100000

def bitL : List (List UInt8) := [[66, 73, 84, 32], [82, 69, 83, 32], [83, 69, 84, 32]]
def headR (o : Int) : List Nat := if o / 64 = 0 then tk (nth shiftN (o / 8 % 8)) ++ tk [32] else (tk (nth bitL (o / 64 - 1)) ++ [48 + (o / 8 % 8).toNat]) ++ tk [44]
def plainR (s x o : Int) : List Nat :=
 if s = 1 then headR o ++ byteR s x o (o % 8)
 else if s = 3 then (if o % 8 = 6 then headR o ++ byteR s x o 6 else ((headR o ++ byteR s x o 6) ++ tk [44]) ++ tk (nth nameL8 (o % 8)))
 else if s = 2 then moreR s x o
 else if o / 64 = 0 then lowR s x o (o / 8 % 8) (o % 8)
 else if o / 64 = 1 then (if o = 118 then tk [72, 65, 76, 84] else ((tk [76, 68, 32] ++ byteR s x o (o / 8 % 8)) ++ tk [44]) ++ byteR s x o (o % 8))
 else if o / 64 = 2 then tk (nth operL8 (o / 8 % 8)) ++ byteR s x o (o % 8) else highT x (o / 8 % 8) (o % 8)
theorem say_byteZ (d m z : Int) (z0 : 0 ≤ z) (z1 : z < 8) : SayR 80 #[zeroI.val, .int .i64 z] d m (tk (nth nameL8 z)) := by
 have h := say_byte zeroI z (by decide) (by decide) ⟨by decide, by decide, by decide, by decide⟩ z0 z1
 have e : byteR zeroI.s zeroI.x zeroI.o z = tk (nth nameL8 z) := by
  have hz : z = 0 ∨ z = 1 ∨ z = 2 ∨ z = 3 ∨ z = 4 ∨ z = 5 ∨ z = 6 ∨ z = 7 := by omega
  rcases hz with rfl | rfl | rfl | rfl | rfl | rfl | rfl | rfl <;> decide +kernel
 rw [e] at h
 intro w
 have h2 := h w
 rw [← rs_tk] at h2 ⊢
 exact h2

set_option maxHeartbeats 16000000 in
theorem say_plain1 (i : In) (h0 : 0 ≤ i.x) (h1 : i.x < 3) (hN : Nums i.d i.m) (o0 : 0 ≤ i.o) (o1 : i.o < 256) (hs : i.s = 1) : SayR 38 #[i.val] i.d i.m (plainR i.s i.x i.o) := by
 intro w
 obtain ⟨s, x, o, d, m, n⟩ := i
 simp only at h0 h1 hN o0 o1 hs  ⊢
 subst hs
 obtain ⟨w1, hw1⟩ : ∃ w1, w.alloc (inO ⟨1, x, o, d, m, n⟩) = w1 := ⟨_, rfl⟩
 have hb1 : Below w.heap.size w w1 := hw1 ▸ (Below.refl _ _).alloc (Nat.le_refl _) _
 have hr : InW w1 w.heap.size ⟨1, x, o, d, m, n⟩ := hw1 ▸ InW.laid w _
 have gs := hr.gs
 have go := hr.go
 have HR := z_ hr
 have HB := z_ hb1
 have hPa := fun w => r9_parts o w o0 o1
 have y0 : 0 ≤ o / 8 % 8 := by omega
 have y1 : o / 8 % 8 < 8 := by omega
 have z0 : 0 ≤ o % 8 := by omega
 have z1 : o % 8 < 8 := by omega
 have t1 : o / 64 < 4 := by omega
 have t0 : 0 ≤ o / 64 := by omega
 unfold inO at hw1
 rw [in_val]
 simp only at hw1 gs go ⊢
 unfold plainR
 rw [if_pos rfl]
 unfold headR
 obtain ⟨y, hy⟩ : ∃ y, o / 8 % 8 = y := ⟨_, rfl⟩
 obtain ⟨z, hz⟩ : ∃ z, o % 8 = z := ⟨_, rfl⟩
 obtain ⟨t, ht⟩ : ∃ t, o / 64 = t := ⟨_, rfl⟩
 obtain ⟨p, hp⟩ : ∃ p, y / 2 = p := ⟨_, rfl⟩
 obtain ⟨q, hq⟩ : ∃ q, o / 8 % 2 = q := ⟨_, rfl⟩
 simp only [hy, hz, ht, hp, hq] at hPa y0 y1 z0 z1 t1 t0 ⊢
 have HPa := z_ hPa
 clear hPa hb1 hr hy hz ht hp hq
 have l1 := byteRL 1 x o z
 have l2 := shiftL y
 have l4 := nameL z
 obtain ⟨B, hB, cB⟩ := (say_byte ⟨1, x, o, d, m, n⟩ z h0 h1 hN z0 z1).named
 rw [in_val] at cB
 simp only at hB cB
 obtain ⟨S, hS, cS⟩ := (say_shift d m y y0 y1).named
 obtain ⟨D, hD, cD⟩ := (say_one d m y y0 y1).named
 have htc : t = 0 ∨ t = 1 ∨ t = 2 ∨ t = 3 := by omega
 rcases htc with rfl | rfl | rfl | rfl
 ·rw [if_pos rfl]
  obtain ⟨H0, hH0, kH0⟩ := kaR hN [32] hS
  obtain ⟨B1, hB1, kB1⟩ := kaX hN hH0 hB
  clear l1 l2 l4
  go_enter Tryz.func38, Tryz.ntmps38
  go_wp2_with (first
   | (go_at_call 49; (with_reducible refine (HPa.out _).mono ?_); rintro e wp ⟨rfl, rfl⟩)
   | (go_at_call 79; refine (cS.out _).mono ?_; rintro e w2 ⟨rfl, hb2⟩; have HR2 := z_ (HR.out.below hb2 HR.out.lt); have HB2 := z_ (HB.out.trans (hb2.mono HB.out.size)); have HL2 := z_ (show w2.heap[w.heap.size]? = some (Obj.cells #[.int .i64 1, .int .i64 x, .int .i64 o, .int .i64 d, .int .i64 m, .int .i64 n] 23) from HR2.out); clear hb2)
   | (refine lr w.heap.size rfl rfl rfl HL2.out ?_)
   | (go_at_call 80; (with_reducible refine (cB.out _).mono ?_); rintro e w3 ⟨rfl, hbw3⟩; have gs3 := (HR2.out.below hbw3 HR2.out.lt).gs; simp only at gs3; have HB3 := z_ (HB2.out.trans (hbw3.mono HB2.out.size)); clear hbw3))
  go_ret
  exact ⟨by rw [hB1.out]; rfl, HB3.out⟩
 ·rw [if_neg (by decide)]
  obtain ⟨H0, hH0, kH0⟩ := kaR hN [32] hS
  obtain ⟨G1, hG1, kG1⟩ := kaL hN [66, 73, 84, 32] hD
  obtain ⟨G2, hG2, kG2⟩ := kaR hN [44] hG1
  obtain ⟨B1, hB1, kB1⟩ := kaX hN hG2 hB
  clear l1 l2 l4
  go_enter Tryz.func38, Tryz.ntmps38
  go_upto_region 8 with (first
   | (go_at_call 49; (with_reducible refine (HPa.out _).mono ?_); rintro e wp ⟨rfl, rfl⟩)
   | (go_at_call 79; refine (cS.out _).mono ?_; rintro e w2 ⟨rfl, hb2⟩; have HR2 := z_ (HR.out.below hb2 HR.out.lt); have HB2 := z_ (HB.out.trans (hb2.mono HB.out.size)); clear hb2))
  refine M.rg ?_
  refine M.sg [1, 2, 5] 7 ?_
  repeat (go_big_quiet_step (fail))
  refine wpQuiet_nil ?_
  refine M.cm 6 (.string D) ?_ ?_
  ·intro wz sz
   unfold Oper.does
   go_simp
   exact (cD.out wz).mono fun e w' ⟨he, hw⟩ => ⟨_, he, rfl, Save.of_below hw⟩
  go_simp
  refine M.cl 0 ?_
  intro wz sz
  unfold Oper.does
  go_simp
  refine ⟨TB w2 wz.heap.size #[.string { data := #[66, 73, 84, 32] }, .string { data := #[82, 69, 83, 32] }, .string { data := #[83, 69, 84, 32] }], TB.new sz, TB.closed, fun _ h => h.1, ?_⟩
  clear sz
  generalize wz.heap.size = N
  go_simp
  refine M.sg [3] 4 ?_
  repeat (go_big_quiet_step (fail))
  refine wpQuiet_nil ?_
  refine M.cl 4 ?_
  intro wy sy
  have hcell := sy.cell 0 _ rfl
  unfold Oper.does
  go_simp
  refine ⟨M.Base w2, sy.1, M.closed_base _, fun _ h => h, ?_⟩
  clear hcell sy
  go_simp
  refine M.sg [7, 8, 9] 0 ?_
  repeat (go_big_quiet_step (fail))
  refine wpQuiet_nil ?_
  refine M.en ?_
  intro wc sc
  have HR3 := z_ (HR2.out.below sc.2 HR2.out.lt)
  have HB3 := z_ (HB2.out.trans (sc.2.mono HB2.out.size))
  clear sc
  have HL3 := z_ (show wc.heap[w.heap.size]? = some (Obj.cells #[.int .i64 1, .int .i64 x, .int .i64 o, .int .i64 d, .int .i64 m, .int .i64 n] 23) from HR3.out)
  go_wp2_with (first
   | (refine lr w.heap.size rfl rfl rfl HL3.out ?_)
   | (go_at_call 80; (with_reducible refine (cB.out _).mono ?_); rintro e w4 ⟨rfl, hbw4⟩; have gs4 := (HR3.out.below hbw4 HR3.out.lt).gs; simp only at gs4; have HB4 := z_ (HB3.out.trans (hbw4.mono HB3.out.size)); clear hbw4)
   | fail)
  go_ret
  exact ⟨by rw [hB1.out]; rfl, HB4.out⟩
 ·rw [if_neg (by decide)]
  obtain ⟨H0, hH0, kH0⟩ := kaR hN [32] hS
  obtain ⟨G1, hG1, kG1⟩ := kaL hN [82, 69, 83, 32] hD
  obtain ⟨G2, hG2, kG2⟩ := kaR hN [44] hG1
  obtain ⟨B1, hB1, kB1⟩ := kaX hN hG2 hB
  clear l1 l2 l4
  go_enter Tryz.func38, Tryz.ntmps38
  go_upto_region 8 with (first
   | (go_at_call 49; (with_reducible refine (HPa.out _).mono ?_); rintro e wp ⟨rfl, rfl⟩)
   | (go_at_call 79; refine (cS.out _).mono ?_; rintro e w2 ⟨rfl, hb2⟩; have HR2 := z_ (HR.out.below hb2 HR.out.lt); have HB2 := z_ (HB.out.trans (hb2.mono HB.out.size)); clear hb2))
  refine M.rg ?_
  refine M.sg [1, 2, 5] 7 ?_
  repeat (go_big_quiet_step (fail))
  refine wpQuiet_nil ?_
  refine M.cm 6 (.string D) ?_ ?_
  ·intro wz sz
   unfold Oper.does
   go_simp
   exact (cD.out wz).mono fun e w' ⟨he, hw⟩ => ⟨_, he, rfl, Save.of_below hw⟩
  go_simp
  refine M.cl 0 ?_
  intro wz sz
  unfold Oper.does
  go_simp
  refine ⟨TB w2 wz.heap.size #[.string { data := #[66, 73, 84, 32] }, .string { data := #[82, 69, 83, 32] }, .string { data := #[83, 69, 84, 32] }], TB.new sz, TB.closed, fun _ h => h.1, ?_⟩
  clear sz
  generalize wz.heap.size = N
  go_simp
  refine M.sg [3] 4 ?_
  repeat (go_big_quiet_step (fail))
  refine wpQuiet_nil ?_
  refine M.cl 4 ?_
  intro wy sy
  have hcell := sy.cell 1 _ rfl
  unfold Oper.does
  go_simp
  refine ⟨M.Base w2, sy.1, M.closed_base _, fun _ h => h, ?_⟩
  clear hcell sy
  go_simp
  refine M.sg [7, 8, 9] 0 ?_
  repeat (go_big_quiet_step (fail))
  refine wpQuiet_nil ?_
  refine M.en ?_
  intro wc sc
  have HR3 := z_ (HR2.out.below sc.2 HR2.out.lt)
  have HB3 := z_ (HB2.out.trans (sc.2.mono HB2.out.size))
  clear sc
  have HL3 := z_ (show wc.heap[w.heap.size]? = some (Obj.cells #[.int .i64 1, .int .i64 x, .int .i64 o, .int .i64 d, .int .i64 m, .int .i64 n] 23) from HR3.out)
  go_wp2_with (first
   | (refine lr w.heap.size rfl rfl rfl HL3.out ?_)
   | (go_at_call 80; (with_reducible refine (cB.out _).mono ?_); rintro e w4 ⟨rfl, hbw4⟩; have gs4 := (HR3.out.below hbw4 HR3.out.lt).gs; simp only at gs4; have HB4 := z_ (HB3.out.trans (hbw4.mono HB3.out.size)); clear hbw4)
   | fail)
  go_ret
  exact ⟨by rw [hB1.out]; rfl, HB4.out⟩
 ·rw [if_neg (by decide)]
  obtain ⟨H0, hH0, kH0⟩ := kaR hN [32] hS
  obtain ⟨G1, hG1, kG1⟩ := kaL hN [83, 69, 84, 32] hD
  obtain ⟨G2, hG2, kG2⟩ := kaR hN [44] hG1
  obtain ⟨B1, hB1, kB1⟩ := kaX hN hG2 hB
  clear l1 l2 l4
  go_enter Tryz.func38, Tryz.ntmps38
  go_upto_region 8 with (first
   | (go_at_call 49; (with_reducible refine (HPa.out _).mono ?_); rintro e wp ⟨rfl, rfl⟩)
   | (go_at_call 79; refine (cS.out _).mono ?_; rintro e w2 ⟨rfl, hb2⟩; have HR2 := z_ (HR.out.below hb2 HR.out.lt); have HB2 := z_ (HB.out.trans (hb2.mono HB.out.size)); clear hb2))
  refine M.rg ?_
  refine M.sg [1, 2, 5] 7 ?_
  repeat (go_big_quiet_step (fail))
  refine wpQuiet_nil ?_
  refine M.cm 6 (.string D) ?_ ?_
  ·intro wz sz
   unfold Oper.does
   go_simp
   exact (cD.out wz).mono fun e w' ⟨he, hw⟩ => ⟨_, he, rfl, Save.of_below hw⟩
  go_simp
  refine M.cl 0 ?_
  intro wz sz
  unfold Oper.does
  go_simp
  refine ⟨TB w2 wz.heap.size #[.string { data := #[66, 73, 84, 32] }, .string { data := #[82, 69, 83, 32] }, .string { data := #[83, 69, 84, 32] }], TB.new sz, TB.closed, fun _ h => h.1, ?_⟩
  clear sz
  generalize wz.heap.size = N
  go_simp
  refine M.sg [3] 4 ?_
  repeat (go_big_quiet_step (fail))
  refine wpQuiet_nil ?_
  refine M.cl 4 ?_
  intro wy sy
  have hcell := sy.cell 2 _ rfl
  unfold Oper.does
  go_simp
  refine ⟨M.Base w2, sy.1, M.closed_base _, fun _ h => h, ?_⟩
  clear hcell sy
  go_simp
  refine M.sg [7, 8, 9] 0 ?_
  repeat (go_big_quiet_step (fail))
  refine wpQuiet_nil ?_
  refine M.en ?_
  intro wc sc
  have HR3 := z_ (HR2.out.below sc.2 HR2.out.lt)
  have HB3 := z_ (HB2.out.trans (sc.2.mono HB2.out.size))
  clear sc
  have HL3 := z_ (show wc.heap[w.heap.size]? = some (Obj.cells #[.int .i64 1, .int .i64 x, .int .i64 o, .int .i64 d, .int .i64 m, .int .i64 n] 23) from HR3.out)
  go_wp2_with (first
   | (refine lr w.heap.size rfl rfl rfl HL3.out ?_)
   | (go_at_call 80; (with_reducible refine (cB.out _).mono ?_); rintro e w4 ⟨rfl, hbw4⟩; have gs4 := (HR3.out.below hbw4 HR3.out.lt).gs; simp only at gs4; have HB4 := z_ (HB3.out.trans (hbw4.mono HB3.out.size)); clear hbw4)
   | fail)
  go_ret
  exact ⟨by rw [hB1.out]; rfl, HB4.out⟩

set_option maxHeartbeats 16000000 in
theorem say_plain3 (i : In) (h0 : 0 ≤ i.x) (h1 : i.x < 3) (hN : Nums i.d i.m) (o0 : 0 ≤ i.o) (o1 : i.o < 256) (hs : i.s = 3) : SayR 38 #[i.val] i.d i.m (plainR i.s i.x i.o) := by
 intro w
 obtain ⟨s, x, o, d, m, n⟩ := i
 simp only at h0 h1 hN o0 o1 hs  ⊢
 subst hs
 obtain ⟨w1, hw1⟩ : ∃ w1, w.alloc (inO ⟨3, x, o, d, m, n⟩) = w1 := ⟨_, rfl⟩
 have hb1 : Below w.heap.size w w1 := hw1 ▸ (Below.refl _ _).alloc (Nat.le_refl _) _
 have hr : InW w1 w.heap.size ⟨3, x, o, d, m, n⟩ := hw1 ▸ InW.laid w _
 have gs := hr.gs
 have go := hr.go
 have HR := z_ hr
 have HB := z_ hb1
 have hPa := fun w => r9_parts o w o0 o1
 have y0 : 0 ≤ o / 8 % 8 := by omega
 have y1 : o / 8 % 8 < 8 := by omega
 have z0 : 0 ≤ o % 8 := by omega
 have z1 : o % 8 < 8 := by omega
 have t1 : o / 64 < 4 := by omega
 have t0 : 0 ≤ o / 64 := by omega
 unfold inO at hw1
 rw [in_val]
 simp only at hw1 gs go ⊢
 unfold plainR
 rw [if_neg (by decide), if_pos rfl]
 unfold headR
 obtain ⟨y, hy⟩ : ∃ y, o / 8 % 8 = y := ⟨_, rfl⟩
 obtain ⟨z, hz⟩ : ∃ z, o % 8 = z := ⟨_, rfl⟩
 obtain ⟨t, ht⟩ : ∃ t, o / 64 = t := ⟨_, rfl⟩
 obtain ⟨p, hp⟩ : ∃ p, y / 2 = p := ⟨_, rfl⟩
 obtain ⟨q, hq⟩ : ∃ q, o / 8 % 2 = q := ⟨_, rfl⟩
 simp only [hy, hz, ht, hp, hq] at hPa y0 y1 z0 z1 t1 t0 ⊢
 have HPa := z_ hPa
 clear hPa hb1 hr hy hz ht hp hq
 have l1 := byteRL 3 x o 6
 have l2 := shiftL y
 have l4 := nameL z
 obtain ⟨B, hB, cB⟩ := (say_byte ⟨3, x, o, d, m, n⟩ 6 h0 h1 hN (by decide) (by decide)).named
 rw [in_val] at cB
 simp only at hB cB
 obtain ⟨S, hS, cS⟩ := (say_shift d m y y0 y1).named
 obtain ⟨D, hD, cD⟩ := (say_one d m y y0 y1).named
 obtain ⟨Z, hZ, cZ⟩ := (say_byteZ d m z z0 z1).named
 have hzv : zeroI.val = .agg #[.int .i64 0, .int .i64 0, .int .i64 0, .int .i64 0, .int .i64 0, .int .i64 0] := rfl
 rw [hzv] at cZ
 clear hzv
 have htc : t = 0 ∨ t = 1 ∨ t = 2 ∨ t = 3 := by omega
 by_cases h6 : z = 6
 ·subst h6
  rw [if_pos rfl]
  rcases htc with rfl | rfl | rfl | rfl
  ·rw [if_pos rfl]
   obtain ⟨H0, hH0, kH0⟩ := kaR hN [32] hS
   obtain ⟨B1, hB1, kB1⟩ := kaX hN hH0 hB
   clear l1 l2 l4
   go_enter Tryz.func38, Tryz.ntmps38
   go_wp2_with (first
    | (go_at_call 49; (with_reducible refine (HPa.out _).mono ?_); rintro e wp ⟨rfl, rfl⟩)
    | (go_at_call 79; refine (cS.out _).mono ?_; rintro e w2 ⟨rfl, hb2⟩; have HR2 := z_ (HR.out.below hb2 HR.out.lt); have HB2 := z_ (HB.out.trans (hb2.mono HB.out.size)); have HL2 := z_ (show w2.heap[w.heap.size]? = some (Obj.cells #[.int .i64 3, .int .i64 x, .int .i64 o, .int .i64 d, .int .i64 m, .int .i64 n] 23) from HR2.out); clear hb2)
    | (refine lr w.heap.size rfl rfl rfl HL2.out ?_)
    | (go_at_call 80; (with_reducible refine (cB.out _).mono ?_); rintro e w3 ⟨rfl, hbw3⟩; have gs3 := (HR2.out.below hbw3 HR2.out.lt).gs; simp only at gs3; have HB3 := z_ (HB2.out.trans (hbw3.mono HB2.out.size)); clear hbw3))
   go_ret
   exact ⟨by rw [hB1.out]; rfl, HB3.out⟩
  ·rw [if_neg (by decide)]
   obtain ⟨H0, hH0, kH0⟩ := kaR hN [32] hS
   obtain ⟨G1, hG1, kG1⟩ := kaL hN [66, 73, 84, 32] hD
   obtain ⟨G2, hG2, kG2⟩ := kaR hN [44] hG1
   obtain ⟨B1, hB1, kB1⟩ := kaX hN hG2 hB
   clear l1 l2 l4
   go_enter Tryz.func38, Tryz.ntmps38
   go_upto_region 8 with (first
    | (go_at_call 49; (with_reducible refine (HPa.out _).mono ?_); rintro e wp ⟨rfl, rfl⟩)
    | (go_at_call 79; refine (cS.out _).mono ?_; rintro e w2 ⟨rfl, hb2⟩; have HR2 := z_ (HR.out.below hb2 HR.out.lt); have HB2 := z_ (HB.out.trans (hb2.mono HB.out.size)); clear hb2))
   refine M.rg ?_
   refine M.sg [1, 2, 5] 7 ?_
   repeat (go_big_quiet_step (fail))
   refine wpQuiet_nil ?_
   refine M.cm 6 (.string D) ?_ ?_
   ·intro wz sz
    unfold Oper.does
    go_simp
    exact (cD.out wz).mono fun e w' ⟨he, hw⟩ => ⟨_, he, rfl, Save.of_below hw⟩
   go_simp
   refine M.cl 0 ?_
   intro wz sz
   unfold Oper.does
   go_simp
   refine ⟨TB w2 wz.heap.size #[.string { data := #[66, 73, 84, 32] }, .string { data := #[82, 69, 83, 32] }, .string { data := #[83, 69, 84, 32] }], TB.new sz, TB.closed, fun _ h => h.1, ?_⟩
   clear sz
   generalize wz.heap.size = N
   go_simp
   refine M.sg [3] 4 ?_
   repeat (go_big_quiet_step (fail))
   refine wpQuiet_nil ?_
   refine M.cl 4 ?_
   intro wy sy
   have hcell := sy.cell 0 _ rfl
   unfold Oper.does
   go_simp
   refine ⟨M.Base w2, sy.1, M.closed_base _, fun _ h => h, ?_⟩
   clear hcell sy
   go_simp
   refine M.sg [7, 8, 9] 0 ?_
   repeat (go_big_quiet_step (fail))
   refine wpQuiet_nil ?_
   refine M.en ?_
   intro wc sc
   have HR3 := z_ (HR2.out.below sc.2 HR2.out.lt)
   have HB3 := z_ (HB2.out.trans (sc.2.mono HB2.out.size))
   clear sc
   have HL3 := z_ (show wc.heap[w.heap.size]? = some (Obj.cells #[.int .i64 3, .int .i64 x, .int .i64 o, .int .i64 d, .int .i64 m, .int .i64 n] 23) from HR3.out)
   go_wp2_with (first
    | (refine lr w.heap.size rfl rfl rfl HL3.out ?_)
    | (go_at_call 80; (with_reducible refine (cB.out _).mono ?_); rintro e w4 ⟨rfl, hbw4⟩; have gs4 := (HR3.out.below hbw4 HR3.out.lt).gs; simp only at gs4; have HB4 := z_ (HB3.out.trans (hbw4.mono HB3.out.size)); clear hbw4)
    | fail)
   go_ret
   exact ⟨by rw [hB1.out]; rfl, HB4.out⟩
  ·rw [if_neg (by decide)]
   obtain ⟨H0, hH0, kH0⟩ := kaR hN [32] hS
   obtain ⟨G1, hG1, kG1⟩ := kaL hN [82, 69, 83, 32] hD
   obtain ⟨G2, hG2, kG2⟩ := kaR hN [44] hG1
   obtain ⟨B1, hB1, kB1⟩ := kaX hN hG2 hB
   clear l1 l2 l4
   go_enter Tryz.func38, Tryz.ntmps38
   go_upto_region 8 with (first
    | (go_at_call 49; (with_reducible refine (HPa.out _).mono ?_); rintro e wp ⟨rfl, rfl⟩)
    | (go_at_call 79; refine (cS.out _).mono ?_; rintro e w2 ⟨rfl, hb2⟩; have HR2 := z_ (HR.out.below hb2 HR.out.lt); have HB2 := z_ (HB.out.trans (hb2.mono HB.out.size)); clear hb2))
   refine M.rg ?_
   refine M.sg [1, 2, 5] 7 ?_
   repeat (go_big_quiet_step (fail))
   refine wpQuiet_nil ?_
   refine M.cm 6 (.string D) ?_ ?_
   ·intro wz sz
    unfold Oper.does
    go_simp
    exact (cD.out wz).mono fun e w' ⟨he, hw⟩ => ⟨_, he, rfl, Save.of_below hw⟩
   go_simp
   refine M.cl 0 ?_
   intro wz sz
   unfold Oper.does
   go_simp
   refine ⟨TB w2 wz.heap.size #[.string { data := #[66, 73, 84, 32] }, .string { data := #[82, 69, 83, 32] }, .string { data := #[83, 69, 84, 32] }], TB.new sz, TB.closed, fun _ h => h.1, ?_⟩
   clear sz
   generalize wz.heap.size = N
   go_simp
   refine M.sg [3] 4 ?_
   repeat (go_big_quiet_step (fail))
   refine wpQuiet_nil ?_
   refine M.cl 4 ?_
   intro wy sy
   have hcell := sy.cell 1 _ rfl
   unfold Oper.does
   go_simp
   refine ⟨M.Base w2, sy.1, M.closed_base _, fun _ h => h, ?_⟩
   clear hcell sy
   go_simp
   refine M.sg [7, 8, 9] 0 ?_
   repeat (go_big_quiet_step (fail))
   refine wpQuiet_nil ?_
   refine M.en ?_
   intro wc sc
   have HR3 := z_ (HR2.out.below sc.2 HR2.out.lt)
   have HB3 := z_ (HB2.out.trans (sc.2.mono HB2.out.size))
   clear sc
   have HL3 := z_ (show wc.heap[w.heap.size]? = some (Obj.cells #[.int .i64 3, .int .i64 x, .int .i64 o, .int .i64 d, .int .i64 m, .int .i64 n] 23) from HR3.out)
   go_wp2_with (first
    | (refine lr w.heap.size rfl rfl rfl HL3.out ?_)
    | (go_at_call 80; (with_reducible refine (cB.out _).mono ?_); rintro e w4 ⟨rfl, hbw4⟩; have gs4 := (HR3.out.below hbw4 HR3.out.lt).gs; simp only at gs4; have HB4 := z_ (HB3.out.trans (hbw4.mono HB3.out.size)); clear hbw4)
    | fail)
   go_ret
   exact ⟨by rw [hB1.out]; rfl, HB4.out⟩
  ·rw [if_neg (by decide)]
   obtain ⟨H0, hH0, kH0⟩ := kaR hN [32] hS
   obtain ⟨G1, hG1, kG1⟩ := kaL hN [83, 69, 84, 32] hD
   obtain ⟨G2, hG2, kG2⟩ := kaR hN [44] hG1
   obtain ⟨B1, hB1, kB1⟩ := kaX hN hG2 hB
   clear l1 l2 l4
   go_enter Tryz.func38, Tryz.ntmps38
   go_upto_region 8 with (first
    | (go_at_call 49; (with_reducible refine (HPa.out _).mono ?_); rintro e wp ⟨rfl, rfl⟩)
    | (go_at_call 79; refine (cS.out _).mono ?_; rintro e w2 ⟨rfl, hb2⟩; have HR2 := z_ (HR.out.below hb2 HR.out.lt); have HB2 := z_ (HB.out.trans (hb2.mono HB.out.size)); clear hb2))
   refine M.rg ?_
   refine M.sg [1, 2, 5] 7 ?_
   repeat (go_big_quiet_step (fail))
   refine wpQuiet_nil ?_
   refine M.cm 6 (.string D) ?_ ?_
   ·intro wz sz
    unfold Oper.does
    go_simp
    exact (cD.out wz).mono fun e w' ⟨he, hw⟩ => ⟨_, he, rfl, Save.of_below hw⟩
   go_simp
   refine M.cl 0 ?_
   intro wz sz
   unfold Oper.does
   go_simp
   refine ⟨TB w2 wz.heap.size #[.string { data := #[66, 73, 84, 32] }, .string { data := #[82, 69, 83, 32] }, .string { data := #[83, 69, 84, 32] }], TB.new sz, TB.closed, fun _ h => h.1, ?_⟩
   clear sz
   generalize wz.heap.size = N
   go_simp
   refine M.sg [3] 4 ?_
   repeat (go_big_quiet_step (fail))
   refine wpQuiet_nil ?_
   refine M.cl 4 ?_
   intro wy sy
   have hcell := sy.cell 2 _ rfl
   unfold Oper.does
   go_simp
   refine ⟨M.Base w2, sy.1, M.closed_base _, fun _ h => h, ?_⟩
   clear hcell sy
   go_simp
   refine M.sg [7, 8, 9] 0 ?_
   repeat (go_big_quiet_step (fail))
   refine wpQuiet_nil ?_
   refine M.en ?_
   intro wc sc
   have HR3 := z_ (HR2.out.below sc.2 HR2.out.lt)
   have HB3 := z_ (HB2.out.trans (sc.2.mono HB2.out.size))
   clear sc
   have HL3 := z_ (show wc.heap[w.heap.size]? = some (Obj.cells #[.int .i64 3, .int .i64 x, .int .i64 o, .int .i64 d, .int .i64 m, .int .i64 n] 23) from HR3.out)
   go_wp2_with (first
    | (refine lr w.heap.size rfl rfl rfl HL3.out ?_)
    | (go_at_call 80; (with_reducible refine (cB.out _).mono ?_); rintro e w4 ⟨rfl, hbw4⟩; have gs4 := (HR3.out.below hbw4 HR3.out.lt).gs; simp only at gs4; have HB4 := z_ (HB3.out.trans (hbw4.mono HB3.out.size)); clear hbw4)
    | fail)
   go_ret
   exact ⟨by rw [hB1.out]; rfl, HB4.out⟩

 ·rw [if_neg h6]
  have h6b : (z != 6) = true := by simpa using h6
  rcases htc with rfl | rfl | rfl | rfl
  ·rw [if_pos rfl]
   obtain ⟨H0, hH0, kH0⟩ := kaR hN [32] hS
   obtain ⟨B1, hB1, kB1⟩ := kaX hN hH0 hB
   obtain ⟨B2, hB2, kB2⟩ := kaR hN [44] hB1
   obtain ⟨B3, hB3, kB3⟩ := kaX hN hB2 hZ
   clear l1 l2 l4
   go_enter Tryz.func38, Tryz.ntmps38
   go_wp2_with (first
    | (go_at_call 49; (with_reducible refine (HPa.out _).mono ?_); rintro e wp ⟨rfl, rfl⟩)
    | (go_at_call 79; refine (cS.out _).mono ?_; rintro e w2 ⟨rfl, hb2⟩; have HR2 := z_ (HR.out.below hb2 HR.out.lt); have HB2 := z_ (HB.out.trans (hb2.mono HB.out.size)); have HL2 := z_ (show w2.heap[w.heap.size]? = some (Obj.cells #[.int .i64 3, .int .i64 x, .int .i64 o, .int .i64 d, .int .i64 m, .int .i64 n] 23) from HR2.out); clear hb2)
    | (refine lr w.heap.size rfl rfl rfl HL2.out ?_)
    | (go_at_call 80; (with_reducible refine (cB.out _).mono ?_); rintro e w3 ⟨rfl, hbw3⟩; have gs3 := (HR2.out.below hbw3 HR2.out.lt).gs; simp only at gs3; have HB3 := z_ (HB2.out.trans (hbw3.mono HB2.out.size)); clear hbw3)
    | (go_at_call 80; (with_reducible refine (cZ.out _).mono ?_); rintro e w4 ⟨rfl, hbw4⟩))
   go_ret
   exact ⟨by rw [hB3.out]; rfl, HB3.out.trans (hbw4.mono HB3.out.size)⟩
  ·rw [if_neg (by decide)]
   obtain ⟨H0, hH0, kH0⟩ := kaR hN [32] hS
   obtain ⟨G1, hG1, kG1⟩ := kaL hN [66, 73, 84, 32] hD
   obtain ⟨G2, hG2, kG2⟩ := kaR hN [44] hG1
   obtain ⟨B1, hB1, kB1⟩ := kaX hN hG2 hB
   obtain ⟨B2, hB2, kB2⟩ := kaR hN [44] hB1
   obtain ⟨B3, hB3, kB3⟩ := kaX hN hB2 hZ
   clear l1 l2 l4
   go_enter Tryz.func38, Tryz.ntmps38
   go_upto_region 8 with (first
    | (go_at_call 49; (with_reducible refine (HPa.out _).mono ?_); rintro e wp ⟨rfl, rfl⟩)
    | (go_at_call 79; refine (cS.out _).mono ?_; rintro e w2 ⟨rfl, hb2⟩; have HR2 := z_ (HR.out.below hb2 HR.out.lt); have HB2 := z_ (HB.out.trans (hb2.mono HB.out.size)); clear hb2))
   refine M.rg ?_
   refine M.sg [1, 2, 5] 7 ?_
   repeat (go_big_quiet_step (fail))
   refine wpQuiet_nil ?_
   refine M.cm 6 (.string D) ?_ ?_
   ·intro wz sz
    unfold Oper.does
    go_simp
    exact (cD.out wz).mono fun e w' ⟨he, hw⟩ => ⟨_, he, rfl, Save.of_below hw⟩
   go_simp
   refine M.cl 0 ?_
   intro wz sz
   unfold Oper.does
   go_simp
   refine ⟨TB w2 wz.heap.size #[.string { data := #[66, 73, 84, 32] }, .string { data := #[82, 69, 83, 32] }, .string { data := #[83, 69, 84, 32] }], TB.new sz, TB.closed, fun _ h => h.1, ?_⟩
   clear sz
   generalize wz.heap.size = N
   go_simp
   refine M.sg [3] 4 ?_
   repeat (go_big_quiet_step (fail))
   refine wpQuiet_nil ?_
   refine M.cl 4 ?_
   intro wy sy
   have hcell := sy.cell 0 _ rfl
   unfold Oper.does
   go_simp
   refine ⟨M.Base w2, sy.1, M.closed_base _, fun _ h => h, ?_⟩
   clear hcell sy
   go_simp
   refine M.sg [7, 8, 9] 0 ?_
   repeat (go_big_quiet_step (fail))
   refine wpQuiet_nil ?_
   refine M.en ?_
   intro wc sc
   have HR3 := z_ (HR2.out.below sc.2 HR2.out.lt)
   have HB3 := z_ (HB2.out.trans (sc.2.mono HB2.out.size))
   clear sc
   have HL3 := z_ (show wc.heap[w.heap.size]? = some (Obj.cells #[.int .i64 3, .int .i64 x, .int .i64 o, .int .i64 d, .int .i64 m, .int .i64 n] 23) from HR3.out)
   go_wp2_with (first
    | (refine lr w.heap.size rfl rfl rfl HL3.out ?_)
    | (go_at_call 80; (with_reducible refine (cB.out _).mono ?_); rintro e w4 ⟨rfl, hbw4⟩; have gs4 := (HR3.out.below hbw4 HR3.out.lt).gs; simp only at gs4; have HB4 := z_ (HB3.out.trans (hbw4.mono HB3.out.size)); clear hbw4)
    | (go_at_call 80; (with_reducible refine (cZ.out _).mono ?_); rintro e w5 ⟨rfl, hbw5⟩))
   go_ret
   exact ⟨by rw [hB3.out]; rfl, HB4.out.trans (hbw5.mono HB4.out.size)⟩
  ·rw [if_neg (by decide)]
   obtain ⟨H0, hH0, kH0⟩ := kaR hN [32] hS
   obtain ⟨G1, hG1, kG1⟩ := kaL hN [82, 69, 83, 32] hD
   obtain ⟨G2, hG2, kG2⟩ := kaR hN [44] hG1
   obtain ⟨B1, hB1, kB1⟩ := kaX hN hG2 hB
   obtain ⟨B2, hB2, kB2⟩ := kaR hN [44] hB1
   obtain ⟨B3, hB3, kB3⟩ := kaX hN hB2 hZ
   clear l1 l2 l4
   go_enter Tryz.func38, Tryz.ntmps38
   go_upto_region 8 with (first
    | (go_at_call 49; (with_reducible refine (HPa.out _).mono ?_); rintro e wp ⟨rfl, rfl⟩)
    | (go_at_call 79; refine (cS.out _).mono ?_; rintro e w2 ⟨rfl, hb2⟩; have HR2 := z_ (HR.out.below hb2 HR.out.lt); have HB2 := z_ (HB.out.trans (hb2.mono HB.out.size)); clear hb2))
   refine M.rg ?_
   refine M.sg [1, 2, 5] 7 ?_
   repeat (go_big_quiet_step (fail))
   refine wpQuiet_nil ?_
   refine M.cm 6 (.string D) ?_ ?_
   ·intro wz sz
    unfold Oper.does
    go_simp
    exact (cD.out wz).mono fun e w' ⟨he, hw⟩ => ⟨_, he, rfl, Save.of_below hw⟩
   go_simp
   refine M.cl 0 ?_
   intro wz sz
   unfold Oper.does
   go_simp
   refine ⟨TB w2 wz.heap.size #[.string { data := #[66, 73, 84, 32] }, .string { data := #[82, 69, 83, 32] }, .string { data := #[83, 69, 84, 32] }], TB.new sz, TB.closed, fun _ h => h.1, ?_⟩
   clear sz
   generalize wz.heap.size = N
   go_simp
   refine M.sg [3] 4 ?_
   repeat (go_big_quiet_step (fail))
   refine wpQuiet_nil ?_
   refine M.cl 4 ?_
   intro wy sy
   have hcell := sy.cell 1 _ rfl
   unfold Oper.does
   go_simp
   refine ⟨M.Base w2, sy.1, M.closed_base _, fun _ h => h, ?_⟩
   clear hcell sy
   go_simp
   refine M.sg [7, 8, 9] 0 ?_
   repeat (go_big_quiet_step (fail))
   refine wpQuiet_nil ?_
   refine M.en ?_
   intro wc sc
   have HR3 := z_ (HR2.out.below sc.2 HR2.out.lt)
   have HB3 := z_ (HB2.out.trans (sc.2.mono HB2.out.size))
   clear sc
   have HL3 := z_ (show wc.heap[w.heap.size]? = some (Obj.cells #[.int .i64 3, .int .i64 x, .int .i64 o, .int .i64 d, .int .i64 m, .int .i64 n] 23) from HR3.out)
   go_wp2_with (first
    | (refine lr w.heap.size rfl rfl rfl HL3.out ?_)
    | (go_at_call 80; (with_reducible refine (cB.out _).mono ?_); rintro e w4 ⟨rfl, hbw4⟩; have gs4 := (HR3.out.below hbw4 HR3.out.lt).gs; simp only at gs4; have HB4 := z_ (HB3.out.trans (hbw4.mono HB3.out.size)); clear hbw4)
    | (go_at_call 80; (with_reducible refine (cZ.out _).mono ?_); rintro e w5 ⟨rfl, hbw5⟩))
   go_ret
   exact ⟨by rw [hB3.out]; rfl, HB4.out.trans (hbw5.mono HB4.out.size)⟩
  ·rw [if_neg (by decide)]
   obtain ⟨H0, hH0, kH0⟩ := kaR hN [32] hS
   obtain ⟨G1, hG1, kG1⟩ := kaL hN [83, 69, 84, 32] hD
   obtain ⟨G2, hG2, kG2⟩ := kaR hN [44] hG1
   obtain ⟨B1, hB1, kB1⟩ := kaX hN hG2 hB
   obtain ⟨B2, hB2, kB2⟩ := kaR hN [44] hB1
   obtain ⟨B3, hB3, kB3⟩ := kaX hN hB2 hZ
   clear l1 l2 l4
   go_enter Tryz.func38, Tryz.ntmps38
   go_upto_region 8 with (first
    | (go_at_call 49; (with_reducible refine (HPa.out _).mono ?_); rintro e wp ⟨rfl, rfl⟩)
    | (go_at_call 79; refine (cS.out _).mono ?_; rintro e w2 ⟨rfl, hb2⟩; have HR2 := z_ (HR.out.below hb2 HR.out.lt); have HB2 := z_ (HB.out.trans (hb2.mono HB.out.size)); clear hb2))
   refine M.rg ?_
   refine M.sg [1, 2, 5] 7 ?_
   repeat (go_big_quiet_step (fail))
   refine wpQuiet_nil ?_
   refine M.cm 6 (.string D) ?_ ?_
   ·intro wz sz
    unfold Oper.does
    go_simp
    exact (cD.out wz).mono fun e w' ⟨he, hw⟩ => ⟨_, he, rfl, Save.of_below hw⟩
   go_simp
   refine M.cl 0 ?_
   intro wz sz
   unfold Oper.does
   go_simp
   refine ⟨TB w2 wz.heap.size #[.string { data := #[66, 73, 84, 32] }, .string { data := #[82, 69, 83, 32] }, .string { data := #[83, 69, 84, 32] }], TB.new sz, TB.closed, fun _ h => h.1, ?_⟩
   clear sz
   generalize wz.heap.size = N
   go_simp
   refine M.sg [3] 4 ?_
   repeat (go_big_quiet_step (fail))
   refine wpQuiet_nil ?_
   refine M.cl 4 ?_
   intro wy sy
   have hcell := sy.cell 2 _ rfl
   unfold Oper.does
   go_simp
   refine ⟨M.Base w2, sy.1, M.closed_base _, fun _ h => h, ?_⟩
   clear hcell sy
   go_simp
   refine M.sg [7, 8, 9] 0 ?_
   repeat (go_big_quiet_step (fail))
   refine wpQuiet_nil ?_
   refine M.en ?_
   intro wc sc
   have HR3 := z_ (HR2.out.below sc.2 HR2.out.lt)
   have HB3 := z_ (HB2.out.trans (sc.2.mono HB2.out.size))
   clear sc
   have HL3 := z_ (show wc.heap[w.heap.size]? = some (Obj.cells #[.int .i64 3, .int .i64 x, .int .i64 o, .int .i64 d, .int .i64 m, .int .i64 n] 23) from HR3.out)
   go_wp2_with (first
    | (refine lr w.heap.size rfl rfl rfl HL3.out ?_)
    | (go_at_call 80; (with_reducible refine (cB.out _).mono ?_); rintro e w4 ⟨rfl, hbw4⟩; have gs4 := (HR3.out.below hbw4 HR3.out.lt).gs; simp only at gs4; have HB4 := z_ (HB3.out.trans (hbw4.mono HB3.out.size)); clear hbw4)
    | (go_at_call 80; (with_reducible refine (cZ.out _).mono ?_); rintro e w5 ⟨rfl, hbw5⟩))
   go_ret
   exact ⟨by rw [hB3.out]; rfl, HB4.out.trans (hbw5.mono HB4.out.size)⟩

set_option maxHeartbeats 16000000 in
theorem say_plain2 (i : In) (h0 : 0 ≤ i.x) (h1 : i.x < 3) (hN : Nums i.d i.m) (o0 : 0 ≤ i.o) (o1 : i.o < 256) (hs : i.s = 2) (hm : 0 ≤ i.m) (hbk : i.o / 64 = 2 → 4 ≤ i.o / 8 % 8 ∧ i.o % 8 < 4) : SayR 38 #[i.val] i.d i.m (plainR i.s i.x i.o) := by
 intro w
 obtain ⟨s, x, o, d, m, n⟩ := i
 simp only at h0 h1 hN o0 o1 hs hm hbk ⊢
 subst hs
 obtain ⟨w1, hw1⟩ : ∃ w1, w.alloc (inO ⟨2, x, o, d, m, n⟩) = w1 := ⟨_, rfl⟩
 have hb1 : Below w.heap.size w w1 := hw1 ▸ (Below.refl _ _).alloc (Nat.le_refl _) _
 have hr : InW w1 w.heap.size ⟨2, x, o, d, m, n⟩ := hw1 ▸ InW.laid w _
 have gs := hr.gs
 have go := hr.go
 have HR := z_ hr
 have HB := z_ hb1
 have hPa := fun w => r9_parts o w o0 o1
 have y0 : 0 ≤ o / 8 % 8 := by omega
 have y1 : o / 8 % 8 < 8 := by omega
 have z0 : 0 ≤ o % 8 := by omega
 have z1 : o % 8 < 8 := by omega
 have t1 : o / 64 < 4 := by omega
 have t0 : 0 ≤ o / 64 := by omega
 unfold inO at hw1
 rw [in_val]
 simp only at hw1 gs go ⊢
 unfold plainR
 rw [if_neg (by decide), if_neg (by decide), if_pos rfl]
 obtain ⟨X, hX, cX⟩ := (say_more ⟨2, x, o, d, m, n⟩ h0 h1 hN o0 o1 hm hbk).named
 rw [in_val] at cX
 simp only at hX cX
 obtain ⟨y, hy⟩ : ∃ y, o / 8 % 8 = y := ⟨_, rfl⟩
 obtain ⟨z, hz⟩ : ∃ z, o % 8 = z := ⟨_, rfl⟩
 obtain ⟨t, ht⟩ : ∃ t, o / 64 = t := ⟨_, rfl⟩
 obtain ⟨p, hp⟩ : ∃ p, y / 2 = p := ⟨_, rfl⟩
 obtain ⟨q, hq⟩ : ∃ q, o / 8 % 2 = q := ⟨_, rfl⟩
 simp only [hy, hz, ht, hp, hq] at hPa y0 y1 z0 z1 t1 t0
 have HPa := z_ hPa
 clear hbk hPa hb1 hr hy hz ht hp hq
 go_enter Tryz.func38, Tryz.ntmps38
 go_wp2_with (first
  | (go_at_call 49; (with_reducible refine (HPa.out _).mono ?_); rintro e wp ⟨rfl, rfl⟩)
  | (refine lr w.heap.size rfl rfl rfl HR.out ?_)
  | (go_at_call 81; refine (cX.out _).mono ?_; rintro e w2 ⟨rfl, hbw2⟩))
 go_ret
 exact ⟨by rw [hX.out]; rfl, HB.out.trans (hbw2.mono HB.out.size)⟩

set_option maxHeartbeats 16000000 in
theorem say_plain0 (i : In) (h0 : 0 ≤ i.x) (h1 : i.x < 3) (hN : Nums i.d i.m) (o0 : 0 ≤ i.o) (o1 : i.o < 256) (hs : i.s = 0) (hm0 : i.o / 64 = 0 → i.o % 8 = 1 ∨ i.o % 8 = 2 ∨ i.o % 8 = 6 → 0 ≤ i.m) (hm3 : i.o / 64 = 3 → 0 ≤ i.m) : SayR 38 #[i.val] i.d i.m (plainR i.s i.x i.o) := by
 intro w
 obtain ⟨s, x, o, d, m, n⟩ := i
 simp only at h0 h1 hN o0 o1 hs hm0 hm3 ⊢
 subst hs
 obtain ⟨w1, hw1⟩ : ∃ w1, w.alloc (inO ⟨0, x, o, d, m, n⟩) = w1 := ⟨_, rfl⟩
 have hb1 : Below w.heap.size w w1 := hw1 ▸ (Below.refl _ _).alloc (Nat.le_refl _) _
 have hr : InW w1 w.heap.size ⟨0, x, o, d, m, n⟩ := hw1 ▸ InW.laid w _
 have gs := hr.gs
 have go := hr.go
 have HR := z_ hr
 have HB := z_ hb1
 have hPa := fun w => r9_parts o w o0 o1
 have y0 : 0 ≤ o / 8 % 8 := by omega
 have y1 : o / 8 % 8 < 8 := by omega
 have z0 : 0 ≤ o % 8 := by omega
 have z1 : o % 8 < 8 := by omega
 have t1 : o / 64 < 4 := by omega
 have t0 : 0 ≤ o / 64 := by omega
 unfold inO at hw1
 rw [in_val]
 simp only at hw1 gs go ⊢
 unfold plainR
 rw [if_neg (by decide), if_neg (by decide), if_neg (by decide)]
 have htc : o / 64 = 0 ∨ o / 64 = 1 ∨ o / 64 = 2 ∨ o / 64 = 3 := by omega
 rcases htc with ht | ht | ht | ht
 ·rw [if_pos ht]
  obtain ⟨X, hX, cX⟩ := (say_low ⟨0, x, o, d, m, n⟩ h0 h1 hN o0 o1 (hm0 ht)).named
  rw [in_val] at cX
  simp only at hX cX
  simp only [ht] at hPa
  have HPa := z_ hPa
  clear hPa hb1 hr
  obtain ⟨y, hy⟩ : ∃ y, o / 8 % 8 = y := ⟨_, rfl⟩
  obtain ⟨z, hz⟩ : ∃ z, o % 8 = z := ⟨_, rfl⟩
  obtain ⟨p, hp⟩ : ∃ p, y / 2 = p := ⟨_, rfl⟩
  obtain ⟨q, hq⟩ : ∃ q, o / 8 % 2 = q := ⟨_, rfl⟩
  simp only [hy, hz, hp, hq] at HPa y0 y1 z0 z1
  clear hy hz hp hq ht hm0 hm3
  go_enter Tryz.func38, Tryz.ntmps38
  go_wp2_with (first
   | (go_at_call 49; (with_reducible refine (HPa.out _).mono ?_); rintro e wp ⟨rfl, rfl⟩)
   | (refine lr w.heap.size rfl rfl rfl HR.out ?_)
   | (go_at_call 82; refine (cX.out _).mono ?_; rintro e w2 ⟨rfl, hbw2⟩))
  go_ret
  exact ⟨by rw [hX.out]; rfl, HB.out.trans (hbw2.mono HB.out.size)⟩
 ·rw [if_neg (by omega), if_pos ht]
  by_cases h76 : o = 118
  ·subst h76
   rw [if_pos rfl, ← rs_tk]
   simp only [ht] at hPa
   have HPa := z_ hPa
   clear hPa hb1 hr ht hm0 hm3
   go_enter Tryz.func38, Tryz.ntmps38
   go_wp2_with (first
    | (go_at_call 49; (with_reducible refine (HPa.out _).mono ?_); rintro e wp ⟨rfl, rfl⟩)
    | fail)
   go_ret
   exact ⟨rfl, HB.out⟩
  ·rw [if_neg h76]
   have h76b : (o == 118) = false := beq_eq_false_iff_ne.2 h76
   obtain ⟨y, hy⟩ : ∃ y, o / 8 % 8 = y := ⟨_, rfl⟩
   obtain ⟨z, hz⟩ : ∃ z, o % 8 = z := ⟨_, rfl⟩
   obtain ⟨p, hp⟩ : ∃ p, y / 2 = p := ⟨_, rfl⟩
   obtain ⟨q, hq⟩ : ∃ q, o / 8 % 2 = q := ⟨_, rfl⟩
   simp only [hy, hz, hp, hq, ht] at hPa y0 y1 z0 z1 ⊢
   have HPa := z_ hPa
   clear hPa hb1 hr hy hz hp hq ht hm0 hm3
   have l1 := byteRL 0 x o y
   have l2 := byteRL 0 x o z
   obtain ⟨X, hX, cX⟩ := (say_byte ⟨0, x, o, d, m, n⟩ y h0 h1 hN y0 y1).named
   rw [in_val] at cX
   simp only at hX cX
   obtain ⟨Y, hY, cY⟩ := (say_byte ⟨0, x, o, d, m, n⟩ z h0 h1 hN z0 z1).named
   rw [in_val] at cY
   simp only at hY cY
   obtain ⟨R1, hR1, kR1⟩ := kaL hN [76, 68, 32] hX
   obtain ⟨R2, hR2, kR2⟩ := kaR hN [44] hR1
   obtain ⟨R3, hR3, kR3⟩ := kaX hN hR2 hY
   clear l1 l2
   go_enter Tryz.func38, Tryz.ntmps38
   go_upto_region 21 with (first
    | (go_at_call 49; (with_reducible refine (HPa.out _).mono ?_); rintro e wp ⟨rfl, rfl⟩)
    | fail)
   refine M.rg ?_
   refine M.cm 0 (.agg #[.int .i64 0, .int .i64 x, .int .i64 o, .int .i64 d, .int .i64 m, .int .i64 n]) ?_ ?_
   ·intro wz sz
    exact dl (InW.on HR.out sz)
   go_simp
   refine M.cm 5 (.agg #[.int .i64 0, .int .i64 x, .int .i64 o, .int .i64 d, .int .i64 m, .int .i64 n]) ?_ ?_
   ·intro wz sz
    exact dl (InW.on HR.out sz)
   go_simp
   refine M.sg [1, 6] 6 ?_
   repeat (go_big_quiet_step (fail))
   refine wpQuiet_nil ?_
   refine M.cm 2 (.string X) ?_ ?_
   ·intro wz sz
    unfold Oper.does
    go_simp
    exact (cX.out wz).mono fun e w' ⟨he, hw⟩ => ⟨_, he, rfl, Save.of_below hw⟩
   go_simp
   refine M.cm 7 (.string Y) ?_ ?_
   ·intro wz sz
    unfold Oper.does
    go_simp
    exact (cY.out wz).mono fun e w' ⟨he, hw⟩ => ⟨_, he, rfl, Save.of_below hw⟩
   go_simp
   refine M.sg [3, 4, 8, 9] 0 ?_
   repeat (go_big_quiet_step (fail))
   refine wpQuiet_nil ?_
   refine M.en ?_
   intro wc sc
   go_wp2_with fail
   go_ret
   exact ⟨by rw [hR3.out]; rfl, HB.out.trans (sc.2.mono HB.out.size)⟩
 ·rw [if_neg (by omega), if_neg (by omega), if_pos ht]
  obtain ⟨y, hy⟩ : ∃ y, o / 8 % 8 = y := ⟨_, rfl⟩
  obtain ⟨z, hz⟩ : ∃ z, o % 8 = z := ⟨_, rfl⟩
  obtain ⟨p, hp⟩ : ∃ p, y / 2 = p := ⟨_, rfl⟩
  obtain ⟨q, hq⟩ : ∃ q, o / 8 % 2 = q := ⟨_, rfl⟩
  simp only [hy, hz, hp, hq, ht] at hPa y0 y1 z0 z1 ⊢
  have HPa := z_ hPa
  clear hPa hb1 hr hy hz hp hq ht hm0 hm3
  have l1 := operL y
  have l2 := byteRL 0 x o z
  obtain ⟨X, hX, cX⟩ := (say_oper d m y y0 y1).named
  obtain ⟨Y, hY, cY⟩ := (say_byte ⟨0, x, o, d, m, n⟩ z h0 h1 hN z0 z1).named
  rw [in_val] at cY
  simp only at hY cY
  obtain ⟨R3, hR3, kR3⟩ := kaX hN hX hY
  clear l1 l2
  go_enter Tryz.func38, Tryz.ntmps38
  go_upto_region 23 with (first
   | (go_at_call 49; (with_reducible refine (HPa.out _).mono ?_); rintro e wp ⟨rfl, rfl⟩)
   | fail)
  refine M.rg ?_
  refine M.cm 2 (.agg #[.int .i64 0, .int .i64 x, .int .i64 o, .int .i64 d, .int .i64 m, .int .i64 n]) ?_ ?_
  ·intro wz sz
   exact dl (InW.on HR.out sz)
  go_simp
  refine M.sg [0, 3] 4 ?_
  repeat (go_big_quiet_step (fail))
  refine wpQuiet_nil ?_
  refine M.cm 1 (.string X) ?_ ?_
  ·intro wz sz
   unfold Oper.does
   go_simp
   exact (cX.out wz).mono fun e w' ⟨he, hw⟩ => ⟨_, he, rfl, Save.of_below hw⟩
  go_simp
  refine M.cm 4 (.string Y) ?_ ?_
  ·intro wz sz
   unfold Oper.does
   go_simp
   exact (cY.out wz).mono fun e w' ⟨he, hw⟩ => ⟨_, he, rfl, Save.of_below hw⟩
  go_simp
  refine M.sg [5, 6] 0 ?_
  repeat (go_big_quiet_step (fail))
  refine wpQuiet_nil ?_
  refine M.en ?_
  intro wc sc
  go_wp2_with fail
  go_ret
  exact ⟨by rw [hR3.out]; rfl, HB.out.trans (sc.2.mono HB.out.size)⟩
 ·rw [if_neg (by omega), if_neg (by omega), if_neg (by omega)]
  obtain ⟨X, hX, cX⟩ := (say_high ⟨0, x, o, d, m, n⟩ h0 h1 hN o0 o1 (hm3 ht)).named
  rw [in_val] at cX
  simp only at hX cX
  simp only [ht] at hPa
  have HPa := z_ hPa
  clear hPa hb1 hr
  obtain ⟨y, hy⟩ : ∃ y, o / 8 % 8 = y := ⟨_, rfl⟩
  obtain ⟨z, hz⟩ : ∃ z, o % 8 = z := ⟨_, rfl⟩
  obtain ⟨p, hp⟩ : ∃ p, y / 2 = p := ⟨_, rfl⟩
  obtain ⟨q, hq⟩ : ∃ q, o / 8 % 2 = q := ⟨_, rfl⟩
  simp only [hy, hz, hp, hq] at HPa y0 y1 z0 z1
  clear hy hz hp hq ht hm0 hm3
  go_enter Tryz.func38, Tryz.ntmps38
  go_wp2_with (first
   | (go_at_call 49; (with_reducible refine (HPa.out _).mono ?_); rintro e wp ⟨rfl, rfl⟩)
   | (refine lr w.heap.size rfl rfl rfl HR.out ?_)
   | (go_at_call 84; refine (cX.out _).mono ?_; rintro e w2 ⟨rfl, hbw2⟩))
  go_ret
  exact ⟨by rw [hX.out]; rfl, HB.out.trans (hbw2.mono HB.out.size)⟩

structure PlOk (i : In) : Prop where
 x0 : 0 ≤ i.x
 x1 : i.x < 3
 nums : Nums i.d i.m
 o0 : 0 ≤ i.o
 o1 : i.o < 256
 set : i.s = 0 ∨ i.s = 1 ∨ i.s = 2 ∨ i.s = 3
 low : i.s = 0 → i.o / 64 = 0 → i.o % 8 = 1 ∨ i.o % 8 = 2 ∨ i.o % 8 = 6 → 0 ≤ i.m
 high : i.s = 0 → i.o / 64 = 3 → 0 ≤ i.m
 more : i.s = 2 → 0 ≤ i.m
 block : i.s = 2 → i.o / 64 = 2 → 4 ≤ i.o / 8 % 8 ∧ i.o % 8 < 4
theorem say_plain (i : In) (h : PlOk i) : SayR 38 #[i.val] i.d i.m (plainR i.s i.x i.o) := by
 rcases h.set with hs | hs | hs | hs
 ·exact say_plain0 i h.x0 h.x1 h.nums h.o0 h.o1 hs (h.low hs) (h.high hs)
 ·exact say_plain1 i h.x0 h.x1 h.nums h.o0 h.o1 hs
 ·exact say_plain2 i h.x0 h.x1 h.nums h.o0 h.o1 hs (h.more hs) (h.block hs)
 ·exact say_plain3 i h.x0 h.x1 h.nums h.o0 h.o1 hs

end Go.Proofs.YtgaihekapakoeaaGreatDoor
