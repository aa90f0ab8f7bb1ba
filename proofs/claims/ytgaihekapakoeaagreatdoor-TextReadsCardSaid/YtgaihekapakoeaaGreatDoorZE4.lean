/-  -/
import Derived.Test.YtgaihekapakoeaaGreatDoorZE3
set_option linter.unusedVariables false
set_option linter.unusedSimpArgs false
namespace Go.Proofs.YtgaihekapakoeaaGreatDoor
open Go.RowKit


set_option maxRecDepth 100000

theorem tk_length (l : List UInt8) : (tk l).length = l.length := by unfold tk; simp
theorem kaL {d m : Int} (hN : Nums d m) (l : List UInt8) {X : ByteArray} {K : List Nat} (hX : RowKit.Hid (X = rs d m K)) (hK : K.length ≤ 40 := by first | omega | (simp only [List.length_append, List.length_cons, List.length_nil, tk_length]; omega)) (hl : l.length ≤ 40 := by decide) :
 ∃ R : ByteArray, RowKit.Hid (R = rs d m (tk l ++ K)) ∧ ∀ w, (Op.stringOp .add ⟨l.toArray⟩ X).run Tryz.prog w = .ok (.string R) w := catL hN l hX hK hl
theorem kaR {d m : Int} (hN : Nums d m) (l : List UInt8) {X : ByteArray} {K : List Nat} (hX : RowKit.Hid (X = rs d m K)) (hK : K.length ≤ 40 := by first | omega | (simp only [List.length_append, List.length_cons, List.length_nil, tk_length]; omega)) (hl : l.length ≤ 40 := by decide) :
 ∃ R : ByteArray, RowKit.Hid (R = rs d m (K ++ tk l)) ∧ ∀ w, (Op.stringOp .add X ⟨l.toArray⟩).run Tryz.prog w = .ok (.string R) w := catR hN l hX hK hl
theorem kaX {d m : Int} (hN : Nums d m) {X Y : ByteArray} {K M : List Nat} (hX : RowKit.Hid (X = rs d m K)) (hY : RowKit.Hid (Y = rs d m M)) (hK : K.length ≤ 40 := by first | omega | (simp only [List.length_append, List.length_cons, List.length_nil, tk_length]; omega)) (hM : M.length ≤ 40 := by first | omega | (simp only [List.length_append, List.length_cons, List.length_nil, tk_length]; omega)) :
 ∃ R : ByteArray, RowKit.Hid (R = rs d m (K ++ M)) ∧ ∀ w, (Op.stringOp .add X Y).run Tryz.prog w = .ok (.string R) w := catX hN hX hY hK hM

theorem nth_len {L : List (List UInt8)} {b : Nat} (h : ∀ l ∈ L, l.length ≤ b) (x : Int) : (nth L x).length ≤ b := by
 unfold nth
 rw [List.getD_eq_getElem?_getD]
 cases e : L[x.toNat]? with
 | none => simp
 | some l => exact h l (List.mem_of_getElem? e)
theorem idxL (x : Int) : (nth indexL3 x).length ≤ 2 := nth_len (by decide) x
theorem condL (x : Int) : (nth condL8 x).length ≤ 2 := nth_len (by decide) x
theorem operL (x : Int) : (nth operL8 x).length ≤ 6 := nth_len (by decide) x
theorem shiftL (x : Int) : (nth shiftN x).length ≤ 3 := nth_len (by decide) x
theorem nameL (x : Int) : (nth nameL8 x).length ≤ 4 := nth_len (by decide) x
theorem pairRL (x c : Int) (st : Bool) : (pairR x c st).length ≤ 2 := by
 unfold pairR
 split
 ·decide
 ·split
  ·rw [tk_length]; exact idxL x
  ·rw [tk_length]; exact nth_len (by decide) c
theorem byteRL (s x o c : Int) : (byteR s x o c).length ≤ 6 := by
 have h1 := idxL x
 have h2 := nameL c
 unfold byteR
 repeat' split
 all_goals (simp only [List.length_append, List.length_cons, List.length_nil, tk_length]; omega)

def lowX : List (List UInt8) := [[68, 74, 78, 90, 32], [74, 82, 32]]
def incL : List (List UInt8) := [[73, 78, 67, 32], [68, 69, 67, 32]]
def lowR0 (y : Int) : List Nat := if y < 2 then tk (nth low0 y) else if y < 4 then tk (nth lowX (y - 2)) ++ [257] else ((tk [74, 82, 32] ++ tk (nth condL8 (y - 4))) ++ tk [44]) ++ [257]
def lowR1 (x y : Int) : List Nat := if y % 2 = 0 then ((tk [76, 68, 32] ++ pairR x (y / 2) false) ++ tk [44]) ++ [256] else ((tk [65, 68, 68, 32] ++ tk (nth indexL3 x)) ++ tk [44]) ++ pairR x (y / 2) false
def numT10 : List Nat := (tk [40] ++ [256]) ++ tk [41]
def lowR2 (x y : Int) : List Nat :=
 if y = 0 then tk (nth low2 0) else if y = 1 then tk (nth low2 1) else if y = 2 then tk (nth low2 2) else if y = 3 then tk (nth low2 3)
 else if y = 4 then ((tk [76, 68, 32] ++ numT10) ++ tk [44]) ++ tk (nth indexL3 x) else if y = 5 then ((tk [76, 68, 32] ++ tk (nth indexL3 x)) ++ tk [44]) ++ numT10
 else if y = 6 then (tk [76, 68, 32] ++ numT10) ++ tk [44, 65] else tk [76, 68, 32, 65, 44] ++ numT10
def lowR (s x o y z : Int) : List Nat :=
 if z = 0 then lowR0 y else if z = 1 then lowR1 x y else if z = 2 then lowR2 x y else if z = 3 then tk (nth incL (y % 2)) ++ pairR x (y / 2) false
 else if z = 4 then tk (nth incL 0) ++ byteR s x o y else if z = 5 then tk (nth incL 1) ++ byteR s x o y else if z = 6 then ((tk [76, 68, 32] ++ byteR s x o y) ++ tk [44]) ++ [256] else tk (nth low7 y)
set_option maxHeartbeats 16000000 in
theorem say_low0 (i : In) (h0 : 0 ≤ i.x) (h1 : i.x < 3) (hN : Nums i.d i.m) (o0 : 0 ≤ i.o) (o1 : i.o < 256) (hz : i.o % 8 = 0) : SayR 82 #[i.val] i.d i.m (lowR i.s i.x i.o (i.o / 8 % 8) 0) := by
 intro w
 obtain ⟨s, x, o, d, m, n⟩ := i
 simp only at h0 h1 hN o0 o1 hz ⊢
 obtain ⟨w1, hw1⟩ : ∃ w1, w.alloc (inO ⟨s, x, o, d, m, n⟩) = w1 := ⟨_, rfl⟩
 have hb1 : Below w.heap.size w w1 := hw1 ▸ (Below.refl _ _).alloc (Nat.le_refl _) _
 have hr : InW w1 w.heap.size ⟨s, x, o, d, m, n⟩ := hw1 ▸ InW.laid w _
 have go := hr.go
 have gm := hr.gm
 have gmp : ∀ p : M.Of (M.Base w1), p.w.cell? ⟨w.heap.size, 4, none⟩ = some (.int .i64 m) := fun p => (InW.on hr p.ok).gm
 have HR := z_ hr
 have HB := z_ hb1
 have hPa := fun w => r9_parts o w o0 o1
 have hq : o / 8 % 2 = o / 8 % 8 % 2 := by omega
 obtain ⟨y, hy⟩ : ∃ y, o / 8 % 8 = y := ⟨_, rfl⟩
 have y0 : 0 ≤ y := by omega
 have y1 : y < 8 := by omega
 rw [hy] at hq
 simp only [hq, hy, hz] at hPa ⊢
 obtain ⟨tq, htq⟩ : ∃ tq, o / 64 = tq := ⟨_, rfl⟩
 simp only [htq] at hPa
 have HPa := z_ hPa
 unfold inO at hw1
 rw [in_val]
 simp only at hw1 go gm ⊢
 unfold lowR
 clear hb1 hr hPa hq hy htq hz
 rw [if_pos rfl]
 unfold lowR0
 by_cases ya : y < 2
 ·rw [if_pos ya]
  have hy : y = 0 ∨ y = 1 := by omega
  rcases hy with rfl | rfl
  ·rw [← rs_tk]
   go_enter Tryz.func82, Tryz.ntmps82
   go_wp2_with (go_at_call 49; (with_reducible refine (HPa.out _).mono ?_); rintro e wp ⟨rfl, rfl⟩)
   go_ret
   exact ⟨rfl, HB.out.alloc HB.out.size _⟩
  ·rw [← rs_tk]
   go_enter Tryz.func82, Tryz.ntmps82
   go_wp2_with (go_at_call 49; (with_reducible refine (HPa.out _).mono ?_); rintro e wp ⟨rfl, rfl⟩)
   go_ret
   exact ⟨rfl, HB.out.alloc HB.out.size _⟩
 ·rw [if_neg ya]
  by_cases yb : y < 4
  ·rw [if_pos yb]
   have hy : y = 2 ∨ y = 3 := by omega
   rcases hy with rfl | rfl
   ·obtain ⟨Y, hY, cY⟩ := (say_signed d m hN.2.2.1 hN.2.2.2).named
    obtain ⟨R, hR, kR⟩ := kaL hN [68, 74, 78, 90, 32] hY
    clear ya yb
    go_enter Tryz.func82, Tryz.ntmps82
    go_upto_region 7 with (go_at_call 49; (with_reducible refine (HPa.out _).mono ?_); rintro e wp ⟨rfl, rfl⟩)
    refine M.rg ?_
    refine M.sg [1, 2, 5, 6] 6 ?_
    repeat (go_big_quiet_step (fail))
    refine wpQuiet_nil ?_
    refine M.cm 7 (.string Y) ?_ ?_
    ·intro wz sz
     unfold Oper.does
     go_simp
     exact (cY.out wz).mono fun e w' ⟨he, hw⟩ => ⟨_, he, rfl, Save.of_below hw⟩
    go_simp
    refine M.cl 0 ?_
    intro wz sz
    unfold Oper.does
    go_simp
    refine ⟨TB w1 wz.heap.size #[.string { data := #[68, 74, 78, 90, 32] }, .string { data := #[74, 82, 32] }], TB.new sz, TB.closed, fun _ h => h.1, ?_⟩
    clear sz
    generalize wz.heap.size = N
    go_simp
    refine M.sg [3] 3 ?_
    repeat (go_big_quiet_step (fail))
    refine wpQuiet_nil ?_
    refine M.cl 4 ?_
    intro wy sy
    have hcell := sy.cell 0 _ rfl
    unfold Oper.does
    go_simp
    refine ⟨M.Base w1, sy.1, M.closed_base _, fun _ h => h, ?_⟩
    clear hcell sy
    go_simp
    refine M.sg [8, 9] 0 ?_
    repeat (go_big_quiet_step (fail))
    refine wpQuiet_nil ?_
    refine M.en ?_
    intro wc sc
    go_wp2_with fail
    go_ret
    exact ⟨by rw [hR.out]; rfl, HB.out.trans (sc.2.mono HB.out.size)⟩
   ·obtain ⟨Y, hY, cY⟩ := (say_signed d m hN.2.2.1 hN.2.2.2).named
    obtain ⟨R, hR, kR⟩ := kaL hN [74, 82, 32] hY
    clear ya yb
    go_enter Tryz.func82, Tryz.ntmps82
    go_upto_region 7 with (go_at_call 49; (with_reducible refine (HPa.out _).mono ?_); rintro e wp ⟨rfl, rfl⟩)
    refine M.rg ?_
    refine M.sg [1, 2, 5, 6] 6 ?_
    repeat (go_big_quiet_step (fail))
    refine wpQuiet_nil ?_
    refine M.cm 7 (.string Y) ?_ ?_
    ·intro wz sz
     unfold Oper.does
     go_simp
     exact (cY.out wz).mono fun e w' ⟨he, hw⟩ => ⟨_, he, rfl, Save.of_below hw⟩
    go_simp
    refine M.cl 0 ?_
    intro wz sz
    unfold Oper.does
    go_simp
    refine ⟨TB w1 wz.heap.size #[.string { data := #[68, 74, 78, 90, 32] }, .string { data := #[74, 82, 32] }], TB.new sz, TB.closed, fun _ h => h.1, ?_⟩
    clear sz
    generalize wz.heap.size = N
    go_simp
    refine M.sg [3] 3 ?_
    repeat (go_big_quiet_step (fail))
    refine wpQuiet_nil ?_
    refine M.cl 4 ?_
    intro wy sy
    have hcell := sy.cell 1 _ rfl
    unfold Oper.does
    go_simp
    refine ⟨M.Base w1, sy.1, M.closed_base _, fun _ h => h, ?_⟩
    clear hcell sy
    go_simp
    refine M.sg [8, 9] 0 ?_
    repeat (go_big_quiet_step (fail))
    refine wpQuiet_nil ?_
    refine M.en ?_
    intro wc sc
    go_wp2_with fail
    go_ret
    exact ⟨by rw [hR.out]; rfl, HB.out.trans (sc.2.mono HB.out.size)⟩
  ·rw [if_neg yb]
   have l1 := condL (y - 4)
   obtain ⟨X, hX, cX⟩ := (say_cond d m (y - 4) (by omega) (by omega)).named
   obtain ⟨Y, hY, cY⟩ := (say_signed d m hN.2.2.1 hN.2.2.2).named
   obtain ⟨R1, hR1, kR1⟩ := kaL hN [74, 82, 32] hX
   obtain ⟨R2, hR2, kR2⟩ := kaR hN [44] hR1
   obtain ⟨R3, hR3, kR3⟩ := kaX hN hR2 hY
   clear l1
   go_enter Tryz.func82, Tryz.ntmps82
   go_upto_region 8 with (go_at_call 49; (with_reducible refine (HPa.out _).mono ?_); rintro e wp ⟨rfl, rfl⟩)
   refine M.rg ?_
   refine M.sg [0, 1, 5, 6] 6 ?_
   repeat (go_big_quiet_step (fail))
   refine wpQuiet_nil ?_
   refine M.cm 2 (.string X) ?_ ?_
   ·intro wz sz
    unfold Oper.does
    go_simp
    exact (cX.out wz).mono fun e w' ⟨he, hw⟩ => ⟨_, he, rfl, Save.of_below hw⟩
   go_simp
   refine M.cm 7 (.string Y) ?_ ?_
   ·intro wz sz
    unfold Oper.does
    go_simp
    exact (cY.out wz).mono fun e w' ⟨he, hw⟩ => ⟨_, he, rfl, Save.of_below hw⟩
   go_simp
   refine M.sg [3, 4, 8, 9] 0 ?_
   repeat (go_big_quiet_step (fail))
   refine wpQuiet_nil ?_
   refine M.en ?_
   intro wc sc
   go_wp2_with fail
   go_ret
   exact ⟨by rw [hR3.out]; rfl, HB.out.trans (sc.2.mono HB.out.size)⟩

set_option maxHeartbeats 16000000 in
theorem say_low1 (i : In) (h0 : 0 ≤ i.x) (h1 : i.x < 3) (hN : Nums i.d i.m) (o0 : 0 ≤ i.o) (o1 : i.o < 256) (hz : i.o % 8 = 1) (hm : 0 ≤ i.m) : SayR 82 #[i.val] i.d i.m (lowR i.s i.x i.o (i.o / 8 % 8) 1) := by
 intro w
 obtain ⟨s, x, o, d, m, n⟩ := i
 simp only at h0 h1 hN o0 o1 hz hm ⊢
 obtain ⟨w1, hw1⟩ : ∃ w1, w.alloc (inO ⟨s, x, o, d, m, n⟩) = w1 := ⟨_, rfl⟩
 have hb1 : Below w.heap.size w w1 := hw1 ▸ (Below.refl _ _).alloc (Nat.le_refl _) _
 have hr : InW w1 w.heap.size ⟨s, x, o, d, m, n⟩ := hw1 ▸ InW.laid w _
 have go := hr.go
 have gm := hr.gm
 have gmp : ∀ p : M.Of (M.Base w1), p.w.cell? ⟨w.heap.size, 4, none⟩ = some (.int .i64 m) := fun p => (InW.on hr p.ok).gm
 have HR := z_ hr
 have HB := z_ hb1
 have hPa := fun w => r9_parts o w o0 o1
 have hq : o / 8 % 2 = o / 8 % 8 % 2 := by omega
 obtain ⟨y, hy⟩ : ∃ y, o / 8 % 8 = y := ⟨_, rfl⟩
 have y0 : 0 ≤ y := by omega
 have y1 : y < 8 := by omega
 rw [hy] at hq
 simp only [hq, hy, hz] at hPa ⊢
 obtain ⟨tq, htq⟩ : ∃ tq, o / 64 = tq := ⟨_, rfl⟩
 simp only [htq] at hPa
 have HPa := z_ hPa
 unfold inO at hw1
 rw [in_val]
 simp only at hw1 go gm ⊢
 unfold lowR
 clear hb1 hr hPa hq hy htq hz
 rw [if_neg (by decide), if_pos rfl]
 unfold lowR1
 have l1 := pairRL x (y / 2) false
 have l2 := idxL x
 obtain ⟨X, hX, cX⟩ := (say_pair ⟨s, x, o, d, m, n⟩ (y / 2) false h0 h1 (by omega) (by omega)).named
 rw [in_val] at cX
 by_cases hq : y % 2 = 0
 ·rw [if_pos hq]
  obtain ⟨Y, hY, cY⟩ := (say_digits d m hm hN.2.2.2).named
  obtain ⟨R1, hR1, kR1⟩ := kaL hN [76, 68, 32] hX
  obtain ⟨R2, hR2, kR2⟩ := kaR hN [44] hR1
  obtain ⟨R3, hR3, kR3⟩ := kaX hN hR2 hY
  have q0 : (y % 2 == 0) = true := by rw [hq]; rfl
  clear l1 l2
  go_enter Tryz.func82, Tryz.ntmps82
  go_upto_region 11 with (go_at_call 49; (with_reducible refine (HPa.out _).mono ?_); rintro e wp ⟨rfl, rfl⟩)
  refine M.rg ?_
  refine M.cm 0 (.agg #[.int .i64 s, .int .i64 x, .int .i64 o, .int .i64 d, .int .i64 m, .int .i64 n]) ?_ ?_
  ·intro wz sz
   exact dl (InW.on HR.out sz)
  go_simp
  refine M.sg [1, 5, 6] 6 ?_
  repeat (go_big_quiet_step (fail))
  refine wpQuiet_nil ?_
  refine M.cm 2 (.string X) ?_ ?_
  ·intro wz sz
   unfold Oper.does
   go_simp
   exact (cX.out wz).mono fun e w' ⟨he, hw⟩ => ⟨_, he, rfl, Save.of_below hw⟩
  go_simp
  refine M.cm 7 (.string Y) ?_ ?_
  ·intro wz sz
   unfold Oper.does
   go_simp
   exact (cY.out wz).mono fun e w' ⟨he, hw⟩ => ⟨_, he, rfl, Save.of_below hw⟩
  go_simp
  refine M.sg [3, 4, 8, 9] 0 ?_
  repeat (go_big_quiet_step (fail))
  refine wpQuiet_nil ?_
  refine M.en ?_
  intro wc sc
  go_wp2_with fail
  go_ret
  exact ⟨by rw [hR3.out]; rfl, HB.out.trans (sc.2.mono HB.out.size)⟩
 ·rw [if_neg hq]
  obtain ⟨Y, hY, cY⟩ := (say_index ⟨s, x, o, d, m, n⟩ h0 h1).named
  rw [in_val] at cY
  obtain ⟨R1, hR1, kR1⟩ := kaL hN [65, 68, 68, 32] hY
  obtain ⟨R2, hR2, kR2⟩ := kaR hN [44] hR1
  obtain ⟨R3, hR3, kR3⟩ := kaX hN hR2 hX
  have q0 : (y % 2 == 0) = false := beq_eq_false_iff_ne.2 hq
  clear l1 l2
  go_enter Tryz.func82, Tryz.ntmps82
  go_upto_region 12 with (go_at_call 49; (with_reducible refine (HPa.out _).mono ?_); rintro e wp ⟨rfl, rfl⟩)
  refine M.rg ?_
  refine M.cm 0 (.agg #[.int .i64 s, .int .i64 x, .int .i64 o, .int .i64 d, .int .i64 m, .int .i64 n]) ?_ ?_
  ·intro wz sz
   exact dl (InW.on HR.out sz)
  go_simp
  refine M.cm 1 (.string Y) ?_ ?_
  ·intro wz sz
   unfold Oper.does
   go_simp
   exact (cY.out wz).mono fun e w' ⟨he, hw⟩ => ⟨_, he, rfl, Save.of_below hw⟩
  go_simp
  refine M.cm 4 (.agg #[.int .i64 s, .int .i64 x, .int .i64 o, .int .i64 d, .int .i64 m, .int .i64 n]) ?_ ?_
  ·intro wz sz
   exact dl (InW.on HR.out sz)
  go_simp
  refine M.sg [5] 5 ?_
  repeat (go_big_quiet_step (fail))
  refine wpQuiet_nil ?_
  refine M.cm 6 (.string X) ?_ ?_
  ·intro wz sz
   unfold Oper.does
   go_simp
   exact (cX.out wz).mono fun e w' ⟨he, hw⟩ => ⟨_, he, rfl, Save.of_below hw⟩
  go_simp
  refine M.sg [2, 3, 7, 8] 0 ?_
  repeat (go_big_quiet_step (fail))
  refine wpQuiet_nil ?_
  refine M.en ?_
  intro wc sc
  go_wp2_with fail
  go_ret
  exact ⟨by rw [hR3.out]; rfl, HB.out.trans (sc.2.mono HB.out.size)⟩

set_option maxHeartbeats 16000000 in
theorem say_low2 (i : In) (h0 : 0 ≤ i.x) (h1 : i.x < 3) (hN : Nums i.d i.m) (o0 : 0 ≤ i.o) (o1 : i.o < 256) (hz : i.o % 8 = 2) (hm : 0 ≤ i.m) : SayR 82 #[i.val] i.d i.m (lowR i.s i.x i.o (i.o / 8 % 8) 2) := by
 intro w
 obtain ⟨s, x, o, d, m, n⟩ := i
 simp only at h0 h1 hN o0 o1 hz hm ⊢
 obtain ⟨w1, hw1⟩ : ∃ w1, w.alloc (inO ⟨s, x, o, d, m, n⟩) = w1 := ⟨_, rfl⟩
 have hb1 : Below w.heap.size w w1 := hw1 ▸ (Below.refl _ _).alloc (Nat.le_refl _) _
 have hr : InW w1 w.heap.size ⟨s, x, o, d, m, n⟩ := hw1 ▸ InW.laid w _
 have go := hr.go
 have gm := hr.gm
 have gmp : ∀ p : M.Of (M.Base w1), p.w.cell? ⟨w.heap.size, 4, none⟩ = some (.int .i64 m) := fun p => (InW.on hr p.ok).gm
 have HR := z_ hr
 have HB := z_ hb1
 have hPa := fun w => r9_parts o w o0 o1
 have hq : o / 8 % 2 = o / 8 % 8 % 2 := by omega
 obtain ⟨y, hy⟩ : ∃ y, o / 8 % 8 = y := ⟨_, rfl⟩
 have y0 : 0 ≤ y := by omega
 have y1 : y < 8 := by omega
 rw [hy] at hq
 simp only [hq, hy, hz] at hPa ⊢
 obtain ⟨tq, htq⟩ : ∃ tq, o / 64 = tq := ⟨_, rfl⟩
 simp only [htq] at hPa
 have HPa := z_ hPa
 unfold inO at hw1
 rw [in_val]
 simp only at hw1 go gm ⊢
 unfold lowR
 clear hb1 hr hPa hq hy htq hz
 rw [if_neg (by decide), if_neg (by decide), if_pos rfl]
 unfold lowR2
 have l2 := idxL x
 obtain ⟨X, hX, cX⟩ := (say_index ⟨s, x, o, d, m, n⟩ h0 h1).named
 rw [in_val] at cX
 obtain ⟨Y, hY, cY⟩ := (say_digits d m hm hN.2.2.2).named
 obtain ⟨P1, hP1, kP1⟩ := kaL hN [40] hY
 obtain ⟨N2, hN2, kN2⟩ := kaR hN [41] hP1
 have l3 : ((tk [40] ++ [256]) ++ tk [41]).length ≤ 3 := by decide
 obtain ⟨A1, hA1, kA1⟩ := kaL hN [76, 68, 32] hN2
 obtain ⟨A2, hA2, kA2⟩ := kaR hN [44] hA1
 obtain ⟨A3, hA3, kA3⟩ := kaX hN hA2 hX
 obtain ⟨B1, hB1, kB1⟩ := kaL hN [76, 68, 32] hX
 obtain ⟨B2, hB2, kB2⟩ := kaR hN [44] hB1
 obtain ⟨B3, hB3, kB3⟩ := kaX hN hB2 hN2
 obtain ⟨C2, hC2, kC2⟩ := kaR hN [44, 65] hA1
 obtain ⟨D1, hD1, kD1⟩ := kaL hN [76, 68, 32, 65, 44] hN2
 clear l2 l3
 have hyc : y = 0 ∨ y = 1 ∨ y = 2 ∨ y = 3 ∨ y = 4 ∨ y = 5 ∨ y = 6 ∨ y = 7 := by omega
 rcases hyc with rfl | rfl | rfl | rfl | rfl | rfl | rfl | rfl
 ·rw [if_pos rfl, ← rs_tk]
  go_enter Tryz.func82, Tryz.ntmps82
  go_upto_region 15 with (first
   | (go_at_call 49; (with_reducible refine (HPa.out _).mono ?_); rintro e wp ⟨rfl, rfl⟩)
   | (go_at_call 39; (with_reducible refine (cY.out _).mono ?_); rintro e w2 ⟨rfl, hb2⟩))
  have HR2 := z_ (HR.out.below hb2 HR.out.lt)
  have HB2 := z_ (HB.out.trans (hb2.mono HB.out.size))
  clear hb2
  refine M.rg ?_
  refine M.cm 3 (.agg #[.int .i64 s, .int .i64 x, .int .i64 o, .int .i64 d, .int .i64 m, .int .i64 n]) ?_ ?_
  ·intro wz sz
   exact dl (InW.on HR2.out sz)
  go_simp
  refine M.cm 4 (.string X) ?_ ?_
  ·intro wz sz
   unfold Oper.does
   go_simp
   exact (cX.out wz).mono fun e w' ⟨he, hw⟩ => ⟨_, he, rfl, Save.of_below hw⟩
  go_simp
  refine M.cm 6 (.agg #[.int .i64 s, .int .i64 x, .int .i64 o, .int .i64 d, .int .i64 m, .int .i64 n]) ?_ ?_
  ·intro wz sz
   exact dl (InW.on HR2.out sz)
  go_simp
  refine M.cm 7 (.string X) ?_ ?_
  ·intro wz sz
   unfold Oper.does
   go_simp
   exact (cX.out wz).mono fun e w' ⟨he, hw⟩ => ⟨_, he, rfl, Save.of_below hw⟩
  go_simp
  refine M.sg [0, 1, 2, 5, 8, 9, 10, 11, 12, 13, 14, 15, 16, 18] 4 ?_
  repeat (go_big_quiet_step (fail))
  refine wpQuiet_nil ?_
  refine M.cl 17 ?_
  intro wz sz
  unfold Oper.does
  go_simp
  refine ⟨TB w2 wz.heap.size #[.string { data := #[76, 68, 32, 40, 66, 67, 41, 44, 65] }, .string { data := #[76, 68, 32, 65, 44, 40, 66, 67, 41] }, .string { data := #[76, 68, 32, 40, 68, 69, 41, 44, 65] }, .string { data := #[76, 68, 32, 65, 44, 40, 68, 69, 41] }, .string A3, .string B3, .string C2, .string D1], TB.new sz, TB.closed, fun _ h => h.1, ?_⟩
  clear sz
  generalize wz.heap.size = N
  go_simp
  refine M.sg [19] 2 ?_
  repeat (go_big_quiet_step (fail))
  refine wpQuiet_nil ?_
  refine M.cl 20 ?_
  intro wy sy
  have hcell := sy.cell 0 _ rfl
  unfold Oper.does
  go_simp
  refine ⟨M.Base w2, sy.1, M.closed_base _, fun _ h => h, ?_⟩
  clear hcell sy
  go_simp
  refine M.sg [21] 0 ?_
  repeat (go_big_quiet_step (fail))
  refine wpQuiet_nil ?_
  refine M.en ?_
  intro wc sc
  go_wp2_with fail
  go_ret
  exact ⟨rfl, HB2.out.trans (sc.2.mono HB2.out.size)⟩
 ·rw [if_neg (by decide), if_pos rfl, ← rs_tk]
  go_enter Tryz.func82, Tryz.ntmps82
  go_upto_region 15 with (first
   | (go_at_call 49; (with_reducible refine (HPa.out _).mono ?_); rintro e wp ⟨rfl, rfl⟩)
   | (go_at_call 39; (with_reducible refine (cY.out _).mono ?_); rintro e w2 ⟨rfl, hb2⟩))
  have HR2 := z_ (HR.out.below hb2 HR.out.lt)
  have HB2 := z_ (HB.out.trans (hb2.mono HB.out.size))
  clear hb2
  refine M.rg ?_
  refine M.cm 3 (.agg #[.int .i64 s, .int .i64 x, .int .i64 o, .int .i64 d, .int .i64 m, .int .i64 n]) ?_ ?_
  ·intro wz sz
   exact dl (InW.on HR2.out sz)
  go_simp
  refine M.cm 4 (.string X) ?_ ?_
  ·intro wz sz
   unfold Oper.does
   go_simp
   exact (cX.out wz).mono fun e w' ⟨he, hw⟩ => ⟨_, he, rfl, Save.of_below hw⟩
  go_simp
  refine M.cm 6 (.agg #[.int .i64 s, .int .i64 x, .int .i64 o, .int .i64 d, .int .i64 m, .int .i64 n]) ?_ ?_
  ·intro wz sz
   exact dl (InW.on HR2.out sz)
  go_simp
  refine M.cm 7 (.string X) ?_ ?_
  ·intro wz sz
   unfold Oper.does
   go_simp
   exact (cX.out wz).mono fun e w' ⟨he, hw⟩ => ⟨_, he, rfl, Save.of_below hw⟩
  go_simp
  refine M.sg [0, 1, 2, 5, 8, 9, 10, 11, 12, 13, 14, 15, 16, 18] 4 ?_
  repeat (go_big_quiet_step (fail))
  refine wpQuiet_nil ?_
  refine M.cl 17 ?_
  intro wz sz
  unfold Oper.does
  go_simp
  refine ⟨TB w2 wz.heap.size #[.string { data := #[76, 68, 32, 40, 66, 67, 41, 44, 65] }, .string { data := #[76, 68, 32, 65, 44, 40, 66, 67, 41] }, .string { data := #[76, 68, 32, 40, 68, 69, 41, 44, 65] }, .string { data := #[76, 68, 32, 65, 44, 40, 68, 69, 41] }, .string A3, .string B3, .string C2, .string D1], TB.new sz, TB.closed, fun _ h => h.1, ?_⟩
  clear sz
  generalize wz.heap.size = N
  go_simp
  refine M.sg [19] 2 ?_
  repeat (go_big_quiet_step (fail))
  refine wpQuiet_nil ?_
  refine M.cl 20 ?_
  intro wy sy
  have hcell := sy.cell 1 _ rfl
  unfold Oper.does
  go_simp
  refine ⟨M.Base w2, sy.1, M.closed_base _, fun _ h => h, ?_⟩
  clear hcell sy
  go_simp
  refine M.sg [21] 0 ?_
  repeat (go_big_quiet_step (fail))
  refine wpQuiet_nil ?_
  refine M.en ?_
  intro wc sc
  go_wp2_with fail
  go_ret
  exact ⟨rfl, HB2.out.trans (sc.2.mono HB2.out.size)⟩
 ·rw [if_neg (by decide), if_neg (by decide), if_pos rfl, ← rs_tk]
  go_enter Tryz.func82, Tryz.ntmps82
  go_upto_region 15 with (first
   | (go_at_call 49; (with_reducible refine (HPa.out _).mono ?_); rintro e wp ⟨rfl, rfl⟩)
   | (go_at_call 39; (with_reducible refine (cY.out _).mono ?_); rintro e w2 ⟨rfl, hb2⟩))
  have HR2 := z_ (HR.out.below hb2 HR.out.lt)
  have HB2 := z_ (HB.out.trans (hb2.mono HB.out.size))
  clear hb2
  refine M.rg ?_
  refine M.cm 3 (.agg #[.int .i64 s, .int .i64 x, .int .i64 o, .int .i64 d, .int .i64 m, .int .i64 n]) ?_ ?_
  ·intro wz sz
   exact dl (InW.on HR2.out sz)
  go_simp
  refine M.cm 4 (.string X) ?_ ?_
  ·intro wz sz
   unfold Oper.does
   go_simp
   exact (cX.out wz).mono fun e w' ⟨he, hw⟩ => ⟨_, he, rfl, Save.of_below hw⟩
  go_simp
  refine M.cm 6 (.agg #[.int .i64 s, .int .i64 x, .int .i64 o, .int .i64 d, .int .i64 m, .int .i64 n]) ?_ ?_
  ·intro wz sz
   exact dl (InW.on HR2.out sz)
  go_simp
  refine M.cm 7 (.string X) ?_ ?_
  ·intro wz sz
   unfold Oper.does
   go_simp
   exact (cX.out wz).mono fun e w' ⟨he, hw⟩ => ⟨_, he, rfl, Save.of_below hw⟩
  go_simp
  refine M.sg [0, 1, 2, 5, 8, 9, 10, 11, 12, 13, 14, 15, 16, 18] 4 ?_
  repeat (go_big_quiet_step (fail))
  refine wpQuiet_nil ?_
  refine M.cl 17 ?_
  intro wz sz
  unfold Oper.does
  go_simp
  refine ⟨TB w2 wz.heap.size #[.string { data := #[76, 68, 32, 40, 66, 67, 41, 44, 65] }, .string { data := #[76, 68, 32, 65, 44, 40, 66, 67, 41] }, .string { data := #[76, 68, 32, 40, 68, 69, 41, 44, 65] }, .string { data := #[76, 68, 32, 65, 44, 40, 68, 69, 41] }, .string A3, .string B3, .string C2, .string D1], TB.new sz, TB.closed, fun _ h => h.1, ?_⟩
  clear sz
  generalize wz.heap.size = N
  go_simp
  refine M.sg [19] 2 ?_
  repeat (go_big_quiet_step (fail))
  refine wpQuiet_nil ?_
  refine M.cl 20 ?_
  intro wy sy
  have hcell := sy.cell 2 _ rfl
  unfold Oper.does
  go_simp
  refine ⟨M.Base w2, sy.1, M.closed_base _, fun _ h => h, ?_⟩
  clear hcell sy
  go_simp
  refine M.sg [21] 0 ?_
  repeat (go_big_quiet_step (fail))
  refine wpQuiet_nil ?_
  refine M.en ?_
  intro wc sc
  go_wp2_with fail
  go_ret
  exact ⟨rfl, HB2.out.trans (sc.2.mono HB2.out.size)⟩
 ·rw [if_neg (by decide), if_neg (by decide), if_neg (by decide), if_pos rfl, ← rs_tk]
  go_enter Tryz.func82, Tryz.ntmps82
  go_upto_region 15 with (first
   | (go_at_call 49; (with_reducible refine (HPa.out _).mono ?_); rintro e wp ⟨rfl, rfl⟩)
   | (go_at_call 39; (with_reducible refine (cY.out _).mono ?_); rintro e w2 ⟨rfl, hb2⟩))
  have HR2 := z_ (HR.out.below hb2 HR.out.lt)
  have HB2 := z_ (HB.out.trans (hb2.mono HB.out.size))
  clear hb2
  refine M.rg ?_
  refine M.cm 3 (.agg #[.int .i64 s, .int .i64 x, .int .i64 o, .int .i64 d, .int .i64 m, .int .i64 n]) ?_ ?_
  ·intro wz sz
   exact dl (InW.on HR2.out sz)
  go_simp
  refine M.cm 4 (.string X) ?_ ?_
  ·intro wz sz
   unfold Oper.does
   go_simp
   exact (cX.out wz).mono fun e w' ⟨he, hw⟩ => ⟨_, he, rfl, Save.of_below hw⟩
  go_simp
  refine M.cm 6 (.agg #[.int .i64 s, .int .i64 x, .int .i64 o, .int .i64 d, .int .i64 m, .int .i64 n]) ?_ ?_
  ·intro wz sz
   exact dl (InW.on HR2.out sz)
  go_simp
  refine M.cm 7 (.string X) ?_ ?_
  ·intro wz sz
   unfold Oper.does
   go_simp
   exact (cX.out wz).mono fun e w' ⟨he, hw⟩ => ⟨_, he, rfl, Save.of_below hw⟩
  go_simp
  refine M.sg [0, 1, 2, 5, 8, 9, 10, 11, 12, 13, 14, 15, 16, 18] 4 ?_
  repeat (go_big_quiet_step (fail))
  refine wpQuiet_nil ?_
  refine M.cl 17 ?_
  intro wz sz
  unfold Oper.does
  go_simp
  refine ⟨TB w2 wz.heap.size #[.string { data := #[76, 68, 32, 40, 66, 67, 41, 44, 65] }, .string { data := #[76, 68, 32, 65, 44, 40, 66, 67, 41] }, .string { data := #[76, 68, 32, 40, 68, 69, 41, 44, 65] }, .string { data := #[76, 68, 32, 65, 44, 40, 68, 69, 41] }, .string A3, .string B3, .string C2, .string D1], TB.new sz, TB.closed, fun _ h => h.1, ?_⟩
  clear sz
  generalize wz.heap.size = N
  go_simp
  refine M.sg [19] 2 ?_
  repeat (go_big_quiet_step (fail))
  refine wpQuiet_nil ?_
  refine M.cl 20 ?_
  intro wy sy
  have hcell := sy.cell 3 _ rfl
  unfold Oper.does
  go_simp
  refine ⟨M.Base w2, sy.1, M.closed_base _, fun _ h => h, ?_⟩
  clear hcell sy
  go_simp
  refine M.sg [21] 0 ?_
  repeat (go_big_quiet_step (fail))
  refine wpQuiet_nil ?_
  refine M.en ?_
  intro wc sc
  go_wp2_with fail
  go_ret
  exact ⟨rfl, HB2.out.trans (sc.2.mono HB2.out.size)⟩
 ·rw [if_neg (by decide), if_neg (by decide), if_neg (by decide), if_neg (by decide), if_pos rfl]
  go_enter Tryz.func82, Tryz.ntmps82
  go_upto_region 15 with (first
   | (go_at_call 49; (with_reducible refine (HPa.out _).mono ?_); rintro e wp ⟨rfl, rfl⟩)
   | (go_at_call 39; (with_reducible refine (cY.out _).mono ?_); rintro e w2 ⟨rfl, hb2⟩))
  have HR2 := z_ (HR.out.below hb2 HR.out.lt)
  have HB2 := z_ (HB.out.trans (hb2.mono HB.out.size))
  clear hb2
  refine M.rg ?_
  refine M.cm 3 (.agg #[.int .i64 s, .int .i64 x, .int .i64 o, .int .i64 d, .int .i64 m, .int .i64 n]) ?_ ?_
  ·intro wz sz
   exact dl (InW.on HR2.out sz)
  go_simp
  refine M.cm 4 (.string X) ?_ ?_
  ·intro wz sz
   unfold Oper.does
   go_simp
   exact (cX.out wz).mono fun e w' ⟨he, hw⟩ => ⟨_, he, rfl, Save.of_below hw⟩
  go_simp
  refine M.cm 6 (.agg #[.int .i64 s, .int .i64 x, .int .i64 o, .int .i64 d, .int .i64 m, .int .i64 n]) ?_ ?_
  ·intro wz sz
   exact dl (InW.on HR2.out sz)
  go_simp
  refine M.cm 7 (.string X) ?_ ?_
  ·intro wz sz
   unfold Oper.does
   go_simp
   exact (cX.out wz).mono fun e w' ⟨he, hw⟩ => ⟨_, he, rfl, Save.of_below hw⟩
  go_simp
  refine M.sg [0, 1, 2, 5, 8, 9, 10, 11, 12, 13, 14, 15, 16, 18] 4 ?_
  repeat (go_big_quiet_step (fail))
  refine wpQuiet_nil ?_
  refine M.cl 17 ?_
  intro wz sz
  unfold Oper.does
  go_simp
  refine ⟨TB w2 wz.heap.size #[.string { data := #[76, 68, 32, 40, 66, 67, 41, 44, 65] }, .string { data := #[76, 68, 32, 65, 44, 40, 66, 67, 41] }, .string { data := #[76, 68, 32, 40, 68, 69, 41, 44, 65] }, .string { data := #[76, 68, 32, 65, 44, 40, 68, 69, 41] }, .string A3, .string B3, .string C2, .string D1], TB.new sz, TB.closed, fun _ h => h.1, ?_⟩
  clear sz
  generalize wz.heap.size = N
  go_simp
  refine M.sg [19] 2 ?_
  repeat (go_big_quiet_step (fail))
  refine wpQuiet_nil ?_
  refine M.cl 20 ?_
  intro wy sy
  have hcell := sy.cell 4 _ rfl
  unfold Oper.does
  go_simp
  refine ⟨M.Base w2, sy.1, M.closed_base _, fun _ h => h, ?_⟩
  clear hcell sy
  go_simp
  refine M.sg [21] 0 ?_
  repeat (go_big_quiet_step (fail))
  refine wpQuiet_nil ?_
  refine M.en ?_
  intro wc sc
  go_wp2_with fail
  go_ret
  exact ⟨by rw [hA3.out]; rfl, HB2.out.trans (sc.2.mono HB2.out.size)⟩
 ·rw [if_neg (by decide), if_neg (by decide), if_neg (by decide), if_neg (by decide), if_neg (by decide), if_pos rfl]
  go_enter Tryz.func82, Tryz.ntmps82
  go_upto_region 15 with (first
   | (go_at_call 49; (with_reducible refine (HPa.out _).mono ?_); rintro e wp ⟨rfl, rfl⟩)
   | (go_at_call 39; (with_reducible refine (cY.out _).mono ?_); rintro e w2 ⟨rfl, hb2⟩))
  have HR2 := z_ (HR.out.below hb2 HR.out.lt)
  have HB2 := z_ (HB.out.trans (hb2.mono HB.out.size))
  clear hb2
  refine M.rg ?_
  refine M.cm 3 (.agg #[.int .i64 s, .int .i64 x, .int .i64 o, .int .i64 d, .int .i64 m, .int .i64 n]) ?_ ?_
  ·intro wz sz
   exact dl (InW.on HR2.out sz)
  go_simp
  refine M.cm 4 (.string X) ?_ ?_
  ·intro wz sz
   unfold Oper.does
   go_simp
   exact (cX.out wz).mono fun e w' ⟨he, hw⟩ => ⟨_, he, rfl, Save.of_below hw⟩
  go_simp
  refine M.cm 6 (.agg #[.int .i64 s, .int .i64 x, .int .i64 o, .int .i64 d, .int .i64 m, .int .i64 n]) ?_ ?_
  ·intro wz sz
   exact dl (InW.on HR2.out sz)
  go_simp
  refine M.cm 7 (.string X) ?_ ?_
  ·intro wz sz
   unfold Oper.does
   go_simp
   exact (cX.out wz).mono fun e w' ⟨he, hw⟩ => ⟨_, he, rfl, Save.of_below hw⟩
  go_simp
  refine M.sg [0, 1, 2, 5, 8, 9, 10, 11, 12, 13, 14, 15, 16, 18] 4 ?_
  repeat (go_big_quiet_step (fail))
  refine wpQuiet_nil ?_
  refine M.cl 17 ?_
  intro wz sz
  unfold Oper.does
  go_simp
  refine ⟨TB w2 wz.heap.size #[.string { data := #[76, 68, 32, 40, 66, 67, 41, 44, 65] }, .string { data := #[76, 68, 32, 65, 44, 40, 66, 67, 41] }, .string { data := #[76, 68, 32, 40, 68, 69, 41, 44, 65] }, .string { data := #[76, 68, 32, 65, 44, 40, 68, 69, 41] }, .string A3, .string B3, .string C2, .string D1], TB.new sz, TB.closed, fun _ h => h.1, ?_⟩
  clear sz
  generalize wz.heap.size = N
  go_simp
  refine M.sg [19] 2 ?_
  repeat (go_big_quiet_step (fail))
  refine wpQuiet_nil ?_
  refine M.cl 20 ?_
  intro wy sy
  have hcell := sy.cell 5 _ rfl
  unfold Oper.does
  go_simp
  refine ⟨M.Base w2, sy.1, M.closed_base _, fun _ h => h, ?_⟩
  clear hcell sy
  go_simp
  refine M.sg [21] 0 ?_
  repeat (go_big_quiet_step (fail))
  refine wpQuiet_nil ?_
  refine M.en ?_
  intro wc sc
  go_wp2_with fail
  go_ret
  exact ⟨by rw [hB3.out]; rfl, HB2.out.trans (sc.2.mono HB2.out.size)⟩
 ·rw [if_neg (by decide), if_neg (by decide), if_neg (by decide), if_neg (by decide), if_neg (by decide), if_neg (by decide), if_pos rfl]
  go_enter Tryz.func82, Tryz.ntmps82
  go_upto_region 15 with (first
   | (go_at_call 49; (with_reducible refine (HPa.out _).mono ?_); rintro e wp ⟨rfl, rfl⟩)
   | (go_at_call 39; (with_reducible refine (cY.out _).mono ?_); rintro e w2 ⟨rfl, hb2⟩))
  have HR2 := z_ (HR.out.below hb2 HR.out.lt)
  have HB2 := z_ (HB.out.trans (hb2.mono HB.out.size))
  clear hb2
  refine M.rg ?_
  refine M.cm 3 (.agg #[.int .i64 s, .int .i64 x, .int .i64 o, .int .i64 d, .int .i64 m, .int .i64 n]) ?_ ?_
  ·intro wz sz
   exact dl (InW.on HR2.out sz)
  go_simp
  refine M.cm 4 (.string X) ?_ ?_
  ·intro wz sz
   unfold Oper.does
   go_simp
   exact (cX.out wz).mono fun e w' ⟨he, hw⟩ => ⟨_, he, rfl, Save.of_below hw⟩
  go_simp
  refine M.cm 6 (.agg #[.int .i64 s, .int .i64 x, .int .i64 o, .int .i64 d, .int .i64 m, .int .i64 n]) ?_ ?_
  ·intro wz sz
   exact dl (InW.on HR2.out sz)
  go_simp
  refine M.cm 7 (.string X) ?_ ?_
  ·intro wz sz
   unfold Oper.does
   go_simp
   exact (cX.out wz).mono fun e w' ⟨he, hw⟩ => ⟨_, he, rfl, Save.of_below hw⟩
  go_simp
  refine M.sg [0, 1, 2, 5, 8, 9, 10, 11, 12, 13, 14, 15, 16, 18] 4 ?_
  repeat (go_big_quiet_step (fail))
  refine wpQuiet_nil ?_
  refine M.cl 17 ?_
  intro wz sz
  unfold Oper.does
  go_simp
  refine ⟨TB w2 wz.heap.size #[.string { data := #[76, 68, 32, 40, 66, 67, 41, 44, 65] }, .string { data := #[76, 68, 32, 65, 44, 40, 66, 67, 41] }, .string { data := #[76, 68, 32, 40, 68, 69, 41, 44, 65] }, .string { data := #[76, 68, 32, 65, 44, 40, 68, 69, 41] }, .string A3, .string B3, .string C2, .string D1], TB.new sz, TB.closed, fun _ h => h.1, ?_⟩
  clear sz
  generalize wz.heap.size = N
  go_simp
  refine M.sg [19] 2 ?_
  repeat (go_big_quiet_step (fail))
  refine wpQuiet_nil ?_
  refine M.cl 20 ?_
  intro wy sy
  have hcell := sy.cell 6 _ rfl
  unfold Oper.does
  go_simp
  refine ⟨M.Base w2, sy.1, M.closed_base _, fun _ h => h, ?_⟩
  clear hcell sy
  go_simp
  refine M.sg [21] 0 ?_
  repeat (go_big_quiet_step (fail))
  refine wpQuiet_nil ?_
  refine M.en ?_
  intro wc sc
  go_wp2_with fail
  go_ret
  exact ⟨by rw [hC2.out]; rfl, HB2.out.trans (sc.2.mono HB2.out.size)⟩
 ·rw [if_neg (by decide), if_neg (by decide), if_neg (by decide), if_neg (by decide), if_neg (by decide), if_neg (by decide), if_neg (by decide)]
  go_enter Tryz.func82, Tryz.ntmps82
  go_upto_region 15 with (first
   | (go_at_call 49; (with_reducible refine (HPa.out _).mono ?_); rintro e wp ⟨rfl, rfl⟩)
   | (go_at_call 39; (with_reducible refine (cY.out _).mono ?_); rintro e w2 ⟨rfl, hb2⟩))
  have HR2 := z_ (HR.out.below hb2 HR.out.lt)
  have HB2 := z_ (HB.out.trans (hb2.mono HB.out.size))
  clear hb2
  refine M.rg ?_
  refine M.cm 3 (.agg #[.int .i64 s, .int .i64 x, .int .i64 o, .int .i64 d, .int .i64 m, .int .i64 n]) ?_ ?_
  ·intro wz sz
   exact dl (InW.on HR2.out sz)
  go_simp
  refine M.cm 4 (.string X) ?_ ?_
  ·intro wz sz
   unfold Oper.does
   go_simp
   exact (cX.out wz).mono fun e w' ⟨he, hw⟩ => ⟨_, he, rfl, Save.of_below hw⟩
  go_simp
  refine M.cm 6 (.agg #[.int .i64 s, .int .i64 x, .int .i64 o, .int .i64 d, .int .i64 m, .int .i64 n]) ?_ ?_
  ·intro wz sz
   exact dl (InW.on HR2.out sz)
  go_simp
  refine M.cm 7 (.string X) ?_ ?_
  ·intro wz sz
   unfold Oper.does
   go_simp
   exact (cX.out wz).mono fun e w' ⟨he, hw⟩ => ⟨_, he, rfl, Save.of_below hw⟩
  go_simp
  refine M.sg [0, 1, 2, 5, 8, 9, 10, 11, 12, 13, 14, 15, 16, 18] 4 ?_
  repeat (go_big_quiet_step (fail))
  refine wpQuiet_nil ?_
  refine M.cl 17 ?_
  intro wz sz
  unfold Oper.does
  go_simp
  refine ⟨TB w2 wz.heap.size #[.string { data := #[76, 68, 32, 40, 66, 67, 41, 44, 65] }, .string { data := #[76, 68, 32, 65, 44, 40, 66, 67, 41] }, .string { data := #[76, 68, 32, 40, 68, 69, 41, 44, 65] }, .string { data := #[76, 68, 32, 65, 44, 40, 68, 69, 41] }, .string A3, .string B3, .string C2, .string D1], TB.new sz, TB.closed, fun _ h => h.1, ?_⟩
  clear sz
  generalize wz.heap.size = N
  go_simp
  refine M.sg [19] 2 ?_
  repeat (go_big_quiet_step (fail))
  refine wpQuiet_nil ?_
  refine M.cl 20 ?_
  intro wy sy
  have hcell := sy.cell 7 _ rfl
  unfold Oper.does
  go_simp
  refine ⟨M.Base w2, sy.1, M.closed_base _, fun _ h => h, ?_⟩
  clear hcell sy
  go_simp
  refine M.sg [21] 0 ?_
  repeat (go_big_quiet_step (fail))
  refine wpQuiet_nil ?_
  refine M.en ?_
  intro wc sc
  go_wp2_with fail
  go_ret
  exact ⟨by rw [hD1.out]; rfl, HB2.out.trans (sc.2.mono HB2.out.size)⟩

set_option maxHeartbeats 16000000 in
theorem say_low3 (i : In) (h0 : 0 ≤ i.x) (h1 : i.x < 3) (hN : Nums i.d i.m) (o0 : 0 ≤ i.o) (o1 : i.o < 256) (hz : i.o % 8 = 3) : SayR 82 #[i.val] i.d i.m (lowR i.s i.x i.o (i.o / 8 % 8) 3) := by
 intro w
 obtain ⟨s, x, o, d, m, n⟩ := i
 simp only at h0 h1 hN o0 o1 hz ⊢
 obtain ⟨w1, hw1⟩ : ∃ w1, w.alloc (inO ⟨s, x, o, d, m, n⟩) = w1 := ⟨_, rfl⟩
 have hb1 : Below w.heap.size w w1 := hw1 ▸ (Below.refl _ _).alloc (Nat.le_refl _) _
 have hr : InW w1 w.heap.size ⟨s, x, o, d, m, n⟩ := hw1 ▸ InW.laid w _
 have go := hr.go
 have gm := hr.gm
 have gmp : ∀ p : M.Of (M.Base w1), p.w.cell? ⟨w.heap.size, 4, none⟩ = some (.int .i64 m) := fun p => (InW.on hr p.ok).gm
 have HR := z_ hr
 have HB := z_ hb1
 have hPa := fun w => r9_parts o w o0 o1
 have hq : o / 8 % 2 = o / 8 % 8 % 2 := by omega
 obtain ⟨y, hy⟩ : ∃ y, o / 8 % 8 = y := ⟨_, rfl⟩
 have y0 : 0 ≤ y := by omega
 have y1 : y < 8 := by omega
 rw [hy] at hq
 simp only [hq, hy, hz] at hPa ⊢
 obtain ⟨tq, htq⟩ : ∃ tq, o / 64 = tq := ⟨_, rfl⟩
 simp only [htq] at hPa
 have HPa := z_ hPa
 unfold inO at hw1
 rw [in_val]
 simp only at hw1 go gm ⊢
 unfold lowR
 clear hb1 hr hPa hq hy htq hz
 rw [if_neg (by decide), if_neg (by decide), if_neg (by decide), if_pos rfl]
 have l1 := pairRL x (y / 2) false
 obtain ⟨X, hX, cX⟩ := (say_pair ⟨s, x, o, d, m, n⟩ (y / 2) false h0 h1 (by omega) (by omega)).named
 rw [in_val] at cX
 have hq : y % 2 = 0 ∨ y % 2 = 1 := by omega
 obtain ⟨qq, hqq⟩ : ∃ qq, y % 2 = qq := ⟨_, rfl⟩
 rw [hqq] at hq HPa ⊢
 clear hqq
 rcases hq with rfl | rfl
 ·obtain ⟨R, hR, kR⟩ := kaL hN [73, 78, 67, 32] hX
  clear l1
  go_enter Tryz.func82, Tryz.ntmps82
  go_upto_region 17 with (go_at_call 49; (with_reducible refine (HPa.out _).mono ?_); rintro e wp ⟨rfl, rfl⟩)
  refine M.rg ?_
  refine M.cm 4 (.agg #[.int .i64 s, .int .i64 x, .int .i64 o, .int .i64 d, .int .i64 m, .int .i64 n]) ?_ ?_
  ·intro wz sz
   exact dl (InW.on HR.out sz)
  go_simp
  refine M.sg [1, 5] 6 ?_
  repeat (go_big_quiet_step (fail))
  refine wpQuiet_nil ?_
  refine M.cm 6 (.string X) ?_ ?_
  ·intro wz sz
   unfold Oper.does
   go_simp
   exact (cX.out wz).mono fun e w' ⟨he, hw⟩ => ⟨_, he, rfl, Save.of_below hw⟩
  go_simp
  refine M.cl 0 ?_
  intro wz sz
  unfold Oper.does
  go_simp
  refine ⟨TB w1 wz.heap.size #[.string { data := #[73, 78, 67, 32] }, .string { data := #[68, 69, 67, 32] }], TB.new sz, TB.closed, fun _ h => h.1, ?_⟩
  clear sz
  generalize wz.heap.size = N
  go_simp
  refine M.sg [2] 3 ?_
  repeat (go_big_quiet_step (fail))
  refine wpQuiet_nil ?_
  refine M.cl 3 ?_
  intro wy sy
  have hcell := sy.cell 0 _ rfl
  unfold Oper.does
  go_simp
  refine ⟨M.Base w1, sy.1, M.closed_base _, fun _ h => h, ?_⟩
  clear hcell sy
  go_simp
  refine M.sg [7, 8] 0 ?_
  repeat (go_big_quiet_step (fail))
  refine wpQuiet_nil ?_
  refine M.en ?_
  intro wc sc
  go_wp2_with fail
  go_ret
  exact ⟨by rw [hR.out]; rfl, HB.out.trans (sc.2.mono HB.out.size)⟩
 ·obtain ⟨R, hR, kR⟩ := kaL hN [68, 69, 67, 32] hX
  clear l1
  go_enter Tryz.func82, Tryz.ntmps82
  go_upto_region 17 with (go_at_call 49; (with_reducible refine (HPa.out _).mono ?_); rintro e wp ⟨rfl, rfl⟩)
  refine M.rg ?_
  refine M.cm 4 (.agg #[.int .i64 s, .int .i64 x, .int .i64 o, .int .i64 d, .int .i64 m, .int .i64 n]) ?_ ?_
  ·intro wz sz
   exact dl (InW.on HR.out sz)
  go_simp
  refine M.sg [1, 5] 6 ?_
  repeat (go_big_quiet_step (fail))
  refine wpQuiet_nil ?_
  refine M.cm 6 (.string X) ?_ ?_
  ·intro wz sz
   unfold Oper.does
   go_simp
   exact (cX.out wz).mono fun e w' ⟨he, hw⟩ => ⟨_, he, rfl, Save.of_below hw⟩
  go_simp
  refine M.cl 0 ?_
  intro wz sz
  unfold Oper.does
  go_simp
  refine ⟨TB w1 wz.heap.size #[.string { data := #[73, 78, 67, 32] }, .string { data := #[68, 69, 67, 32] }], TB.new sz, TB.closed, fun _ h => h.1, ?_⟩
  clear sz
  generalize wz.heap.size = N
  go_simp
  refine M.sg [2] 3 ?_
  repeat (go_big_quiet_step (fail))
  refine wpQuiet_nil ?_
  refine M.cl 3 ?_
  intro wy sy
  have hcell := sy.cell 1 _ rfl
  unfold Oper.does
  go_simp
  refine ⟨M.Base w1, sy.1, M.closed_base _, fun _ h => h, ?_⟩
  clear hcell sy
  go_simp
  refine M.sg [7, 8] 0 ?_
  repeat (go_big_quiet_step (fail))
  refine wpQuiet_nil ?_
  refine M.en ?_
  intro wc sc
  go_wp2_with fail
  go_ret
  exact ⟨by rw [hR.out]; rfl, HB.out.trans (sc.2.mono HB.out.size)⟩

set_option maxHeartbeats 16000000 in
theorem say_low4 (i : In) (h0 : 0 ≤ i.x) (h1 : i.x < 3) (hN : Nums i.d i.m) (o0 : 0 ≤ i.o) (o1 : i.o < 256) (hz : i.o % 8 = 4) : SayR 82 #[i.val] i.d i.m (lowR i.s i.x i.o (i.o / 8 % 8) 4) := by
 intro w
 obtain ⟨s, x, o, d, m, n⟩ := i
 simp only at h0 h1 hN o0 o1 hz ⊢
 obtain ⟨w1, hw1⟩ : ∃ w1, w.alloc (inO ⟨s, x, o, d, m, n⟩) = w1 := ⟨_, rfl⟩
 have hb1 : Below w.heap.size w w1 := hw1 ▸ (Below.refl _ _).alloc (Nat.le_refl _) _
 have hr : InW w1 w.heap.size ⟨s, x, o, d, m, n⟩ := hw1 ▸ InW.laid w _
 have go := hr.go
 have gm := hr.gm
 have gmp : ∀ p : M.Of (M.Base w1), p.w.cell? ⟨w.heap.size, 4, none⟩ = some (.int .i64 m) := fun p => (InW.on hr p.ok).gm
 have HR := z_ hr
 have HB := z_ hb1
 have hPa := fun w => r9_parts o w o0 o1
 have hq : o / 8 % 2 = o / 8 % 8 % 2 := by omega
 obtain ⟨y, hy⟩ : ∃ y, o / 8 % 8 = y := ⟨_, rfl⟩
 have y0 : 0 ≤ y := by omega
 have y1 : y < 8 := by omega
 rw [hy] at hq
 simp only [hq, hy, hz] at hPa ⊢
 obtain ⟨tq, htq⟩ : ∃ tq, o / 64 = tq := ⟨_, rfl⟩
 simp only [htq] at hPa
 have HPa := z_ hPa
 unfold inO at hw1
 rw [in_val]
 simp only at hw1 go gm ⊢
 unfold lowR
 clear hb1 hr hPa hq hy htq hz
 rw [if_neg (by decide), if_neg (by decide), if_neg (by decide), if_neg (by decide), if_pos rfl]
 have l1 := byteRL s x o y
 obtain ⟨X, hX, cX⟩ := (say_byte ⟨s, x, o, d, m, n⟩ y h0 h1 hN y0 y1).named
 rw [in_val] at cX
 obtain ⟨R, hR, kR⟩ := kaL hN [73, 78, 67, 32] hX
 clear l1
 go_enter Tryz.func82, Tryz.ntmps82
 go_upto_region 20 with (go_at_call 49; (with_reducible refine (HPa.out _).mono ?_); rintro e wp ⟨rfl, rfl⟩)
 refine M.rg ?_
 refine M.cm 5 (.agg #[.int .i64 s, .int .i64 x, .int .i64 o, .int .i64 d, .int .i64 m, .int .i64 n]) ?_ ?_
 ·intro wz sz
  exact dl (InW.on HR.out sz)
 go_simp
 refine M.sg [1, 2, 6] 6 ?_
 repeat (go_big_quiet_step (fail))
 refine wpQuiet_nil ?_
 refine M.cm 7 (.string X) ?_ ?_
 ·intro wz sz
  unfold Oper.does
  go_simp
  exact (cX.out wz).mono fun e w' ⟨he, hw⟩ => ⟨_, he, rfl, Save.of_below hw⟩
 go_simp
 refine M.cl 0 ?_
 intro wz sz
 unfold Oper.does
 go_simp
 refine ⟨TB w1 wz.heap.size #[.string { data := #[73, 78, 67, 32] }, .string { data := #[68, 69, 67, 32] }], TB.new sz, TB.closed, fun _ h => h.1, ?_⟩
 clear sz
 generalize wz.heap.size = N
 go_simp
 refine M.sg [3] 3 ?_
 repeat (go_big_quiet_step (fail))
 refine wpQuiet_nil ?_
 refine M.cl 4 ?_
 intro wy sy
 have hcell := sy.cell 0 _ rfl
 unfold Oper.does
 go_simp
 refine ⟨M.Base w1, sy.1, M.closed_base _, fun _ h => h, ?_⟩
 clear hcell sy
 go_simp
 refine M.sg [8, 9] 0 ?_
 repeat (go_big_quiet_step (fail))
 refine wpQuiet_nil ?_
 refine M.en ?_
 intro wc sc
 go_wp2_with fail
 go_ret
 exact ⟨by rw [hR.out]; rfl, HB.out.trans (sc.2.mono HB.out.size)⟩

set_option maxHeartbeats 16000000 in
theorem say_low5 (i : In) (h0 : 0 ≤ i.x) (h1 : i.x < 3) (hN : Nums i.d i.m) (o0 : 0 ≤ i.o) (o1 : i.o < 256) (hz : i.o % 8 = 5) : SayR 82 #[i.val] i.d i.m (lowR i.s i.x i.o (i.o / 8 % 8) 5) := by
 intro w
 obtain ⟨s, x, o, d, m, n⟩ := i
 simp only at h0 h1 hN o0 o1 hz ⊢
 obtain ⟨w1, hw1⟩ : ∃ w1, w.alloc (inO ⟨s, x, o, d, m, n⟩) = w1 := ⟨_, rfl⟩
 have hb1 : Below w.heap.size w w1 := hw1 ▸ (Below.refl _ _).alloc (Nat.le_refl _) _
 have hr : InW w1 w.heap.size ⟨s, x, o, d, m, n⟩ := hw1 ▸ InW.laid w _
 have go := hr.go
 have gm := hr.gm
 have gmp : ∀ p : M.Of (M.Base w1), p.w.cell? ⟨w.heap.size, 4, none⟩ = some (.int .i64 m) := fun p => (InW.on hr p.ok).gm
 have HR := z_ hr
 have HB := z_ hb1
 have hPa := fun w => r9_parts o w o0 o1
 have hq : o / 8 % 2 = o / 8 % 8 % 2 := by omega
 obtain ⟨y, hy⟩ : ∃ y, o / 8 % 8 = y := ⟨_, rfl⟩
 have y0 : 0 ≤ y := by omega
 have y1 : y < 8 := by omega
 rw [hy] at hq
 simp only [hq, hy, hz] at hPa ⊢
 obtain ⟨tq, htq⟩ : ∃ tq, o / 64 = tq := ⟨_, rfl⟩
 simp only [htq] at hPa
 have HPa := z_ hPa
 unfold inO at hw1
 rw [in_val]
 simp only at hw1 go gm ⊢
 unfold lowR
 clear hb1 hr hPa hq hy htq hz
 rw [if_neg (by decide), if_neg (by decide), if_neg (by decide), if_neg (by decide), if_neg (by decide), if_pos rfl]
 have l1 := byteRL s x o y
 obtain ⟨X, hX, cX⟩ := (say_byte ⟨s, x, o, d, m, n⟩ y h0 h1 hN y0 y1).named
 rw [in_val] at cX
 obtain ⟨R, hR, kR⟩ := kaL hN [68, 69, 67, 32] hX
 clear l1
 go_enter Tryz.func82, Tryz.ntmps82
 go_upto_region 20 with (go_at_call 49; (with_reducible refine (HPa.out _).mono ?_); rintro e wp ⟨rfl, rfl⟩)
 refine M.rg ?_
 refine M.cm 5 (.agg #[.int .i64 s, .int .i64 x, .int .i64 o, .int .i64 d, .int .i64 m, .int .i64 n]) ?_ ?_
 ·intro wz sz
  exact dl (InW.on HR.out sz)
 go_simp
 refine M.sg [1, 2, 6] 6 ?_
 repeat (go_big_quiet_step (fail))
 refine wpQuiet_nil ?_
 refine M.cm 7 (.string X) ?_ ?_
 ·intro wz sz
  unfold Oper.does
  go_simp
  exact (cX.out wz).mono fun e w' ⟨he, hw⟩ => ⟨_, he, rfl, Save.of_below hw⟩
 go_simp
 refine M.cl 0 ?_
 intro wz sz
 unfold Oper.does
 go_simp
 refine ⟨TB w1 wz.heap.size #[.string { data := #[73, 78, 67, 32] }, .string { data := #[68, 69, 67, 32] }], TB.new sz, TB.closed, fun _ h => h.1, ?_⟩
 clear sz
 generalize wz.heap.size = N
 go_simp
 refine M.sg [3] 3 ?_
 repeat (go_big_quiet_step (fail))
 refine wpQuiet_nil ?_
 refine M.cl 4 ?_
 intro wy sy
 have hcell := sy.cell 1 _ rfl
 unfold Oper.does
 go_simp
 refine ⟨M.Base w1, sy.1, M.closed_base _, fun _ h => h, ?_⟩
 clear hcell sy
 go_simp
 refine M.sg [8, 9] 0 ?_
 repeat (go_big_quiet_step (fail))
 refine wpQuiet_nil ?_
 refine M.en ?_
 intro wc sc
 go_wp2_with fail
 go_ret
 exact ⟨by rw [hR.out]; rfl, HB.out.trans (sc.2.mono HB.out.size)⟩

set_option maxHeartbeats 16000000 in
theorem say_low6 (i : In) (h0 : 0 ≤ i.x) (h1 : i.x < 3) (hN : Nums i.d i.m) (o0 : 0 ≤ i.o) (o1 : i.o < 256) (hz : i.o % 8 = 6) (hm : 0 ≤ i.m) : SayR 82 #[i.val] i.d i.m (lowR i.s i.x i.o (i.o / 8 % 8) 6) := by
 intro w
 obtain ⟨s, x, o, d, m, n⟩ := i
 simp only at h0 h1 hN o0 o1 hz hm ⊢
 obtain ⟨w1, hw1⟩ : ∃ w1, w.alloc (inO ⟨s, x, o, d, m, n⟩) = w1 := ⟨_, rfl⟩
 have hb1 : Below w.heap.size w w1 := hw1 ▸ (Below.refl _ _).alloc (Nat.le_refl _) _
 have hr : InW w1 w.heap.size ⟨s, x, o, d, m, n⟩ := hw1 ▸ InW.laid w _
 have go := hr.go
 have gm := hr.gm
 have gmp : ∀ p : M.Of (M.Base w1), p.w.cell? ⟨w.heap.size, 4, none⟩ = some (.int .i64 m) := fun p => (InW.on hr p.ok).gm
 have HR := z_ hr
 have HB := z_ hb1
 have hPa := fun w => r9_parts o w o0 o1
 have hq : o / 8 % 2 = o / 8 % 8 % 2 := by omega
 obtain ⟨y, hy⟩ : ∃ y, o / 8 % 8 = y := ⟨_, rfl⟩
 have y0 : 0 ≤ y := by omega
 have y1 : y < 8 := by omega
 rw [hy] at hq
 simp only [hq, hy, hz] at hPa ⊢
 obtain ⟨tq, htq⟩ : ∃ tq, o / 64 = tq := ⟨_, rfl⟩
 simp only [htq] at hPa
 have HPa := z_ hPa
 unfold inO at hw1
 rw [in_val]
 simp only at hw1 go gm ⊢
 unfold lowR
 clear hb1 hr hPa hq hy htq hz
 rw [if_neg (by decide), if_neg (by decide), if_neg (by decide), if_neg (by decide), if_neg (by decide), if_neg (by decide), if_pos rfl]
 have l1 := byteRL s x o y
 obtain ⟨X, hX, cX⟩ := (say_byte ⟨s, x, o, d, m, n⟩ y h0 h1 hN y0 y1).named
 rw [in_val] at cX
 obtain ⟨Y, hY, cY⟩ := (say_digits d m hm hN.2.2.2).named
 obtain ⟨R1, hR1, kR1⟩ := kaL hN [76, 68, 32] hX
 obtain ⟨R2, hR2, kR2⟩ := kaR hN [44] hR1
 obtain ⟨R3, hR3, kR3⟩ := kaX hN hR2 hY
 clear l1
 go_enter Tryz.func82, Tryz.ntmps82
 go_upto_region 22 with (go_at_call 49; (with_reducible refine (HPa.out _).mono ?_); rintro e wp ⟨rfl, rfl⟩)
 refine M.rg ?_
 refine M.cm 0 (.agg #[.int .i64 s, .int .i64 x, .int .i64 o, .int .i64 d, .int .i64 m, .int .i64 n]) ?_ ?_
 ·intro wz sz
  exact dl (InW.on HR.out sz)
 go_simp
 refine M.sg [1, 5, 6] 6 ?_
 repeat (go_big_quiet_step (fail))
 refine wpQuiet_nil ?_
 refine M.cm 2 (.string X) ?_ ?_
 ·intro wz sz
  unfold Oper.does
  go_simp
  exact (cX.out wz).mono fun e w' ⟨he, hw⟩ => ⟨_, he, rfl, Save.of_below hw⟩
 go_simp
 refine M.cm 7 (.string Y) ?_ ?_
 ·intro wz sz
  unfold Oper.does
  go_simp
  exact (cY.out wz).mono fun e w' ⟨he, hw⟩ => ⟨_, he, rfl, Save.of_below hw⟩
 go_simp
 refine M.sg [3, 4, 8, 9] 0 ?_
 repeat (go_big_quiet_step (fail))
 refine wpQuiet_nil ?_
 refine M.en ?_
 intro wc sc
 go_wp2_with fail
 go_ret
 exact ⟨by rw [hR3.out]; rfl, HB.out.trans (sc.2.mono HB.out.size)⟩

set_option maxHeartbeats 16000000 in
theorem say_low7 (i : In) (h0 : 0 ≤ i.x) (h1 : i.x < 3) (hN : Nums i.d i.m) (o0 : 0 ≤ i.o) (o1 : i.o < 256) (hz : i.o % 8 = 7) : SayR 82 #[i.val] i.d i.m (lowR i.s i.x i.o (i.o / 8 % 8) 7) := by
 intro w
 obtain ⟨s, x, o, d, m, n⟩ := i
 simp only at h0 h1 hN o0 o1 hz ⊢
 obtain ⟨w1, hw1⟩ : ∃ w1, w.alloc (inO ⟨s, x, o, d, m, n⟩) = w1 := ⟨_, rfl⟩
 have hb1 : Below w.heap.size w w1 := hw1 ▸ (Below.refl _ _).alloc (Nat.le_refl _) _
 have hr : InW w1 w.heap.size ⟨s, x, o, d, m, n⟩ := hw1 ▸ InW.laid w _
 have go := hr.go
 have gm := hr.gm
 have gmp : ∀ p : M.Of (M.Base w1), p.w.cell? ⟨w.heap.size, 4, none⟩ = some (.int .i64 m) := fun p => (InW.on hr p.ok).gm
 have HR := z_ hr
 have HB := z_ hb1
 have hPa := fun w => r9_parts o w o0 o1
 have hq : o / 8 % 2 = o / 8 % 8 % 2 := by omega
 obtain ⟨y, hy⟩ : ∃ y, o / 8 % 8 = y := ⟨_, rfl⟩
 have y0 : 0 ≤ y := by omega
 have y1 : y < 8 := by omega
 rw [hy] at hq
 simp only [hq, hy, hz] at hPa ⊢
 obtain ⟨tq, htq⟩ : ∃ tq, o / 64 = tq := ⟨_, rfl⟩
 simp only [htq] at hPa
 have HPa := z_ hPa
 unfold inO at hw1
 rw [in_val]
 simp only at hw1 go gm ⊢
 unfold lowR
 clear hb1 hr hPa hq hy htq hz
 rw [if_neg (by decide), if_neg (by decide), if_neg (by decide), if_neg (by decide), if_neg (by decide), if_neg (by decide), if_neg (by decide), ← rs_tk]
 have hyc : y = 0 ∨ y = 1 ∨ y = 2 ∨ y = 3 ∨ y = 4 ∨ y = 5 ∨ y = 6 ∨ y = 7 := by omega
 rcases hyc with rfl | rfl | rfl | rfl | rfl | rfl | rfl | rfl
 all_goals
  go_enter Tryz.func82, Tryz.ntmps82
  go_wp2_with (go_at_call 49; (with_reducible refine (HPa.out _).mono ?_); rintro e wp ⟨rfl, rfl⟩)
  go_ret
  exact ⟨rfl, HB.out.alloc HB.out.size _⟩

theorem say_low (i : In) (h0 : 0 ≤ i.x) (h1 : i.x < 3) (hN : Nums i.d i.m) (o0 : 0 ≤ i.o) (o1 : i.o < 256) (hm : i.o % 8 = 1 ∨ i.o % 8 = 2 ∨ i.o % 8 = 6 → 0 ≤ i.m) : SayR 82 #[i.val] i.d i.m (lowR i.s i.x i.o (i.o / 8 % 8) (i.o % 8)) := by
 have hz : i.o % 8 = 0 ∨ i.o % 8 = 1 ∨ i.o % 8 = 2 ∨ i.o % 8 = 3 ∨ i.o % 8 = 4 ∨ i.o % 8 = 5 ∨ i.o % 8 = 6 ∨ i.o % 8 = 7 := by omega
 rcases hz with hz | hz | hz | hz | hz | hz | hz | hz
 ·rw [hz]; exact say_low0 i h0 h1 hN o0 o1 hz
 ·rw [hz]; exact say_low1 i h0 h1 hN o0 o1 hz (hm (.inl hz))
 ·rw [hz]; exact say_low2 i h0 h1 hN o0 o1 hz (hm (.inr (.inl hz)))
 ·rw [hz]; exact say_low3 i h0 h1 hN o0 o1 hz
 ·rw [hz]; exact say_low4 i h0 h1 hN o0 o1 hz
 ·rw [hz]; exact say_low5 i h0 h1 hN o0 o1 hz
 ·rw [hz]; exact say_low6 i h0 h1 hN o0 o1 hz (hm (.inr (.inr hz)))
 ·rw [hz]; exact say_low7 i h0 h1 hN o0 o1 hz

end Go.Proofs.YtgaihekapakoeaaGreatDoor
