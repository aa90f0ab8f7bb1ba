
/- Instructions (chapter 9): lives; two calls at one instruction; the walk of DecodeNames. -/
import Derived.Test.YtedlfcmlchjjlaaDA
namespace Go.Proofs.Ytedlfcmlchjjlaa
open Go.RowKit
set_option linter.unusedSimpArgs false
set_option linter.unusedVariables false
set_option maxRecDepth 100000

theorem wpList_load_ins {P : Program} {ops : Array Oper} {rest : List Oper} {o : Oper} {a : Act} {w : World} {Q : Exit → Act → World → Prop} (hw : Region.wanted o (yielded ops a.tmps) = true) (ty : TypeId) (x : Operand) (ho : o.op = .load ty x) (g : Nat) (hx : a.eval x = .pointer (some ⟨g, 0, none⟩))
    (t : TypeId) (cs : Array Value) (fr : Nat × Nat) (d : TypeDesc) (hg : w.heap[g]? = some (.cells cs t fr)) (hu : P.underlying ty = some d) (hd : (match d with | .struct _ | .array _ _ => true | _ => false) = true) (hi : (P.info? ty).map (·.size) = some cs.size)
    (h : wpList P ops Q rest (a.put o.dst (.agg cs)) w) : wpList P ops Q (o :: rest) a w :=
  BigFrame.wpList_want hw fun K hK => Oper.wp_of_does (does_load_ins ty x ho g hx t cs fr d hg hu hd hi (hK _ _ h))

theorem is_at (i : In) (l : List Int) (n : Nat) (w : World) (B : Nat) (hB : Below B w w) (hb : AllB l) (hm : l.length ≤ 100) (hn : n = l.length) (hof : ofI l = some i) :
    Calls Try.prog 34 #[i.val, .slice (some ⟨w.heap.size, 0, none⟩) n n] (w.alloc (.cells (l.map (Value.int .u8)).toArray 5)) fun e w' => e = .returned (.bool true) ∧ Below w.heap.size w w' := by
  subst hn
  have h := (RB.row w l (0, 0) hb (by unfold maxLen; omega)).more (B' := (w.alloc (.cells (l.map (Value.int .u8)).toArray 5)).heap.size) (by simp)
  have h0 : Below w.heap.size w (w.alloc (.cells (l.map (Value.int .u8)).toArray 5)) := (Below.refl _ _).alloc (Nat.le_refl _) _
  exact (c9_is i _ _ _ l _ rfl h hof).mono fun e w' ⟨h1, h2⟩ => ⟨h1, h0.trans (h2.mono h0.size)⟩

set_option maxHeartbeats 4000000 in
theorem lives9_any (w : World) : Calls Try.prog 33 #[] w fun e w' => e = .returned (.bool true) ∧ Below w.heap.size w w' := by
  go_enter Try.func33, Try.ntmps33
  go_wp2_with fail
  refine (is_at ⟨0, 0, 62, 0, 5, 2⟩ [62, 5] 2 w 0 (Below.refl _ _) (AllB.of rfl) (by decide) rfl (by decide +kernel)).mono ?_
  rintro e w1 ⟨rfl, hb1⟩
  go_wp2_with fail
  refine (is_at ⟨0, 1, 126, -2, 0, 3⟩ [221, 126, 254] 3 w1 0 (Below.refl _ _) (AllB.of rfl) (by decide) rfl (by decide +kernel)).mono ?_
  rintro e w2 ⟨rfl, hb2⟩
  have hB2 := hb1.trans (hb2.mono hb1.size)
  go_wp2_with fail
  refine (is_at ⟨3, 2, 70, 3, 0, 4⟩ [253, 203, 3, 70] 4 w2 0 (Below.refl _ _) (AllB.of rfl) (by decide) rfl (by decide +kernel)).mono ?_
  rintro e w3 ⟨rfl, hb3⟩
  have hB3 := hB2.trans (hb3.mono hB2.size)
  go_wp2_with fail
  refine (is_at ⟨2, 0, 176, 0, 0, 2⟩ [237, 176] 2 w3 0 (Below.refl _ _) (AllB.of rfl) (by decide) rfl (by decide +kernel)).mono ?_
  rintro e w4 ⟨rfl, hb4⟩
  have hB4 := hB3.trans (hb4.mono hB3.size)
  go_wp2_with fail
  go_ret
  exact ⟨rfl, hB4⟩

set_option maxHeartbeats 4000000 in
theorem nothing_127 (w : World) : Calls Try.prog 35 #[In.val ⟨2, 0, 127, 0, 0, 2⟩] w fun e w' => e = .returned (.bool true) ∧ Below w.heap.size w w' := by
  obtain ⟨i, hi⟩ : ∃ i : In, (⟨2, 0, 127, 0, 0, 2⟩ : In) = i := ⟨_, rfl⟩
  have hc := fun w => c9_check i (by rw [← hi]; constructor <;> rfl) w
  rw [if_pos (by rw [← hi]; decide +kernel)] at hc
  have HC := Lib.hid hc
  obtain ⟨w1, hw1⟩ : ∃ w1, w.alloc (inO i) = w1 := ⟨_, rfl⟩
  have hL : InW w1 w.heap.size i := hw1 ▸ InW.laid w i
  have hb0 : Below w.heap.size w w1 := hw1 ▸ (Below.refl _ _).alloc (Nat.le_refl _) _
  have g0 := hL.gs
  have g2 := hL.go
  have HL := Lib.hid hL
  clear hL hc
  rw [hi]
  rw [in_val]
  have e0 : i.s = 2 := by rw [← hi]
  have e2 : i.o = 127 := by rw [← hi]
  rw [e0] at g0
  rw [e2] at g2
  unfold inO at hw1
  clear e0 e2 hi
  go_enter Try.func35, Try.ntmps35
  go_wp2_with (refine wpList_load_ins (by kernel_rfl) 44 _ rfl w.heap.size rfl _ _ (0, 0) _ HL.out Try.underlying44 rfl in_info ?_)
  refine (HC.out _).mono ?_
  rintro e w2 ⟨rfl, hb⟩
  have hL2 := HL.out.below hb HL.out.lt
  have hB2 := hb0.trans (hb.mono hb0.size)
  have k2 : w2.cell? ⟨w.heap.size, 2, none⟩ = some (.int .i64 127) := (hb.cell (p := ⟨w.heap.size, 2, none⟩) HL.out.lt).trans g2
  clear hb HL hb0 g0 g2 hw1
  go_wp2_with (go_at_call 32; (with_reducible refine (c9_parts _ _ (by decide) (by decide)).mono ?_); rintro e w' ⟨rfl, rfl⟩)
  go_ret
  exact ⟨rfl, hB2⟩

set_option maxHeartbeats 4000000 in
theorem twin_76 (w : World) : Calls Try.prog 36 #[In.val ⟨2, 0, 76, 0, 0, 2⟩] w fun e w' => e = .returned (In.val ⟨2, 0, 68, 0, 0, 2⟩) ∧ Below w.heap.size w w' := by
  have hq : (⟨2, 0, 68, 0, 0, 2⟩ : In) = { (⟨2, 0, 76, 0, 0, 2⟩ : In) with o := 68 } := rfl
  rw [hq]
  obtain ⟨i, hi⟩ : ∃ i : In, (⟨2, 0, 76, 0, 0, 2⟩ : In) = i := ⟨_, rfl⟩
  have hc := fun w => c9_check i (by rw [← hi]; constructor <;> rfl) w
  rw [if_pos (by rw [← hi]; decide +kernel)] at hc
  have HC := Lib.hid hc
  have hb2 : Below w.heap.size w ((w.alloc (inO i)).alloc (inO zeroI)) := ((Below.refl _ _).alloc (Nat.le_refl _) _).alloc (by simp) _
  have hI := (InW.laid w i).more (inO zeroI)
  have hZ := InW.laid (w.alloc (inO i)) zeroI
  have hsz : (w.alloc (inO i)).heap.size = w.heap.size + 1 := by simp
  rw [hsz] at hZ
  obtain ⟨w1, hw1⟩ : ∃ w2, (w.alloc (inO i)).alloc (inO zeroI) = w2 := ⟨_, rfl⟩
  rw [hw1] at hb2 hI hZ
  have g0 := hI.gs
  have HL := Lib.hid hI
  have HZ := Lib.hid hZ
  have e0 : i.s = 2 := by rw [← hi]
  have e2 := Lib.hid (show i.o = 76 by rw [← hi])
  rw [e0] at g0
  clear hI hZ hc hsz
  rw [hi]
  rw [in_val i]
  unfold inO zeroI at hw1
  clear e0 hi hq
  go_enter Try.func36, Try.ntmps36
  go_wp2_with (refine wpList_load_ins (by kernel_rfl) 44 _ rfl w.heap.size rfl _ _ (0, 0) _ HL.out Try.underlying44 rfl in_info ?_)
  refine (HC.out _).mono ?_
  rintro e w2 ⟨rfl, hb⟩
  have hL2 := HL.out.below hb HL.out.lt
  have hZ2 := HZ.out.below hb HZ.out.lt
  have hB2 := hb2.trans (hb.mono hb2.size)
  have k2 := hL2.go
  rw [e2.out] at k2
  have f2 := hL2.free 2
  have HL3 := Lib.hid (hL2.po 68)
  have HZ3 := Lib.hid (show InW (w2.setCell ⟨w.heap.size, 2, none⟩ (.int .i64 68)) (w.heap.size + 1) zeroI from (heap_setCell_other w2 _ _ _ (by simp)).trans hZ2)
  have HB3 := Lib.hid (hB2.setCell (p := ⟨w.heap.size, 2, none⟩) (Nat.le_refl _) (.int .i64 68))
  clear hb HL HZ hb2 g0 hw1 hL2 hZ2 hB2
  go_wp2_with (first
    | (go_at_call 32; (with_reducible refine (c9_parts _ _ (by decide) (by decide)).mono ?_); rintro e w' ⟨rfl, rfl⟩)
    | (refine wpList_load_row rfl 44 _ rfl w.heap.size rfl _ _ (0, 0) _ HL3.out Try.underlying44 rfl in_info ?_)
    | (refine wpList_store_row rfl 44 _ _ rfl (w.heap.size + 1) _ rfl rfl _ _ HZ3.out in_info rfl (in_one _) ?_))
  (try simp only [Exit.inBlock, Exit.then])
  exact bodyPost_ret (results_cell_row rfl _ _ _ _ _ (0, 0) _ rfl (setRow_heap _ _ _ _ _ _ HZ3.out) Try.underlying44 rfl in_info) rfl ⟨rfl, below_setRow HB3.out (by omega) _⟩

set_option maxHeartbeats 4000000 in
theorem walk_DecodeNames (w : World) : Calls Try.prog 4 #[] w fun e w' => e = .returned (.bool true) ∧ Below w.heap.size w w' := by
  have hr := (RB.row w [221] (0, 0) (AllB.of rfl) (by decide)).more (B' := (w.alloc (.cells ([221].map (Value.int .u8)).toArray 5)).heap.size) (by simp)
  have hO := c9_of _ _ _ [221] _ rfl hr
  have hV : ofV [221] = zeroI := by decide +kernel
  have hE : ofE [221] = 5 := by decide +kernel
  rw [hV, hE] at hO
  have HO := Lib.hid hO
  have hb0 : Below w.heap.size w (w.alloc (.cells ([221].map (Value.int .u8)).toArray 5)) := (Below.refl _ _).alloc (Nat.le_refl _) _
  clear hO hr hV hE
  go_enter Try.func4, Try.ntmps4
  go_wp2_with fail
  refine HO.out.mono ?_
  rintro e w1 ⟨rfl, hb⟩
  have hB1 := hb0.trans (hb.mono hb0.size)
  clear hb hb0 HO
  obtain ⟨w2, hw2⟩ : ∃ w2, (w1.alloc (inO zeroI)).alloc (inO ⟨2, 0, 127, 0, 0, 2⟩) = w2 := ⟨_, rfl⟩
  have hb12 : Below w1.heap.size w1 w2 := hw2 ▸ ((Below.refl _ _).alloc (Nat.le_refl _) _).alloc (by simp) _
  have hN : InW w2 (w1.heap.size + 1) ⟨2, 0, 127, 0, 0, 2⟩ := by
    have := InW.laid (w1.alloc (inO zeroI)) ⟨2, 0, 127, 0, 0, 2⟩
    rw [hw2] at this
    simpa using this
  have hB2 := hB1.trans (hb12.mono hB1.size)
  unfold inO zeroI at hw2
  have HN := Lib.hid hN
  clear hN hb12 hB1
  rw [show zeroI.val = .agg #[.int .i64 0, .int .i64 0, .int .i64 0, .int .i64 0, .int .i64 0, .int .i64 0] from rfl]
  go_wp2_with (go_at_call 32; (with_reducible refine (c9_parts _ _ (by decide) (by decide)).mono ?_); rintro e w' ⟨rfl, rfl⟩)
  refine (lives9_any _).mono ?_
  rintro e w3 ⟨rfl, hb⟩
  have HN3 := Lib.hid (HN.out.below hb HN.out.lt)
  have hB3 := hB2.trans (hb.mono hB2.size)
  clear hb hB2 HN hw2
  go_wp2_with fail
  refine (is_at ⟨0, 0, 221, 0, 0, 1⟩ [221, 221] 2 w3 0 (Below.refl _ _) (AllB.of rfl) (by decide) rfl (by decide +kernel)).mono ?_
  rintro e w4 ⟨rfl, hb⟩
  have HN4 := Lib.hid (HN3.out.below hb HN3.out.lt)
  have hB4 := hB3.trans (hb.mono hB3.size)
  clear hb hB3 HN3
  go_wp2_with (refine wpList_load_ins (by kernel_rfl) 44 _ rfl (w1.heap.size + 1) rfl _ _ (0, 0) _ HN4.out Try.underlying44 rfl in_info ?_)
  refine (nothing_127 _).mono ?_
  rintro e w5 ⟨rfl, hb⟩
  have hB5 := hB4.trans (hb.mono hB4.size)
  clear hb hB4 HN4
  go_wp2_with fail
  refine (twin_76 _).mono ?_
  rintro e w6 ⟨rfl, hb⟩
  have hB6 := hB5.trans (hb.mono hB5.size)
  clear hb hB5
  have hF : ∀ w', (Instr.field 44 (In.val ⟨2, 0, 68, 0, 0, 2⟩) 2).run Try.prog w' = .ok (.int .i64 68) w' := fun w' => by kernel_rfl
  go_wp2_with fail
  go_ret
  exact ⟨rfl, hB6⟩
end Go.Proofs.Ytedlfcmlchjjlaa
