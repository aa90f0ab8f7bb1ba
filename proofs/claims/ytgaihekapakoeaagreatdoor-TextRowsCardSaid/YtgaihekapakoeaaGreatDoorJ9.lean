/-    -/
import Derived.Test.YtgaihekapakoeaaGreatDoorJ6
import Derived.Test.YtgaihekapakoeaaGreatDoorJ3
import Derived.Lib.SmallJoins
import Derived.Deep.CutRange
namespace Go.Proofs.YtgaihekapakoeaaGreatDoor
open Go.RowKit
set_option linter.unusedSimpArgs false
set_option linter.unusedVariables false
set_option maxRecDepth 100000

theorem in_eql (i : In) (w : World) : (binOp .eql 23 i.val i.val).run Tryz.prog w = .ok (.bool true) w := by
  unfold In.val In.cells
  go_simp
theorem in_guard (op : BinOp) (x y : Operand) (i j : In) (w : World) : (eqGuard op 23 x y i.val j.val).run Tryz.prog w = .ok () w := run_eqGuard_agg w op 23 x y _ _ (by kernel_rfl)
theorem does_in_eql {o : Oper} {a : Act} {w : World} {next : Value → World → Prop} (x y : Operand) {t : TypeId} (ho : o.op = .binOp .eql 23 x y t) (i : In) (hx : a.eval x = i.val) (hy : a.eval y = i.val)
    (h : next (.bool true) w) : Oper.does Tryz.prog o a w next := by
  unfold Oper.does execOp
  simp only [ho, hx, hy, Sem.run_bind, in_guard, Result.andThen_ok, in_eql, Sem.run_pure]
  exact h

theorem Got.nat {l : List Int} {i : In} (h : Got l i) : ∃ n : Nat, i.n = n ∧ 1 ≤ n ∧ n ≤ 4 ∧ n ≤ l.length ∧ bytesI i = l.take n := by
  refine ⟨i.n.toNat, ?_, ?_, ?_, h.len, h.bytes⟩ <;> have := h.low <;> have := h.high <;> omega
theorem wf64 {n : Int} (h0 : -9223372036854775808 ≤ n) (h1 : n ≤ 9223372036854775807) : (Lit.int .i64 n).wf = true := by
  simp only [Lit.wf, Bool.and_eq_true, decide_eq_true_eq]
  exact ⟨h0, h1⟩
theorem Got.wf {l : List Int} {i : In} (h : Got l i) : i.Wf := by
  have h1 := h.low; have h2 := h.high; have h3 := h.d; have h4 := h.m; have h5 := h.cases
  constructor <;> apply wf64 <;> omega

end Go.Proofs.YtgaihekapakoeaaGreatDoor
namespace Go.Proofs.YtgaihekapakoeaaGreatDoor
open Go.RowKit
set_option linter.unusedSimpArgs false
set_option linter.unusedVariables false
set_option maxRecDepth 100000

theorem wpList_load_ins {P : Program} {ops : Array Oper} {rest : List Oper} {o : Oper} {a : Act} {w : World} {Q : Exit → Act → World → Prop} (hw : Region.wanted o (yielded ops a.tmps) = true) (ty : TypeId) (x : Operand) (ho : o.op = .load ty x) (g : Nat) (hx : a.eval x = .pointer (some ⟨g, 0, none⟩))
    (t : TypeId) (cs : Array Value) (fr : Nat × Nat) (d : TypeDesc) (hg : w.heap[g]? = some (.cells cs t fr)) (hu : P.underlying ty = some d) (hd : (match d with | .struct _ | .array _ _ => true | _ => false) = true) (hi : (P.info? ty).map (·.size) = some cs.size)
    (h : wpList P ops Q rest (a.put o.dst (.agg cs)) w) : wpList P ops Q (o :: rest) a w :=
  BigFrame.wpList_want hw fun K hK => Oper.wp_of_does (does_load_ins ty x ho g hx t cs fr d hg hu hd hi (hK _ _ h))

set_option maxHeartbeats 4000000 in
theorem nothing_127 (w : World) : Calls Tryz.prog 70 #[In.val ⟨2, 0, 127, 0, 0, 2⟩] w fun e w' => e = .returned (.bool true) ∧ Below w.heap.size w w' := by
  obtain ⟨i, hi⟩ : ∃ i : In, (⟨2, 0, 127, 0, 0, 2⟩ : In) = i := ⟨_, rfl⟩
  have hc := fun w => c9_check i (by rw [← hi]; constructor <;> rfl) w
  rw [if_pos (by rw [← hi]; decide +kernel)] at hc
  have HC := Lib.hid hc
  obtain ⟨w1, hw1⟩ : ∃ w1, w.alloc (inO i) = w1 := ⟨_, rfl⟩
  have hL : InW w1 w.heap.size i := hw1 ▸ InW.laid w i
  have hb0 : Below w.heap.size w w1 := hw1 ▸ (Below.refl _ _).alloc (Nat.le_refl _) _
  have g0 := hL.gs
  have g2 := hL.go
  have HL := Lib.hid hL
  clear hL hc
  rw [hi]
  rw [in_val]
  have e0 : i.s = 2 := by rw [← hi]
  have e2 : i.o = 127 := by rw [← hi]
  rw [e0] at g0
  rw [e2] at g2
  unfold inO at hw1
  clear e0 e2 hi
  go_enter Tryz.func70, Tryz.ntmps70
  go_wp2_with (refine wpList_load_ins (by kernel_rfl) 23 _ rfl w.heap.size rfl _ _ (0, 0) _ HL.out Tryz.underlying23 rfl in_info ?_)
  refine (HC.out _).mono ?_
  rintro e w2 ⟨rfl, hb⟩
  have hL2 := HL.out.below hb HL.out.lt
  have hB2 := hb0.trans (hb.mono hb0.size)
  have k2 : w2.cell? ⟨w.heap.size, 2, none⟩ = some (.int .i64 127) := (hb.cell (p := ⟨w.heap.size, 2, none⟩) HL.out.lt).trans g2
  clear hb HL hb0 g0 g2 hw1
  go_wp2_with (go_at_call 67; (with_reducible refine (c9_parts _ _ (by decide) (by decide)).mono ?_); rintro e w' ⟨rfl, rfl⟩)
  go_ret
  exact ⟨rfl, hB2⟩

set_option maxHeartbeats 4000000 in
theorem twin_76 (w : World) : Calls Tryz.prog 71 #[In.val ⟨2, 0, 76, 0, 0, 2⟩] w fun e w' => e = .returned (In.val ⟨2, 0, 68, 0, 0, 2⟩) ∧ Below w.heap.size w w' := by
  have hq : (⟨2, 0, 68, 0, 0, 2⟩ : In) = { (⟨2, 0, 76, 0, 0, 2⟩ : In) with o := 68 } := rfl
  rw [hq]
  obtain ⟨i, hi⟩ : ∃ i : In, (⟨2, 0, 76, 0, 0, 2⟩ : In) = i := ⟨_, rfl⟩
  have hc := fun w => c9_check i (by rw [← hi]; constructor <;> rfl) w
  rw [if_pos (by rw [← hi]; decide +kernel)] at hc
  have HC := Lib.hid hc
  have hb2 : Below w.heap.size w ((w.alloc (inO i)).alloc (inO zeroI)) := ((Below.refl _ _).alloc (Nat.le_refl _) _).alloc (by simp) _
  have hI := (InW.laid w i).more (inO zeroI)
  have hZ := InW.laid (w.alloc (inO i)) zeroI
  have hsz : (w.alloc (inO i)).heap.size = w.heap.size + 1 := by simp
  rw [hsz] at hZ
  obtain ⟨w1, hw1⟩ : ∃ w2, (w.alloc (inO i)).alloc (inO zeroI) = w2 := ⟨_, rfl⟩
  rw [hw1] at hb2 hI hZ
  have g0 := hI.gs
  have HL := Lib.hid hI
  have HZ := Lib.hid hZ
  have e0 : i.s = 2 := by rw [← hi]
  have e2 := Lib.hid (show i.o = 76 by rw [← hi])
  rw [e0] at g0
  clear hI hZ hc hsz
  rw [hi]
  rw [in_val i]
  unfold inO zeroI at hw1
  clear e0 hi hq
  go_enter Tryz.func71, Tryz.ntmps71
  go_wp2_with (refine wpList_load_ins (by kernel_rfl) 23 _ rfl w.heap.size rfl _ _ (0, 0) _ HL.out Tryz.underlying23 rfl in_info ?_)
  refine (HC.out _).mono ?_
  rintro e w2 ⟨rfl, hb⟩
  have hL2 := HL.out.below hb HL.out.lt
  have hZ2 := HZ.out.below hb HZ.out.lt
  have hB2 := hb2.trans (hb.mono hb2.size)
  have k2 := hL2.go
  rw [e2.out] at k2
  have f2 := hL2.free 2
  have HL3 := Lib.hid (hL2.po 68)
  have HZ3 := Lib.hid (show InW (w2.setCell ⟨w.heap.size, 2, none⟩ (.int .i64 68)) (w.heap.size + 1) zeroI from (heap_setCell_other w2 _ _ _ (by simp)).trans hZ2)
  have HB3 := Lib.hid (hB2.setCell (p := ⟨w.heap.size, 2, none⟩) (Nat.le_refl _) (.int .i64 68))
  clear hb HL HZ hb2 g0 hw1 hL2 hZ2 hB2
  go_wp2_with (first
    | (go_at_call 67; (with_reducible refine (c9_parts _ _ (by decide) (by decide)).mono ?_); rintro e w' ⟨rfl, rfl⟩)
    | (refine wpList_load_row rfl 23 _ rfl w.heap.size rfl _ _ (0, 0) _ HL3.out Tryz.underlying23 rfl in_info ?_)
    | (refine wpList_store_row rfl 23 _ _ rfl (w.heap.size + 1) _ rfl rfl _ _ HZ3.out in_info rfl (in_one _) ?_))
  (try simp only [Exit.inBlock, Exit.then])
  exact bodyPost_ret (results_cell_row rfl _ _ _ _ _ (0, 0) _ rfl (setRow_heap _ _ _ _ _ _ HZ3.out) Tryz.underlying23 rfl in_info) rfl ⟨rfl, below_setRow HB3.out (by omega) _⟩

end Go.Proofs.YtgaihekapakoeaaGreatDoor
namespace Go.Proofs.YtgaihekapakoeaaGreatDoor
open Go.RowKit Go.ChangeShapes Go.WideShapes Go.ChangeAt
set_option linter.unusedSimpArgs false
set_option linter.unusedVariables false
set_option maxRecDepth 100000

theorem open_in {H : Type} {enc : TypeId × Value → H} {W : World} {r : Reach} {b0 : Nat} {v : Value} {d : DataW H} {p : List MemPlace}
    (hv : Value.okWide Tryz.prog W r b0 23 v) (h : DataW.Trod enc Tryz.prog W 0 (fun _ => true) true 23 v d p) : ∃ i : In, v = i.val ∧ i.Wf := by
  obtain ⟨cs, rfl, hsz⟩ := okWide_struct Tryz.underlying23 hv
  have hC : Tryz.prog.cellsOf 23 = 6 := by kernel_rfl
  have h1 : Tryz.prog.cellsOf 3 = 1 := by kernel_rfl
  rw [hC] at hsz
  obtain ⟨l⟩ := cs
  match l, hsz with
  | [c0, c1, c2, c3, c4, c5], _ =>
  obtain ⟨fuel, hf⟩ := h
  obtain ⟨xs, n, _, _, hl, hlen, hfi⟩ := DataW.trod_struct Tryz.underlying23 hf
  match xs, hlen with
  | [y0, y1, y2, y3, y4, y5], _ =>
  have t0 := hfi 0 _ rfl
  have t1 := hfi 1 _ rfl
  have t2 := hfi 2 _ rfl
  have t3 := hfi 3 _ rfl
  have t4 := hfi 4 _ rfl
  have t5 := hfi 5 _ rfl
  simp [h1, Value.cells] at t0 t1 t2 t3 t4 t5
  obtain ⟨x0, e0, _, w0⟩ := DataW.trod_int Tryz.underlying3 t0
  obtain ⟨x1, e1, _, w1⟩ := DataW.trod_int Tryz.underlying3 t1
  obtain ⟨x2, e2, _, w2⟩ := DataW.trod_int Tryz.underlying3 t2
  obtain ⟨x3, e3, _, w3⟩ := DataW.trod_int Tryz.underlying3 t3
  obtain ⟨x4, e4, _, w4⟩ := DataW.trod_int Tryz.underlying3 t4
  obtain ⟨x5, e5, _, w5⟩ := DataW.trod_int Tryz.underlying3 t5
  simp at e0 e1 e2 e3 e4 e5
  subst e0 e1 e2 e3 e4 e5
  exact ⟨⟨x0, x1, x2, x3, x4, x5⟩, rfl, ⟨w0, w1, w2, w3, w4, w5⟩⟩

theorem RB.lit1g (w : World) (g : Nat) (v : Int) (hg : g = w.heap.size) (h0 : 0 ≤ v) (h1 : v < 256) : RB (w.alloc (.cells #[.int .u8 v] 5)) (g + 1) (some ⟨g, 0, none⟩) 1 [v] := by subst hg; exact RB.lit1 w v h0 h1
theorem ofE_cases (l : List Int) : (∃ y, ofI l = some y ∧ ofV l = y ∧ ofE l = 0) ∨ (ofI l = none ∧ ofE l = 5) := by
  unfold ofV ofE
  cases h : ofI l with
  | none => exact .inr ⟨rfl, rfl⟩
  | some y => exact .inl ⟨y, rfl, rfl, rfl⟩

end Go.Proofs.YtgaihekapakoeaaGreatDoor
