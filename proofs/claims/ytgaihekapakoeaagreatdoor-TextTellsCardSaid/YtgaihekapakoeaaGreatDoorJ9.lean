/-    -/
import Derived.Test.YtgaihekapakoeaaGreatDoorJ6
import Derived.Test.YtgaihekapakoeaaGreatDoorJ3
import Derived.Lib.SmallJoins
import Derived.Deep.CutRange
namespace Go.Proofs.YtgaihekapakoeaaGreatDoor
open Go.RowKit
set_option linter.unusedSimpArgs false
set_option linter.unusedVariables false
set_option maxRecDepth 100000

theorem in_guard (op : BinOp) (x y : Operand) (i j : In) (w : World) : (eqGuard op 23 x y i.val j.val).run Tryz.prog w = .ok () w := run_eqGuard_agg w op 23 x y _ _ (by kernel_rfl)
theorem Got.nat {l : List Int} {i : In} (h : Got l i) : ∃ n : Nat, i.n = n ∧ 1 ≤ n ∧ n ≤ 4 ∧ n ≤ l.length ∧ bytesI i = l.take n := by
 refine ⟨i.n.toNat, ?_, ?_, ?_, h.len, h.bytes⟩ <;> have := h.low <;> have := h.high <;> omega
theorem wf64 {n : Int} (h0 : -9223372036854775808 ≤ n) (h1 : n ≤ 9223372036854775807) : (Lit.int .i64 n).wf = true := by
 simp only [Lit.wf, Bool.and_eq_true, decide_eq_true_eq]
 exact ⟨h0, h1⟩
theorem Got.wf {l : List Int} {i : In} (h : Got l i) : i.Wf := by
 have h1 := h.low; have h2 := h.high; have h3 := h.d; have h4 := h.m; have h5 := h.cases
 constructor <;> apply wf64 <;> omega

end Go.Proofs.YtgaihekapakoeaaGreatDoor
namespace Go.Proofs.YtgaihekapakoeaaGreatDoor
open Go.RowKit
set_option linter.unusedSimpArgs false
set_option linter.unusedVariables false
set_option maxRecDepth 100000

theorem wpList_load_ins {P : Program} {ops : Array Oper} {rest : List Oper} {o : Oper} {a : Act} {w : World} {Q : Exit → Act → World → Prop} (hw : Region.wanted o (yielded ops a.tmps) = true) (ty : TypeId) (x : Operand) (ho : o.op = .load ty x) (g : Nat) (hx : a.eval x = .pointer (some ⟨g, 0, none⟩))
  (t : TypeId) (cs : Array Value) (fr : Nat × Nat) (d : TypeDesc) (hg : w.heap[g]? = some (.cells cs t fr)) (hu : P.underlying ty = some d) (hd : (match d with | .struct _ | .array _ _ => true | _ => false) = true) (hi : (P.info? ty).map (·.size) = some cs.size)
  (h : wpList P ops Q rest (a.put o.dst (.agg cs)) w) : wpList P ops Q (o :: rest) a w :=
 BigFrame.wpList_want hw fun K hK => Oper.wp_of_does (does_load_ins ty x ho g hx t cs fr d hg hu hd hi (hK _ _ h))

end Go.Proofs.YtgaihekapakoeaaGreatDoor
namespace Go.Proofs.YtgaihekapakoeaaGreatDoor
open Go.RowKit Go.ChangeShapes Go.WideShapes Go.ChangeAt
set_option linter.unusedSimpArgs false
set_option linter.unusedVariables false
set_option maxRecDepth 100000

theorem open_in {H : Type} {enc : TypeId × Value → H} {W : World} {r : Reach} {b0 : Nat} {v : Value} {d : DataW H} {p : List MemPlace}
  (hv : Value.okWide Tryz.prog W r b0 23 v) (h : DataW.Trod enc Tryz.prog W 0 (fun _ => true) true 23 v d p) : ∃ i : In, v = i.val ∧ i.Wf := by
 obtain ⟨cs, rfl, hsz⟩ := okWide_struct Tryz.underlying23 hv
 have hC : Tryz.prog.cellsOf 23 = 6 := by kernel_rfl
 have h1 : Tryz.prog.cellsOf 3 = 1 := by kernel_rfl
 rw [hC] at hsz
 obtain ⟨l⟩ := cs
 match l, hsz with
 | [c0, c1, c2, c3, c4, c5], _ =>
 obtain ⟨fuel, hf⟩ := h
 obtain ⟨xs, n, _, _, hl, hlen, hfi⟩ := DataW.trod_struct Tryz.underlying23 hf
 match xs, hlen with
 | [y0, y1, y2, y3, y4, y5], _ =>
 have t0 := hfi 0 _ rfl
 have t1 := hfi 1 _ rfl
 have t2 := hfi 2 _ rfl
 have t3 := hfi 3 _ rfl
 have t4 := hfi 4 _ rfl
 have t5 := hfi 5 _ rfl
 simp [h1, Value.cells] at t0 t1 t2 t3 t4 t5
 obtain ⟨x0, e0, _, w0⟩ := DataW.trod_int Tryz.underlying3 t0
 obtain ⟨x1, e1, _, w1⟩ := DataW.trod_int Tryz.underlying3 t1
 obtain ⟨x2, e2, _, w2⟩ := DataW.trod_int Tryz.underlying3 t2
 obtain ⟨x3, e3, _, w3⟩ := DataW.trod_int Tryz.underlying3 t3
 obtain ⟨x4, e4, _, w4⟩ := DataW.trod_int Tryz.underlying3 t4
 obtain ⟨x5, e5, _, w5⟩ := DataW.trod_int Tryz.underlying3 t5
 simp at e0 e1 e2 e3 e4 e5
 subst e0 e1 e2 e3 e4 e5
 exact ⟨⟨x0, x1, x2, x3, x4, x5⟩, rfl, ⟨w0, w1, w2, w3, w4, w5⟩⟩

theorem RB.lit1g (w : World) (g : Nat) (v : Int) (hg : g = w.heap.size) (h0 : 0 ≤ v) (h1 : v < 256) : RB (w.alloc (.cells #[.int .u8 v] 5)) (g + 1) (some ⟨g, 0, none⟩) 1 [v] := by subst hg; exact RB.lit1 w v h0 h1
theorem ofE_cases (l : List Int) : (∃ y, ofI l = some y ∧ ofV l = y ∧ ofE l = 0) ∨ (ofI l = none ∧ ofE l = 5) := by
 unfold ofV ofE
 cases h : ofI l with
 | none => exact .inr ⟨rfl, rfl⟩
 | some y => exact .inl ⟨y, rfl, rfl, rfl⟩

end Go.Proofs.YtgaihekapakoeaaGreatDoor
