/-    -/
import Derived.Test.YtgaihekapakoeaaGreatDoorJ6
import Derived.Test.YtgaihekapakoeaaGreatDoorJ3
import Derived.Lib.SmallJoins
import Derived.Deep.CutRange
set_option linter.unusedVariables false
set_option linter.unusedSimpArgs false
namespace Go.Proofs.YtgaihekapakoeaaGreatDoor
open Go.RowKit


set_option maxRecDepth 100000

theorem in_guard (op : BinOp) (x y : Operand) (i j : In) (w : World) : (eqGuard op 23 x y i.val j.val).run Tryz.prog w = .ok () w := run_eqGuard_agg w op 23 x y _ _ (by kernel_rfl)
theorem wf64 {n : Int} (h0 : -9223372036854775808 ≤ n) (h1 : n ≤ 9223372036854775807) : (Lit.int .i64 n).wf = true := by
 simp only [Lit.wf, Bool.and_eq_true, decide_eq_true_eq]
 exact ⟨h0, h1⟩
theorem Got.wf {l : List Int} {i : In} (h : Got l i) : i.Wf := by
 have h1 := h.low; have h2 := h.high; have h3 := h.d; have h4 := h.m; have h5 := h.cases
 constructor <;> apply wf64 <;> omega

end Go.Proofs.YtgaihekapakoeaaGreatDoor
namespace Go.Proofs.YtgaihekapakoeaaGreatDoor
open Go.RowKit


set_option maxRecDepth 100000

theorem wpList_load_ins {P : Program} {ops : Array Oper} {rest : List Oper} {o : Oper} {a : Act} {w : World} {Q : Exit → Act → World → Prop} (hw : Region.wanted o (yielded ops a.tmps) = true) (ty : TypeId) (x : Operand) (ho : o.op = .load ty x) (g : Nat) (hx : a.eval x = .pointer (some ⟨g, 0, none⟩))
  (t : TypeId) (cs : Array Value) (fr : Nat × Nat) (d : TypeDesc) (hg : w.heap[g]? = some (.cells cs t fr)) (hu : P.underlying ty = some d) (hd : (match d with | .struct _ | .array _ _ => true | _ => false) = true) (hi : (P.info? ty).map (·.size) = some cs.size)
  (h : wpList P ops Q rest (a.put o.dst (.agg cs)) w) : wpList P ops Q (o :: rest) a w :=
 BigFrame.wpList_want hw fun K hK => Oper.wp_of_does (does_load_ins ty x ho g hx t cs fr d hg hu hd hi (hK _ _ h))

end Go.Proofs.YtgaihekapakoeaaGreatDoor
namespace Go.Proofs.YtgaihekapakoeaaGreatDoor
open Go.RowKit Go.ChangeShapes Go.WideShapes Go.ChangeAt


set_option maxRecDepth 100000

theorem RB.lit1g (w : World) (g : Nat) (v : Int) (hg : g = w.heap.size) (h0 : 0 ≤ v) (h1 : v < 256) : RB (w.alloc (.cells #[.int .u8 v] 5)) (g + 1) (some ⟨g, 0, none⟩) 1 [v] := by subst hg; exact RB.lit1 w v h0 h1
end Go.Proofs.YtgaihekapakoeaaGreatDoor
