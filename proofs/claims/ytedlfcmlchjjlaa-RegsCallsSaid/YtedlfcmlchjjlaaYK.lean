
/- Registers that came in; registers compared; swaps, refreshes, pure. -/
import Derived.Test.YtedlfcmlchjjlaaYJ
import Derived.Test.YtedlfcmlchjjlaaW
import Derived.Lib.SmallJoins
namespace Go.Proofs.Ytedlfcmlchjjlaa
open Go.RowKit Go.ChangeShapes Go.WideShapes Go.ChangeAt
set_option linter.unusedSimpArgs false
set_option linter.unusedVariables false
set_option maxRecDepth 100000

set_option maxHeartbeats 2000000 in
theorem open_rg {H : Type} {enc : TypeId × Value → H} {W : World} {r : Reach} {b0 : Nat} {v : Value} {d : DataW H} {p : List MemPlace}
    (hv : Value.okWide Try.prog W r b0 24 v) (h : DataW.Trod enc Try.prog W 0 (fun _ => true) true 24 v d p) : ∃ s : Rg, v = s.val ∧ s.Ok := by
  obtain ⟨cs, rfl, hsz⟩ := okWide_struct Try.underlying24 hv
  have hC : Try.prog.cellsOf 24 = 24 := by kernel_rfl
  have h1 : Try.prog.cellsOf 3 = 1 := by kernel_rfl
  have h2 : Try.prog.cellsOf 5 = 1 := by kernel_rfl
  have h3 : Try.prog.cellsOf 22 = 1 := by kernel_rfl
  have h4 : Try.prog.cellsOf 4 = 1 := by kernel_rfl
  rw [hC] at hsz
  obtain ⟨l⟩ := cs
  match l, hsz with
  | [c0, c1, c2, c3, c4, c5, c6, c7, c8, c9, c10, c11, c12, c13, c14, c15, c16, c17, c18, c19, c20, c21, c22, c23], _ =>
  obtain ⟨fuel, hf⟩ := h
  obtain ⟨xs, n, _, _, hl, hlen, hfi⟩ := DataW.trod_struct Try.underlying24 hf
  match xs, hlen with
  | [y0, y1, y2, y3, y4, y5, y6, y7, y8, y9, y10, y11, y12, y13, y14, y15, y16, y17, y18, y19, y20, y21, y22, y23], _ =>
  have t0 := hfi 0 _ rfl
  have t1 := hfi 1 _ rfl
  have t2 := hfi 2 _ rfl
  have t3 := hfi 3 _ rfl
  have t4 := hfi 4 _ rfl
  have t5 := hfi 5 _ rfl
  have t6 := hfi 6 _ rfl
  have t7 := hfi 7 _ rfl
  have t8 := hfi 8 _ rfl
  have t9 := hfi 9 _ rfl
  have t10 := hfi 10 _ rfl
  have t11 := hfi 11 _ rfl
  have t12 := hfi 12 _ rfl
  have t13 := hfi 13 _ rfl
  have t14 := hfi 14 _ rfl
  have t15 := hfi 15 _ rfl
  have t16 := hfi 16 _ rfl
  have t17 := hfi 17 _ rfl
  have t18 := hfi 18 _ rfl
  have t19 := hfi 19 _ rfl
  have t20 := hfi 20 _ rfl
  have t21 := hfi 21 _ rfl
  have t22 := hfi 22 _ rfl
  have t23 := hfi 23 _ rfl
  simp [h1, h2, h3, h4, Value.cells] at t0 t1 t2 t3 t4 t5 t6 t7 t8 t9 t10 t11 t12 t13 t14 t15 t16 t17 t18 t19 t20 t21 t22 t23
  obtain ⟨x0, e0, _, w0⟩ := DataW.trod_int Try.underlying5 t0
  obtain ⟨x1, e1, _, w1⟩ := DataW.trod_int Try.underlying5 t1
  obtain ⟨x2, e2, _, w2⟩ := DataW.trod_int Try.underlying5 t2
  obtain ⟨x3, e3, _, w3⟩ := DataW.trod_int Try.underlying5 t3
  obtain ⟨x4, e4, _, w4⟩ := DataW.trod_int Try.underlying5 t4
  obtain ⟨x5, e5, _, w5⟩ := DataW.trod_int Try.underlying5 t5
  obtain ⟨x6, e6, _, w6⟩ := DataW.trod_int Try.underlying5 t6
  obtain ⟨x7, e7, _, w7⟩ := DataW.trod_int Try.underlying5 t7
  obtain ⟨x8, e8, _, w8⟩ := DataW.trod_int Try.underlying5 t8
  obtain ⟨x9, e9, _, w9⟩ := DataW.trod_int Try.underlying5 t9
  obtain ⟨x10, e10, _, w10⟩ := DataW.trod_int Try.underlying22 t10
  obtain ⟨x11, e11, _, w11⟩ := DataW.trod_int Try.underlying22 t11
  obtain ⟨x12, e12, _, w12⟩ := DataW.trod_int Try.underlying22 t12
  obtain ⟨x13, e13, _, w13⟩ := DataW.trod_int Try.underlying22 t13
  obtain ⟨x14, e14, _, w14⟩ := DataW.trod_int Try.underlying22 t14
  obtain ⟨x15, e15, _, w15⟩ := DataW.trod_int Try.underlying22 t15
  obtain ⟨x16, e16, _, w16⟩ := DataW.trod_int Try.underlying22 t16
  obtain ⟨x17, e17, _, w17⟩ := DataW.trod_int Try.underlying22 t17
  obtain ⟨x18, e18, _, w18⟩ := DataW.trod_int Try.underlying22 t18
  obtain ⟨x19, e19, _⟩ := DataW.trod_bool Try.underlying4 t19
  obtain ⟨x20, e20, _⟩ := DataW.trod_bool Try.underlying4 t20
  obtain ⟨x21, e21, _, w21⟩ := DataW.trod_int Try.underlying3 t21
  obtain ⟨x22, e22, _⟩ := DataW.trod_bool Try.underlying4 t22
  obtain ⟨x23, e23, _⟩ := DataW.trod_bool Try.underlying4 t23
  simp at e0 e1 e2 e3 e4 e5 e6 e7 e8 e9 e10 e11 e12 e13 e14 e15 e16 e17 e18 e19 e20 e21 e22 e23
  subst e0 e1 e2 e3 e4 e5 e6 e7 e8 e9 e10 e11 e12 e13 e14 e15 e16 e17 e18 e19 e20 e21 e22 e23
  refine ⟨⟨x0, x1, x2, x3, x4, x5, x6, x7, x8, x9, x10, x11, x12, x13, x14, x15, x16, x17, x18, x19, x20, x21, x22, x23⟩, rfl, ?_⟩
  exact { A := wf_u8 w0, F := wf_u8 w1, B := wf_u8 w2, C := wf_u8 w3, D := wf_u8 w4, E := wf_u8 w5, H := wf_u8 w6, L := wf_u8 w7, I := wf_u8 w8, R := wf_u8 w9, IX := by have := bounds_u16 w10; unfold isW; dsimp only; omega, IY := by have := bounds_u16 w11; unfold isW; dsimp only; omega, SP := by have := bounds_u16 w12; unfold isW; dsimp only; omega, PC := by have := bounds_u16 w13; unfold isW; dsimp only; omega, WZ := by have := bounds_u16 w14; unfold isW; dsimp only; omega, AF2 := by have := bounds_u16 w15; unfold isW; dsimp only; omega, BC2 := by have := bounds_u16 w16; unfold isW; dsimp only; omega, DE2 := by have := bounds_u16 w17; unfold isW; dsimp only; omega, HL2 := by have := bounds_u16 w18; unfold isW; dsimp only; omega, IM := w21 }

theorem does_load_row {P : Program} {o : Oper} {a : Act} {w : World} {next : Value → World → Prop} (ty : TypeId) (x : Operand) (ho : o.op = .load ty x) (g : Nat) (hx : a.eval x = .pointer (some ⟨g, 0, none⟩))
    (t : TypeId) (cs : Array Value) (fr : Nat × Nat) (d : TypeDesc) (hg : w.heap[g]? = some (.cells cs t fr)) (hu : P.underlying ty = some d) (hd : (match d with | .struct _ | .array _ _ => true | _ => false) = true) (hi : (P.info? ty).map (·.size) = some cs.size)
    (h : next (.agg cs) w) : Oper.does P o a w next := by
  unfold Oper.does execOp
  simp only [ho, hx, Instr.loadAt, asAddr, Instr.sureAddr, Sem.run_bind, Sem.run_pure, Result.andThen_ok, run_loadVar_row w g t ty cs fr d hg hu hd hi]
  exact h
theorem rg_eql (r : Rg) (w : World) : (binOp .eql 24 r.val r.val).run Try.prog w = .ok (.bool true) w := by
  unfold Rg.val Rg.cells
  go_simp
theorem rg_neq (r : Rg) (w : World) : (binOp .neq 24 r.val r.val).run Try.prog w = .ok (.bool false) w := by
  unfold Rg.val Rg.cells
  go_simp
theorem rg_guard (op : BinOp) (x y : Operand) (r q : Rg) (w : World) : (eqGuard op 24 x y r.val q.val).run Try.prog w = .ok () w := run_eqGuard_agg w op 24 x y _ _ (by kernel_rfl)
theorem does_rg_eql {o : Oper} {a : Act} {w : World} {next : Value → World → Prop} (x y : Operand) {t : TypeId} (ho : o.op = .binOp .eql 24 x y t) (r : Rg) (hx : a.eval x = r.val) (hy : a.eval y = r.val)
    (h : next (.bool true) w) : Oper.does Try.prog o a w next := by
  unfold Oper.does execOp
  simp only [ho, hx, hy, Sem.run_bind, rg_guard, Result.andThen_ok, rg_eql, Sem.run_pure]
  exact h
theorem does_rg_neq {o : Oper} {a : Act} {w : World} {next : Value → World → Prop} (x y : Operand) {t : TypeId} (ho : o.op = .binOp .neq 24 x y t) (r : Rg) (hx : a.eval x = r.val) (hy : a.eval y = r.val)
    (h : next (.bool false) w) : Oper.does Try.prog o a w next := by
  unfold Oper.does execOp
  simp only [ho, hx, hy, Sem.run_bind, rg_guard, Result.andThen_ok, rg_neq, Sem.run_pure]
  exact h

theorem swapR_ok {r : Rg} (h : r.Ok) (k : Int) : (swapR r k).Ok := by
  have a1 := h.A; have a2 := h.F; have a3 := h.B; have a4 := h.C; have a5 := h.D; have a6 := h.E; have a7 := h.H; have a8 := h.L
  have b1 := h.AF2; have b2 := h.BC2; have b3 := h.DE2; have b4 := h.HL2
  unfold isB at a1 a2 a3 a4 a5 a6 a7 a8
  unfold isW at b1 b2 b3 b4
  unfold swapR
  repeat' split
  · exact { h with A := ⟨by dsimp only; omega, by dsimp only; omega⟩, F := ⟨by dsimp only; omega, by dsimp only; omega⟩, AF2 := ⟨by dsimp only; omega, by dsimp only; omega⟩ }
  · exact { h with B := ⟨by dsimp only; omega, by dsimp only; omega⟩, C := ⟨by dsimp only; omega, by dsimp only; omega⟩, D := ⟨by dsimp only; omega, by dsimp only; omega⟩, E := ⟨by dsimp only; omega, by dsimp only; omega⟩, H := ⟨by dsimp only; omega, by dsimp only; omega⟩, L := ⟨by dsimp only; omega, by dsimp only; omega⟩, BC2 := ⟨by dsimp only; omega, by dsimp only; omega⟩, DE2 := ⟨by dsimp only; omega, by dsimp only; omega⟩, HL2 := ⟨by dsimp only; omega, by dsimp only; omega⟩ }
  · exact { h with D := h.H, E := h.L, H := h.D, L := h.E }
theorem pair_div {a b : Int} (ha : isB a) (hb : isB b) : (a * 256 + b) / 256 = a ∧ (a * 256 + b) % 256 = b := by unfold isB at ha hb; omega
theorem word_whole (x : Int) : x / 256 * 256 + x % 256 = x := by omega
theorem swap_twice {r : Rg} (h : r.Ok) (k : Int) : swapR (swapR r k) k = r := by
  obtain ⟨e1, e2⟩ := pair_div h.A h.F
  obtain ⟨e3, e4⟩ := pair_div h.B h.C
  obtain ⟨e5, e6⟩ := pair_div h.D h.E
  obtain ⟨e7, e8⟩ := pair_div h.H h.L
  have : k % 3 = 0 ∨ k % 3 = 1 ∨ k % 3 = 2 := by omega
  obtain ⟨A, F, B, C, D, E, H, L, I, R, IX, IY, SP, PC, WZ, AF2, BC2, DE2, HL2, i1, i2, IM, ha, la⟩ := r
  simp only at e1 e2 e3 e4 e5 e6 e7 e8
  rcases this with hk | hk | hk <;> unfold swapR <;> simp only [hk] <;> simp [e1, e2, e3, e4, e5, e6, e7, e8, word_whole]
theorem swap_comm (r : Rg) : swapR (swapR r 1) 0 = swapR (swapR r 0) 1 := rfl
theorem swap_3 (r : Rg) : swapR r 3 = swapR r 0 := rfl
theorem swap_m1 (r : Rg) : swapR r (-1) = swapR r 2 := rfl
def refN (r : Rg) (k : Nat) : Rg := { r with R := r.R / 128 * 128 + (r.R + k) % 128 }
theorem refN_zero (r : Rg) : refN r 0 = r := by unfold refN; cases r; simp; omega
theorem refN_128 (r : Rg) : refN r 128 = r := by unfold refN; cases r; simp; omega
theorem refN_byte {r : Rg} (h : isB r.R) (k : Nat) : isB (refN r k).R := by unfold isB refN at *; dsimp only; omega
theorem refN_succ (r : Rg) (k : Nat) : refreshR (refN r k) = refN r (k + 1) := by
  unfold refreshR refN
  simp only [Rg.mk.injEq, true_and, and_true]
  omega
theorem refN_top {r : Rg} (h : isB r.R) (k : Nat) : (refN r k).R / 128 = r.R / 128 := by unfold isB refN at *; dsimp only; omega
theorem cond_other (f : Int) (k : Int) (hk : k = 0 ∨ k = 2 ∨ k = 4 ∨ k = 6) : condR f (k + 1) = !condR f k := by
  rcases hk with rfl | rfl | rfl | rfl <;> unfold condR condM <;> simp <;> split <;> simp_all

end Go.Proofs.Ytedlfcmlchjjlaa
