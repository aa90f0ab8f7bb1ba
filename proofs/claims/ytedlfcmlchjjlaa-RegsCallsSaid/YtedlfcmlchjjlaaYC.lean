
/- Registers, the code: where the bytes of the codes are. -/
import Derived.Test.YtedlfcmlchjjlaaYB
namespace Go.Proofs.Ytedlfcmlchjjlaa
open Go.RowKit
set_option linter.unusedSimpArgs false
set_option linter.unusedVariables false
set_option maxRecDepth 100000

theorem does_store_row {P : Program} {o : Oper} {a : Act} {w : World} {next : Value → World → Prop} (ty : TypeId) (x y : Operand) (ho : o.op = .store ty x y)
    (g : Nat) (cells : Array Value) (hx : a.eval x = .pointer (some ⟨g, 0, none⟩)) (hy : a.eval y = .agg cells)
    (t : TypeId) (old : Array Value) (hg : w.heap[g]? = some (.cells old t (0, 0))) (hi : (P.info? ty).map (·.size) = some cells.size)
    (hold : old.size = cells.size) (h1 : cells.all (·.oneCell') = true)
    (h : next undef (w.setRow g cells)) : Oper.does P o a w next := by
  unfold Oper.does execOp
  simp only [ho, hx, hy, Instr.storeAt, Instr.sureAddr, Sem.run_bind, Sem.run_pure, Result.andThen_ok, run_storeVar_row w g t ty old cells hg hi hold h1]
  exact h
theorem results_row_tmp {P : Program} {fn : Func} {p u : Tmp} {ty : TypeId} (h : fn.results = #[.cell p ty, .tmp u]) (tmps : Array Value) (w : World) (g : Nat) (t : TypeId) (cs : Array Value) (fr : Nat × Nat) (d : TypeDesc) (e : Value)
    (hp : tmps.getD p undef = .pointer (some ⟨g, 0, none⟩)) (he : tmps.getD u undef = e) (hg : w.heap[g]? = some (.cells cs t fr))
    (hu : P.underlying ty = some d) (hd : (match d with | .struct _ | .array _ _ => true | _ => false) = true) (hi : (P.info? ty).map (·.size) = some cs.size) :
    (results fn tmps).run P w = .ok (.tuple #[.agg cs, e]) w := by
  rw [results_cell_tmp h, hp, he]
  simp [asAddr, run_loadVar_row w g t ty cs fr d hg hu hd hi]
theorem save_row {w w1 : World} {S : Nat → Prop} (h : Save S w w1) (b : Nat) (cs : Array Value) (hS : S b) : Save S w (w1.setRow b cs) := by
  refine h.trans ⟨?_, ?_, ?_, ?_, fun k hk hn => setRow_other _ _ _ _ (fun e => hn (e ▸ hS))⟩
  all_goals (have hb := below_setRow (Below.refl b w1) (Nat.le_refl b) cs)
  · exact hb.os
  · exact hb.tape
  · exact hb.output
  · exact hb.size
theorem bytes8_info : (Try.prog.info? 83).map (·.size) = some 8 := by kernel_rfl
theorem bytes2_info : (Try.prog.info? 80).map (·.size) = some 2 := by kernel_rfl

set_option maxHeartbeats 2000000 in
theorem c8_bycode (b : Nat) (P Q : Addr) (w : World) : Calls Try.prog 55 #[.pointer (some ⟨b, 0, none⟩), .agg #[.pointer (some P), .pointer (some Q)]] w fun e w' => (∃ N, e = .returned (.agg #[.pointer (some ⟨b, 2, none⟩), .pointer (some ⟨b, 3, none⟩), .pointer (some ⟨b, 4, none⟩), .pointer (some ⟨b, 5, none⟩), .pointer (some P), .pointer (some Q), .pointer (some ⟨N, 0, none⟩), .pointer (some ⟨b, 0, none⟩)]) ∧ w.heap.size ≤ N ∧ w'.heap[N]? = some (.cells #[.int .u8 0] 5 (0, 0))) ∧ Below w.heap.size w w' := by
  have h1 := heap_alloc_new w (.cells #[.pointer (some P), .pointer (some Q)] 80)
  have h2 := heap_alloc_new (w.alloc (.cells #[.pointer (some P), .pointer (some Q)] 80)) (.cells #[.pointer none, .pointer none, .pointer none, .pointer none, .pointer none, .pointer none, .pointer none, .pointer none] 83)
  have h3 := (((Below.refl (w.alloc (.cells #[.pointer (some P), .pointer (some Q)] 80)).heap.size _).alloc (Nat.le_refl _) (.cells #[.pointer none, .pointer none, .pointer none, .pointer none, .pointer none, .pointer none, .pointer none, .pointer none] 83)).block w.heap.size (by simp)).trans h1
  have hB0 : Below w.heap.size w ((w.alloc (.cells #[.pointer (some P), .pointer (some Q)] 80)).alloc (.cells #[.pointer none, .pointer none, .pointer none, .pointer none, .pointer none, .pointer none, .pointer none, .pointer none] 83)) := ((Below.refl _ _).alloc (Nat.le_refl _) _).alloc (by simp) _
  rw [show (w.alloc (.cells #[.pointer (some P), .pointer (some Q)] 80)).heap.size = w.heap.size + 1 by simp] at h2
  obtain ⟨w1, hw1⟩ : ∃ w1, ((w.alloc (.cells #[.pointer (some P), .pointer (some Q)] 80)).alloc (.cells #[.pointer none, .pointer none, .pointer none, .pointer none, .pointer none, .pointer none, .pointer none, .pointer none] 83)) = w1 := ⟨_, rfl⟩
  rw [hw1] at h2 h3 hB0
  have hlt : w.heap.size + 1 < w1.heap.size := (Array.getElem?_eq_some_iff.1 h2).1
  obtain ⟨S, hS⟩ : ∃ S : Nat → Prop, ∀ k, S k ↔ k = w.heap.size + 1 := ⟨(· = w.heap.size + 1), fun _ => Iff.rfl⟩
  have g0 : ∀ p : Later S w1, p.w.cell? ⟨w.heap.size, 0, none⟩ = some (.pointer (some P)) := fun p => by
    rw [cell_of_row _ _ _ _ _ _ ((p.ok.block w.heap.size (by omega) (fun h => by have := (hS _).1 h; omega)).trans h3)]; rfl
  have g1 : ∀ p : Later S w1, p.w.cell? ⟨w.heap.size, 1, none⟩ = some (.pointer (some Q)) := fun p => by
    rw [cell_of_row _ _ _ _ _ _ ((p.ok.block w.heap.size (by omega) (fun h => by have := (hS _).1 h; omega)).trans h3)]; rfl
  have H2 := Lib.hid h2
  have HB := Lib.hid hB0
  have HS := Lib.hid hS
  clear h1 h2 h3 hB0 hS
  go_enter Try.func55, Try.ntmps55
  go_upto_region 1 with fail
  refine region_ S (by kernel_rfl) ?_
  refine seg_ [0, 1, 2, 3, 4, 5, 6, 7, 8, 9, 10, 11, 12, 13, 14, 15, 17, 18, 19] 3 _ (by kernel_rfl) (by kernel_rfl) (by kernel_rfl) (by simp only [pickOps, mask, plain, List.getElem?_toArray, List.getElem?_cons_zero, List.getElem?_cons_succ, if_true]; rfl) ?_
  repeat (go_big_quiet_step (fail))
  refine wpQuiet_nil ?_
  clear g0 g1
  refine callx_ (i := 16) rfl (by kernel_rfl) (by kernel_rfl) ?_
  intro nn
  have hV := Save.drawn S w1 nn
  have hB2 : Below w.heap.size w { w1 with drawn := nn } := HB.out.trans ((Save.drawn (fun _ => False) w1 nn).all.mono HB.out.size)
  have h2 : ({ w1 with drawn := nn } : World).heap[w.heap.size + 1]? = some (.cells #[.pointer none, .pointer none, .pointer none, .pointer none, .pointer none, .pointer none, .pointer none, .pointer none] 83 (0, 0)) := H2.out
  generalize hw2 : ({ w1 with drawn := nn } : World) = w2 at *
  clear hw2
  have hlt2 : w.heap.size + 1 < w2.heap.size := (Array.getElem?_eq_some_iff.1 h2).1
  unfold Oper.does
  go_simp
  have hN := heap_alloc_new w2 (.cells #[.int .u8 0] 5)
  have hb := (Below.refl w2.heap.size w2).alloc (Nat.le_refl _) (.cells #[.int .u8 0] 5)
  refine same_ hV (below_save hb (Nat.le_refl _) S) ?_
  have hB3 := hB2.trans (hb.mono hB2.size)
  have h4 := (hb.block _ hlt2).trans h2
  generalize hw3 : w2.alloc (.cells #[.int .u8 0] 5) = w3 at *
  obtain ⟨N, hNe⟩ : ∃ N, w2.heap.size = N := ⟨_, rfl⟩
  rw [hNe] at hN hlt2
  have hNw : w.heap.size ≤ N := by omega
  simp only [hNe]
  clear hw3 hb hB2 h2 hV hNe
  refine seg_ [20] 1 _ (by kernel_rfl) (by kernel_rfl) (by kernel_rfl) (by simp only [pickOps, mask, plain, List.getElem?_toArray, List.getElem?_cons_zero, List.getElem?_cons_succ, if_true]; rfl) ?_
  repeat (go_big_quiet_step (fail))
  refine wpQuiet_nil ?_
  refine callx_ (i := 21) rfl (by kernel_rfl) (by kernel_rfl) ?_
  intro nn2
  have hV := Save.drawn S w3 nn2
  have hB4 : Below w.heap.size w { w3 with drawn := nn2 } := hB3.trans ((Save.drawn (fun _ => False) w3 nn2).all.mono hB3.size)
  have h5 : ({ w3 with drawn := nn2 } : World).heap[w.heap.size + 1]? = some (.cells #[.pointer none, .pointer none, .pointer none, .pointer none, .pointer none, .pointer none, .pointer none, .pointer none] 83 (0, 0)) := h4
  have hN5 : ({ w3 with drawn := nn2 } : World).heap[N]? = some (.cells #[.int .u8 0] 5 (0, 0)) := hN
  generalize hw4 : ({ w3 with drawn := nn2 } : World) = w4 at *
  clear hw4 hB3 h4 hN
  refine does_store_row 83 _ _ rfl (w.heap.size + 1) _ rfl rfl 83 _ h5 bytes8_info rfl (by rw [List.all_toArray]; rfl) ?_
  have hS5 := save_row (Save.refl S w4) (w.heap.size + 1) #[.pointer (some ⟨b, 2, none⟩), .pointer (some ⟨b, 3, none⟩), .pointer (some ⟨b, 4, none⟩), .pointer (some ⟨b, 5, none⟩), .pointer (some P), .pointer (some Q), .pointer (some ⟨N, 0, none⟩), .pointer (some ⟨b, 0, none⟩)] ((HS.out _).2 rfl)
  refine turn_ (S1 := fun _ => False) hV hS5 (fun k hk h => h.elim) ?_
  have hR6 := setRow_heap w4 (w.heap.size + 1) _ #[.pointer (some ⟨b, 2, none⟩), .pointer (some ⟨b, 3, none⟩), .pointer (some ⟨b, 4, none⟩), .pointer (some ⟨b, 5, none⟩), .pointer (some P), .pointer (some Q), .pointer (some ⟨N, 0, none⟩), .pointer (some ⟨b, 0, none⟩)] _ _ h5
  have hB6 := hB4.trans (hS5.below (B := w.heap.size) hB4.size (fun k hk => by have := (HS.out _).1 hk; omega))
  have hN6 := (setRow_other w4 (w.heap.size + 1) N #[.pointer (some ⟨b, 2, none⟩), .pointer (some ⟨b, 3, none⟩), .pointer (some ⟨b, 4, none⟩), .pointer (some ⟨b, 5, none⟩), .pointer (some P), .pointer (some Q), .pointer (some ⟨N, 0, none⟩), .pointer (some ⟨b, 0, none⟩)] (by omega)).trans hN5
  generalize hw5 : w4.setRow (w.heap.size + 1) #[.pointer (some ⟨b, 2, none⟩), .pointer (some ⟨b, 3, none⟩), .pointer (some ⟨b, 4, none⟩), .pointer (some ⟨b, 5, none⟩), .pointer (some P), .pointer (some Q), .pointer (some ⟨N, 0, none⟩), .pointer (some ⟨b, 0, none⟩)] = w5 at *
  clear hw5 hS5 hV hB4 h5 hN5
  refine end_ (by kernel_rfl) ?_
  intro wc sc
  have hb6 := sc.below (B := w5.heap.size) (Nat.le_refl _) (fun _ h => h.elim)
  have hR7 := (hb6.block _ (Array.getElem?_eq_some_iff.1 hR6).1).trans hR6
  have hN7 := (hb6.block _ (Array.getElem?_eq_some_iff.1 hN6).1).trans hN6
  have hB7 := hB6.trans (hb6.mono hB6.size)
  clear hR6 hN6 hB6 hb6 sc
  go_wp2
  exact bodyPost_ret (results_cell_row rfl _ _ _ _ _ (0, 0) _ rfl hR7 Try.underlying83 rfl bytes8_info) rfl ⟨⟨N, rfl, hNw, hN7⟩, hB7⟩

end Go.Proofs.Ytedlfcmlchjjlaa
