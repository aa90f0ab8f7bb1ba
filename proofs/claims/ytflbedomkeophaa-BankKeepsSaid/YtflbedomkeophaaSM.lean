
/- The chapter's examples. -/
import Derived.Test.YtflbedomkeophaaSL
import Derived.Lib.SmallJoins
namespace Go.Proofs.Ytflbedomkeophaa
open Go.RowKit
set_option linter.unusedSimpArgs false
set_option linter.unusedVariables false
set_option maxRecDepth 100000

theorem eq4 (a b c d : Int) (w : World) : (binOp .eql 52 (.agg #[.int .i64 a, .int .i64 b, .int .i64 c, .int .i64 d]) (.agg #[.int .i64 a, .int .i64 b, .int .i64 c, .int .i64 d])).run Try.prog w = .ok (.bool true) w := by
  have hx : (Try.prog.info? 3).isSome = true := by kernel_rfl
  obtain ⟨i, hi⟩ := Option.isSome_iff_exists.1 hx
  have hC : Try.prog.cellsOf 3 = 1 := by kernel_rfl
  rw [run_eql_struct, run_equalIn_array w 9999 _ _ Try.underlying52 hi, hC, show List.range 4 = [0, 1, 2, 3] from rfl]
  simp only [Op.eqItems]
  go_simp
theorem slots_7 (w : World) : Calls Try.prog 21 #[.agg #[.int .u8 7, .int .u8 0]] w fun e w' => e = .returned (.agg #[.int .i64 8, .int .i64 5, .int .i64 2, .int .i64 7]) ∧ Below w.heap.size w w' := b_slots 7 0 w (by decide) (by decide)
theorem slots_16 (w : World) : Calls Try.prog 21 #[.agg #[.int .u8 16, .int .u8 4]] w fun e w' => e = .returned (.agg #[.int .i64 11, .int .i64 5, .int .i64 2, .int .i64 0]) ∧ Below w.heap.size w w' := by
  have h : slB 16 4 0 = 11 := by decide +kernel
  have := b_slots 16 4 w (by decide) (by decide)
  unfold slV pgV at this
  rw [h] at this
  exact this
theorem slots_b7 (w : World) : Calls Try.prog 21 #[.agg #[.int .u8 0, .int .u8 7]] w fun e w' => e = .returned (.agg #[.int .i64 4, .int .i64 7, .int .i64 6, .int .i64 3]) ∧ Below w.heap.size w w' := b_slots 0 7 w (by decide) (by decide)

theorem splice_at (L m : List Int) (p j : Nat) (h : p + m.length ≤ L.length) : (splice L p m).getD j 0 = if p ≤ j ∧ j < p + m.length then m.getD (j - p) 0 else L.getD j 0 := by
  unfold splice
  simp only [List.getD_eq_getElem?_getD]
  by_cases h1 : j < p
  · rw [if_neg (by omega), List.getElem?_append_left (by rw [List.length_take]; omega), List.getElem?_take, if_pos h1]
  · rw [List.getElem?_append_right (by rw [List.length_take]; omega), List.length_take, Nat.min_eq_left (by omega)]
    by_cases h2 : j < p + m.length
    · rw [if_pos ⟨by omega, h2⟩, List.getElem?_append_left (by omega)]
    · rw [if_neg (by omega), List.getElem?_append_right (by omega), List.getElem?_drop]
      congr 2
      omega
/-- The example's patch. -/
def ptE (g : Nat) : Pt := ⟨5, 100, some ⟨g, 0, none⟩, 2, [1, 2]⟩
theorem ptE_at (g : Nat) : ((newL [ptE g]) 5).getD 100 0 = 1 := by
  show (splice bkL 100 [1, 2]).getD 100 0 = 1
  rw [splice_at _ _ _ _ (by rw [bkL_len]; decide)]
  rfl
theorem ptE_wf (g : Nat) : (ptE g).wf := ⟨show (Lit.int .i64 5).wf = true by decide, show (Lit.int .i64 100).wf = true by decide, show 2 ≤ 140737488355328 by decide, fun h => by cases h⟩
theorem ptE_may (g : Nat) : (ptE g).may := ⟨show (0 : Int) ≤ 5 by decide, show (5 : Int) < 12 by decide, show (0 : Int) ≤ 100 by decide, show (100 : Int) + ((2 : Nat) : Int) ≤ 16384 by decide⟩
theorem new_example (w : World) (W : World) (hW : W = (w.alloc (.cells #[.int .u8 1, .int .u8 2] 5)).alloc (.cells #[.int .i64 5, .int .i64 100, .slice (some ⟨w.heap.size, 0, none⟩) 2 2] 29)) :
    Calls Try.prog 7 #[.slice (some ⟨w.heap.size + 1, 0, none⟩) 1 1] W fun e w' => ∃ x sr cs, e = .returned (.tuple #[ptrV x.m, .int .i64 0]) ∧ MB w' (fun k => W.heap.size ≤ k) x sr cs ∧ x.A = 0 ∧ x.B = 0 ∧ x.L = newL [ptE w.heap.size] ∧ Below W.heap.size W w' := by
  have hsz : W.heap.size = w.heap.size + 2 := by rw [hW]; simp
  have hb : RB W W.heap.size (some ⟨w.heap.size, 0, none⟩) 2 [1, 2] := by
    have := (OB.lit w [1, 2] (show AllB [1, 2] from fun n hn => by simp at hn; omega) (by decide)).rb
    rw [hW]
    exact (this.alloc (Nat.le_refl _) _).more (by simp)
  have hp : PtsAt W W.heap.size (some ⟨w.heap.size + 1, 0, none⟩) 1 [ptE w.heap.size] := by
    refine ⟨Nat.le_refl _, by decide, fun _ => ⟨_, _, rfl, by omega, fun i hi j hj => ?_⟩, fun x hx => by obtain rfl := List.mem_singleton.1 hx; exact hb⟩
    obtain rfl : i = 0 := by simp at hi; omega
    rw [hW, cell_of_row _ _ _ _ _ (0, 0) (heap_alloc2_new _ _ _)]
    obtain rfl | rfl | rfl : j = 0 ∨ j = 1 ∨ j = 2 := by omega
    all_goals rfl
  refine (bnew_any W _ 1 1 [ptE w.heap.size] hp (fun x hx => by obtain rfl := List.mem_singleton.1 hx; exact ptE_wf _) rfl (show 1 ≤ 1000000 by decide)).mono fun e w' h => ?_
  obtain ⟨x, sr, cs, h1, h2, h3, h4, h5⟩ := h.1 (fun x hx => by obtain rfl := List.mem_singleton.1 hx; exact ptE_may _)
  exact ⟨x, sr, cs, h1, h2, h3, h4, h5, h.2.2⟩
theorem b_pick {x0 : Mo} : (x0.put 0 0 9).L 0 = (x0.L 0).set 0 9 := rfl
end Go.Proofs.Ytflbedomkeophaa
