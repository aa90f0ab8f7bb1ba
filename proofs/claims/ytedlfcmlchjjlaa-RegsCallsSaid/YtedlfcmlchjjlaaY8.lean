
/- Registers, the code: which pair a code means. -/
import Derived.Test.YtedlfcmlchjjlaaY7
import Derived.Laws.EntriesVeiled
namespace Go.Proofs.Ytedlfcmlchjjlaa
open Go.RowKit
set_option linter.unusedSimpArgs false
set_option linter.unusedVariables false
set_option maxRecDepth 100000

theorem pair_put {w : World} {B : Nat} {x y : Value} (h : w.heap[B]? = some (.cells #[x, y] 88 (0, 0))) (u v : Value) : ((w.setCell ⟨B, 0, none⟩ u).setCell ⟨B, 1, none⟩ v).heap[B]? = some (.cells #[u, v] 88 (0, 0)) := by
  have h0 : (w.setCell ⟨B, 0, none⟩ u).heap[B]? = some (.cells #[u, y] 88 (0, 0)) := by rw [heap_setCell_same _ B 0 _ _ _ h]; rfl
  rw [heap_setCell_same _ B 1 _ _ _ h0]; rfl
/-- A world in which block B is a pair that is laid. -/
structure PairAt (w : World) (B : Nat) (w1 : World) : Prop where
  row : w1.heap[B]? = some (.cells #[.nilFunc, .nilFunc] 88 (0, 0))
  below : Below B w w1
theorem PairAt.more {w w1 w2 : World} {B : Nat} (h : PairAt w B w1) (hb : Below w1.heap.size w1 w2) : PairAt w B w2 := by
  have hlt := (Array.getElem?_eq_some_iff.1 h.row).1
  exact ⟨(hb.block _ hlt).trans h.row, h.below.trans (hb.mono (by omega))⟩

set_option maxHeartbeats 1000000 in
theorem c8_indexof_0 (b : Nat) (i : Int) (w : World) (wf : (Lit.int .i64 i).wf = true) (hv : i % 3 = 0) : Calls Try.prog 78 #[.pointer (some ⟨b, 0, none⟩), .int .i64 i] w fun e w' => e = .returned (cpV b 6 7) ∧ Below w.heap.size w w' := by
  have HM := Lib.hid (fun w => hv ▸ c8_mod_3 i w wf)
  clear hv wf
  have HP := Lib.hid (show PairAt w w.heap.size (w.alloc pairO) from ⟨heap_alloc_new _ _, (Below.refl _ _).alloc (Nat.le_refl _) _⟩)
  obtain ⟨w1, hw1⟩ : ∃ w1, w.alloc pairO = w1 := ⟨_, rfl⟩
  rw [hw1] at HP
  go_enter Try.func78, Try.ntmps78
  go_upto_region 4 with (first | (go_at_call 56; (with_reducible refine (HM.out _).mono ?_); rintro e w' ⟨rfl, rfl⟩))
  refine region_ (· = w.heap.size) (by kernel_rfl) ?_
  refine seg_ [0, 1, 2, 3, 4, 5] 2 _ (by kernel_rfl) (by kernel_rfl) (by kernel_rfl) (by simp only [pickOps, mask, plain, List.getElem?_toArray, List.getElem?_cons_zero, List.getElem?_cons_succ, if_true]; rfl) ?_
  repeat (go_big_quiet_step (fail))
  refine wpQuiet_nil ?_
  refine callx_ (i := 6) rfl (by kernel_rfl) (by kernel_rfl) ?_
  intro nn
  have hV := Save.drawn (· = w.heap.size) w1 nn
  have hP2 : PairAt w w.heap.size { w1 with drawn := nn } := HP.out.more (Save.drawn (fun _ => False) w1 nn).all
  generalize hw2 : ({ w1 with drawn := nn } : World) = w2 at *
  clear hw2
  unfold Oper.does
  go_simp
  refine (c8_ofbytes b 6 7 _).mono ?_
  rintro e w3 ⟨rfl, hb⟩
  refine ⟨_, rfl, same_ hV (below_save hb (Nat.le_refl _) _) ?_⟩
  have hP3 := hP2.more hb
  clear hP2 hb hV
  refine callx_ (i := 7) rfl (by kernel_rfl) (by kernel_rfl) ?_
  intro nn2
  have hV := Save.drawn (· = w.heap.size) w3 nn2
  have hP4 : PairAt w w.heap.size { w3 with drawn := nn2 } := hP3.more (Save.drawn (fun _ => False) w3 nn2).all
  generalize hw4 : ({ w3 with drawn := nn2 } : World) = w4 at *
  clear hw4 hP3
  have c0 : w4.cell? ⟨w.heap.size, 0, none⟩ = some .nilFunc := by rw [cell_of_row _ _ _ _ _ _ hP4.row]; rfl
  have c1 : w4.cell? ⟨w.heap.size, 1, none⟩ = some .nilFunc := by rw [cell_of_row _ _ _ _ _ _ hP4.row]; rfl
  have f0 := frozen_of_row w4 w.heap.size 0 _ _ hP4.row
  have f1 := frozen_of_row w4 w.heap.size 1 _ _ hP4.row
  unfold Oper.does
  go_simp
  clear c0 c1 f0 f1
  have hS5 := save_cell (save_cell (Save.refl (· = w.heap.size) w4) w.heap.size 0 (.func (.func 79) #[cpR b 6 7] #[]) rfl) w.heap.size 1 (.func (.func 80) #[cpR b 6 7] #[]) rfl
  refine turn_ (S1 := fun _ => False) hV hS5 (fun k hk h => h.elim) ?_
  have hR5 := pair_put hP4.row (.func (.func 79) #[cpR b 6 7] #[]) (.func (.func 80) #[cpR b 6 7] #[])
  have hB5 := hP4.below.trans (hS5.below (B := w.heap.size) hP4.below.size (fun k hk => by omega))
  generalize hw5 : ((w4.setCell ⟨w.heap.size, 0, none⟩ (.func (.func 79) #[cpR b 6 7] #[])).setCell ⟨w.heap.size, 1, none⟩ (.func (.func 80) #[cpR b 6 7] #[])) = w5 at *
  clear hw5 hS5 hV hP4
  refine end_ (by kernel_rfl) ?_
  intro wc sc
  have hb6 := sc.below (B := w5.heap.size) (Nat.le_refl _) (fun _ h => h.elim)
  have hR6 := (hb6.block _ (Array.getElem?_eq_some_iff.1 hR5).1).trans hR5
  have hB6 := hB5.trans (hb6.mono hB5.size)
  clear hR5 hB5 hb6 sc
  go_wp2
  exact bodyPost_ret (results_pair rfl _ _ _ _ _ rfl hR6) rfl ⟨rfl, hB6⟩

set_option maxHeartbeats 1000000 in
theorem c8_indexof_1 (b : Nat) (i : Int) (w : World) (wf : (Lit.int .i64 i).wf = true) (hv : i % 3 = 1) : Calls Try.prog 78 #[.pointer (some ⟨b, 0, none⟩), .int .i64 i] w fun e w' => e = .returned (wdV b 10) ∧ Below w.heap.size w w' := by
  have HM := Lib.hid (fun w => hv ▸ c8_mod_3 i w wf)
  clear hv wf
  have HP := Lib.hid (show PairAt w w.heap.size (w.alloc pairO) from ⟨heap_alloc_new _ _, (Below.refl _ _).alloc (Nat.le_refl _) _⟩)
  obtain ⟨w1, hw1⟩ : ∃ w1, w.alloc pairO = w1 := ⟨_, rfl⟩
  rw [hw1] at HP
  go_enter Try.func78, Try.ntmps78
  go_wp2_with (first | (go_at_call 56; (with_reducible refine (HM.out _).mono ?_); rintro e w' ⟨rfl, rfl⟩))
  refine (c8_ofword b 10 _).mono ?_
  rintro e w3 ⟨rfl, hb⟩
  have hP3 := HP.out.more hb
  clear hb
  go_wp2_with (refine wpList_store_row rfl 88 _ _ rfl w.heap.size _ rfl rfl _ _ hP3.row pair_info rfl (by rw [List.all_toArray]; rfl) ?_)
  (try simp only [Exit.inBlock, Exit.then])
  exact bodyPost_ret (results_pair rfl _ _ _ _ _ rfl (setRow_heap _ _ _ _ _ _ hP3.row)) rfl ⟨rfl, below_setRow hP3.below (Nat.le_refl _) _⟩

set_option maxHeartbeats 1000000 in
theorem c8_indexof_2 (b : Nat) (i : Int) (w : World) (wf : (Lit.int .i64 i).wf = true) (hv : i % 3 = 2) : Calls Try.prog 78 #[.pointer (some ⟨b, 0, none⟩), .int .i64 i] w fun e w' => e = .returned (wdV b 11) ∧ Below w.heap.size w w' := by
  have HM := Lib.hid (fun w => hv ▸ c8_mod_3 i w wf)
  clear hv wf
  have HP := Lib.hid (show PairAt w w.heap.size (w.alloc pairO) from ⟨heap_alloc_new _ _, (Below.refl _ _).alloc (Nat.le_refl _) _⟩)
  obtain ⟨w1, hw1⟩ : ∃ w1, w.alloc pairO = w1 := ⟨_, rfl⟩
  rw [hw1] at HP
  go_enter Try.func78, Try.ntmps78
  go_wp2_with (first | (go_at_call 56; (with_reducible refine (HM.out _).mono ?_); rintro e w' ⟨rfl, rfl⟩))
  refine (c8_ofword b 11 _).mono ?_
  rintro e w3 ⟨rfl, hb⟩
  have hP3 := HP.out.more hb
  clear hb
  go_wp2_with (refine wpList_store_row rfl 88 _ _ rfl w.heap.size _ rfl rfl _ _ hP3.row pair_info rfl (by rw [List.all_toArray]; rfl) ?_)
  (try simp only [Exit.inBlock, Exit.then])
  exact bodyPost_ret (results_pair rfl _ _ _ _ _ rfl (setRow_heap _ _ _ _ _ _ hP3.row)) rfl ⟨rfl, below_setRow hP3.below (Nat.le_refl _) _⟩

set_option maxHeartbeats 1000000 in
theorem c8_pairof_0 (b : Nat) (i c : Int) (st : Bool) (w : World) (wf : (Lit.int .i64 c).wf = true) (hv : c % 4 = 0) : Calls Try.prog 58 #[.pointer (some ⟨b, 0, none⟩), .int .i64 i, .int .i64 c, .bool st] w fun e w' => e = .returned (cpV b 2 3) ∧ Below w.heap.size w w' := by
  have HM := Lib.hid (fun w => hv ▸ c8_mod_4 c w wf)
  clear hv wf
  have HP := Lib.hid (show PairAt w w.heap.size (w.alloc pairO) from ⟨heap_alloc_new _ _, (Below.refl _ _).alloc (Nat.le_refl _) _⟩)
  obtain ⟨w1, hw1⟩ : ∃ w1, w.alloc pairO = w1 := ⟨_, rfl⟩
  rw [hw1] at HP
  go_enter Try.func58, Try.ntmps58
  go_upto_region 4 with (first | (go_at_call 56; (with_reducible refine (HM.out _).mono ?_); rintro e w' ⟨rfl, rfl⟩))
  refine region_ (· = w.heap.size) (by kernel_rfl) ?_
  refine seg_ [0, 1, 2, 3, 4, 5] 2 _ (by kernel_rfl) (by kernel_rfl) (by kernel_rfl) (by simp only [pickOps, mask, plain, List.getElem?_toArray, List.getElem?_cons_zero, List.getElem?_cons_succ, if_true]; rfl) ?_
  repeat (go_big_quiet_step (fail))
  refine wpQuiet_nil ?_
  refine callx_ (i := 6) rfl (by kernel_rfl) (by kernel_rfl) ?_
  intro nn
  have hV := Save.drawn (· = w.heap.size) w1 nn
  have hP2 : PairAt w w.heap.size { w1 with drawn := nn } := HP.out.more (Save.drawn (fun _ => False) w1 nn).all
  generalize hw2 : ({ w1 with drawn := nn } : World) = w2 at *
  clear hw2
  unfold Oper.does
  go_simp
  refine (c8_ofbytes b 2 3 _).mono ?_
  rintro e w3 ⟨rfl, hb⟩
  refine ⟨_, rfl, same_ hV (below_save hb (Nat.le_refl _) _) ?_⟩
  have hP3 := hP2.more hb
  clear hP2 hb hV
  refine callx_ (i := 7) rfl (by kernel_rfl) (by kernel_rfl) ?_
  intro nn2
  have hV := Save.drawn (· = w.heap.size) w3 nn2
  have hP4 : PairAt w w.heap.size { w3 with drawn := nn2 } := hP3.more (Save.drawn (fun _ => False) w3 nn2).all
  generalize hw4 : ({ w3 with drawn := nn2 } : World) = w4 at *
  clear hw4 hP3
  have c0 : w4.cell? ⟨w.heap.size, 0, none⟩ = some .nilFunc := by rw [cell_of_row _ _ _ _ _ _ hP4.row]; rfl
  have c1 : w4.cell? ⟨w.heap.size, 1, none⟩ = some .nilFunc := by rw [cell_of_row _ _ _ _ _ _ hP4.row]; rfl
  have f0 := frozen_of_row w4 w.heap.size 0 _ _ hP4.row
  have f1 := frozen_of_row w4 w.heap.size 1 _ _ hP4.row
  unfold Oper.does
  go_simp
  clear c0 c1 f0 f1
  have hS5 := save_cell (save_cell (Save.refl (· = w.heap.size) w4) w.heap.size 0 (.func (.func 79) #[cpR b 2 3] #[]) rfl) w.heap.size 1 (.func (.func 80) #[cpR b 2 3] #[]) rfl
  refine turn_ (S1 := fun _ => False) hV hS5 (fun k hk h => h.elim) ?_
  have hR5 := pair_put hP4.row (.func (.func 79) #[cpR b 2 3] #[]) (.func (.func 80) #[cpR b 2 3] #[])
  have hB5 := hP4.below.trans (hS5.below (B := w.heap.size) hP4.below.size (fun k hk => by omega))
  generalize hw5 : ((w4.setCell ⟨w.heap.size, 0, none⟩ (.func (.func 79) #[cpR b 2 3] #[])).setCell ⟨w.heap.size, 1, none⟩ (.func (.func 80) #[cpR b 2 3] #[])) = w5 at *
  clear hw5 hS5 hV hP4
  refine end_ (by kernel_rfl) ?_
  intro wc sc
  have hb6 := sc.below (B := w5.heap.size) (Nat.le_refl _) (fun _ h => h.elim)
  have hR6 := (hb6.block _ (Array.getElem?_eq_some_iff.1 hR5).1).trans hR5
  have hB6 := hB5.trans (hb6.mono hB5.size)
  clear hR5 hB5 hb6 sc
  go_wp2
  exact bodyPost_ret (results_pair rfl _ _ _ _ _ rfl hR6) rfl ⟨rfl, hB6⟩

set_option maxHeartbeats 1000000 in
theorem c8_pairof_1 (b : Nat) (i c : Int) (st : Bool) (w : World) (wf : (Lit.int .i64 c).wf = true) (hv : c % 4 = 1) : Calls Try.prog 58 #[.pointer (some ⟨b, 0, none⟩), .int .i64 i, .int .i64 c, .bool st] w fun e w' => e = .returned (cpV b 4 5) ∧ Below w.heap.size w w' := by
  have HM := Lib.hid (fun w => hv ▸ c8_mod_4 c w wf)
  clear hv wf
  have HP := Lib.hid (show PairAt w w.heap.size (w.alloc pairO) from ⟨heap_alloc_new _ _, (Below.refl _ _).alloc (Nat.le_refl _) _⟩)
  obtain ⟨w1, hw1⟩ : ∃ w1, w.alloc pairO = w1 := ⟨_, rfl⟩
  rw [hw1] at HP
  go_enter Try.func58, Try.ntmps58
  go_upto_region 6 with (first | (go_at_call 56; (with_reducible refine (HM.out _).mono ?_); rintro e w' ⟨rfl, rfl⟩))
  refine region_ (· = w.heap.size) (by kernel_rfl) ?_
  refine seg_ [0, 1, 2, 3, 4, 5] 2 _ (by kernel_rfl) (by kernel_rfl) (by kernel_rfl) (by simp only [pickOps, mask, plain, List.getElem?_toArray, List.getElem?_cons_zero, List.getElem?_cons_succ, if_true]; rfl) ?_
  repeat (go_big_quiet_step (fail))
  refine wpQuiet_nil ?_
  refine callx_ (i := 6) rfl (by kernel_rfl) (by kernel_rfl) ?_
  intro nn
  have hV := Save.drawn (· = w.heap.size) w1 nn
  have hP2 : PairAt w w.heap.size { w1 with drawn := nn } := HP.out.more (Save.drawn (fun _ => False) w1 nn).all
  generalize hw2 : ({ w1 with drawn := nn } : World) = w2 at *
  clear hw2
  unfold Oper.does
  go_simp
  refine (c8_ofbytes b 4 5 _).mono ?_
  rintro e w3 ⟨rfl, hb⟩
  refine ⟨_, rfl, same_ hV (below_save hb (Nat.le_refl _) _) ?_⟩
  have hP3 := hP2.more hb
  clear hP2 hb hV
  refine callx_ (i := 7) rfl (by kernel_rfl) (by kernel_rfl) ?_
  intro nn2
  have hV := Save.drawn (· = w.heap.size) w3 nn2
  have hP4 : PairAt w w.heap.size { w3 with drawn := nn2 } := hP3.more (Save.drawn (fun _ => False) w3 nn2).all
  generalize hw4 : ({ w3 with drawn := nn2 } : World) = w4 at *
  clear hw4 hP3
  have c0 : w4.cell? ⟨w.heap.size, 0, none⟩ = some .nilFunc := by rw [cell_of_row _ _ _ _ _ _ hP4.row]; rfl
  have c1 : w4.cell? ⟨w.heap.size, 1, none⟩ = some .nilFunc := by rw [cell_of_row _ _ _ _ _ _ hP4.row]; rfl
  have f0 := frozen_of_row w4 w.heap.size 0 _ _ hP4.row
  have f1 := frozen_of_row w4 w.heap.size 1 _ _ hP4.row
  unfold Oper.does
  go_simp
  clear c0 c1 f0 f1
  have hS5 := save_cell (save_cell (Save.refl (· = w.heap.size) w4) w.heap.size 0 (.func (.func 79) #[cpR b 4 5] #[]) rfl) w.heap.size 1 (.func (.func 80) #[cpR b 4 5] #[]) rfl
  refine turn_ (S1 := fun _ => False) hV hS5 (fun k hk h => h.elim) ?_
  have hR5 := pair_put hP4.row (.func (.func 79) #[cpR b 4 5] #[]) (.func (.func 80) #[cpR b 4 5] #[])
  have hB5 := hP4.below.trans (hS5.below (B := w.heap.size) hP4.below.size (fun k hk => by omega))
  generalize hw5 : ((w4.setCell ⟨w.heap.size, 0, none⟩ (.func (.func 79) #[cpR b 4 5] #[])).setCell ⟨w.heap.size, 1, none⟩ (.func (.func 80) #[cpR b 4 5] #[])) = w5 at *
  clear hw5 hS5 hV hP4
  refine end_ (by kernel_rfl) ?_
  intro wc sc
  have hb6 := sc.below (B := w5.heap.size) (Nat.le_refl _) (fun _ h => h.elim)
  have hR6 := (hb6.block _ (Array.getElem?_eq_some_iff.1 hR5).1).trans hR5
  have hB6 := hB5.trans (hb6.mono hB5.size)
  clear hR5 hB5 hb6 sc
  go_wp2
  exact bodyPost_ret (results_pair rfl _ _ _ _ _ rfl hR6) rfl ⟨rfl, hB6⟩

set_option maxHeartbeats 1000000 in
theorem c8_pairof_3t (b : Nat) (i c : Int) (w : World) (wf : (Lit.int .i64 c).wf = true) (hv : c % 4 = 3) : Calls Try.prog 58 #[.pointer (some ⟨b, 0, none⟩), .int .i64 i, .int .i64 c, .bool true] w fun e w' => e = .returned (cpV b 0 1) ∧ Below w.heap.size w w' := by
  have HM := Lib.hid (fun w => hv ▸ c8_mod_4 c w wf)
  clear hv wf
  have HP := Lib.hid (show PairAt w w.heap.size (w.alloc pairO) from ⟨heap_alloc_new _ _, (Below.refl _ _).alloc (Nat.le_refl _) _⟩)
  obtain ⟨w1, hw1⟩ : ∃ w1, w.alloc pairO = w1 := ⟨_, rfl⟩
  rw [hw1] at HP
  go_enter Try.func58, Try.ntmps58
  go_upto_region 10 with (first | (go_at_call 56; (with_reducible refine (HM.out _).mono ?_); rintro e w' ⟨rfl, rfl⟩))
  refine region_ (· = w.heap.size) (by kernel_rfl) ?_
  refine seg_ [0, 1, 2, 3, 4, 5] 2 _ (by kernel_rfl) (by kernel_rfl) (by kernel_rfl) (by simp only [pickOps, mask, plain, List.getElem?_toArray, List.getElem?_cons_zero, List.getElem?_cons_succ, if_true]; rfl) ?_
  repeat (go_big_quiet_step (fail))
  refine wpQuiet_nil ?_
  refine callx_ (i := 6) rfl (by kernel_rfl) (by kernel_rfl) ?_
  intro nn
  have hV := Save.drawn (· = w.heap.size) w1 nn
  have hP2 : PairAt w w.heap.size { w1 with drawn := nn } := HP.out.more (Save.drawn (fun _ => False) w1 nn).all
  generalize hw2 : ({ w1 with drawn := nn } : World) = w2 at *
  clear hw2
  unfold Oper.does
  go_simp
  refine (c8_ofbytes b 0 1 _).mono ?_
  rintro e w3 ⟨rfl, hb⟩
  refine ⟨_, rfl, same_ hV (below_save hb (Nat.le_refl _) _) ?_⟩
  have hP3 := hP2.more hb
  clear hP2 hb hV
  refine callx_ (i := 7) rfl (by kernel_rfl) (by kernel_rfl) ?_
  intro nn2
  have hV := Save.drawn (· = w.heap.size) w3 nn2
  have hP4 : PairAt w w.heap.size { w3 with drawn := nn2 } := hP3.more (Save.drawn (fun _ => False) w3 nn2).all
  generalize hw4 : ({ w3 with drawn := nn2 } : World) = w4 at *
  clear hw4 hP3
  have c0 : w4.cell? ⟨w.heap.size, 0, none⟩ = some .nilFunc := by rw [cell_of_row _ _ _ _ _ _ hP4.row]; rfl
  have c1 : w4.cell? ⟨w.heap.size, 1, none⟩ = some .nilFunc := by rw [cell_of_row _ _ _ _ _ _ hP4.row]; rfl
  have f0 := frozen_of_row w4 w.heap.size 0 _ _ hP4.row
  have f1 := frozen_of_row w4 w.heap.size 1 _ _ hP4.row
  unfold Oper.does
  go_simp
  clear c0 c1 f0 f1
  have hS5 := save_cell (save_cell (Save.refl (· = w.heap.size) w4) w.heap.size 0 (.func (.func 79) #[cpR b 0 1] #[]) rfl) w.heap.size 1 (.func (.func 80) #[cpR b 0 1] #[]) rfl
  refine turn_ (S1 := fun _ => False) hV hS5 (fun k hk h => h.elim) ?_
  have hR5 := pair_put hP4.row (.func (.func 79) #[cpR b 0 1] #[]) (.func (.func 80) #[cpR b 0 1] #[])
  have hB5 := hP4.below.trans (hS5.below (B := w.heap.size) hP4.below.size (fun k hk => by omega))
  generalize hw5 : ((w4.setCell ⟨w.heap.size, 0, none⟩ (.func (.func 79) #[cpR b 0 1] #[])).setCell ⟨w.heap.size, 1, none⟩ (.func (.func 80) #[cpR b 0 1] #[])) = w5 at *
  clear hw5 hS5 hV hP4
  refine end_ (by kernel_rfl) ?_
  intro wc sc
  have hb6 := sc.below (B := w5.heap.size) (Nat.le_refl _) (fun _ h => h.elim)
  have hR6 := (hb6.block _ (Array.getElem?_eq_some_iff.1 hR5).1).trans hR5
  have hB6 := hB5.trans (hb6.mono hB5.size)
  clear hR5 hB5 hb6 sc
  go_wp2
  exact bodyPost_ret (results_pair rfl _ _ _ _ _ rfl hR6) rfl ⟨rfl, hB6⟩

set_option maxHeartbeats 1000000 in
theorem c8_pairof_3f (b : Nat) (i c : Int) (w : World) (wf : (Lit.int .i64 c).wf = true) (hv : c % 4 = 3) : Calls Try.prog 58 #[.pointer (some ⟨b, 0, none⟩), .int .i64 i, .int .i64 c, .bool false] w fun e w' => e = .returned (wdV b 12) ∧ Below w.heap.size w w' := by
  have HM := Lib.hid (fun w => hv ▸ c8_mod_4 c w wf)
  clear hv wf
  have HP := Lib.hid (show PairAt w w.heap.size (w.alloc pairO) from ⟨heap_alloc_new _ _, (Below.refl _ _).alloc (Nat.le_refl _) _⟩)
  obtain ⟨w1, hw1⟩ : ∃ w1, w.alloc pairO = w1 := ⟨_, rfl⟩
  rw [hw1] at HP
  go_enter Try.func58, Try.ntmps58
  go_wp2_with (first | (go_at_call 56; (with_reducible refine (HM.out _).mono ?_); rintro e w' ⟨rfl, rfl⟩))
  refine (c8_ofword b 12 _).mono ?_
  rintro e w3 ⟨rfl, hb⟩
  have hP3 := HP.out.more hb
  clear hb
  go_wp2_with (refine wpList_store_row rfl 88 _ _ rfl w.heap.size _ rfl rfl _ _ hP3.row pair_info rfl (by rw [List.all_toArray]; rfl) ?_)
  (try simp only [Exit.inBlock, Exit.then])
  exact bodyPost_ret (results_pair rfl _ _ _ _ _ rfl (setRow_heap _ _ _ _ _ _ hP3.row)) rfl ⟨rfl, below_setRow hP3.below (Nat.le_refl _) _⟩

end Go.Proofs.Ytedlfcmlchjjlaa
