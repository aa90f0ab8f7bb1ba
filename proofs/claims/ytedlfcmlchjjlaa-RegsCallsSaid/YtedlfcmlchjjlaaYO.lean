
/- Registers, the code: where the single bytes, the words, the switches are; appendWord; switchByte. -/
import Derived.Test.YtedlfcmlchjjlaaYK
import Derived.Test.YtedlfcmlchjjlaaS
namespace Go.Proofs.Ytedlfcmlchjjlaa
open Go.RowKit
set_option linter.unusedSimpArgs false
set_option linter.unusedVariables false
set_option maxRecDepth 100000

theorem sum8_1 (g : Nat) (A1 : Option Addr) (c1 n1 : Nat) (l1 : List Int) (w : World) (hg : g = w.heap.size) (hn : n1 = l1.length) (h1 : RB w w.heap.size A1 c1 l1) (hlen : l1.length ≤ 140737488355328) :
    Calls Try.prog 47 #[.slice (some ⟨g, 0, none⟩) 1 1] (w.alloc (.cells #[.slice A1 n1 c1] 25)) fun e w' => e = .returned (.int .u16 (sumL l1).toNat) ∧ w.alloc (.cells #[.slice A1 n1 c1] 25) = w' := by
  subst hg hn
  refine (sum_any w.heap.size 1 [⟨A1, c1, l1⟩] _ (by simp) ?_ ?_ (by simp [flat]; omega)).mono fun e w' h => ?_
  · intro i hi
    have : i = 0 := by simp at hi; omega
    subst this
    rw [World.cell?_alloc_at _ _ _ _ rfl]; rfl
  · intro i hi
    have : i = 0 := by simp at hi; omega
    subst this
    exact (h1.alloc (Nat.le_refl _) _).more (by simp)
  · simpa [flat] using h

theorem info_singles : (Try.prog.info? 63).map (·.size) = some 10 := by kernel_rfl
set_option maxHeartbeats 2000000 in
theorem c8_singles (b : Nat) (w : World) : Calls Try.prog 43 #[.pointer (some ⟨b, 0, none⟩)] w fun e w' => e = .returned (.agg #[.pointer (some ⟨b, 0, none⟩), .pointer (some ⟨b, 1, none⟩), .pointer (some ⟨b, 2, none⟩), .pointer (some ⟨b, 3, none⟩), .pointer (some ⟨b, 4, none⟩), .pointer (some ⟨b, 5, none⟩), .pointer (some ⟨b, 6, none⟩), .pointer (some ⟨b, 7, none⟩), .pointer (some ⟨b, 8, none⟩), .pointer (some ⟨b, 9, none⟩)]) ∧ Below w.heap.size w w' := by
  have h2 := heap_alloc_new w (.cells #[.pointer none, .pointer none, .pointer none, .pointer none, .pointer none, .pointer none, .pointer none, .pointer none, .pointer none, .pointer none] 63)
  have hB0 : Below w.heap.size w (w.alloc (.cells #[.pointer none, .pointer none, .pointer none, .pointer none, .pointer none, .pointer none, .pointer none, .pointer none, .pointer none, .pointer none] 63)) := (Below.refl _ _).alloc (Nat.le_refl _) _
  obtain ⟨w1, hw1⟩ : ∃ w1, w.alloc (.cells #[.pointer none, .pointer none, .pointer none, .pointer none, .pointer none, .pointer none, .pointer none, .pointer none, .pointer none, .pointer none] 63) = w1 := ⟨_, rfl⟩
  rw [hw1] at h2 hB0
  obtain ⟨S, hS⟩ : ∃ S : Nat → Prop, ∀ k, S k ↔ k = w.heap.size := ⟨(· = w.heap.size), fun _ => Iff.rfl⟩
  have H2 := Lib.hid h2
  have HB := Lib.hid hB0
  have HS := Lib.hid hS
  clear h2 hB0 hS
  go_enter Try.func43, Try.ntmps43
  go_upto_region 1 with fail
  refine region_ S (by kernel_rfl) ?_
  refine seg_ [0, 1, 2, 3, 4, 5, 6, 7, 8, 9, 10, 11, 12, 13, 14, 15, 16, 17, 18, 19, 20, 21, 22, 23, 24, 25, 26, 27, 28, 29, 30] 1 _ (by kernel_rfl) (by kernel_rfl) (by kernel_rfl) (by simp only [pickOps, mask, plain, List.getElem?_toArray, List.getElem?_cons_zero, List.getElem?_cons_succ, if_true]; rfl) ?_
  repeat (go_big_quiet_step (fail))
  refine wpQuiet_nil ?_
  refine callx_ (i := 31) rfl (by kernel_rfl) (by kernel_rfl) ?_
  intro nn2
  have hV := Save.drawn S w1 nn2
  have hB4 : Below w.heap.size w { w1 with drawn := nn2 } := HB.out.trans ((Save.drawn (fun _ => False) w1 nn2).all.mono HB.out.size)
  have h5 : ({ w1 with drawn := nn2 } : World).heap[w.heap.size]? = some (.cells #[.pointer none, .pointer none, .pointer none, .pointer none, .pointer none, .pointer none, .pointer none, .pointer none, .pointer none, .pointer none] 63 (0, 0)) := H2.out
  generalize hw4 : ({ w1 with drawn := nn2 } : World) = w4 at *
  clear hw4
  refine does_store_row 63 _ _ rfl (w.heap.size) _ rfl rfl 63 _ h5 info_singles rfl (by rw [List.all_toArray]; rfl) ?_
  have hS5 := save_row (Save.refl S w4) (w.heap.size) #[.pointer (some ⟨b, 0, none⟩), .pointer (some ⟨b, 1, none⟩), .pointer (some ⟨b, 2, none⟩), .pointer (some ⟨b, 3, none⟩), .pointer (some ⟨b, 4, none⟩), .pointer (some ⟨b, 5, none⟩), .pointer (some ⟨b, 6, none⟩), .pointer (some ⟨b, 7, none⟩), .pointer (some ⟨b, 8, none⟩), .pointer (some ⟨b, 9, none⟩)] ((HS.out _).2 rfl)
  refine turn_ (S1 := fun _ => False) hV hS5 (fun k hk h => h.elim) ?_
  have hR6 := setRow_heap w4 (w.heap.size) _ #[.pointer (some ⟨b, 0, none⟩), .pointer (some ⟨b, 1, none⟩), .pointer (some ⟨b, 2, none⟩), .pointer (some ⟨b, 3, none⟩), .pointer (some ⟨b, 4, none⟩), .pointer (some ⟨b, 5, none⟩), .pointer (some ⟨b, 6, none⟩), .pointer (some ⟨b, 7, none⟩), .pointer (some ⟨b, 8, none⟩), .pointer (some ⟨b, 9, none⟩)] _ _ h5
  have hB6 := hB4.trans (hS5.below (B := w.heap.size) hB4.size (fun k hk => by have := (HS.out _).1 hk; omega))
  generalize hw5 : w4.setRow (w.heap.size) #[.pointer (some ⟨b, 0, none⟩), .pointer (some ⟨b, 1, none⟩), .pointer (some ⟨b, 2, none⟩), .pointer (some ⟨b, 3, none⟩), .pointer (some ⟨b, 4, none⟩), .pointer (some ⟨b, 5, none⟩), .pointer (some ⟨b, 6, none⟩), .pointer (some ⟨b, 7, none⟩), .pointer (some ⟨b, 8, none⟩), .pointer (some ⟨b, 9, none⟩)] = w5 at *
  clear hw5 hS5 hV hB4 h5
  refine end_ (by kernel_rfl) ?_
  intro wc sc
  have hb6 := sc.below (B := w5.heap.size) (Nat.le_refl _) (fun _ h => h.elim)
  have hR7 := (hb6.block _ (Array.getElem?_eq_some_iff.1 hR6).1).trans hR6
  have hB7 := hB6.trans (hb6.mono hB6.size)
  clear hR6 hB6 hb6 sc
  go_wp2
  exact bodyPost_ret (results_cell_row rfl _ _ _ _ _ (0, 0) _ rfl hR7 Try.underlying63 rfl info_singles) rfl ⟨rfl, hB7⟩

theorem info_words : (Try.prog.info? 67).map (·.size) = some 9 := by kernel_rfl
set_option maxHeartbeats 2000000 in
theorem c8_words (b : Nat) (w : World) : Calls Try.prog 44 #[.pointer (some ⟨b, 0, none⟩)] w fun e w' => e = .returned (.agg #[.pointer (some ⟨b, 10, none⟩), .pointer (some ⟨b, 11, none⟩), .pointer (some ⟨b, 12, none⟩), .pointer (some ⟨b, 13, none⟩), .pointer (some ⟨b, 14, none⟩), .pointer (some ⟨b, 15, none⟩), .pointer (some ⟨b, 16, none⟩), .pointer (some ⟨b, 17, none⟩), .pointer (some ⟨b, 18, none⟩)]) ∧ Below w.heap.size w w' := by
  have h2 := heap_alloc_new w (.cells #[.pointer none, .pointer none, .pointer none, .pointer none, .pointer none, .pointer none, .pointer none, .pointer none, .pointer none] 67)
  have hB0 : Below w.heap.size w (w.alloc (.cells #[.pointer none, .pointer none, .pointer none, .pointer none, .pointer none, .pointer none, .pointer none, .pointer none, .pointer none] 67)) := (Below.refl _ _).alloc (Nat.le_refl _) _
  obtain ⟨w1, hw1⟩ : ∃ w1, w.alloc (.cells #[.pointer none, .pointer none, .pointer none, .pointer none, .pointer none, .pointer none, .pointer none, .pointer none, .pointer none] 67) = w1 := ⟨_, rfl⟩
  rw [hw1] at h2 hB0
  obtain ⟨S, hS⟩ : ∃ S : Nat → Prop, ∀ k, S k ↔ k = w.heap.size := ⟨(· = w.heap.size), fun _ => Iff.rfl⟩
  have H2 := Lib.hid h2
  have HB := Lib.hid hB0
  have HS := Lib.hid hS
  clear h2 hB0 hS
  go_enter Try.func44, Try.ntmps44
  go_upto_region 1 with fail
  refine region_ S (by kernel_rfl) ?_
  refine seg_ [0, 1, 2, 3, 4, 5, 6, 7, 8, 9, 10, 11, 12, 13, 14, 15, 16, 17, 18, 19, 20, 21, 22, 23, 24, 25, 26, 27] 1 _ (by kernel_rfl) (by kernel_rfl) (by kernel_rfl) (by simp only [pickOps, mask, plain, List.getElem?_toArray, List.getElem?_cons_zero, List.getElem?_cons_succ, if_true]; rfl) ?_
  repeat (go_big_quiet_step (fail))
  refine wpQuiet_nil ?_
  refine callx_ (i := 28) rfl (by kernel_rfl) (by kernel_rfl) ?_
  intro nn2
  have hV := Save.drawn S w1 nn2
  have hB4 : Below w.heap.size w { w1 with drawn := nn2 } := HB.out.trans ((Save.drawn (fun _ => False) w1 nn2).all.mono HB.out.size)
  have h5 : ({ w1 with drawn := nn2 } : World).heap[w.heap.size]? = some (.cells #[.pointer none, .pointer none, .pointer none, .pointer none, .pointer none, .pointer none, .pointer none, .pointer none, .pointer none] 67 (0, 0)) := H2.out
  generalize hw4 : ({ w1 with drawn := nn2 } : World) = w4 at *
  clear hw4
  refine does_store_row 67 _ _ rfl (w.heap.size) _ rfl rfl 67 _ h5 info_words rfl (by rw [List.all_toArray]; rfl) ?_
  have hS5 := save_row (Save.refl S w4) (w.heap.size) #[.pointer (some ⟨b, 10, none⟩), .pointer (some ⟨b, 11, none⟩), .pointer (some ⟨b, 12, none⟩), .pointer (some ⟨b, 13, none⟩), .pointer (some ⟨b, 14, none⟩), .pointer (some ⟨b, 15, none⟩), .pointer (some ⟨b, 16, none⟩), .pointer (some ⟨b, 17, none⟩), .pointer (some ⟨b, 18, none⟩)] ((HS.out _).2 rfl)
  refine turn_ (S1 := fun _ => False) hV hS5 (fun k hk h => h.elim) ?_
  have hR6 := setRow_heap w4 (w.heap.size) _ #[.pointer (some ⟨b, 10, none⟩), .pointer (some ⟨b, 11, none⟩), .pointer (some ⟨b, 12, none⟩), .pointer (some ⟨b, 13, none⟩), .pointer (some ⟨b, 14, none⟩), .pointer (some ⟨b, 15, none⟩), .pointer (some ⟨b, 16, none⟩), .pointer (some ⟨b, 17, none⟩), .pointer (some ⟨b, 18, none⟩)] _ _ h5
  have hB6 := hB4.trans (hS5.below (B := w.heap.size) hB4.size (fun k hk => by have := (HS.out _).1 hk; omega))
  generalize hw5 : w4.setRow (w.heap.size) #[.pointer (some ⟨b, 10, none⟩), .pointer (some ⟨b, 11, none⟩), .pointer (some ⟨b, 12, none⟩), .pointer (some ⟨b, 13, none⟩), .pointer (some ⟨b, 14, none⟩), .pointer (some ⟨b, 15, none⟩), .pointer (some ⟨b, 16, none⟩), .pointer (some ⟨b, 17, none⟩), .pointer (some ⟨b, 18, none⟩)] = w5 at *
  clear hw5 hS5 hV hB4 h5
  refine end_ (by kernel_rfl) ?_
  intro wc sc
  have hb6 := sc.below (B := w5.heap.size) (Nat.le_refl _) (fun _ h => h.elim)
  have hR7 := (hb6.block _ (Array.getElem?_eq_some_iff.1 hR6).1).trans hR6
  have hB7 := hB6.trans (hb6.mono hB6.size)
  clear hR6 hB6 hb6 sc
  go_wp2
  exact bodyPost_ret (results_cell_row rfl _ _ _ _ _ (0, 0) _ rfl hR7 Try.underlying67 rfl info_words) rfl ⟨rfl, hB7⟩

theorem info_switches : (Try.prog.info? 109).map (·.size) = some 4 := by kernel_rfl
set_option maxHeartbeats 2000000 in
theorem c8_switches (b : Nat) (w : World) : Calls Try.prog 74 #[.pointer (some ⟨b, 0, none⟩)] w fun e w' => e = .returned (.agg #[.pointer (some ⟨b, 19, none⟩), .pointer (some ⟨b, 20, none⟩), .pointer (some ⟨b, 22, none⟩), .pointer (some ⟨b, 23, none⟩)]) ∧ Below w.heap.size w w' := by
  have h2 := heap_alloc_new w (.cells #[.pointer none, .pointer none, .pointer none, .pointer none] 109)
  have hB0 : Below w.heap.size w (w.alloc (.cells #[.pointer none, .pointer none, .pointer none, .pointer none] 109)) := (Below.refl _ _).alloc (Nat.le_refl _) _
  obtain ⟨w1, hw1⟩ : ∃ w1, w.alloc (.cells #[.pointer none, .pointer none, .pointer none, .pointer none] 109) = w1 := ⟨_, rfl⟩
  rw [hw1] at h2 hB0
  obtain ⟨S, hS⟩ : ∃ S : Nat → Prop, ∀ k, S k ↔ k = w.heap.size := ⟨(· = w.heap.size), fun _ => Iff.rfl⟩
  have H2 := Lib.hid h2
  have HB := Lib.hid hB0
  have HS := Lib.hid hS
  clear h2 hB0 hS
  go_enter Try.func74, Try.ntmps74
  go_upto_region 1 with fail
  refine region_ S (by kernel_rfl) ?_
  refine seg_ [0, 1, 2, 3, 4, 5, 6, 7, 8, 9, 10, 11, 12] 1 _ (by kernel_rfl) (by kernel_rfl) (by kernel_rfl) (by simp only [pickOps, mask, plain, List.getElem?_toArray, List.getElem?_cons_zero, List.getElem?_cons_succ, if_true]; rfl) ?_
  repeat (go_big_quiet_step (fail))
  refine wpQuiet_nil ?_
  refine callx_ (i := 13) rfl (by kernel_rfl) (by kernel_rfl) ?_
  intro nn2
  have hV := Save.drawn S w1 nn2
  have hB4 : Below w.heap.size w { w1 with drawn := nn2 } := HB.out.trans ((Save.drawn (fun _ => False) w1 nn2).all.mono HB.out.size)
  have h5 : ({ w1 with drawn := nn2 } : World).heap[w.heap.size]? = some (.cells #[.pointer none, .pointer none, .pointer none, .pointer none] 109 (0, 0)) := H2.out
  generalize hw4 : ({ w1 with drawn := nn2 } : World) = w4 at *
  clear hw4
  refine does_store_row 109 _ _ rfl (w.heap.size) _ rfl rfl 109 _ h5 info_switches rfl (by rw [List.all_toArray]; rfl) ?_
  have hS5 := save_row (Save.refl S w4) (w.heap.size) #[.pointer (some ⟨b, 19, none⟩), .pointer (some ⟨b, 20, none⟩), .pointer (some ⟨b, 22, none⟩), .pointer (some ⟨b, 23, none⟩)] ((HS.out _).2 rfl)
  refine turn_ (S1 := fun _ => False) hV hS5 (fun k hk h => h.elim) ?_
  have hR6 := setRow_heap w4 (w.heap.size) _ #[.pointer (some ⟨b, 19, none⟩), .pointer (some ⟨b, 20, none⟩), .pointer (some ⟨b, 22, none⟩), .pointer (some ⟨b, 23, none⟩)] _ _ h5
  have hB6 := hB4.trans (hS5.below (B := w.heap.size) hB4.size (fun k hk => by have := (HS.out _).1 hk; omega))
  generalize hw5 : w4.setRow (w.heap.size) #[.pointer (some ⟨b, 19, none⟩), .pointer (some ⟨b, 20, none⟩), .pointer (some ⟨b, 22, none⟩), .pointer (some ⟨b, 23, none⟩)] = w5 at *
  clear hw5 hS5 hV hB4 h5
  refine end_ (by kernel_rfl) ?_
  intro wc sc
  have hb6 := sc.below (B := w5.heap.size) (Nat.le_refl _) (fun _ h => h.elim)
  have hR7 := (hb6.block _ (Array.getElem?_eq_some_iff.1 hR6).1).trans hR6
  have hB7 := hB6.trans (hb6.mono hB6.size)
  clear hR6 hB6 hb6 sc
  go_wp2
  exact bodyPost_ret (results_cell_row rfl _ _ _ _ _ (0, 0) _ rfl hR7 Try.underlying109 rfl info_switches) rfl ⟨rfl, hB7⟩
theorem ixs_0 (b : Nat) (w : World) : (Instr.index 63 (.agg #[.pointer (some ⟨b, 0, none⟩), .pointer (some ⟨b, 1, none⟩), .pointer (some ⟨b, 2, none⟩), .pointer (some ⟨b, 3, none⟩), .pointer (some ⟨b, 4, none⟩), .pointer (some ⟨b, 5, none⟩), .pointer (some ⟨b, 6, none⟩), .pointer (some ⟨b, 7, none⟩), .pointer (some ⟨b, 8, none⟩), .pointer (some ⟨b, 9, none⟩)]) (.int .i64 0)).run Try.prog w = .ok (.pointer (some ⟨b, 0, none⟩)) w := by kernel_rfl
theorem ixs_1 (b : Nat) (w : World) : (Instr.index 63 (.agg #[.pointer (some ⟨b, 0, none⟩), .pointer (some ⟨b, 1, none⟩), .pointer (some ⟨b, 2, none⟩), .pointer (some ⟨b, 3, none⟩), .pointer (some ⟨b, 4, none⟩), .pointer (some ⟨b, 5, none⟩), .pointer (some ⟨b, 6, none⟩), .pointer (some ⟨b, 7, none⟩), .pointer (some ⟨b, 8, none⟩), .pointer (some ⟨b, 9, none⟩)]) (.int .i64 1)).run Try.prog w = .ok (.pointer (some ⟨b, 1, none⟩)) w := by kernel_rfl
theorem ixs_2 (b : Nat) (w : World) : (Instr.index 63 (.agg #[.pointer (some ⟨b, 0, none⟩), .pointer (some ⟨b, 1, none⟩), .pointer (some ⟨b, 2, none⟩), .pointer (some ⟨b, 3, none⟩), .pointer (some ⟨b, 4, none⟩), .pointer (some ⟨b, 5, none⟩), .pointer (some ⟨b, 6, none⟩), .pointer (some ⟨b, 7, none⟩), .pointer (some ⟨b, 8, none⟩), .pointer (some ⟨b, 9, none⟩)]) (.int .i64 2)).run Try.prog w = .ok (.pointer (some ⟨b, 2, none⟩)) w := by kernel_rfl
theorem ixs_3 (b : Nat) (w : World) : (Instr.index 63 (.agg #[.pointer (some ⟨b, 0, none⟩), .pointer (some ⟨b, 1, none⟩), .pointer (some ⟨b, 2, none⟩), .pointer (some ⟨b, 3, none⟩), .pointer (some ⟨b, 4, none⟩), .pointer (some ⟨b, 5, none⟩), .pointer (some ⟨b, 6, none⟩), .pointer (some ⟨b, 7, none⟩), .pointer (some ⟨b, 8, none⟩), .pointer (some ⟨b, 9, none⟩)]) (.int .i64 3)).run Try.prog w = .ok (.pointer (some ⟨b, 3, none⟩)) w := by kernel_rfl
theorem ixs_4 (b : Nat) (w : World) : (Instr.index 63 (.agg #[.pointer (some ⟨b, 0, none⟩), .pointer (some ⟨b, 1, none⟩), .pointer (some ⟨b, 2, none⟩), .pointer (some ⟨b, 3, none⟩), .pointer (some ⟨b, 4, none⟩), .pointer (some ⟨b, 5, none⟩), .pointer (some ⟨b, 6, none⟩), .pointer (some ⟨b, 7, none⟩), .pointer (some ⟨b, 8, none⟩), .pointer (some ⟨b, 9, none⟩)]) (.int .i64 4)).run Try.prog w = .ok (.pointer (some ⟨b, 4, none⟩)) w := by kernel_rfl
theorem ixs_5 (b : Nat) (w : World) : (Instr.index 63 (.agg #[.pointer (some ⟨b, 0, none⟩), .pointer (some ⟨b, 1, none⟩), .pointer (some ⟨b, 2, none⟩), .pointer (some ⟨b, 3, none⟩), .pointer (some ⟨b, 4, none⟩), .pointer (some ⟨b, 5, none⟩), .pointer (some ⟨b, 6, none⟩), .pointer (some ⟨b, 7, none⟩), .pointer (some ⟨b, 8, none⟩), .pointer (some ⟨b, 9, none⟩)]) (.int .i64 5)).run Try.prog w = .ok (.pointer (some ⟨b, 5, none⟩)) w := by kernel_rfl
theorem ixs_6 (b : Nat) (w : World) : (Instr.index 63 (.agg #[.pointer (some ⟨b, 0, none⟩), .pointer (some ⟨b, 1, none⟩), .pointer (some ⟨b, 2, none⟩), .pointer (some ⟨b, 3, none⟩), .pointer (some ⟨b, 4, none⟩), .pointer (some ⟨b, 5, none⟩), .pointer (some ⟨b, 6, none⟩), .pointer (some ⟨b, 7, none⟩), .pointer (some ⟨b, 8, none⟩), .pointer (some ⟨b, 9, none⟩)]) (.int .i64 6)).run Try.prog w = .ok (.pointer (some ⟨b, 6, none⟩)) w := by kernel_rfl
theorem ixs_7 (b : Nat) (w : World) : (Instr.index 63 (.agg #[.pointer (some ⟨b, 0, none⟩), .pointer (some ⟨b, 1, none⟩), .pointer (some ⟨b, 2, none⟩), .pointer (some ⟨b, 3, none⟩), .pointer (some ⟨b, 4, none⟩), .pointer (some ⟨b, 5, none⟩), .pointer (some ⟨b, 6, none⟩), .pointer (some ⟨b, 7, none⟩), .pointer (some ⟨b, 8, none⟩), .pointer (some ⟨b, 9, none⟩)]) (.int .i64 7)).run Try.prog w = .ok (.pointer (some ⟨b, 7, none⟩)) w := by kernel_rfl
theorem ixs_8 (b : Nat) (w : World) : (Instr.index 63 (.agg #[.pointer (some ⟨b, 0, none⟩), .pointer (some ⟨b, 1, none⟩), .pointer (some ⟨b, 2, none⟩), .pointer (some ⟨b, 3, none⟩), .pointer (some ⟨b, 4, none⟩), .pointer (some ⟨b, 5, none⟩), .pointer (some ⟨b, 6, none⟩), .pointer (some ⟨b, 7, none⟩), .pointer (some ⟨b, 8, none⟩), .pointer (some ⟨b, 9, none⟩)]) (.int .i64 8)).run Try.prog w = .ok (.pointer (some ⟨b, 8, none⟩)) w := by kernel_rfl
theorem ixs_9 (b : Nat) (w : World) : (Instr.index 63 (.agg #[.pointer (some ⟨b, 0, none⟩), .pointer (some ⟨b, 1, none⟩), .pointer (some ⟨b, 2, none⟩), .pointer (some ⟨b, 3, none⟩), .pointer (some ⟨b, 4, none⟩), .pointer (some ⟨b, 5, none⟩), .pointer (some ⟨b, 6, none⟩), .pointer (some ⟨b, 7, none⟩), .pointer (some ⟨b, 8, none⟩), .pointer (some ⟨b, 9, none⟩)]) (.int .i64 9)).run Try.prog w = .ok (.pointer (some ⟨b, 9, none⟩)) w := by kernel_rfl
theorem ixw_0 (b : Nat) (w : World) : (Instr.index 67 (.agg #[.pointer (some ⟨b, 10, none⟩), .pointer (some ⟨b, 11, none⟩), .pointer (some ⟨b, 12, none⟩), .pointer (some ⟨b, 13, none⟩), .pointer (some ⟨b, 14, none⟩), .pointer (some ⟨b, 15, none⟩), .pointer (some ⟨b, 16, none⟩), .pointer (some ⟨b, 17, none⟩), .pointer (some ⟨b, 18, none⟩)]) (.int .i64 0)).run Try.prog w = .ok (.pointer (some ⟨b, 10, none⟩)) w := by kernel_rfl
theorem ixw_1 (b : Nat) (w : World) : (Instr.index 67 (.agg #[.pointer (some ⟨b, 10, none⟩), .pointer (some ⟨b, 11, none⟩), .pointer (some ⟨b, 12, none⟩), .pointer (some ⟨b, 13, none⟩), .pointer (some ⟨b, 14, none⟩), .pointer (some ⟨b, 15, none⟩), .pointer (some ⟨b, 16, none⟩), .pointer (some ⟨b, 17, none⟩), .pointer (some ⟨b, 18, none⟩)]) (.int .i64 1)).run Try.prog w = .ok (.pointer (some ⟨b, 11, none⟩)) w := by kernel_rfl
theorem ixw_2 (b : Nat) (w : World) : (Instr.index 67 (.agg #[.pointer (some ⟨b, 10, none⟩), .pointer (some ⟨b, 11, none⟩), .pointer (some ⟨b, 12, none⟩), .pointer (some ⟨b, 13, none⟩), .pointer (some ⟨b, 14, none⟩), .pointer (some ⟨b, 15, none⟩), .pointer (some ⟨b, 16, none⟩), .pointer (some ⟨b, 17, none⟩), .pointer (some ⟨b, 18, none⟩)]) (.int .i64 2)).run Try.prog w = .ok (.pointer (some ⟨b, 12, none⟩)) w := by kernel_rfl
theorem ixw_3 (b : Nat) (w : World) : (Instr.index 67 (.agg #[.pointer (some ⟨b, 10, none⟩), .pointer (some ⟨b, 11, none⟩), .pointer (some ⟨b, 12, none⟩), .pointer (some ⟨b, 13, none⟩), .pointer (some ⟨b, 14, none⟩), .pointer (some ⟨b, 15, none⟩), .pointer (some ⟨b, 16, none⟩), .pointer (some ⟨b, 17, none⟩), .pointer (some ⟨b, 18, none⟩)]) (.int .i64 3)).run Try.prog w = .ok (.pointer (some ⟨b, 13, none⟩)) w := by kernel_rfl
theorem ixw_4 (b : Nat) (w : World) : (Instr.index 67 (.agg #[.pointer (some ⟨b, 10, none⟩), .pointer (some ⟨b, 11, none⟩), .pointer (some ⟨b, 12, none⟩), .pointer (some ⟨b, 13, none⟩), .pointer (some ⟨b, 14, none⟩), .pointer (some ⟨b, 15, none⟩), .pointer (some ⟨b, 16, none⟩), .pointer (some ⟨b, 17, none⟩), .pointer (some ⟨b, 18, none⟩)]) (.int .i64 4)).run Try.prog w = .ok (.pointer (some ⟨b, 14, none⟩)) w := by kernel_rfl
theorem ixw_5 (b : Nat) (w : World) : (Instr.index 67 (.agg #[.pointer (some ⟨b, 10, none⟩), .pointer (some ⟨b, 11, none⟩), .pointer (some ⟨b, 12, none⟩), .pointer (some ⟨b, 13, none⟩), .pointer (some ⟨b, 14, none⟩), .pointer (some ⟨b, 15, none⟩), .pointer (some ⟨b, 16, none⟩), .pointer (some ⟨b, 17, none⟩), .pointer (some ⟨b, 18, none⟩)]) (.int .i64 5)).run Try.prog w = .ok (.pointer (some ⟨b, 15, none⟩)) w := by kernel_rfl
theorem ixw_6 (b : Nat) (w : World) : (Instr.index 67 (.agg #[.pointer (some ⟨b, 10, none⟩), .pointer (some ⟨b, 11, none⟩), .pointer (some ⟨b, 12, none⟩), .pointer (some ⟨b, 13, none⟩), .pointer (some ⟨b, 14, none⟩), .pointer (some ⟨b, 15, none⟩), .pointer (some ⟨b, 16, none⟩), .pointer (some ⟨b, 17, none⟩), .pointer (some ⟨b, 18, none⟩)]) (.int .i64 6)).run Try.prog w = .ok (.pointer (some ⟨b, 16, none⟩)) w := by kernel_rfl
theorem ixw_7 (b : Nat) (w : World) : (Instr.index 67 (.agg #[.pointer (some ⟨b, 10, none⟩), .pointer (some ⟨b, 11, none⟩), .pointer (some ⟨b, 12, none⟩), .pointer (some ⟨b, 13, none⟩), .pointer (some ⟨b, 14, none⟩), .pointer (some ⟨b, 15, none⟩), .pointer (some ⟨b, 16, none⟩), .pointer (some ⟨b, 17, none⟩), .pointer (some ⟨b, 18, none⟩)]) (.int .i64 7)).run Try.prog w = .ok (.pointer (some ⟨b, 17, none⟩)) w := by kernel_rfl
theorem ixw_8 (b : Nat) (w : World) : (Instr.index 67 (.agg #[.pointer (some ⟨b, 10, none⟩), .pointer (some ⟨b, 11, none⟩), .pointer (some ⟨b, 12, none⟩), .pointer (some ⟨b, 13, none⟩), .pointer (some ⟨b, 14, none⟩), .pointer (some ⟨b, 15, none⟩), .pointer (some ⟨b, 16, none⟩), .pointer (some ⟨b, 17, none⟩), .pointer (some ⟨b, 18, none⟩)]) (.int .i64 8)).run Try.prog w = .ok (.pointer (some ⟨b, 18, none⟩)) w := by kernel_rfl
theorem ixb_0 (b : Nat) (w : World) : (Instr.index 109 (.agg #[.pointer (some ⟨b, 19, none⟩), .pointer (some ⟨b, 20, none⟩), .pointer (some ⟨b, 22, none⟩), .pointer (some ⟨b, 23, none⟩)]) (.int .i64 0)).run Try.prog w = .ok (.pointer (some ⟨b, 19, none⟩)) w := by kernel_rfl
theorem ixb_1 (b : Nat) (w : World) : (Instr.index 109 (.agg #[.pointer (some ⟨b, 19, none⟩), .pointer (some ⟨b, 20, none⟩), .pointer (some ⟨b, 22, none⟩), .pointer (some ⟨b, 23, none⟩)]) (.int .i64 1)).run Try.prog w = .ok (.pointer (some ⟨b, 20, none⟩)) w := by kernel_rfl
theorem ixb_2 (b : Nat) (w : World) : (Instr.index 109 (.agg #[.pointer (some ⟨b, 19, none⟩), .pointer (some ⟨b, 20, none⟩), .pointer (some ⟨b, 22, none⟩), .pointer (some ⟨b, 23, none⟩)]) (.int .i64 2)).run Try.prog w = .ok (.pointer (some ⟨b, 22, none⟩)) w := by kernel_rfl
theorem ixb_3 (b : Nat) (w : World) : (Instr.index 109 (.agg #[.pointer (some ⟨b, 19, none⟩), .pointer (some ⟨b, 20, none⟩), .pointer (some ⟨b, 22, none⟩), .pointer (some ⟨b, 23, none⟩)]) (.int .i64 3)).run Try.prog w = .ok (.pointer (some ⟨b, 23, none⟩)) w := by kernel_rfl
theorem ixs_any (b k : Nat) (hk : k < 10) (w : World) : (Instr.index 63 (.agg #[.pointer (some ⟨b, 0, none⟩), .pointer (some ⟨b, 1, none⟩), .pointer (some ⟨b, 2, none⟩), .pointer (some ⟨b, 3, none⟩), .pointer (some ⟨b, 4, none⟩), .pointer (some ⟨b, 5, none⟩), .pointer (some ⟨b, 6, none⟩), .pointer (some ⟨b, 7, none⟩), .pointer (some ⟨b, 8, none⟩), .pointer (some ⟨b, 9, none⟩)]) (.int .i64 k)).run Try.prog w = .ok (.pointer (some ⟨b, 0 + k, none⟩)) w := by
  match k, hk with
  | 0, _ => exact ixs_0 b w
  | 1, _ => exact ixs_1 b w
  | 2, _ => exact ixs_2 b w
  | 3, _ => exact ixs_3 b w
  | 4, _ => exact ixs_4 b w
  | 5, _ => exact ixs_5 b w
  | 6, _ => exact ixs_6 b w
  | 7, _ => exact ixs_7 b w
  | 8, _ => exact ixs_8 b w
  | 9, _ => exact ixs_9 b w
theorem ixw_any (b k : Nat) (hk : k < 9) (w : World) : (Instr.index 67 (.agg #[.pointer (some ⟨b, 10, none⟩), .pointer (some ⟨b, 11, none⟩), .pointer (some ⟨b, 12, none⟩), .pointer (some ⟨b, 13, none⟩), .pointer (some ⟨b, 14, none⟩), .pointer (some ⟨b, 15, none⟩), .pointer (some ⟨b, 16, none⟩), .pointer (some ⟨b, 17, none⟩), .pointer (some ⟨b, 18, none⟩)]) (.int .i64 k)).run Try.prog w = .ok (.pointer (some ⟨b, 10 + k, none⟩)) w := by
  match k, hk with
  | 0, _ => exact ixw_0 b w
  | 1, _ => exact ixw_1 b w
  | 2, _ => exact ixw_2 b w
  | 3, _ => exact ixw_3 b w
  | 4, _ => exact ixw_4 b w
  | 5, _ => exact ixw_5 b w
  | 6, _ => exact ixw_6 b w
  | 7, _ => exact ixw_7 b w
  | 8, _ => exact ixw_8 b w

def sing (r : Rg) : List Int := [r.A, r.F, r.B, r.C, r.D, r.E, r.H, r.L, r.I, r.R]
def wrds (r : Rg) : List Int := [r.IX, r.IY, r.SP, r.PC, r.WZ, r.AF2, r.BC2, r.DE2, r.HL2]
def twoB (l : List Int) : List Int := (l.map fun v => [v / 256, v % 256]).flatten
def bitN (n : Int) (is : Bool) : Int := if is then n else 0
def sw4 (a b c d : Bool) : Nat → Int
  | 0 => 0
  | 1 => bitN 1 a
  | 2 => bitN 1 a + bitN 2 b
  | 3 => bitN 1 a + bitN 2 b + bitN 4 c
  | _ => bitN 1 a + bitN 2 b + bitN 4 c + bitN 8 d
def swN (r : Rg) (k : Nat) : Int := sw4 r.IFF1 r.IFF2 r.Halt r.Late k
theorem sw4_in : ∀ a b c d : Bool, 0 ≤ sw4 a b c d 4 ∧ sw4 a b c d 4 < 256 := by decide +kernel
theorem sw4_0 : ∀ a b c d : Bool, (a = true → bits .or .u8 (sw4 a b c d 0) 1 = sw4 a b c d 1) ∧ (a = false → sw4 a b c d 0 = sw4 a b c d 1) := by decide +kernel
theorem sw4_1 : ∀ a b c d : Bool, (b = true → bits .or .u8 (sw4 a b c d 1) 2 = sw4 a b c d 2) ∧ (b = false → sw4 a b c d 1 = sw4 a b c d 2) := by decide +kernel
theorem sw4_2 : ∀ a b c d : Bool, (c = true → bits .or .u8 (sw4 a b c d 2) 4 = sw4 a b c d 3) ∧ (c = false → sw4 a b c d 2 = sw4 a b c d 3) := by decide +kernel
theorem sw4_3 : ∀ a b c d : Bool, (d = true → bits .or .u8 (sw4 a b c d 3) 8 = sw4 a b c d 4) ∧ (d = false → sw4 a b c d 3 = sw4 a b c d 4) := by decide +kernel
def rgB (r : Rg) : List Int := sing r ++ twoB (wrds r) ++ [swN r 4, r.IM]
def bytesR (r : Rg) : List Int := rgB r ++ [((sumL (rgB r)).toNat : Int) / 256, ((sumL (rgB r)).toNat : Int) % 256]
theorem sing_at {r : Rg} {k : Nat} (hk : k < 10) : r.cells[k]? = some (.int .u8 ((sing r).getD k 0)) := by
  match k, hk with
  | 0, _ | 1, _ | 2, _ | 3, _ | 4, _ | 5, _ | 6, _ | 7, _ | 8, _ | 9, _ => rfl
theorem wrds_at {r : Rg} {k : Nat} (hk : k < 9) : r.cells[10 + k]? = some (.int .u16 ((wrds r).getD k 0)) := by
  match k, hk with
  | 0, _ | 1, _ | 2, _ | 3, _ | 4, _ | 5, _ | 6, _ | 7, _ | 8, _ => rfl
theorem take_more {l : List Int} {k : Nat} (hk : k < l.length) : l.take (k + 1) = l.take k ++ [l.getD k 0] := by
  rw [List.take_add_one, List.getD, List.getElem?_eq_getElem hk]; rfl
theorem twoB_append (l m : List Int) : twoB (l ++ m) = twoB l ++ twoB m := by unfold twoB; rw [List.map_append, List.flatten_append]
theorem twoB_len (l : List Int) : (twoB l).length = 2 * l.length := by
  induction l with
  | nil => rfl
  | cons x l ih => rw [show twoB (x :: l) = [x / 256, x % 256] ++ twoB l from rfl, List.length_append, ih]; simp; omega
theorem sing_bytes {r : Rg} (h : r.Ok) : AllB (sing r) := fun n hn => by
  have h1 := h.A; have h2 := h.F; have h3 := h.B; have h4 := h.C; have h5 := h.D; have h6 := h.E; have h7 := h.H; have h8 := h.L; have h9 := h.I; have h10 := h.R
  simp only [sing, List.mem_cons, List.not_mem_nil, or_false] at hn
  rcases hn with rfl | rfl | rfl | rfl | rfl | rfl | rfl | rfl | rfl | rfl <;> assumption
theorem wrds_words {r : Rg} (h : r.Ok) : ∀ n ∈ wrds r, isW n := fun n hn => by
  have h1 := h.IX; have h2 := h.IY; have h3 := h.SP; have h4 := h.PC; have h5 := h.WZ; have h6 := h.AF2; have h7 := h.BC2; have h8 := h.DE2; have h9 := h.HL2
  simp only [wrds, List.mem_cons, List.not_mem_nil, or_false] at hn
  rcases hn with rfl | rfl | rfl | rfl | rfl | rfl | rfl | rfl | rfl <;> assumption
theorem swN_in (r : Rg) : isB (swN r 4) := sw4_in _ _ _ _

theorem appendword_any (w : World) (base : Nat) (A : Option Addr) (c : Nat) (l : List Int) (ho : OB w base A c l) (hb : base ≤ w.heap.size) (hl : l.length ≤ 1000) (v : Int) (v0 : 0 ≤ v) (v1 : v < 65536) :
    Calls Try.prog 45 #[.slice A l.length c, .int .u16 v] w fun e w' => (∃ A' c', e = .returned (.slice A' (l ++ [v / 256, v % 256]).length c') ∧ OB w' base A' c' (l ++ [v / 256, v % 256])) ∧ Below base w w' := by
  have hL : OB (w.alloc (.cells #[.int .u8 (v / 256), .int .u8 (v % 256)] 5)) w.heap.size (some ⟨w.heap.size, 0, none⟩) 2 [v / 256, v % 256] :=
    OB.lit w [v / 256, v % 256] (AllB.cons (by omega) (by omega) (AllB.cons (by omega) (by omega) AllB.nil)) (by unfold maxLen; simp)
  have hR := hL.rb
  have HO := Lib.hid ho
  have hB : Below base w (w.alloc (.cells #[.int .u8 (v / 256), .int .u8 (v % 256)] 5)) := (Below.refl base w).alloc hb _
  have HB := Lib.hid hb
  have HB2 := Lib.hid hB
  clear ho hb hL hB
  go_enter Try.func45, Try.ntmps45
  go_wp2_with (first
    | (go_at_call 73; (with_reducible refine (w7_split _ _ v0 v1).mono ?_); rintro e w' ⟨rfl, rfl⟩)
    | (at_builtin; refine wpList_append_rb _ rfl _ _ rfl base _ _ _ _ l rfl rfl (HO.out.alloc _) _ _ _ [v / 256, v % 256] rfl rfl hR (by simp; omega) (Nat.le_trans HB.out HB2.out.size) ?_; intro A' c' w2 hob hbel hne))
  go_ret
  exact ⟨⟨A', c', by rw [List.length_append]; rfl, hob⟩, HB2.out.trans hbel⟩

set_option maxHeartbeats 2000000 in
theorem c8_switchbyte (r : Rg) (w : World) : Calls Try.prog 46 #[r.val] w fun e w' => e = .returned (.int .u8 (swN r 4)) ∧ Below w.heap.size w w' := by
  have HR0 := Lib.hid (show RowW (w.alloc (rgO r)) w.heap.size r.cells from RgW.laid w r)
  have hB0 : Below w.heap.size w (w.alloc (rgO r)) := (Below.refl _ _).alloc (Nat.le_refl _) _
  have hval : r.val = .agg #[.int .u8 r.A, .int .u8 r.F, .int .u8 r.B, .int .u8 r.C, .int .u8 r.D, .int .u8 r.E, .int .u8 r.H, .int .u8 r.L, .int .u8 r.I, .int .u8 r.R, .int .u16 r.IX, .int .u16 r.IY, .int .u16 r.SP, .int .u16 r.PC, .int .u16 r.WZ, .int .u16 r.AF2, .int .u16 r.BC2, .int .u16 r.DE2, .int .u16 r.HL2, .bool r.IFF1, .bool r.IFF2, .int .i64 r.IM, .bool r.Halt, .bool r.Late] := rfl
  rw [hval]
  clear hval
  go_enter Try.func46, Try.ntmps46
  go_wp2_with fail
  refine (c8_switches w.heap.size _).mono ?_
  rintro e w1 ⟨rfl, hb⟩
  have HR1 := Lib.hid (HR0.out.below hb HR0.out.lt)
  have hB1 := hB0.trans (hb.mono hB0.size)
  clear hb hB0 HR0
  go_wp2_with fail
  go_loopw [2, 6] (fun v i wr => ∃ k : Nat, k ≤ 4 ∧ i = .int .i64 k ∧ v = .int .u8 (swN r k) ∧ RowW wr w.heap.size r.cells ∧ Below w.heap.size w wr) (fun _ i _ => 4 - (intOf i).toNat)
  case atStart => exact ⟨0, by omega, rfl, rfl, HR1.out, hB1⟩
  case round =>
    clear HR1 hB1
    obtain ⟨k, hk, rfl, rfl, hR, hB⟩ := hrel
    match k, hk with
    | 0, _ =>
      have hI := fun w' => ixb_0 w.heap.size w'
      have x0 := hR.at_ 19 (.bool r.IFF1) rfl
      obtain ⟨q1, q2⟩ : (r.IFF1 = true → bits .or .u8 (swN r 0) 1 = swN r 1) ∧ (r.IFF1 = false → swN r 0 = swN r 1) := sw4_0 _ _ _ _
      obtain ⟨z, hz⟩ : ∃ z, r.IFF1 = z := ⟨_, rfl⟩
      rw [hz] at x0 q1 q2
      obtain ⟨V0, hV0⟩ : ∃ V0, swN r 0 = V0 := ⟨_, rfl⟩
      obtain ⟨V1, hV1⟩ : ∃ V1, swN r 1 = V1 := ⟨_, rfl⟩
      rw [hV0] at q1 q2 ⊢
      rw [hV1] at q1 q2
      clear hz hV0
      cases z
      · have Q := Lib.hid (q2 rfl)
        clear q1 q2
        go_wp2_with fail
        go_roundw
        case rel => exact ⟨1, by omega, by go_num, by rw [hV1, ← Q.out], hR, hB⟩
        case measure => simp [intOf]
      · have Q := q1 rfl
        clear q1 q2
        have HV := Lib.hid hV1
        clear hV1
        go_wp2_with fail
        go_roundw
        case rel => exact ⟨1, by omega, by go_num, by rw [HV.out], hR, hB⟩
        case measure => simp [intOf]
    | 1, _ =>
      have hI := fun w' => ixb_1 w.heap.size w'
      have x0 := hR.at_ 20 (.bool r.IFF2) rfl
      obtain ⟨q1, q2⟩ : (r.IFF2 = true → bits .or .u8 (swN r 1) 2 = swN r 2) ∧ (r.IFF2 = false → swN r 1 = swN r 2) := sw4_1 _ _ _ _
      obtain ⟨z, hz⟩ : ∃ z, r.IFF2 = z := ⟨_, rfl⟩
      rw [hz] at x0 q1 q2
      obtain ⟨V0, hV0⟩ : ∃ V0, swN r 1 = V0 := ⟨_, rfl⟩
      obtain ⟨V1, hV1⟩ : ∃ V1, swN r 2 = V1 := ⟨_, rfl⟩
      rw [hV0] at q1 q2 ⊢
      rw [hV1] at q1 q2
      clear hz hV0
      cases z
      · have Q := Lib.hid (q2 rfl)
        clear q1 q2
        go_wp2_with fail
        go_roundw
        case rel => exact ⟨2, by omega, by go_num, by rw [hV1, ← Q.out], hR, hB⟩
        case measure => simp [intOf]
      · have Q := q1 rfl
        clear q1 q2
        have HV := Lib.hid hV1
        clear hV1
        go_wp2_with fail
        go_roundw
        case rel => exact ⟨2, by omega, by go_num, by rw [HV.out], hR, hB⟩
        case measure => simp [intOf]
    | 2, _ =>
      have hI := fun w' => ixb_2 w.heap.size w'
      have x0 := hR.at_ 22 (.bool r.Halt) rfl
      obtain ⟨q1, q2⟩ : (r.Halt = true → bits .or .u8 (swN r 2) 4 = swN r 3) ∧ (r.Halt = false → swN r 2 = swN r 3) := sw4_2 _ _ _ _
      obtain ⟨z, hz⟩ : ∃ z, r.Halt = z := ⟨_, rfl⟩
      rw [hz] at x0 q1 q2
      obtain ⟨V0, hV0⟩ : ∃ V0, swN r 2 = V0 := ⟨_, rfl⟩
      obtain ⟨V1, hV1⟩ : ∃ V1, swN r 3 = V1 := ⟨_, rfl⟩
      rw [hV0] at q1 q2 ⊢
      rw [hV1] at q1 q2
      clear hz hV0
      cases z
      · have Q := Lib.hid (q2 rfl)
        clear q1 q2
        go_wp2_with fail
        go_roundw
        case rel => exact ⟨3, by omega, by go_num, by rw [hV1, ← Q.out], hR, hB⟩
        case measure => simp [intOf]
      · have Q := q1 rfl
        clear q1 q2
        have HV := Lib.hid hV1
        clear hV1
        go_wp2_with fail
        go_roundw
        case rel => exact ⟨3, by omega, by go_num, by rw [HV.out], hR, hB⟩
        case measure => simp [intOf]
    | 3, _ =>
      have hI := fun w' => ixb_3 w.heap.size w'
      have x0 := hR.at_ 23 (.bool r.Late) rfl
      obtain ⟨q1, q2⟩ : (r.Late = true → bits .or .u8 (swN r 3) 8 = swN r 4) ∧ (r.Late = false → swN r 3 = swN r 4) := sw4_3 _ _ _ _
      obtain ⟨z, hz⟩ : ∃ z, r.Late = z := ⟨_, rfl⟩
      rw [hz] at x0 q1 q2
      obtain ⟨V0, hV0⟩ : ∃ V0, swN r 3 = V0 := ⟨_, rfl⟩
      obtain ⟨V1, hV1⟩ : ∃ V1, swN r 4 = V1 := ⟨_, rfl⟩
      rw [hV0] at q1 q2 ⊢
      rw [hV1] at q1 q2
      clear hz hV0
      cases z
      · have Q := Lib.hid (q2 rfl)
        clear q1 q2
        go_wp2_with fail
        go_roundw
        case rel => exact ⟨4, by omega, by go_num, by rw [hV1, ← Q.out], hR, hB⟩
        case measure => simp [intOf]
      · have Q := q1 rfl
        clear q1 q2
        have HV := Lib.hid hV1
        clear hV1
        go_wp2_with fail
        go_roundw
        case rel => exact ⟨4, by omega, by go_num, by rw [HV.out], hR, hB⟩
        case measure => simp [intOf]
    | 4, _ =>
      obtain ⟨V0, hV0⟩ : ∃ V0, swN r 4 = V0 := ⟨_, rfl⟩
      rw [hV0]
      have HV := Lib.hid hV0
      clear hV0
      go_wp2_with fail
      go_ret
      exact ⟨congrArg (fun z => Ending.returned (.int .u8 z)) HV.out.symm, hB⟩

end Go.Proofs.Ytedlfcmlchjjlaa
