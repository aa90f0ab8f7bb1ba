
/- Registers, the code: halves. -/
import Derived.Test.YtedlfcmlchjjlaaYC
namespace Go.Proofs.Ytedlfcmlchjjlaa
open Go.RowKit
set_option linter.unusedSimpArgs false
set_option linter.unusedVariables false
set_option maxRecDepth 100000

theorem idx_0 (p q : Option Addr) (w : World) : (Instr.index 113 (.agg #[.pointer p, .pointer q]) (.int .i64 0)).run Try.prog w = .ok (.pointer p) w := by kernel_rfl
theorem idx_1 (p q : Option Addr) (w : World) : (Instr.index 113 (.agg #[.pointer p, .pointer q]) (.int .i64 1)).run Try.prog w = .ok (.pointer q) w := by kernel_rfl
abbrev halfO : Obj := .cells #[.pointer none, .pointer none] 80

set_option maxHeartbeats 2000000 in
theorem c8_halves_0 (b : Nat) (i : Int) (w : World) (wi : (Lit.int .i64 i).wf = true) (hi : i % 3 = 0) : Calls Try.prog 54 #[.pointer (some ⟨b, 0, none⟩), .int .i64 i] w fun e w' => e = .returned (.tuple #[.agg #[.pointer (some ⟨b, 6, none⟩), .pointer (some ⟨b, 7, none⟩)], .func (.func 76) #[] #[]]) ∧ Below w.heap.size w w' := by
  have HM := Lib.hid (fun w => hi ▸ c8_mod_3 i w wi)
  clear hi wi
  have h2 := heap_alloc_new w halfO
  have hB0 : Below w.heap.size w (w.alloc halfO) := (Below.refl _ _).alloc (Nat.le_refl _) _
  obtain ⟨w1, hw1⟩ : ∃ w1, w.alloc halfO = w1 := ⟨_, rfl⟩
  rw [hw1] at h2 hB0
  obtain ⟨S, hS⟩ : ∃ S : Nat → Prop, ∀ k, S k ↔ k = w.heap.size := ⟨(· = w.heap.size), fun _ => Iff.rfl⟩
  have H2 := Lib.hid h2
  have HB := Lib.hid hB0
  have HS := Lib.hid hS
  clear h2 hB0 hS
  go_enter Try.func54, Try.ntmps54
  go_upto_region 3 with (first | (go_at_call 56; (with_reducible refine (HM.out _).mono ?_); rintro e w' ⟨rfl, rfl⟩))
  refine region_ S (by kernel_rfl) ?_
  refine seg_ [0, 1, 2, 3, 4, 5, 6] 2 _ (by kernel_rfl) (by kernel_rfl) (by kernel_rfl) (by simp only [pickOps, mask, plain, List.getElem?_toArray, List.getElem?_cons_zero, List.getElem?_cons_succ, if_true]; rfl) ?_
  repeat (go_big_quiet_step (fail))
  refine wpQuiet_nil ?_
  refine callx_ (i := 7) rfl (by kernel_rfl) (by kernel_rfl) ?_
  intro nn2
  have hV := Save.drawn S w1 nn2
  have hB4 : Below w.heap.size w { w1 with drawn := nn2 } := HB.out.trans ((Save.drawn (fun _ => False) w1 nn2).all.mono HB.out.size)
  have h5 : ({ w1 with drawn := nn2 } : World).heap[w.heap.size]? = some halfO := H2.out
  generalize hw4 : ({ w1 with drawn := nn2 } : World) = w4 at *
  clear hw4
  refine does_store_row 80 _ _ rfl (w.heap.size) _ rfl rfl 80 _ h5 bytes2_info rfl (by rw [List.all_toArray]; rfl) ?_
  have hS5 := save_row (Save.refl S w4) (w.heap.size) #[.pointer (some ⟨b, 6, none⟩), .pointer (some ⟨b, 7, none⟩)] ((HS.out _).2 rfl)
  refine turn_ (S1 := fun _ => False) hV hS5 (fun k hk h => h.elim) ?_
  have hR6 := setRow_heap w4 (w.heap.size) _ #[.pointer (some ⟨b, 6, none⟩), .pointer (some ⟨b, 7, none⟩)] _ _ h5
  have hB6 := hB4.trans (hS5.below (B := w.heap.size) hB4.size (fun k hk => by have := (HS.out _).1 hk; omega))
  generalize hw5 : w4.setRow (w.heap.size) #[.pointer (some ⟨b, 6, none⟩), .pointer (some ⟨b, 7, none⟩)] = w5 at *
  clear hw5 hS5 hV hB4 h5
  refine calm_ (i := 8) (.func (.func 76) #[] #[]) rfl (by kernel_rfl) (by kernel_rfl) (by kernel_rfl) (by kernel_rfl) ?_ ?_
  · intro wz sz
    unfold Oper.does
    go_simp
    exact ⟨_, rfl⟩
  go_simp
  refine end_ (by kernel_rfl) ?_
  intro wc sc
  have hb6 := sc.below (B := w5.heap.size) (Nat.le_refl _) (fun _ h => h.elim)
  have hR7 := (hb6.block _ (Array.getElem?_eq_some_iff.1 hR6).1).trans hR6
  have hB7 := hB6.trans (hb6.mono hB6.size)
  clear hR6 hB6 hb6 sc
  go_wp2
  exact bodyPost_ret (results_row_tmp rfl _ _ _ _ _ (0, 0) _ _ rfl rfl hR7 Try.underlying80 rfl bytes2_info) rfl ⟨rfl, hB7⟩

/-- What halves leaves of a word: two bytes, and where the word is. -/
structure Half (w : World) (b k : Nat) (x : Int) (H L W : Nat) (w' : World) : Prop where
  h : w'.heap[H]? = some (.cells #[.int .u8 (x / 256)] 5 (0, 0))
  l : w'.heap[L]? = some (.cells #[.int .u8 (x % 256)] 5 (0, 0))
  p : w'.heap[W]? = some (.cells #[.pointer (some ⟨b, k, none⟩)] 66 (0, 0))
  b : Below w.heap.size w w'
  hn : w.heap.size ≤ H
  ln : w.heap.size ≤ L
  pn : w.heap.size ≤ W
  hl : H ≠ L

set_option maxHeartbeats 2000000 in
theorem c8_halves_1 (b : Nat) (i : Int) (cs : Array Value) (x : Int) (w : World) (wi : (Lit.int .i64 i).wf = true) (hi : i % 3 = 1) (hR : RowW w b cs) (hx : cs[10]? = some (.int .u16 x)) (x0 : isW x) :
    Calls Try.prog 54 #[.pointer (some ⟨b, 0, none⟩), .int .i64 i] w fun e w' => ∃ H L W, e = .returned (.tuple #[.agg #[.pointer (some ⟨H, 0, none⟩), .pointer (some ⟨L, 0, none⟩)], .func (.func 77) #[] #[.pointer (some ⟨H, 0, none⟩), .pointer (some ⟨L, 0, none⟩), .pointer (some ⟨W, 0, none⟩)]]) ∧ Half w b 10 x H L W w' := by
  have HM := Lib.hid (fun w => hi ▸ c8_mod_3 i w wi)
  obtain ⟨x0, x1⟩ := x0
  clear hi wi
  have h2 := heap_alloc_new w halfO
  have hB0 : Below w.heap.size w (w.alloc halfO) := (Below.refl _ _).alloc (Nat.le_refl _) _
  obtain ⟨w1, hw1⟩ : ∃ w1, w.alloc halfO = w1 := ⟨_, rfl⟩
  rw [hw1] at h2 hB0
  have hR1 := hR.below hB0 hR.lt
  have hbw := hR.lt
  have hlt : w.heap.size < w1.heap.size := (Array.getElem?_eq_some_iff.1 h2).1
  have hI := fun w => idx_0 (some ⟨b, 10, none⟩) (some ⟨b, 11, none⟩) w
  have H2 := Lib.hid h2
  have HB := Lib.hid hB0
  have HR := Lib.hid hR1
  clear h2 hB0 hR1 hR
  go_enter Try.func54, Try.ntmps54
  go_upto_region 4 with (first | (go_at_call 56; (with_reducible refine (HM.out _).mono ?_); rintro e w' ⟨rfl, rfl⟩))
  refine region_ (fun _ => False) (by kernel_rfl) ?_
  refine seg_ [0, 1, 2, 3, 4, 5, 6, 7, 8, 9] 2 _ (by kernel_rfl) (by kernel_rfl) (by kernel_rfl) (by simp only [pickOps, mask, plain, List.getElem?_toArray, List.getElem?_cons_zero, List.getElem?_cons_succ, if_true]; rfl) ?_
  repeat (go_big_quiet_step (fail))
  refine wpQuiet_nil ?_
  clear hI
  refine callx_ (i := 10) rfl (by kernel_rfl) (by kernel_rfl) ?_
  intro nn
  have hV := Save.drawn (fun _ => False) w1 nn
  have hB2 : Below w.heap.size w { w1 with drawn := nn } := HB.out.trans ((Save.drawn (fun _ => False) w1 nn).all.mono HB.out.size)
  have h2 : ({ w1 with drawn := nn } : World).heap[w.heap.size]? = some halfO := H2.out
  have hR2 : RowW { w1 with drawn := nn } b cs := HR.out
  generalize hw2 : ({ w1 with drawn := nn } : World) = w2 at *
  clear hw2
  have hlt2 : w.heap.size < w2.heap.size := (Array.getElem?_eq_some_iff.1 h2).1
  unfold Oper.does
  go_simp
  have hN := heap_alloc_new w2 (.cells #[.pointer none] 66)
  have hb := (Below.refl w2.heap.size w2).alloc (Nat.le_refl _) (.cells #[.pointer none] 66)
  have hB3 := hB2.trans (hb.mono hB2.size)
  have h4 := (hb.block _ hlt2).trans h2
  have hR4 := hR2.below hb hR2.lt
  refine turn_ (S1 := (· = w2.heap.size)) hV (below_save hb (Nat.le_refl _) _) (fun k hk h => by have e1 : k = w2.heap.size := h; have e2 := hV.size; omega) ?_
  obtain ⟨W, hWe⟩ : ∃ W, w2.heap.size = W := ⟨_, rfl⟩
  generalize hw3 : w2.alloc (.cells #[.pointer none] 66) = w3 at *
  rw [hWe] at hN hlt2
  simp only [hWe]
  have hWs := (Array.getElem?_eq_some_iff.1 hN).1
  have hbW : b ≠ W := by have := hR2.lt; omega
  clear hw3 hb hB2 h2 hV hR2 hWe
  refine callx_ (i := 11) rfl (by kernel_rfl) (by kernel_rfl) ?_
  intro nn2
  have hV := Save.drawn (· = W) w3 nn2
  have hB5 : Below w.heap.size w { w3 with drawn := nn2 } := hB3.trans ((Save.drawn (fun _ => False) w3 nn2).all.mono hB3.size)
  have h5 : ({ w3 with drawn := nn2 } : World).heap[w.heap.size]? = some halfO := h4
  have hR5 : RowW { w3 with drawn := nn2 } b cs := hR4
  have hN5 : ({ w3 with drawn := nn2 } : World).heap[W]? = some (.cells #[.pointer none] 66 (0, 0)) := hN
  generalize hw4 : ({ w3 with drawn := nn2 } : World) = w4 at *
  clear hw4 hB3 h4 hR4 hN
  have c0 : w4.cell? ⟨W, 0, none⟩ = some (.pointer none) := by rw [cell_of_row _ _ _ _ _ _ hN5]; rfl
  have f0 := frozen_of_row w4 W 0 _ _ hN5
  unfold Oper.does
  go_simp
  clear c0 f0
  have hS5 := save_cell (Save.refl (· = W) w4) W 0 (.pointer (some ⟨b, 10, none⟩)) rfl
  refine turn_ (S1 := fun _ => False) hV hS5 (fun k hk h => h.elim) ?_
  have hN6 : (w4.setCell ⟨W, 0, none⟩ (.pointer (some ⟨b, 10, none⟩))).heap[W]? = some (.cells #[.pointer (some ⟨b, 10, none⟩)] 66 (0, 0)) := by rw [heap_setCell_same _ W 0 _ _ _ hN5]; rfl
  have h6 := (hS5.block w.heap.size (Array.getElem?_eq_some_iff.1 h5).1 (by omega)).trans h5
  have hR6 : RowW (w4.setCell ⟨W, 0, none⟩ (.pointer (some ⟨b, 10, none⟩))) b cs := (hS5.block b hR5.lt (by omega)).trans hR5
  have hB6 := hB5.trans (hS5.below (B := w.heap.size) hB5.size (fun k hk => by omega))
  generalize hw5 : w4.setCell ⟨W, 0, none⟩ (.pointer (some ⟨b, 10, none⟩)) = w5 at *
  clear hw5 hS5 hV hB5 h5 hN5 hR5
  refine end_ (by kernel_rfl) ?_
  intro wc sc
  have hb6 := sc.below (B := w5.heap.size) (Nat.le_refl _) (fun _ h => h.elim)
  have h7 := (hb6.block _ (Array.getElem?_eq_some_iff.1 h6).1).trans h6
  have hN7 := (hb6.block _ (Array.getElem?_eq_some_iff.1 hN6).1).trans hN6
  have hR7 := hR6.below hb6 hR6.lt
  have hB7 := hB6.trans (hb6.mono hB6.size)
  clear h6 hN6 hR6 hB6 hb6 sc
  have c1 : wc.cell? ⟨W, 0, none⟩ = some (.pointer (some ⟨b, 10, none⟩)) := by rw [cell_of_row _ _ _ _ _ _ hN7]; rfl
  have c2 := hR7.at_ 10 _ hx
  have hh := heap_alloc_new wc (.cells #[.int .u8 (x / 256)] 5)
  have hl := heap_alloc_new (wc.alloc (.cells #[.int .u8 (x / 256)] 5)) (.cells #[.int .u8 (x % 256)] 5)
  rw [show (wc.alloc (.cells #[.int .u8 (x / 256)] 5)).heap.size = wc.heap.size + 1 by simp] at hl
  have hb8 : Below wc.heap.size wc ((wc.alloc (.cells #[.int .u8 (x / 256)] 5)).alloc (.cells #[.int .u8 (x % 256)] 5)) := ((Below.refl _ _).alloc (Nat.le_refl _) _).alloc (by simp) _
  have hh2 := ((Below.refl (wc.alloc (.cells #[.int .u8 (x / 256)] 5)).heap.size _).alloc (Nat.le_refl _) (.cells #[.int .u8 (x % 256)] 5)).block wc.heap.size (by simp) |>.trans hh
  have hlw := (Array.getElem?_eq_some_iff.1 h7).1
  have h9 := (hb8.block _ hlw).trans h7
  have hWlt := (Array.getElem?_eq_some_iff.1 hN7).1
  have hN9 := (hb8.block _ hWlt).trans hN7
  have hB9 := hB7.trans (hb8.mono hB7.size)
  have H9 := Lib.hid h9
  have HH := Lib.hid hh2
  have HL := Lib.hid hl
  have HN := Lib.hid hN9
  have HB9 := Lib.hid hB9
  clear h9 hh hh2 hl hN9 hB9 hb8 h7 hN7 hB7 hR7
  go_wp2_with (first | (go_at_call 73; (with_reducible refine (w7_split _ _ x0 x1).mono ?_); rintro e w' ⟨rfl, rfl⟩) | (refine wpList_store_row rfl 80 _ _ rfl w.heap.size _ rfl rfl 80 _ H9.out bytes2_info rfl (by rw [List.all_toArray]; rfl) ?_))
  (try simp only [Exit.inBlock, Exit.then])
  refine bodyPost_ret (results_row_tmp rfl _ _ _ _ _ (0, 0) _ _ rfl rfl (setRow_heap _ _ _ _ _ _ H9.out) Try.underlying80 rfl bytes2_info) rfl ⟨wc.heap.size, wc.heap.size + 1, W, rfl, ?_⟩
  exact ⟨(setRow_other _ _ _ _ (by omega)).trans HH.out, (setRow_other _ _ _ _ (by omega)).trans HL.out, (setRow_other _ _ _ _ (by omega)).trans HN.out, below_setRow HB9.out (Nat.le_refl _) _, by omega, by omega, by omega, by omega⟩

set_option maxHeartbeats 2000000 in
theorem c8_halves_2 (b : Nat) (i : Int) (cs : Array Value) (x : Int) (w : World) (wi : (Lit.int .i64 i).wf = true) (hi : i % 3 = 2) (hR : RowW w b cs) (hx : cs[11]? = some (.int .u16 x)) (x0 : isW x) :
    Calls Try.prog 54 #[.pointer (some ⟨b, 0, none⟩), .int .i64 i] w fun e w' => ∃ H L W, e = .returned (.tuple #[.agg #[.pointer (some ⟨H, 0, none⟩), .pointer (some ⟨L, 0, none⟩)], .func (.func 77) #[] #[.pointer (some ⟨H, 0, none⟩), .pointer (some ⟨L, 0, none⟩), .pointer (some ⟨W, 0, none⟩)]]) ∧ Half w b 11 x H L W w' := by
  have HM := Lib.hid (fun w => hi ▸ c8_mod_3 i w wi)
  obtain ⟨x0, x1⟩ := x0
  clear hi wi
  have h2 := heap_alloc_new w halfO
  have hB0 : Below w.heap.size w (w.alloc halfO) := (Below.refl _ _).alloc (Nat.le_refl _) _
  obtain ⟨w1, hw1⟩ : ∃ w1, w.alloc halfO = w1 := ⟨_, rfl⟩
  rw [hw1] at h2 hB0
  have hR1 := hR.below hB0 hR.lt
  have hbw := hR.lt
  have hlt : w.heap.size < w1.heap.size := (Array.getElem?_eq_some_iff.1 h2).1
  have hI := fun w => idx_1 (some ⟨b, 10, none⟩) (some ⟨b, 11, none⟩) w
  have H2 := Lib.hid h2
  have HB := Lib.hid hB0
  have HR := Lib.hid hR1
  clear h2 hB0 hR1 hR
  go_enter Try.func54, Try.ntmps54
  go_upto_region 4 with (first | (go_at_call 56; (with_reducible refine (HM.out _).mono ?_); rintro e w' ⟨rfl, rfl⟩))
  refine region_ (fun _ => False) (by kernel_rfl) ?_
  refine seg_ [0, 1, 2, 3, 4, 5, 6, 7, 8, 9] 2 _ (by kernel_rfl) (by kernel_rfl) (by kernel_rfl) (by simp only [pickOps, mask, plain, List.getElem?_toArray, List.getElem?_cons_zero, List.getElem?_cons_succ, if_true]; rfl) ?_
  repeat (go_big_quiet_step (fail))
  refine wpQuiet_nil ?_
  clear hI
  refine callx_ (i := 10) rfl (by kernel_rfl) (by kernel_rfl) ?_
  intro nn
  have hV := Save.drawn (fun _ => False) w1 nn
  have hB2 : Below w.heap.size w { w1 with drawn := nn } := HB.out.trans ((Save.drawn (fun _ => False) w1 nn).all.mono HB.out.size)
  have h2 : ({ w1 with drawn := nn } : World).heap[w.heap.size]? = some halfO := H2.out
  have hR2 : RowW { w1 with drawn := nn } b cs := HR.out
  generalize hw2 : ({ w1 with drawn := nn } : World) = w2 at *
  clear hw2
  have hlt2 : w.heap.size < w2.heap.size := (Array.getElem?_eq_some_iff.1 h2).1
  unfold Oper.does
  go_simp
  have hN := heap_alloc_new w2 (.cells #[.pointer none] 66)
  have hb := (Below.refl w2.heap.size w2).alloc (Nat.le_refl _) (.cells #[.pointer none] 66)
  have hB3 := hB2.trans (hb.mono hB2.size)
  have h4 := (hb.block _ hlt2).trans h2
  have hR4 := hR2.below hb hR2.lt
  refine turn_ (S1 := (· = w2.heap.size)) hV (below_save hb (Nat.le_refl _) _) (fun k hk h => by have e1 : k = w2.heap.size := h; have e2 := hV.size; omega) ?_
  obtain ⟨W, hWe⟩ : ∃ W, w2.heap.size = W := ⟨_, rfl⟩
  generalize hw3 : w2.alloc (.cells #[.pointer none] 66) = w3 at *
  rw [hWe] at hN hlt2
  simp only [hWe]
  have hWs := (Array.getElem?_eq_some_iff.1 hN).1
  have hbW : b ≠ W := by have := hR2.lt; omega
  clear hw3 hb hB2 h2 hV hR2 hWe
  refine callx_ (i := 11) rfl (by kernel_rfl) (by kernel_rfl) ?_
  intro nn2
  have hV := Save.drawn (· = W) w3 nn2
  have hB5 : Below w.heap.size w { w3 with drawn := nn2 } := hB3.trans ((Save.drawn (fun _ => False) w3 nn2).all.mono hB3.size)
  have h5 : ({ w3 with drawn := nn2 } : World).heap[w.heap.size]? = some halfO := h4
  have hR5 : RowW { w3 with drawn := nn2 } b cs := hR4
  have hN5 : ({ w3 with drawn := nn2 } : World).heap[W]? = some (.cells #[.pointer none] 66 (0, 0)) := hN
  generalize hw4 : ({ w3 with drawn := nn2 } : World) = w4 at *
  clear hw4 hB3 h4 hR4 hN
  have c0 : w4.cell? ⟨W, 0, none⟩ = some (.pointer none) := by rw [cell_of_row _ _ _ _ _ _ hN5]; rfl
  have f0 := frozen_of_row w4 W 0 _ _ hN5
  unfold Oper.does
  go_simp
  clear c0 f0
  have hS5 := save_cell (Save.refl (· = W) w4) W 0 (.pointer (some ⟨b, 11, none⟩)) rfl
  refine turn_ (S1 := fun _ => False) hV hS5 (fun k hk h => h.elim) ?_
  have hN6 : (w4.setCell ⟨W, 0, none⟩ (.pointer (some ⟨b, 11, none⟩))).heap[W]? = some (.cells #[.pointer (some ⟨b, 11, none⟩)] 66 (0, 0)) := by rw [heap_setCell_same _ W 0 _ _ _ hN5]; rfl
  have h6 := (hS5.block w.heap.size (Array.getElem?_eq_some_iff.1 h5).1 (by omega)).trans h5
  have hR6 : RowW (w4.setCell ⟨W, 0, none⟩ (.pointer (some ⟨b, 11, none⟩))) b cs := (hS5.block b hR5.lt (by omega)).trans hR5
  have hB6 := hB5.trans (hS5.below (B := w.heap.size) hB5.size (fun k hk => by omega))
  generalize hw5 : w4.setCell ⟨W, 0, none⟩ (.pointer (some ⟨b, 11, none⟩)) = w5 at *
  clear hw5 hS5 hV hB5 h5 hN5 hR5
  refine end_ (by kernel_rfl) ?_
  intro wc sc
  have hb6 := sc.below (B := w5.heap.size) (Nat.le_refl _) (fun _ h => h.elim)
  have h7 := (hb6.block _ (Array.getElem?_eq_some_iff.1 h6).1).trans h6
  have hN7 := (hb6.block _ (Array.getElem?_eq_some_iff.1 hN6).1).trans hN6
  have hR7 := hR6.below hb6 hR6.lt
  have hB7 := hB6.trans (hb6.mono hB6.size)
  clear h6 hN6 hR6 hB6 hb6 sc
  have c1 : wc.cell? ⟨W, 0, none⟩ = some (.pointer (some ⟨b, 11, none⟩)) := by rw [cell_of_row _ _ _ _ _ _ hN7]; rfl
  have c2 := hR7.at_ 11 _ hx
  have hh := heap_alloc_new wc (.cells #[.int .u8 (x / 256)] 5)
  have hl := heap_alloc_new (wc.alloc (.cells #[.int .u8 (x / 256)] 5)) (.cells #[.int .u8 (x % 256)] 5)
  rw [show (wc.alloc (.cells #[.int .u8 (x / 256)] 5)).heap.size = wc.heap.size + 1 by simp] at hl
  have hb8 : Below wc.heap.size wc ((wc.alloc (.cells #[.int .u8 (x / 256)] 5)).alloc (.cells #[.int .u8 (x % 256)] 5)) := ((Below.refl _ _).alloc (Nat.le_refl _) _).alloc (by simp) _
  have hh2 := ((Below.refl (wc.alloc (.cells #[.int .u8 (x / 256)] 5)).heap.size _).alloc (Nat.le_refl _) (.cells #[.int .u8 (x % 256)] 5)).block wc.heap.size (by simp) |>.trans hh
  have hlw := (Array.getElem?_eq_some_iff.1 h7).1
  have h9 := (hb8.block _ hlw).trans h7
  have hWlt := (Array.getElem?_eq_some_iff.1 hN7).1
  have hN9 := (hb8.block _ hWlt).trans hN7
  have hB9 := hB7.trans (hb8.mono hB7.size)
  have H9 := Lib.hid h9
  have HH := Lib.hid hh2
  have HL := Lib.hid hl
  have HN := Lib.hid hN9
  have HB9 := Lib.hid hB9
  clear h9 hh hh2 hl hN9 hB9 hb8 h7 hN7 hB7 hR7
  go_wp2_with (first | (go_at_call 73; (with_reducible refine (w7_split _ _ x0 x1).mono ?_); rintro e w' ⟨rfl, rfl⟩) | (refine wpList_store_row rfl 80 _ _ rfl w.heap.size _ rfl rfl 80 _ H9.out bytes2_info rfl (by rw [List.all_toArray]; rfl) ?_))
  (try simp only [Exit.inBlock, Exit.then])
  refine bodyPost_ret (results_row_tmp rfl _ _ _ _ _ (0, 0) _ _ rfl rfl (setRow_heap _ _ _ _ _ _ H9.out) Try.underlying80 rfl bytes2_info) rfl ⟨wc.heap.size, wc.heap.size + 1, W, rfl, ?_⟩
  exact ⟨(setRow_other _ _ _ _ (by omega)).trans HH.out, (setRow_other _ _ _ _ (by omega)).trans HL.out, (setRow_other _ _ _ _ (by omega)).trans HN.out, below_setRow HB9.out (Nat.le_refl _) _, by omega, by omega, by omega, by omega⟩

end Go.Proofs.Ytedlfcmlchjjlaa
