
/- Registers, the code: swap, Swap. -/
import Derived.Test.YtedlfcmlchjjlaaY9
namespace Go.Proofs.Ytedlfcmlchjjlaa
open Go.RowKit
set_option linter.unusedSimpArgs false
set_option linter.unusedVariables false
set_option maxRecDepth 100000

theorem ofbase {b : World} (p : M.Of (M.Base b)) : Below b.heap.size b p.w := p.ok.2
theorem save_of {w w' : World} {b : Nat} (h : Save (· = b) w w') (k : Nat) (hk : k < w.heap.size) (hb : k ≠ b) : w'.heap[k]? = w.heap[k]? := h.block k hk hb

set_option maxHeartbeats 2000000 in
theorem c8_swap_cw (b i j k : Nat) (cs : Array Value) (x y z : Int) (w : World) (hR : RowW w b cs) (hij : i ≠ j) (hik : i ≠ k) (hjk : j ≠ k) (hx : cs[i]? = some (.int .u8 x)) (hy : cs[j]? = some (.int .u8 y)) (hz : cs[k]? = some (.int .u16 z)) (x0 : isB x) (y0 : isB y) (z0 : isW z) :
    Calls Try.prog 59 #[cpV b i j, wdV b k] w fun e w' => e = .returned (.tuple #[]) ∧ RowW w' b (((cs.setIfInBounds i (.int .u8 (z / 256))).setIfInBounds j (.int .u8 (z % 256))).setIfInBounds k (.int .u16 (x * 256 + y))) ∧ Save (· = b) w w' := by
  obtain ⟨x0, x1⟩ := x0
  obtain ⟨y0, y1⟩ := y0
  obtain ⟨z0, z1⟩ := z0
  have hbw := hR.lt
  unfold cpV wdV
  have hA := heap_alloc_new w (.cells #[.func (.func 79) #[cpR b i j] #[], .func (.func 80) #[cpR b i j] #[]] 88)
  have hBn := heap_alloc_new (w.alloc (.cells #[.func (.func 79) #[cpR b i j] #[], .func (.func 80) #[cpR b i j] #[]] 88)) (.cells #[.func (.func 81) #[wdR b k] #[], .func (.func 82) #[wdR b k] #[]] 88)
  have hA2 := (((Below.refl (w.alloc (.cells #[.func (.func 79) #[cpR b i j] #[], .func (.func 80) #[cpR b i j] #[]] 88)).heap.size _).alloc (Nat.le_refl _) (.cells #[.func (.func 81) #[wdR b k] #[], .func (.func 82) #[wdR b k] #[]] 88)).block w.heap.size (by simp)).trans hA
  have hB0 : Below w.heap.size w ((w.alloc (.cells #[.func (.func 79) #[cpR b i j] #[], .func (.func 80) #[cpR b i j] #[]] 88)).alloc (.cells #[.func (.func 81) #[wdR b k] #[], .func (.func 82) #[wdR b k] #[]] 88)) := ((Below.refl _ _).alloc (Nat.le_refl _) _).alloc (by simp) _
  rw [show (w.alloc (.cells #[.func (.func 79) #[cpR b i j] #[], .func (.func 80) #[cpR b i j] #[]] 88)).heap.size = w.heap.size + 1 by simp] at hBn
  obtain ⟨w1, hw1⟩ : ∃ w1, ((w.alloc (.cells #[.func (.func 79) #[cpR b i j] #[], .func (.func 80) #[cpR b i j] #[]] 88)).alloc (.cells #[.func (.func 81) #[wdR b k] #[], .func (.func 82) #[wdR b k] #[]] 88)) = w1 := ⟨_, rfl⟩
  rw [hw1] at hBn hA2 hB0
  have hlt : w.heap.size + 1 < w1.heap.size := (Array.getElem?_eq_some_iff.1 hBn).1
  have hR1 := hR.below hB0 hbw
  have g0 : ∀ p : M.Of (M.Base w1), p.w.cell? ⟨w.heap.size, 0, none⟩ = some (.func (.func 79) #[cpR b i j] #[]) := fun p => by rw [cell_of_row _ _ _ _ _ _ (((ofbase p).block w.heap.size (by omega)).trans hA2)]; rfl
  have g1 : ∀ p : M.Of (M.Base w1), p.w.cell? ⟨w.heap.size + 1, 0, none⟩ = some (.func (.func 81) #[wdR b k] #[]) := fun p => by rw [cell_of_row _ _ _ _ _ _ (((ofbase p).block (w.heap.size + 1) hlt).trans hBn)]; rfl
  have HA := Lib.hid hA2
  have HBn := Lib.hid hBn
  have HB0 := Lib.hid hB0
  have HR := Lib.hid hR1
  clear hA hA2 hBn hB0 hR1 hR
  go_enter Try.func59, Try.ntmps59
  go_upto_region 1 with fail
  refine M.region_ (by kernel_rfl) ?_
  refine M.seg_ [0, 1, 3, 4] 4 _ _ (M.Base.refl _) (by kernel_rfl) (by kernel_rfl) (by kernel_rfl) (by simp only [pickOps, mask, plain, List.getElem?_toArray, List.getElem?_cons_zero, List.getElem?_cons_succ, if_true]; rfl) ?_
  repeat (go_big_quiet_step (fail))
  refine wpQuiet_nil ?_
  clear g0 g1
  refine M.calm_ (i := 2) (.int .u16 (x * 256 + y)) rfl (by kernel_rfl) (by kernel_rfl) (by kernel_rfl) (by kernel_rfl) ?_ ?_
  · intro wz sz
    unfold Oper.does
    go_simp
    exact (c8_cget b i j cs x y wz (HR.out.below sz.2 HR.out.lt) hx hy x0 x1 y0 y1).mono fun e w' ⟨he, hw⟩ => ⟨_, he, rfl, Save.of_below hw⟩
  refine M.calm_ (i := 5) (.int .u16 z) rfl (by kernel_rfl) (by kernel_rfl) (by kernel_rfl) (by kernel_rfl) ?_ ?_
  · intro wz sz
    unfold Oper.does
    go_simp
    exact (c8_wget b k cs z wz (HR.out.below sz.2 HR.out.lt) hz).mono fun e w' ⟨he, hw⟩ => ⟨_, he, rfl, Save.of_below hw⟩
  go_simp
  refine M.seg_ [6, 7] 0 _ _ (M.Base.refl _) (by kernel_rfl) (by kernel_rfl) (by kernel_rfl) (by simp only [pickOps, mask, plain, List.getElem?_toArray, List.getElem?_cons_zero, List.getElem?_cons_succ, if_true]; rfl) ?_
  repeat (go_big_quiet_step (fail))
  refine wpQuiet_nil ?_
  refine M.end_ (by kernel_rfl) ?_
  intro wc sc
  have hAc := (sc.2.block w.heap.size (by omega)).trans HA.out
  have hBc := (sc.2.block (w.heap.size + 1) hlt).trans HBn.out
  have hBelow := HB0.out.trans (sc.2.mono HB0.out.size)
  have hRc := HR.out.below sc.2 HR.out.lt
  clear sc
  have c1 : wc.cell? ⟨w.heap.size, 1, none⟩ = some (.func (.func 80) #[cpR b i j] #[]) := by rw [cell_of_row _ _ _ _ _ _ hAc]; rfl
  go_wp2_with fail
  refine (c8_cput b i j cs x y z wc hRc hij hx hy (by omega) (by omega)).mono ?_
  rintro e w4 ⟨⟨u, rfl⟩, hR4, hS4⟩
  clear c1
  have hB4 := (hS4.block (w.heap.size + 1) (Array.getElem?_eq_some_iff.1 hBc).1 (by omega)).trans hBc
  have c2 : w4.cell? ⟨w.heap.size + 1, 1, none⟩ = some (.func (.func 82) #[wdR b k] #[]) := by rw [cell_of_row _ _ _ _ _ _ hB4]; rfl
  have hS5 := (below_save hBelow (Nat.le_refl _) (· = b)).trans hS4
  clear hS4
  go_wp2_with fail
  refine (c8_wput b k _ z (x * 256 + y) w4 hR4 (by rw [Array.getElem?_setIfInBounds_ne hjk, Array.getElem?_setIfInBounds_ne hik]; exact hz)).mono ?_
  rintro e w6 ⟨⟨u2, rfl⟩, hR6, hS6⟩
  clear c2
  go_wp2_with fail
  go_end0
  exact ⟨rfl, hR6, hS5.trans hS6⟩

set_option maxHeartbeats 2000000 in
theorem c8_swap_cc (b i j k l : Nat) (cs : Array Value) (x y p q : Int) (w : World) (hR : RowW w b cs) (hij : i ≠ j) (hkl : k ≠ l) (hik : i ≠ k) (hjk : j ≠ k) (hil : i ≠ l) (hjl : j ≠ l) (hx : cs[i]? = some (.int .u8 x)) (hy : cs[j]? = some (.int .u8 y)) (hp : cs[k]? = some (.int .u8 p)) (hq : cs[l]? = some (.int .u8 q)) (x0 : isB x) (y0 : isB y) (p0 : isB p) (q0 : isB q) :
    Calls Try.prog 59 #[cpV b i j, cpV b k l] w fun e w' => e = .returned (.tuple #[]) ∧ RowW w' b ((((cs.setIfInBounds i (.int .u8 p)).setIfInBounds j (.int .u8 q)).setIfInBounds k (.int .u8 x)).setIfInBounds l (.int .u8 y)) ∧ Save (· = b) w w' := by
  obtain ⟨x0, x1⟩ := x0
  obtain ⟨y0, y1⟩ := y0
  obtain ⟨p0, p1⟩ := p0
  obtain ⟨q0, q1⟩ := q0
  have hbw := hR.lt
  unfold cpV 
  have hA := heap_alloc_new w (.cells #[.func (.func 79) #[cpR b i j] #[], .func (.func 80) #[cpR b i j] #[]] 88)
  have hBn := heap_alloc_new (w.alloc (.cells #[.func (.func 79) #[cpR b i j] #[], .func (.func 80) #[cpR b i j] #[]] 88)) (.cells #[.func (.func 79) #[cpR b k l] #[], .func (.func 80) #[cpR b k l] #[]] 88)
  have hA2 := (((Below.refl (w.alloc (.cells #[.func (.func 79) #[cpR b i j] #[], .func (.func 80) #[cpR b i j] #[]] 88)).heap.size _).alloc (Nat.le_refl _) (.cells #[.func (.func 79) #[cpR b k l] #[], .func (.func 80) #[cpR b k l] #[]] 88)).block w.heap.size (by simp)).trans hA
  have hB0 : Below w.heap.size w ((w.alloc (.cells #[.func (.func 79) #[cpR b i j] #[], .func (.func 80) #[cpR b i j] #[]] 88)).alloc (.cells #[.func (.func 79) #[cpR b k l] #[], .func (.func 80) #[cpR b k l] #[]] 88)) := ((Below.refl _ _).alloc (Nat.le_refl _) _).alloc (by simp) _
  rw [show (w.alloc (.cells #[.func (.func 79) #[cpR b i j] #[], .func (.func 80) #[cpR b i j] #[]] 88)).heap.size = w.heap.size + 1 by simp] at hBn
  obtain ⟨w1, hw1⟩ : ∃ w1, ((w.alloc (.cells #[.func (.func 79) #[cpR b i j] #[], .func (.func 80) #[cpR b i j] #[]] 88)).alloc (.cells #[.func (.func 79) #[cpR b k l] #[], .func (.func 80) #[cpR b k l] #[]] 88)) = w1 := ⟨_, rfl⟩
  rw [hw1] at hBn hA2 hB0
  have hlt : w.heap.size + 1 < w1.heap.size := (Array.getElem?_eq_some_iff.1 hBn).1
  have hR1 := hR.below hB0 hbw
  have g0 : ∀ p : M.Of (M.Base w1), p.w.cell? ⟨w.heap.size, 0, none⟩ = some (.func (.func 79) #[cpR b i j] #[]) := fun p => by rw [cell_of_row _ _ _ _ _ _ (((ofbase p).block w.heap.size (by omega)).trans hA2)]; rfl
  have g1 : ∀ p : M.Of (M.Base w1), p.w.cell? ⟨w.heap.size + 1, 0, none⟩ = some (.func (.func 79) #[cpR b k l] #[]) := fun p => by rw [cell_of_row _ _ _ _ _ _ (((ofbase p).block (w.heap.size + 1) hlt).trans hBn)]; rfl
  have HA := Lib.hid hA2
  have HBn := Lib.hid hBn
  have HB0 := Lib.hid hB0
  have HR := Lib.hid hR1
  clear hA hA2 hBn hB0 hR1 hR
  go_enter Try.func59, Try.ntmps59
  go_upto_region 1 with fail
  refine M.region_ (by kernel_rfl) ?_
  refine M.seg_ [0, 1, 3, 4] 4 _ _ (M.Base.refl _) (by kernel_rfl) (by kernel_rfl) (by kernel_rfl) (by simp only [pickOps, mask, plain, List.getElem?_toArray, List.getElem?_cons_zero, List.getElem?_cons_succ, if_true]; rfl) ?_
  repeat (go_big_quiet_step (fail))
  refine wpQuiet_nil ?_
  clear g0 g1
  refine M.calm_ (i := 2) (.int .u16 (x * 256 + y)) rfl (by kernel_rfl) (by kernel_rfl) (by kernel_rfl) (by kernel_rfl) ?_ ?_
  · intro wz sz
    unfold Oper.does
    go_simp
    exact (c8_cget b i j cs x y wz (HR.out.below sz.2 HR.out.lt) hx hy x0 x1 y0 y1).mono fun e w' ⟨he, hw⟩ => ⟨_, he, rfl, Save.of_below hw⟩
  refine M.calm_ (i := 5) (.int .u16 (p * 256 + q)) rfl (by kernel_rfl) (by kernel_rfl) (by kernel_rfl) (by kernel_rfl) ?_ ?_
  · intro wz sz
    unfold Oper.does
    go_simp
    exact (c8_cget b k l cs p q wz (HR.out.below sz.2 HR.out.lt) hp hq p0 p1 q0 q1).mono fun e w' ⟨he, hw⟩ => ⟨_, he, rfl, Save.of_below hw⟩
  go_simp
  refine M.seg_ [6, 7] 0 _ _ (M.Base.refl _) (by kernel_rfl) (by kernel_rfl) (by kernel_rfl) (by simp only [pickOps, mask, plain, List.getElem?_toArray, List.getElem?_cons_zero, List.getElem?_cons_succ, if_true]; rfl) ?_
  repeat (go_big_quiet_step (fail))
  refine wpQuiet_nil ?_
  refine M.end_ (by kernel_rfl) ?_
  intro wc sc
  have hAc := (sc.2.block w.heap.size (by omega)).trans HA.out
  have hBc := (sc.2.block (w.heap.size + 1) hlt).trans HBn.out
  have hBelow := HB0.out.trans (sc.2.mono HB0.out.size)
  have hRc := HR.out.below sc.2 HR.out.lt
  clear sc
  have c1 : wc.cell? ⟨w.heap.size, 1, none⟩ = some (.func (.func 80) #[cpR b i j] #[]) := by rw [cell_of_row _ _ _ _ _ _ hAc]; rfl
  go_wp2_with fail
  refine (c8_cput b i j cs x y (p * 256 + q) wc hRc hij hx hy (by omega) (by omega)).mono ?_
  rintro e w4 ⟨⟨u, rfl⟩, hR4, hS4⟩
  clear c1
  have hB4 := (hS4.block (w.heap.size + 1) (Array.getElem?_eq_some_iff.1 hBc).1 (by omega)).trans hBc
  have c2 : w4.cell? ⟨w.heap.size + 1, 1, none⟩ = some (.func (.func 80) #[cpR b k l] #[]) := by rw [cell_of_row _ _ _ _ _ _ hB4]; rfl
  have hS5 := (below_save hBelow (Nat.le_refl _) (· = b)).trans hS4
  clear hS4
  rw [show (p * 256 + q) / 256 = p by omega, show (p * 256 + q) % 256 = q by omega] at hR4
  go_wp2_with fail
  refine (c8_cput b k l _ p q (x * 256 + y) w4 hR4 hkl (by rw [Array.getElem?_setIfInBounds_ne hjk, Array.getElem?_setIfInBounds_ne hik]; exact hp) (by rw [Array.getElem?_setIfInBounds_ne hjl, Array.getElem?_setIfInBounds_ne hil]; exact hq) (by omega) (by omega)).mono ?_
  rintro e w6 ⟨⟨u2, rfl⟩, hR6, hS6⟩
  rw [show (x * 256 + y) / 256 = x by omega, show (x * 256 + y) % 256 = y by omega] at hR6
  clear c2
  go_wp2_with fail
  go_end0
  exact ⟨rfl, hR6, hS5.trans hS6⟩

end Go.Proofs.Ytedlfcmlchjjlaa
