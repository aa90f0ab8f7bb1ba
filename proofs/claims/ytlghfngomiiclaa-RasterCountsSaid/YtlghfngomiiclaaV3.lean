
/- Package raster: fetch, picture, border; what is done at a spot, as numbers. -/
import Derived.Test.YtlghfngomiiclaaV2
import Derived.Test.YtlghfngomiiclaaH6
namespace Go.Proofs.Ytlghfngomiiclaa
open Go.RowKit
set_option linter.unusedSimpArgs false
set_option linter.unusedVariables false
set_option maxRecDepth 100000

/-- What is done, as a value. -/
abbrev bmV (d x y : Int) : Value := .agg #[.int .i64 d, .int .i64 x, .int .i64 y]
abbrev bmO (d x y : Int) : Obj := .cells #[.int .i64 d, .int .i64 x, .int .i64 y] 27
/-- What is done at a column of the picture's line y. -/
def picB (y c : Int) : Int × Int × Int :=
  if c % 8 = 0 then (1, c / 8 * 2, y) else if c % 8 = 1 then (2, c / 8 * 2, y) else if c % 8 = 2 then (1, c / 8 * 2 + 1, y) else if c % 8 = 3 then (2, c / 8 * 2 + 1, y) else (0, 0, 0)
/-- Outside of the picture. -/
def borB (l c : Int) : Int × Int × Int := if c % 8 = 0 then (3, c, l) else (0, 0, 0)
theorem picB_0 {y c : Int} (h : c % 8 = 0) : picB y c = (1, c / 8 * 2, y) := by unfold picB; rw [if_pos h]
theorem picB_1 {y c : Int} (h : c % 8 = 1) : picB y c = (2, c / 8 * 2, y) := by unfold picB; rw [if_neg (by omega), if_pos h]
theorem picB_2 {y c : Int} (h : c % 8 = 2) : picB y c = (1, c / 8 * 2 + 1, y) := by unfold picB; rw [if_neg (by omega), if_neg (by omega), if_pos h]
theorem picB_3 {y c : Int} (h : c % 8 = 3) : picB y c = (2, c / 8 * 2 + 1, y) := by unfold picB; rw [if_neg (by omega), if_neg (by omega), if_neg (by omega), if_pos h]
theorem picB_4 {y c : Int} (h : 4 ≤ c % 8) : picB y c = (0, 0, 0) := by unfold picB; rw [if_neg (by omega), if_neg (by omega), if_neg (by omega), if_neg (by omega)]
theorem mod_ways (c : Int) : c % 8 = 0 ∨ c % 8 = 1 ∨ c % 8 = 2 ∨ c % 8 = 3 ∨ 4 ≤ c % 8 := by omega

theorem fetch_any (c : Int) (w : World) (h0 : 0 ≤ c) (h1 : c < 1600) : Calls Try.prog 30 #[.int .i64 c] w fun e w' => e = .returned (bmV (picB 0 c).1 (picB 0 c).2.1 (picB 0 c).2.2) ∧ Below w.heap.size w w' := by
  rcases mod_ways c with h | h | h | h | h
  · rw [picB_0 h]
    go_enter Try.func30, Try.ntmps30
    go_wp2
    (try simp only [Exit.inBlock, Exit.then])
    refine bodyPost_ret (v := bmV 1 (c / 8 * 2) 0) ?_ rfl ⟨rfl, (Below.refl _ _).alloc (Nat.le_refl _) _⟩
    simp [results, go_sem]
  · rw [picB_1 h]
    go_enter Try.func30, Try.ntmps30
    go_wp2
    (try simp only [Exit.inBlock, Exit.then])
    refine bodyPost_ret (v := bmV 2 (c / 8 * 2) 0) ?_ rfl ⟨rfl, (Below.refl _ _).alloc (Nat.le_refl _) _⟩
    simp [results, go_sem]
  · rw [picB_2 h]
    go_enter Try.func30, Try.ntmps30
    go_wp2
    (try simp only [Exit.inBlock, Exit.then])
    refine bodyPost_ret (v := bmV 1 (c / 8 * 2 + 1) 0) ?_ rfl ⟨rfl, (Below.refl _ _).alloc (Nat.le_refl _) _⟩
    simp [results, go_sem]
  · rw [picB_3 h]
    go_enter Try.func30, Try.ntmps30
    go_wp2
    (try simp only [Exit.inBlock, Exit.then])
    refine bodyPost_ret (v := bmV 2 (c / 8 * 2 + 1) 0) ?_ rfl ⟨rfl, (Below.refl _ _).alloc (Nat.le_refl _) _⟩
    simp [results, go_sem]
  · rw [picB_4 h]
    go_enter Try.func30, Try.ntmps30
    go_wp2
    (try simp only [Exit.inBlock, Exit.then])
    refine bodyPost_ret (v := bmV 0 0 0) ?_ rfl ⟨rfl, (Below.refl _ _).alloc (Nat.le_refl _) _⟩
    simp [results, go_sem]

/-- A block that is what is done. -/
def BW (w : World) (b : Nat) (d x y : Int) : Prop := w.heap[b]? = some (.cells #[.int .i64 d, .int .i64 x, .int .i64 y] 27 (0, 0))
theorem BW.now (w : World) (d x y : Int) : BW (w.alloc (bmO d x y)) w.heap.size d x y := heap_alloc_new _ _
theorem BW.c0 {w : World} {b : Nat} {d x y : Int} (h : BW w b d x y) : w.cell? ⟨b, 0, none⟩ = some (.int .i64 d) := by rw [cell_of_row _ _ _ _ _ _ h]; rfl
theorem BW.c1 {w : World} {b : Nat} {d x y : Int} (h : BW w b d x y) : w.cell? ⟨b, 1, none⟩ = some (.int .i64 x) := by rw [cell_of_row _ _ _ _ _ _ h]; rfl
theorem BW.c2 {w : World} {b : Nat} {d x y : Int} (h : BW w b d x y) : w.cell? ⟨b, 2, none⟩ = some (.int .i64 y) := by rw [cell_of_row _ _ _ _ _ _ h]; rfl
theorem BW.free {w : World} {b : Nat} {d x y : Int} (h : BW w b d x y) (i : Nat) : w.frozen? ⟨b, i, none⟩ = false := frozen_of_row w b i _ _ h
theorem BW.lt {w : World} {b : Nat} {d x y : Int} (h : BW w b d x y) : b < w.heap.size := (Array.getElem?_eq_some_iff.1 h).1
theorem BW.below {w w' : World} {b B : Nat} {d x y : Int} (h : BW w b d x y) (hb : Below B w w') (hB : b < B) : BW w' b d x y := (hb.block _ hB).trans h

theorem BW.alloc {w : World} {b : Nat} {d x y : Int} (h : BW w b d x y) (o : Obj) : BW (w.alloc o) b d x y := (heap_alloc_old w o h.lt).trans h
theorem BW.drew {w : World} {b : Nat} {d x y : Int} (h : BW w b d x y) : BW w.drew b d x y := h
abbrev putBm (w : World) (b : Nat) (d x y : Int) : World := ((w.setCell ⟨b, 0, none⟩ (.int .i64 d)).setCell ⟨b, 1, none⟩ (.int .i64 x)).setCell ⟨b, 2, none⟩ (.int .i64 y)
theorem putBm_bw {w : World} {b : Nat} {d0 x0 y0 : Int} (h : BW w b d0 x0 y0) (d x y : Int) : BW (putBm w b d x y) b d x y := by
  unfold BW at *
  have e0 : (w.setCell ⟨b, 0, none⟩ (.int .i64 d)).heap[b]? = some (.cells #[.int .i64 d, .int .i64 x0, .int .i64 y0] 27 (0, 0)) := by rw [heap_setCell_same _ b 0 _ _ _ h]; rfl
  have e1 : ((w.setCell ⟨b, 0, none⟩ (.int .i64 d)).setCell ⟨b, 1, none⟩ (.int .i64 x)).heap[b]? = some (.cells #[.int .i64 d, .int .i64 x, .int .i64 y0] 27 (0, 0)) := by rw [heap_setCell_same _ b 1 _ _ _ e0]; rfl
  have e2 : (((w.setCell ⟨b, 0, none⟩ (.int .i64 d)).setCell ⟨b, 1, none⟩ (.int .i64 x)).setCell ⟨b, 2, none⟩ (.int .i64 y)).heap[b]? = some (.cells #[.int .i64 d, .int .i64 x, .int .i64 y] 27 (0, 0)) := by rw [heap_setCell_same _ b 2 _ _ _ e1]; rfl
  exact e2
theorem putBm_below (w : World) (b : Nat) (d x y : Int) {B : Nat} (hB : B ≤ b) : Below B w (putBm w b d x y) :=
  (((Below.refl B w).setCell (p := ⟨b, 0, none⟩) hB _).setCell (p := ⟨b, 1, none⟩) hB _).setCell (p := ⟨b, 2, none⟩) hB _
theorem infoBm : (Try.prog.info? 27).map (·.size) = some 3 := by kernel_rfl
theorem results_bm {fn : Func} {p : Tmp} (h : fn.results = #[.cell p 27]) (tmps : Array Value) (w : World) (b : Nat) (d x y : Int) (hp : tmps.getD p undef = .pointer (some ⟨b, 0, none⟩)) (hS : BW w b d x y) :
    (results fn tmps).run Try.prog w = .ok (bmV d x y) w :=
  results_cell_row h _ _ _ _ _ (0, 0) _ hp hS Try.underlying27 rfl infoBm
theorem results_bme {fn : Func} {p u : Tmp} (h : fn.results = #[.cell p 27, .tmp u]) (tmps : Array Value) (w : World) (b : Nat) (d x y : Int) (e : Value) (hp : tmps.getD p undef = .pointer (some ⟨b, 0, none⟩)) (hu : tmps.getD u undef = e) (hS : BW w b d x y) :
    (results fn tmps).run Try.prog w = .ok (.tuple #[bmV d x y, e]) w := by
  rw [results_cell_tmp h, hp, hu]
  have c0 := hS.c0
  have c1 := hS.c1
  have c2 := hS.c2
  go_simp

theorem picture_any (y c : Int) (w : World) (h0 : 0 ≤ c) (h1 : c < 1600) : Calls Try.prog 23 #[.int .i64 y, .int .i64 c] w fun e w' => e = .returned (bmV (picB y c).1 (picB y c).2.1 (picB y c).2.2) ∧ Below w.heap.size w w' := by
  have hz : BW (w.alloc (bmO 0 0 0)) w.heap.size 0 0 0 := BW.now _ _ _ _
  rcases mod_ways c with h | h | h | h | h
  · have e0 := picB_0 (y := 0) h
    rw [picB_0 h]
    go_enter Try.func23, Try.ntmps23
    go_wp2_with fail
    refine (fetch_any c _ h0 h1).mono ?_
    rw [e0]
    rintro e w2 ⟨rfl, hb⟩
    have hB : Below w.heap.size w w2 := ((Below.refl _ _).alloc (Nat.le_refl _) _).trans (hb.mono (by simp))
    have hP := hz.below hb (by simp)
    have d0 := hP.c0
    have d1 := hP.c1
    have d2 := hP.c2
    have g0 := hP.free 0
    have g1 := hP.free 1
    have g2 := hP.free 2
    have hlt := hP.lt
    clear hb hz e0
    go_wp2_with fail
    (try simp only [Exit.inBlock, Exit.then])
    exact bodyPost_ret (v := bmV 1 (c / 8 * 2) y) (results_bm rfl _ _ _ _ _ _ rfl ((putBm_bw hP 1 (c / 8 * 2) y).alloc _)) rfl ⟨rfl, (hB.trans (putBm_below _ _ 1 (c / 8 * 2) y (Nat.le_refl _))).alloc (by simp; omega) _⟩
  · have e0 := picB_1 (y := 0) h
    rw [picB_1 h]
    go_enter Try.func23, Try.ntmps23
    go_wp2_with fail
    refine (fetch_any c _ h0 h1).mono ?_
    rw [e0]
    rintro e w2 ⟨rfl, hb⟩
    have hB : Below w.heap.size w w2 := ((Below.refl _ _).alloc (Nat.le_refl _) _).trans (hb.mono (by simp))
    have hP := hz.below hb (by simp)
    have d0 := hP.c0
    have d1 := hP.c1
    have d2 := hP.c2
    have g0 := hP.free 0
    have g1 := hP.free 1
    have g2 := hP.free 2
    have hlt := hP.lt
    clear hb hz e0
    go_wp2_with fail
    (try simp only [Exit.inBlock, Exit.then])
    exact bodyPost_ret (v := bmV 2 (c / 8 * 2) y) (results_bm rfl _ _ _ _ _ _ rfl ((putBm_bw hP 2 (c / 8 * 2) y).alloc _)) rfl ⟨rfl, (hB.trans (putBm_below _ _ 2 (c / 8 * 2) y (Nat.le_refl _))).alloc (by simp; omega) _⟩
  · have e0 := picB_2 (y := 0) h
    rw [picB_2 h]
    go_enter Try.func23, Try.ntmps23
    go_wp2_with fail
    refine (fetch_any c _ h0 h1).mono ?_
    rw [e0]
    rintro e w2 ⟨rfl, hb⟩
    have hB : Below w.heap.size w w2 := ((Below.refl _ _).alloc (Nat.le_refl _) _).trans (hb.mono (by simp))
    have hP := hz.below hb (by simp)
    have d0 := hP.c0
    have d1 := hP.c1
    have d2 := hP.c2
    have g0 := hP.free 0
    have g1 := hP.free 1
    have g2 := hP.free 2
    have hlt := hP.lt
    clear hb hz e0
    go_wp2_with fail
    (try simp only [Exit.inBlock, Exit.then])
    exact bodyPost_ret (v := bmV 1 (c / 8 * 2 + 1) y) (results_bm rfl _ _ _ _ _ _ rfl ((putBm_bw hP 1 (c / 8 * 2 + 1) y).alloc _)) rfl ⟨rfl, (hB.trans (putBm_below _ _ 1 (c / 8 * 2 + 1) y (Nat.le_refl _))).alloc (by simp; omega) _⟩
  · have e0 := picB_3 (y := 0) h
    rw [picB_3 h]
    go_enter Try.func23, Try.ntmps23
    go_wp2_with fail
    refine (fetch_any c _ h0 h1).mono ?_
    rw [e0]
    rintro e w2 ⟨rfl, hb⟩
    have hB : Below w.heap.size w w2 := ((Below.refl _ _).alloc (Nat.le_refl _) _).trans (hb.mono (by simp))
    have hP := hz.below hb (by simp)
    have d0 := hP.c0
    have d1 := hP.c1
    have d2 := hP.c2
    have g0 := hP.free 0
    have g1 := hP.free 1
    have g2 := hP.free 2
    have hlt := hP.lt
    clear hb hz e0
    go_wp2_with fail
    (try simp only [Exit.inBlock, Exit.then])
    exact bodyPost_ret (v := bmV 2 (c / 8 * 2 + 1) y) (results_bm rfl _ _ _ _ _ _ rfl ((putBm_bw hP 2 (c / 8 * 2 + 1) y).alloc _)) rfl ⟨rfl, (hB.trans (putBm_below _ _ 2 (c / 8 * 2 + 1) y (Nat.le_refl _))).alloc (by simp; omega) _⟩
  · have e0 := picB_4 (y := 0) h
    rw [picB_4 h]
    go_enter Try.func23, Try.ntmps23
    go_wp2_with fail
    refine (fetch_any c _ h0 h1).mono ?_
    rw [e0]
    rintro e w2 ⟨rfl, hb⟩
    have hB : Below w.heap.size w w2 := ((Below.refl _ _).alloc (Nat.le_refl _) _).trans (hb.mono (by simp))
    have hP := hz.below hb (by simp)
    have d0 := hP.c0
    have d1 := hP.c1
    have d2 := hP.c2
    have g0 := hP.free 0
    have g1 := hP.free 1
    have g2 := hP.free 2
    have hlt := hP.lt
    clear hb hz e0
    go_wp2_with fail
    (try simp only [Exit.inBlock, Exit.then])
    exact bodyPost_ret (v := bmV 0 0 0) (results_bm rfl _ _ _ _ _ _ rfl ((putBm_bw hP 0 0 0).alloc _)) rfl ⟨rfl, (hB.trans (putBm_below _ _ 0 0 0 (Nat.le_refl _))).alloc (by simp; omega) _⟩

theorem border_any (f l c : Int) (w : World) (h0 : 0 ≤ c) : Calls Try.prog 24 #[.agg #[.int .i64 f, .int .i64 l, .int .i64 c]] w fun e w' => e = .returned (bmV (borB l c).1 (borB l c).2.1 (borB l c).2.2) ∧ Below w.heap.size w w' := by
  unfold borB
  by_cases h : c % 8 = 0
  · rw [if_pos h]
    go_enter Try.func24, Try.ntmps24
    go_wp2
    (try simp only [Exit.inBlock, Exit.then])
    refine bodyPost_ret (v := bmV 3 c l) ?_ rfl ⟨rfl, ((Below.refl _ _).alloc (Nat.le_refl _) _).alloc (by simp) _⟩
    simp [results, go_sem]
  · rw [if_neg h]
    go_enter Try.func24, Try.ntmps24
    go_wp2
    (try simp only [Exit.inBlock, Exit.then])
    refine bodyPost_ret (v := bmV 0 0 0) ?_ rfl ⟨rfl, ((Below.refl _ _).alloc (Nat.le_refl _) _).alloc (by simp) _⟩
    simp [results, go_sem]
end Go.Proofs.Ytlghfngomiiclaa
