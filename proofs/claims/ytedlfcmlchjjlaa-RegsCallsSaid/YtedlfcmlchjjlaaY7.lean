
/- Registers, the code: modulo, where things are, pairs by method values. -/
import Derived.Test.YtedlfcmlchjjlaaY4
import Derived.Test.YtedlfcmlchjjlaaW2
import Derived.Test.YtedlfcmlchjjlaaQ3
import Derived.BigRegion
namespace Go.Proofs.Ytedlfcmlchjjlaa
open Go.RowKit
set_option linter.unusedSimpArgs false
set_option linter.unusedVariables false
set_option maxRecDepth 100000

theorem c8_mod_3 (n : Int) (w : World) (hn : (Lit.int .i64 n).wf = true) : Calls Try.prog 56 #[.int .i64 n, .int .i64 3] w fun e w' => e = .returned (.int .i64 (n % 3)) ∧ w = w' := by
  have hb := bounds_i64 hn
  by_cases h : 0 ≤ n
  · go_enter Try.func56, Try.ntmps56
    go_wp2
    go_ret
    exact ⟨rfl, rfl⟩
  · obtain ⟨h1, h2, h3⟩ : -3 < n.tmod 3 ∧ n.tmod 3 ≤ 0 ∧ (if n.tmod 3 < 0 then n.tmod 3 + 3 else n.tmod 3) = n % 3 := by
      have e : n.tmod 3 = -((-n) % 3) := by rw [← Int.tmod_eq_emod_of_nonneg (by omega : 0 ≤ -n), Int.neg_tmod, Int.neg_neg]
      refine ⟨?_, ?_, ?_⟩ <;> (try split) <;> omega
    by_cases h4 : n.tmod 3 < 0
    · rw [if_pos h4] at h3
      have H3 := Lib.hid h3
      clear h3
      go_enter Try.func56, Try.ntmps56
      go_wp2
      go_ret
      exact ⟨a5_ret64 H3.out, rfl⟩
    · rw [if_neg h4] at h3
      have H3 := Lib.hid h3
      clear h3
      go_enter Try.func56, Try.ntmps56
      go_wp2
      go_ret
      exact ⟨a5_ret64 H3.out, rfl⟩

theorem c8_mod_4 (n : Int) (w : World) (hn : (Lit.int .i64 n).wf = true) : Calls Try.prog 56 #[.int .i64 n, .int .i64 4] w fun e w' => e = .returned (.int .i64 (n % 4)) ∧ w = w' := by
  have hb := bounds_i64 hn
  by_cases h : 0 ≤ n
  · go_enter Try.func56, Try.ntmps56
    go_wp2
    go_ret
    exact ⟨rfl, rfl⟩
  · obtain ⟨h1, h2, h3⟩ : -4 < n.tmod 4 ∧ n.tmod 4 ≤ 0 ∧ (if n.tmod 4 < 0 then n.tmod 4 + 4 else n.tmod 4) = n % 4 := by
      have e : n.tmod 4 = -((-n) % 4) := by rw [← Int.tmod_eq_emod_of_nonneg (by omega : 0 ≤ -n), Int.neg_tmod, Int.neg_neg]
      refine ⟨?_, ?_, ?_⟩ <;> (try split) <;> omega
    by_cases h4 : n.tmod 4 < 0
    · rw [if_pos h4] at h3
      have H3 := Lib.hid h3
      clear h3
      go_enter Try.func56, Try.ntmps56
      go_wp2
      go_ret
      exact ⟨a5_ret64 H3.out, rfl⟩
    · rw [if_neg h4] at h3
      have H3 := Lib.hid h3
      clear h3
      go_enter Try.func56, Try.ntmps56
      go_wp2
      go_ret
      exact ⟨a5_ret64 H3.out, rfl⟩

theorem c8_mod_8 (n : Int) (w : World) (hn : (Lit.int .i64 n).wf = true) : Calls Try.prog 56 #[.int .i64 n, .int .i64 8] w fun e w' => e = .returned (.int .i64 (n % 8)) ∧ w = w' := by
  have hb := bounds_i64 hn
  by_cases h : 0 ≤ n
  · go_enter Try.func56, Try.ntmps56
    go_wp2
    go_ret
    exact ⟨rfl, rfl⟩
  · obtain ⟨h1, h2, h3⟩ : -8 < n.tmod 8 ∧ n.tmod 8 ≤ 0 ∧ (if n.tmod 8 < 0 then n.tmod 8 + 8 else n.tmod 8) = n % 8 := by
      have e : n.tmod 8 = -((-n) % 8) := by rw [← Int.tmod_eq_emod_of_nonneg (by omega : 0 ≤ -n), Int.neg_tmod, Int.neg_neg]
      refine ⟨?_, ?_, ?_⟩ <;> (try split) <;> omega
    by_cases h4 : n.tmod 8 < 0
    · rw [if_pos h4] at h3
      have H3 := Lib.hid h3
      clear h3
      go_enter Try.func56, Try.ntmps56
      go_wp2
      go_ret
      exact ⟨a5_ret64 H3.out, rfl⟩
    · rw [if_neg h4] at h3
      have H3 := Lib.hid h3
      clear h3
      go_enter Try.func56, Try.ntmps56
      go_wp2
      go_ret
      exact ⟨a5_ret64 H3.out, rfl⟩

/-- A pair of two bytes. -/
abbrev cpR (b i j : Nat) : Value := .agg #[.pointer (some ⟨b, i, none⟩), .pointer (some ⟨b, j, none⟩)]
abbrev cpV (b i j : Nat) : Value := .agg #[.func (.func 79) #[cpR b i j] #[], .func (.func 80) #[cpR b i j] #[]]
/-- A pair that is a word. -/
abbrev wdR (b i : Nat) : Value := .agg #[.pointer (some ⟨b, i, none⟩)]
abbrev wdV (b i : Nat) : Value := .agg #[.func (.func 81) #[wdR b i] #[], .func (.func 82) #[wdR b i] #[]]

abbrev pairO : Obj := .cells #[.nilFunc, .nilFunc] 88
theorem pair_laid (w : World) (o : Obj) : ((w.alloc pairO).alloc o).heap[w.heap.size]? = some pairO := by
  rw [((Below.refl (w.alloc pairO).heap.size _).alloc (Nat.le_refl _) o).block _ (by simp)]; exact heap_alloc_new _ _
theorem pair_info : (Try.prog.info? 88).map (·.size) = some 2 := by kernel_rfl
theorem results_pair {fn : Func} {p : Tmp} (h : fn.results = #[.cell p 88]) (tmps : Array Value) (w : World) (b : Nat) (x y : Value) (hp : tmps.getD p undef = .pointer (some ⟨b, 0, none⟩)) (hR : w.heap[b]? = some (.cells #[x, y] 88 (0, 0))) :
    (results fn tmps).run Try.prog w = .ok (.agg #[x, y]) w := results_cell_row h tmps w b _ _ (0, 0) _ hp hR Try.underlying88 rfl pair_info
theorem pair_b (w : World) (o : Obj) (cs : Array Value) : Below w.heap.size w (((w.alloc pairO).alloc o).setRow w.heap.size cs) := below_setRow (((Below.refl _ _).alloc (Nat.le_refl _) _).alloc (by simp) _) (Nat.le_refl _) _

theorem c8_ofbytes (b i j : Nat) (w : World) : Calls Try.prog 60 #[.pointer (some ⟨b, i, none⟩), .pointer (some ⟨b, j, none⟩)] w fun e w' => e = .returned (cpV b i j) ∧ Below w.heap.size w w' := by
  have HZ := Lib.hid (fun o => pair_laid w o)
  go_enter Try.func60, Try.ntmps60
  go_wp2_with (refine wpList_store_row rfl 88 _ _ rfl w.heap.size _ rfl rfl _ _ (HZ.out _) pair_info rfl (by rw [List.all_toArray]; rfl) ?_)
  (try simp only [Exit.inBlock, Exit.then])
  exact bodyPost_ret (results_pair rfl _ _ _ _ _ rfl (setRow_heap _ _ _ _ _ _ (HZ.out _))) rfl ⟨rfl, pair_b w _ _⟩
theorem c8_ofword (b i : Nat) (w : World) : Calls Try.prog 61 #[.pointer (some ⟨b, i, none⟩)] w fun e w' => e = .returned (wdV b i) ∧ Below w.heap.size w w' := by
  have HZ := Lib.hid (fun o => pair_laid w o)
  go_enter Try.func61, Try.ntmps61
  go_wp2_with (refine wpList_store_row rfl 88 _ _ rfl w.heap.size _ rfl rfl _ _ (HZ.out _) pair_info rfl (by rw [List.all_toArray]; rfl) ?_)
  (try simp only [Exit.inBlock, Exit.then])
  exact bodyPost_ret (results_pair rfl _ _ _ _ _ rfl (setRow_heap _ _ _ _ _ _ (HZ.out _))) rfl ⟨rfl, pair_b w _ _⟩

/-- A block that holds registers, by its cells. -/
def RowW (w : World) (b : Nat) (cs : Array Value) : Prop := w.heap[b]? = some (.cells cs 24 (0, 0))
theorem RowW.lt {w : World} {b : Nat} {cs : Array Value} (h : RowW w b cs) : b < w.heap.size := (Array.getElem?_eq_some_iff.1 h).1
theorem RowW.below {w w' : World} {b B : Nat} {cs : Array Value} (h : RowW w b cs) (hb : Below B w w') (hB : b < B) : RowW w' b cs := (hb.block _ hB).trans h
theorem RowW.at_ {w : World} {b : Nat} {cs : Array Value} (h : RowW w b cs) (i : Nat) (v : Value) (hv : cs[i]? = some v) : w.cell? ⟨b, i, none⟩ = some v := by rw [cell_of_row _ _ _ _ _ _ h]; exact hv
theorem RowW.free {w : World} {b : Nat} {cs : Array Value} (h : RowW w b cs) (i : Nat) : w.frozen? ⟨b, i, none⟩ = false := frozen_of_row w b i _ _ h
theorem RowW.set {w : World} {b : Nat} {cs : Array Value} (h : RowW w b cs) (i : Nat) (v : Value) : RowW (w.setCell ⟨b, i, none⟩ v) b (cs.setIfInBounds i v) := by
  unfold RowW at *; rw [heap_setCell_same w b i _ _ _ h]
theorem below_save {w w' : World} {B : Nat} (h : Below B w w') (hB : w.heap.size ≤ B) (S : Nat → Prop) : Save S w w' := ⟨h.os, h.tape, h.output, h.size, fun k hk _ => h.block k (by omega)⟩
theorem save_cell {w w1 : World} {S : Nat → Prop} (h : Save S w w1) (b i : Nat) (v : Value) (hS : S b) : Save S w (w1.setCell ⟨b, i, none⟩ v) := by
  have hb := (Below.refl b w1).setCell (p := ⟨b, i, none⟩) (Nat.le_refl _) v
  refine h.trans ⟨hb.os, hb.tape, hb.output, hb.size, fun k hk hn => ?_⟩
  exact heap_setCell_other _ _ _ _ (fun e => hn (e ▸ hS))

theorem c8_wget (b i : Nat) (cs : Array Value) (x : Int) (w : World) (hR : RowW w b cs) (hx : cs[i]? = some (.int .u16 x)) : Calls Try.prog 81 #[wdR b i] w fun e w' => e = .returned (.int .u16 x) ∧ Below w.heap.size w w' := by
  have hc := ((hR.below ((Below.refl w.heap.size w).alloc (Nat.le_refl _) (.cells #[.pointer (some ⟨b, i, none⟩)] 118)) hR.lt)).at_ i _ hx
  go_enter Try.func81, Try.ntmps81
  go_wp2_with fail
  go_ret
  exact ⟨rfl, (Below.refl _ _).alloc (Nat.le_refl _) _⟩
theorem c8_wput (b i : Nat) (cs : Array Value) (x v : Int) (w : World) (hR : RowW w b cs) (hx : cs[i]? = some (.int .u16 x)) : Calls Try.prog 82 #[wdR b i, .int .u16 v] w fun e w' => (∃ u, e = .returned u) ∧ RowW w' b (cs.setIfInBounds i (.int .u16 v)) ∧ Save (· = b) w w' := by
  have hB := (Below.refl w.heap.size w).alloc (Nat.le_refl _) (.cells #[.pointer (some ⟨b, i, none⟩)] 118)
  have hR1 := hR.below hB hR.lt
  have hc := hR1.at_ i _ hx
  have hf := hR1.free i
  have HR := Lib.hid (hR1.set i (.int .u16 v))
  have HS := Lib.hid (save_cell (below_save hB (Nat.le_refl _) (· = b)) b i (.int .u16 v) rfl)
  clear hR1 hB hR
  go_enter Try.func82, Try.ntmps82
  go_wp2_with fail
  go_end0
  exact ⟨⟨_, rfl⟩, HR.out, HS.out⟩
theorem c8_cget (b i j : Nat) (cs : Array Value) (x y : Int) (w : World) (hR : RowW w b cs) (hx : cs[i]? = some (.int .u8 x)) (hy : cs[j]? = some (.int .u8 y)) (x0 : 0 ≤ x) (x1 : x < 256) (y0 : 0 ≤ y) (y1 : y < 256) :
    Calls Try.prog 79 #[cpR b i j] w fun e w' => e = .returned (.int .u16 (x * 256 + y)) ∧ Below w.heap.size w w' := by
  have hB := (Below.refl w.heap.size w).alloc (Nat.le_refl _) (.cells #[.pointer (some ⟨b, i, none⟩), .pointer (some ⟨b, j, none⟩)] 116)
  have hR1 := hR.below hB hR.lt
  obtain ⟨w1, hw1⟩ : ∃ w1, w.alloc (.cells #[.pointer (some ⟨b, i, none⟩), .pointer (some ⟨b, j, none⟩)] 116) = w1 := ⟨_, rfl⟩
  have hBox : ∀ k v, #[.pointer (some ⟨b, i, none⟩), .pointer (some ⟨b, j, none⟩)][k]? = some v → w1.cell? ⟨w.heap.size, k, none⟩ = some v := fun k v hv => by rw [← hw1, cell_of_row _ _ _ _ _ _ (heap_alloc_new w _)]; exact hv
  have hlt : w.heap.size < w1.heap.size := by rw [← hw1]; simp
  rw [hw1] at hB hR1
  have hp := fun p : Later (fun _ => False) w1 => (p.ok.below (B := w1.heap.size) (Nat.le_refl _) (fun _ h => h.elim))
  have hc := fun p => (hR1.below (hp p) hR1.lt).at_ i _ hx
  have hd := fun p => (hR1.below (hp p) hR1.lt).at_ j _ hy
  have p0 := fun p => ((hp p).cell (p := ⟨w.heap.size, 0, none⟩) hlt).trans (hBox 0 _ rfl)
  have p1 := fun p => ((hp p).cell (p := ⟨w.heap.size, 1, none⟩) hlt).trans (hBox 1 _ rfl)
  have HB := Lib.hid hB
  have HP := Lib.hid hp
  clear hB hR hR1 hBox hp
  go_enter Try.func79, Try.ntmps79
  go_upto_region 1 with fail
  refine region_ (fun _ => False) (by kernel_rfl) ?_
  refine seg_ [0, 1, 2, 3, 4, 5, 6, 7] 2 _ (by kernel_rfl) (by kernel_rfl) (by kernel_rfl) (by simp only [pickOps, mask, plain, List.getElem?_toArray, List.getElem?_cons_zero, List.getElem?_cons_succ, if_true]; rfl) ?_
  repeat (go_big_quiet_step (fail))
  refine wpQuiet_nil ?_
  clear p0 p1 hc hd
  refine calm_ (i := 8) (.int .u16 (x * 256 + y)) rfl (by kernel_rfl) (by kernel_rfl) (by kernel_rfl) (by kernel_rfl) ?_ ?_
  · intro wz sz
    unfold Oper.does
    go_simp
    refine (w7_pair x y _ x0 x1 y0 y1).mono ?_
    rintro e w' ⟨rfl, rfl⟩
    exact ⟨_, rfl, rfl, ⟨wz.drawn, rfl⟩⟩
  go_simp
  refine seg_ [9] 0 _ (by kernel_rfl) (by kernel_rfl) (by kernel_rfl) (by simp only [pickOps, mask, plain, List.getElem?_toArray, List.getElem?_cons_zero, List.getElem?_cons_succ, if_true]; rfl) ?_
  repeat (go_big_quiet_step (fail))
  refine wpQuiet_nil ?_
  refine end_ (by kernel_rfl) ?_
  intro wc sc
  go_wp2
  go_ret
  exact ⟨rfl, HB.out.trans ((HP.out ⟨wc, sc⟩).mono HB.out.size)⟩
theorem c8_cput (b i j : Nat) (cs : Array Value) (x y v : Int) (w : World) (hR : RowW w b cs) (hij : i ≠ j) (hx : cs[i]? = some (.int .u8 x)) (hy : cs[j]? = some (.int .u8 y)) (v0 : 0 ≤ v) (v1 : v < 65536) :
    Calls Try.prog 80 #[cpR b i j, .int .u16 v] w fun e w' => (∃ u, e = .returned u) ∧ RowW w' b ((cs.setIfInBounds i (.int .u8 (v / 256))).setIfInBounds j (.int .u8 (v % 256))) ∧ Save (· = b) w w' := by
  have hB := (Below.refl w.heap.size w).alloc (Nat.le_refl _) (.cells #[.pointer (some ⟨b, i, none⟩), .pointer (some ⟨b, j, none⟩)] 116)
  have hR1 := hR.below hB hR.lt
  have hc := hR1.at_ i _ hx
  have hd := hR1.at_ j _ hy
  have fc := hR1.free i
  have fd := hR1.free j
  obtain ⟨w1, hw1⟩ : ∃ w1, w.alloc (.cells #[.pointer (some ⟨b, i, none⟩), .pointer (some ⟨b, j, none⟩)] 116) = w1 := ⟨_, rfl⟩
  have hBox : ∀ k v, #[.pointer (some ⟨b, i, none⟩), .pointer (some ⟨b, j, none⟩)][k]? = some v → w1.cell? ⟨w.heap.size, k, none⟩ = some v := fun k v hv => by rw [← hw1, cell_of_row _ _ _ _ _ _ (heap_alloc_new w _)]; exact hv
  have hlt : w.heap.size < w1.heap.size := by rw [← hw1]; simp
  have hbw := hR.lt
  rw [hw1] at hB hR1 hc hd fc fd
  obtain ⟨S, hS⟩ : ∃ S : Nat → Prop, ∀ k, S k ↔ k = b := ⟨(· = b), fun _ => Iff.rfl⟩
  have p0 := fun p : Later S w1 => show p.w.cell? ⟨w.heap.size, 0, none⟩ = some (.pointer (some ⟨b, i, none⟩)) by
    have h := p.ok.block w.heap.size hlt (fun h => by have := (hS _).1 h; omega)
    unfold World.cell?; rw [h]; exact hBox 0 _ rfl
  have p1 := fun p : Later S w1 => show p.w.cell? ⟨w.heap.size, 1, none⟩ = some (.pointer (some ⟨b, j, none⟩)) by
    have h := p.ok.block w.heap.size hlt (fun h => by have := (hS _).1 h; omega)
    unfold World.cell?; rw [h]; exact hBox 1 _ rfl
  have HB := Lib.hid (below_save hB (Nat.le_refl _) S)
  have HR := Lib.hid hR1
  have HS := Lib.hid hS
  clear hB hR hR1 hBox hS
  go_enter Try.func80, Try.ntmps80
  go_upto_region 1 with fail
  refine region_ S (by kernel_rfl) ?_
  refine seg_ [0, 1, 2, 3, 4] 8 _ (by kernel_rfl) (by kernel_rfl) (by kernel_rfl) (by simp only [pickOps, mask, plain, List.getElem?_toArray, List.getElem?_cons_zero, List.getElem?_cons_succ, if_true]; rfl) ?_
  repeat (go_big_quiet_step (fail))
  refine wpQuiet_nil ?_
  refine calm_ (i := 5) (.tuple #[.int .u8 (v / 256), .int .u8 (v % 256)]) rfl (by kernel_rfl) (by kernel_rfl) (by kernel_rfl) (by kernel_rfl) ?_ ?_
  · intro wz sz
    unfold Oper.does
    go_simp
    refine (w7_split _ _ v0 v1).mono ?_
    rintro e w' ⟨rfl, rfl⟩
    exact ⟨_, rfl, rfl, ⟨wz.drawn, rfl⟩⟩
  go_simp
  refine seg_ [6, 7, 8, 9] 3 _ (by kernel_rfl) (by kernel_rfl) (by kernel_rfl) (by simp only [pickOps, mask, plain, List.getElem?_toArray, List.getElem?_cons_zero, List.getElem?_cons_succ, if_true]; rfl) ?_
  repeat (go_big_quiet_step (fail))
  refine wpQuiet_nil ?_
  clear p0 p1 hc hd fc fd
  refine callx_ (i := 10) rfl (by kernel_rfl) (by kernel_rfl) ?_
  intro nn
  have hV := Save.drawn S w1 nn
  have hR2 : RowW { w1 with drawn := nn } b cs := HR.out
  generalize hw2 : ({ w1 with drawn := nn } : World) = w2 at *
  clear hw2
  have hc := hR2.at_ i _ hx
  have fc := hR2.free i
  unfold Oper.does
  go_simp
  clear hc fc
  have hR3 := hR2.set i (.int .u8 (v / 256))
  have hS3 := save_cell (Save.refl S w2) b i (.int .u8 (v / 256)) ((HS.out _).2 rfl)
  refine turn_ (S1 := S) hV hS3 (fun k hk h => h) ?_
  have hS4 := hV.trans hS3
  generalize hw3 : w2.setCell ⟨b, i, none⟩ (.int .u8 (v / 256)) = w3 at *
  clear hw3 hS3 hV hR2
  refine seg_ [11] 1 _ (by kernel_rfl) (by kernel_rfl) (by kernel_rfl) (by simp only [pickOps, mask, plain, List.getElem?_toArray, List.getElem?_cons_zero, List.getElem?_cons_succ, if_true]; rfl) ?_
  repeat (go_big_quiet_step (fail))
  refine wpQuiet_nil ?_
  refine callx_ (i := 12) rfl (by kernel_rfl) (by kernel_rfl) ?_
  intro nn2
  have hV := Save.drawn S w3 nn2
  have hR4 : RowW { w3 with drawn := nn2 } b (cs.setIfInBounds i (.int .u8 (v / 256))) := hR3
  generalize hw4 : ({ w3 with drawn := nn2 } : World) = w4 at *
  clear hw4
  have hc := hR4.at_ j _ (by rw [Array.getElem?_setIfInBounds_ne hij]; exact hy)
  have fc := hR4.free j
  unfold Oper.does
  go_simp
  clear hc fc
  have hR5 := hR4.set j (.int .u8 (v % 256))
  have hS5 := save_cell (Save.refl S w4) b j (.int .u8 (v % 256)) ((HS.out _).2 rfl)
  refine turn_ (S1 := fun _ => False) hV hS5 (fun k hk h => h.elim) ?_
  have hS6 := (hS4.trans hV).trans hS5
  generalize hw5 : w4.setCell ⟨b, j, none⟩ (.int .u8 (v % 256)) = w5 at *
  clear hw5 hS5 hV hS4
  refine end_ (by kernel_rfl) ?_
  intro wc sc
  go_wp2
  go_end0
  refine ⟨⟨_, rfl⟩, hR5.below (sc.below (B := w5.heap.size) (Nat.le_refl _) (fun _ h => h.elim)) hR5.lt, ?_⟩
  have := (HB.out.trans hS6).trans (⟨sc.os, sc.tape, sc.output, sc.size, fun k hk _ => sc.block k hk (fun h => h)⟩ : Save S w5 wc)
  exact ⟨this.os, this.tape, this.output, this.size, fun k hk h => this.block k hk (fun hs => h ((HS.out _).1 hs))⟩
end Go.Proofs.Ytedlfcmlchjjlaa
