/-  -/
import Derived.Test.YtofenjloieagaaaJ2
import Derived.Test.YtofenjloieagaaaZT9
namespace Go.Proofs.Ytofenjloieagaaa
open Go.RowKit
set_option linter.unusedSimpArgs false
set_option linter.unusedVariables false
set_option maxRecDepth 100000

theorem TW.free {w : World} {b : Nat} {x : Tc} (h : TW w b x) (i : Nat) : w.frozen? ⟨b, i, none⟩ = false := frozen_of_row w b i _ _ h
theorem TW.keep {w w' : World} {b : Nat} {x : Tc} (h : TW w b x) (hb : w'.heap[b]? = w.heap[b]?) : TW w' b x := hb.trans h
theorem TW.below {w w' : World} {b B : Nat} {x : Tc} (h : TW w b x) (hb : Below B w w') (hB : b < B) : TW w' b x := h.keep (hb.block _ hB)
theorem TW.more {w : World} {b : Nat} {x : Tc} (h : TW w b x) (o : Obj) : TW (w.alloc o) b x := h.below ((Below.refl w.heap.size _).alloc (Nat.le_refl _) _) h.lt
theorem TW.grown {w w' : World} {n g : Nat} {x : Tc} (h : TW w n x) (hg : w.grownBy w' (some g)) (hn : n ≠ g) : TW w' n x :=
  h.keep (hg.block n h.lt (fun e => by have := Option.some.inj e; omega))
theorem TW.put0 {w : World} {n : Nat} {x : Tc} (h : TW w n x) (v : Int) : TW (w.setCell ⟨n, 0, none⟩ (.int .i64 v)) n { x with time := v } := by
  unfold TW at *; rw [heap_setCell_same w n 0 _ _ _ h]; rfl
theorem TW.put1 {w : World} {n : Nat} {x : Tc} (h : TW w n x) (v : Int) : TW (w.setCell ⟨n, 1, none⟩ (.int .i64 v)) n { x with what := v } := by
  unfold TW at *; rw [heap_setCell_same w n 1 _ _ _ h]; rfl
theorem TW.put2 {w : World} {n : Nat} {x : Tc} (h : TW w n x) (v : Int) : TW (w.setCell ⟨n, 2, none⟩ (.int .i64 v)) n { x with key := v } := by
  unfold TW at *; rw [heap_setCell_same w n 2 _ _ _ h]; rfl
theorem TW.put3 {w : World} {n : Nat} {x : Tc} (h : TW w n x) (v : Bool) : TW (w.setCell ⟨n, 3, none⟩ (.bool v)) n { x with on := v } := by
  unfold TW at *; rw [heap_setCell_same w n 3 _ _ _ h]; rfl
theorem TW.other {w : World} {n m i : Nat} {x : Tc} (h : TW w n x) (hn : n ≠ m) (u : Value) : TW (w.setCell ⟨m, i, none⟩ u) n x := by
  unfold TW at *; rw [heap_setCell_other w ⟨m, i, none⟩ n u (fun e => hn (by first | exact e | exact e.symm))]; exact h
theorem Rdr.apart {w : World} {g : Nat} {A : Option Addr} {c : Nat} {l : List Int} {p : Nat} {e : Int} (h : Rdr w g A c l p e) {n i : Nat} (hn : g < n) (u : Value) : Rdr (w.setCell ⟨n, i, none⟩ u) g A c l p e :=
  h.below (B := n) ((Below.refl n w).setCell (p := ⟨n, i, none⟩) (Nat.le_refl _) u) hn

theorem grown_put {w w' : World} {row : Option Nat} (h : w.grownBy w' row) {b i : Nat} (hb : w.heap.size ≤ b) (u : Value) : w.grownBy (w'.setCell ⟨b, i, none⟩ u) row :=
  ⟨h.os, h.tape, h.output, by simpa using h.size, fun k hk hne => (heap_setCell_other w' ⟨b, i, none⟩ k u (fun e => by simp at e; omega)).trans (h.block k hk hne)⟩

theorem results_cell1 {fn : Func} {p : Tmp} {ty : TypeId} (h : fn.results = #[.cell p ty]) (tmps : Array Value) (P : Program) (w : World) :
    (results fn tmps).run P w = ((asAddr (tmps.getD p undef)).run P w).andThen fun a w₁ => (loadVar ty a).run P w₁ := by
  simp only [results, h]
  simp [Sem.run_bind, Result.andThen]
theorem results_tc1 {fn : Func} {p : Tmp} (h : fn.results = #[.cell p 45]) (tmps : Array Value) (w : World) (b : Nat) (x : Tc) (hp : tmps.getD p undef = .pointer (some ⟨b, 0, none⟩)) (hS : TW w b x) :
    (results fn tmps).run Try.prog w = .ok x.val w := by
  obtain ⟨c0, c1, c2, c3⟩ := hS.tb
  rw [results_cell1 h, hp]
  unfold Tc.val
  go_simp

/-- The numbers of a touch as they are read, the place and the error behind them. -/
def tch1 (L : List Int) (p : Nat) (e : Int) : Nat × Nat × Int := numSt L p e
def tch2 (L : List Int) (p : Nat) (e : Int) : Nat × Nat × Int := countSt L (tch1 L p e).2.1 (tch1 L p e).2.2 2
def tch3 (L : List Int) (p : Nat) (e : Int) : Nat × Nat × Int := countSt L (tch2 L p e).2.1 (tch2 L p e).2.2 39
def tch4 (L : List Int) (p : Nat) (e : Int) : Nat × Nat × Int := countSt L (tch3 L p e).2.1 (tch3 L p e).2.2 1
def tchX (L : List Int) (p : Nat) (e : Int) : Tc := ⟨wrap64 ((tch1 L p e).1 : Int), (tch2 L p e).1, (tch3 L p e).1, ((tch4 L p e).1 : Int) == 1⟩

set_option maxHeartbeats 4000000 in
theorem touch_any (w : World) (g : Nat) (A : Option Addr) (c : Nat) (L : List Int) (p : Nat) (e : Int) (h : Rdr w g A c L p e) :
    Calls Try.prog 35 #[.pointer (some ⟨g, 0, none⟩)] w (Read w g A c L (tch4 L p e).2.1 (tch4 L p e).2.2 (tchX L p e).val) := by
  obtain ⟨w0, hw0⟩ : ∃ w0, w0 = (w.alloc (tcO tcZ)).alloc (tcO tcZ) := ⟨_, rfl⟩
  have hg := h.lt
  have hs0 : w0.heap.size = w.heap.size + 2 := by rw [hw0]; simp
  have hB0 : Below w.heap.size w w0 := by rw [hw0]; exact ((Below.refl _ w).alloc (Nat.le_refl _) _).alloc (by simp) _
  have hR0 : TW w0 w.heap.size tcZ := by rw [hw0]; exact (TW.laid w tcZ).more _
  have hX0 : TW w0 (w.heap.size + 1) tcZ := by
    have := TW.laid (w.alloc (tcO tcZ)) tcZ
    rw [World.size_alloc] at this
    rw [hw0]; exact this
  have hrd := h.below hB0 hg
  have HW := Lib.hid hw0
  have HG0 := Lib.hid (grown_below hB0 (some g))
  have H1 := Lib.hid (rnumber_any g A c L p e w0 hrd)
  have H2 := Lib.hid (fun w1 h1 => rcount_any g A c L (tch1 L p e).2.1 (tch1 L p e).2.2 2 w1 h1 (by omega))
  have H3 := Lib.hid (fun w1 h1 => rcount_any g A c L (tch2 L p e).2.1 (tch2 L p e).2.2 39 w1 h1 (by omega))
  have H4 := Lib.hid (fun w1 h1 => rcount_any g A c L (tch3 L p e).2.1 (tch3 L p e).2.2 1 w1 h1 (by omega))
  have HR0 := Lib.hid hR0
  have HX0 := Lib.hid hX0
  have h1e : numSt L p e = tch1 L p e := rfl
  have h2e : countSt L (tch1 L p e).2.1 (tch1 L p e).2.2 2 = tch2 L p e := rfl
  have h3e : countSt L (tch2 L p e).2.1 (tch2 L p e).2.2 39 = tch3 L p e := rfl
  have h4e : countSt L (tch3 L p e).2.1 (tch3 L p e).2.2 1 = tch4 L p e := rfl
  rw [h1e] at H1
  rw [h2e] at H2
  rw [h3e] at H3
  rw [h4e] at H4
  have HV := Lib.hid (show tchX L p e = ⟨wrap64 ((tch1 L p e).1 : Int), (tch2 L p e).1, (tch3 L p e).1, ((tch4 L p e).1 : Int) == 1⟩ from rfl)
  clear h1e h2e h3e h4e h hw0 hR0 hX0 hB0 hrd
  generalize tch1 L p e = r1 at *
  generalize tch2 L p e = r2 at *
  generalize tch3 L p e = r3 at *
  generalize tch4 L p e = r4 at *
  generalize tchX L p e = X at *
  obtain ⟨v1, p1, e1⟩ := r1
  obtain ⟨v2, p2, e2⟩ := r2
  obtain ⟨v3, p3, e3⟩ := r3
  obtain ⟨v4, p4, e4⟩ := r4
  simp only at *
  go_enter Try.func35, Try.ntmps35
  go_wp2_with fail
  rw [← HW.out]
  refine H1.out.mono ?_
  rintro _ w1 ⟨rfl, hr, hg⟩
  have hs1 := hg.size
  have HR1 := Lib.hid (HR0.out.grown hg (by omega))
  have hX := HX0.out.grown hg (by omega)
  have HG1 := Lib.hid (grown_trans HG0.out hg)
  have HX1 := Lib.hid hX
  have HD1 := Lib.hid hr
  obtain ⟨c0, c1, c2, c3⟩ := hX.tb
  have f0 := hX.free 0
  clear hr hg hX H1 HR0 HX0 HG0
  go_wp2_with fail
  have HX2 := Lib.hid (HX1.out.put0 (wrap64 (v1 : Int)))
  have HR2 := Lib.hid (HR1.out.other (i := 0) (show w.heap.size ≠ w.heap.size + 1 by omega) (.int .i64 (wrap64 (v1 : Int))))
  have HD2 := Lib.hid (HD1.out.apart (i := 0) (show g < w.heap.size + 1 by omega) (.int .i64 (wrap64 (v1 : Int))))
  have HG2 := Lib.hid (grown_put (i := 0) HG1.out (show w.heap.size ≤ w.heap.size + 1 by omega) (.int .i64 (wrap64 (v1 : Int))))
  have hsz2 : (w1.setCell ⟨w.heap.size + 1, 0, none⟩ (.int .i64 (wrap64 (v1 : Int)))).heap.size = w1.heap.size := by simp
  clear c0 c1 c2 c3 f0 HD1
  generalize w1.setCell ⟨w.heap.size + 1, 0, none⟩ (.int .i64 (wrap64 (v1 : Int))) = w2 at *
  refine (H2.out w2 HD2.out).mono ?_
  rintro _ w3 ⟨rfl, hr, hg⟩
  have hs3 := hg.size
  have HR3 := Lib.hid (HR2.out.grown hg (by omega))
  have hX := HX2.out.grown hg (by omega)
  have HG3 := Lib.hid (grown_trans HG2.out hg)
  have HX3 := Lib.hid hX
  have HD3 := Lib.hid hr
  obtain ⟨c0, c1, c2, c3⟩ := hX.tb
  have f1 := hX.free 1
  clear hr hg hX H2 HR2 HX2 HG2
  go_wp2_with fail
  have HX4 := Lib.hid (HX3.out.put1 (v2 : Int))
  have HR4 := Lib.hid (HR3.out.other (i := 1) (show w.heap.size ≠ w.heap.size + 1 by omega) (.int .i64 (v2 : Int)))
  have HD4 := Lib.hid (HD3.out.apart (i := 1) (show g < w.heap.size + 1 by omega) (.int .i64 (v2 : Int)))
  have HG4 := Lib.hid (grown_put (i := 1) HG3.out (show w.heap.size ≤ w.heap.size + 1 by omega) (.int .i64 (v2 : Int)))
  have hsz4 : (w3.setCell ⟨w.heap.size + 1, 1, none⟩ (.int .i64 (v2 : Int))).heap.size = w3.heap.size := by simp
  clear c0 c1 c2 c3 f1 HD3
  generalize w3.setCell ⟨w.heap.size + 1, 1, none⟩ (.int .i64 (v2 : Int)) = w4 at *
  refine (H3.out w4 HD4.out).mono ?_
  rintro _ w5 ⟨rfl, hr, hg⟩
  have hs5 := hg.size
  have HR5 := Lib.hid (HR4.out.grown hg (by omega))
  have hX := HX4.out.grown hg (by omega)
  have HG5 := Lib.hid (grown_trans HG4.out hg)
  have HX5 := Lib.hid hX
  have HD5 := Lib.hid hr
  obtain ⟨c0, c1, c2, c3⟩ := hX.tb
  have f2 := hX.free 2
  clear hr hg hX H3 HR4 HX4 HG4
  go_wp2_with fail
  have HX6 := Lib.hid (HX5.out.put2 (v3 : Int))
  have HR6 := Lib.hid (HR5.out.other (i := 2) (show w.heap.size ≠ w.heap.size + 1 by omega) (.int .i64 (v3 : Int)))
  have HD6 := Lib.hid (HD5.out.apart (i := 2) (show g < w.heap.size + 1 by omega) (.int .i64 (v3 : Int)))
  have HG6 := Lib.hid (grown_put (i := 2) HG5.out (show w.heap.size ≤ w.heap.size + 1 by omega) (.int .i64 (v3 : Int)))
  have hsz6 : (w5.setCell ⟨w.heap.size + 1, 2, none⟩ (.int .i64 (v3 : Int))).heap.size = w5.heap.size := by simp
  clear c0 c1 c2 c3 f2 HD5
  generalize w5.setCell ⟨w.heap.size + 1, 2, none⟩ (.int .i64 (v3 : Int)) = w6 at *
  refine (H4.out w6 HD6.out).mono ?_
  rintro _ w7 ⟨rfl, hr, hg⟩
  have hs7 := hg.size
  have HR7 := Lib.hid (HR6.out.grown hg (by omega))
  have hX := HX6.out.grown hg (by omega)
  have HG7 := Lib.hid (grown_trans HG6.out hg)
  have HX7 := Lib.hid hX
  have HD7 := Lib.hid hr
  obtain ⟨c0, c1, c2, c3⟩ := hX.tb
  have f3 := hX.free 3
  clear hr hg hX H4 HR6 HX6 HG6
  obtain ⟨d0, d1, d2, d3⟩ := HR7.out.tb
  have q0 := HR7.out.free 0
  have q1 := HR7.out.free 1
  have q2 := HR7.out.free 2
  have q3 := HR7.out.free 3
  go_wp2_with fail
  (try simp only [Exit.inBlock, Exit.then])
  have HRF := ((((HR7.out.other (i := 3) (show w.heap.size ≠ w.heap.size + 1 by omega) (.bool ((v4 : Int) == 1))).put0 (wrap64 (v1 : Int))).put1 (v2 : Int)).put2 (v3 : Int)).put3 ((v4 : Int) == 1)
  refine bodyPost_ret (v := X.val) (results_tc1 rfl _ _ w.heap.size X rfl ?_) rfl ⟨rfl, ?_, ?_⟩
  · rw [HV.out]
    exact HRF
  · exact ((((HD7.out.apart (show g < w.heap.size + 1 by omega) _).apart hg _).apart hg _).apart hg _).apart hg _
  · exact grown_put (grown_put (grown_put (grown_put (grown_put HG7.out (Nat.le_succ _) _) (Nat.le_refl _) _) (Nat.le_refl _) _) (Nat.le_refl _) _) (Nat.le_refl _) _
end Go.Proofs.Ytofenjloieagaaa
