
/- Cut. -/
import Derived.Test.YtileglkimbkkgaaK34
namespace Go.Proofs.Ytileglkimbkkgaa
open Go.RowKit Go.Shelf
set_option linter.unusedSimpArgs false
set_option linter.unusedVariables false

theorem coll_cut1 (W : World) (x : Ls) (t : Int) (Bc : Nat) (h : LsAt W W.heap.size x) (hN : x.l.length ≤ 1048576) (hc : W.cell? ⟨Bc, 0, none⟩ = some (.int .i64 t)) (hB : Bc < W.heap.size) :
    Calls Try.prog 51 #[.func (.func 77) #[] #[.pointer (some ⟨W.heap.size, 0, none⟩), .pointer (some ⟨W.heap.size + 1, 0, none⟩)]]
      ((W.alloc (boxL x)).alloc (.cells #[.func (.func 53) #[] #[.pointer (some ⟨Bc, 0, none⟩)]] 72)) (ListTo W (x.l.filter (aheadOf t))) := by
  have hb2 : Below W.heap.size W ((W.alloc (boxL x)).alloc (.cells #[.func (.func 53) #[] #[.pointer (some ⟨Bc, 0, none⟩)]] 72)) := ((Below.refl W.heap.size W).alloc (Nat.le_refl _) (boxL x)).alloc (by simp) _
  have h1 : ((W.alloc (boxL x)).alloc (.cells #[.func (.func 53) #[] #[.pointer (some ⟨Bc, 0, none⟩)]] 72)).cell? ⟨W.heap.size, 0, none⟩ = some x.val := by
    have h1 : (W.alloc (boxL x)).cell? ⟨W.heap.size, 0, none⟩ = some x.val := by rw [World.cell?_alloc_at _ _ _ _ rfl]; rfl
    exact (((Below.refl (W.alloc (boxL x)).heap.size _).alloc (Nat.le_refl _) _).cell (p := ⟨W.heap.size, 0, none⟩) (by simp)).trans h1
  have h2 : ((W.alloc (boxL x)).alloc (.cells #[.func (.func 53) #[] #[.pointer (some ⟨Bc, 0, none⟩)]] 72)).cell? ⟨W.heap.size + 1, 0, none⟩ = some (.func (.func 53) #[] #[.pointer (some ⟨Bc, 0, none⟩)]) := by
    have e : W.heap.size + 1 = (W.alloc (boxL x)).heap.size := by simp
    rw [e, World.cell?_alloc_at _ _ _ _ rfl]; rfl
  have h3 := (hb2.cell (p := ⟨Bc, 0, none⟩) hB).trans hc
  have hx := (h.keep hb2.block).more (show W.heap.size ≤ ((W.alloc (boxL x)).alloc (.cells #[.func (.func 53) #[] #[.pointer (some ⟨Bc, 0, none⟩)]] 72)).heap.size by simp; omega)
  refine (callsIn_wide.1 (collect_in 5 (by decide) 77 _ (enters_of Try.func77 (by kernel_rfl) rfl) _ x.l.length hN _
    (stops_cut1 4 (by decide) _ W.heap.size (W.heap.size + 1) Bc x t _ (Nat.le_refl _) hx (by simp; omega) (by simp) (by simp; omega) h1 h2 h3))).mono ?_
  rintro e w' ⟨v, ys, rfl, rfl, hr, _, hb⟩
  obtain ⟨y, rfl, hy, hl⟩ := row_to_ls hr
  exact ⟨y, rfl, hy, hl, hb2.trans (hb.mono (by simp; omega))⟩

theorem coll_cut2 (W : World) (x : Ls) (t : Int) (Bc : Nat) (h : LsAt W W.heap.size x) (hN : x.l.length ≤ 1048576) (hc : W.cell? ⟨Bc, 0, none⟩ = some (.int .i64 t)) (hB : Bc < W.heap.size) :
    Calls Try.prog 51 #[.func (.func 77) #[] #[.pointer (some ⟨W.heap.size, 0, none⟩), .pointer (some ⟨W.heap.size + 1, 0, none⟩)]]
      ((W.alloc (boxL x)).alloc (.cells #[.func (.func 54) #[] #[.pointer (some ⟨Bc, 0, none⟩)]] 72)) (ListTo W (x.l.filter (behindOf t))) := by
  have hb2 : Below W.heap.size W ((W.alloc (boxL x)).alloc (.cells #[.func (.func 54) #[] #[.pointer (some ⟨Bc, 0, none⟩)]] 72)) := ((Below.refl W.heap.size W).alloc (Nat.le_refl _) (boxL x)).alloc (by simp) _
  have h1 : ((W.alloc (boxL x)).alloc (.cells #[.func (.func 54) #[] #[.pointer (some ⟨Bc, 0, none⟩)]] 72)).cell? ⟨W.heap.size, 0, none⟩ = some x.val := by
    have h1 : (W.alloc (boxL x)).cell? ⟨W.heap.size, 0, none⟩ = some x.val := by rw [World.cell?_alloc_at _ _ _ _ rfl]; rfl
    exact (((Below.refl (W.alloc (boxL x)).heap.size _).alloc (Nat.le_refl _) _).cell (p := ⟨W.heap.size, 0, none⟩) (by simp)).trans h1
  have h2 : ((W.alloc (boxL x)).alloc (.cells #[.func (.func 54) #[] #[.pointer (some ⟨Bc, 0, none⟩)]] 72)).cell? ⟨W.heap.size + 1, 0, none⟩ = some (.func (.func 54) #[] #[.pointer (some ⟨Bc, 0, none⟩)]) := by
    have e : W.heap.size + 1 = (W.alloc (boxL x)).heap.size := by simp
    rw [e, World.cell?_alloc_at _ _ _ _ rfl]; rfl
  have h3 := (hb2.cell (p := ⟨Bc, 0, none⟩) hB).trans hc
  have hx := (h.keep hb2.block).more (show W.heap.size ≤ ((W.alloc (boxL x)).alloc (.cells #[.func (.func 54) #[] #[.pointer (some ⟨Bc, 0, none⟩)]] 72)).heap.size by simp; omega)
  refine (callsIn_wide.1 (collect_in 5 (by decide) 77 _ (enters_of Try.func77 (by kernel_rfl) rfl) _ x.l.length hN _
    (stops_cut2 4 (by decide) _ W.heap.size (W.heap.size + 1) Bc x t _ (Nat.le_refl _) hx (by simp; omega) (by simp) (by simp; omega) h1 h2 h3))).mono ?_
  rintro e w' ⟨v, ys, rfl, rfl, hr, _, hb⟩
  obtain ⟨y, rfl, hy, hl⟩ := row_to_ls hr
  exact ⟨y, rfl, hy, hl, hb2.trans (hb.mono (by simp; omega))⟩

def CutTo (w : World) (l : List Ev) (t : Int) (e : Ending) (w' : World) : Prop := ∃ y z : Ls, e = .returned (.tuple #[y.val, z.val]) ∧ y.l = l.filter (aheadOf t) ∧ z.l = l.filter (behindOf t) ∧ LsAt w' w'.heap.size y ∧ LsAt w' w'.heap.size z ∧ Below w.heap.size w w' ∧ (y.A = none → y.c = 0) ∧ (z.A = none → z.c = 0)

set_option maxRecDepth 100000 in
set_option maxHeartbeats 2000000 in
theorem cut_any (w : World) (x : Ls) (t : Int) (h : LsAt w w.heap.size x) (hN : x.l.length ≤ 1048576) :
    Calls Try.prog 21 #[x.val, .int .i64 t] w (CutTo w x.l t) := by
  have HT := Lib.hid (fun (W : World) (g : Nat) (lb : Array Value) => those_any W x g lb)
  have hb1 : Below w.heap.size w (w.alloc (.cells #[.int .i64 t] 2)) := (Below.refl _ _).alloc (Nat.le_refl _) _
  have hc1 : (w.alloc (.cells #[.int .i64 t] 2)).cell? ⟨w.heap.size, 0, none⟩ = some (.int .i64 t) := by rw [World.cell?_alloc_at _ _ _ _ rfl]; rfl
  have hx1 := (h.keep hb1.block).more hb1.size
  have h1 := coll_cut1 (w.alloc (.cells #[.int .i64 t] 2)) x t w.heap.size hx1 hN hc1 (by simp)
  rw [World.size_alloc] at h1
  have H1 := Lib.hid h1
  have HB1 := Lib.hid hb1
  have HC1 := Lib.hid hc1
  have HX := Lib.hid h
  clear h1 hb1 hc1 hx1 h
  unfold Ls.val at HT ⊢
  go_enter Try.func21, Try.ntmps21
  go_wp2_with (go_at_call 52; (with_reducible refine (HT.out _ _ _).mono ?_); rintro e w' ⟨rfl, rfl⟩)
  refine H1.out.mono ?_
  rintro e w2 ⟨y, rfl, hy, hyl, hb2⟩
  have hbw : Below w.heap.size w w2 := HB1.out.trans (hb2.mono (by simp))
  have hs2 := hb2.size
  simp only [World.size_alloc] at hs2
  have hc2 : w2.cell? ⟨w.heap.size, 0, none⟩ = some (.int .i64 t) := (hb2.cell (p := ⟨w.heap.size, 0, none⟩) (by simp)).trans HC1.out
  have H2 := Lib.hid (coll_cut2 w2 x t w.heap.size ((HX.out.keep hbw.block).more hbw.size) hN hc2 (by omega))
  have HY := Lib.hid hy
  have HYL := Lib.hid hyl
  have HBW := Lib.hid hbw
  clear hy hyl hbw hc2 hb2
  unfold Ls.val
  go_wp2_with (go_at_call 52; (with_reducible refine (HT.out _ _ _).mono ?_); rintro e w' ⟨rfl, rfl⟩)
  refine H2.out.mono ?_
  rintro e w3 ⟨z, rfl, hz, hzl, hb3⟩
  have HF := Lib.hid (show CutTo w x.l t (.returned (.tuple #[y.val, z.val])) w3 from ⟨y, z, rfl, HY.out, hz, (HYL.out.1.keep hb3.block).more hb3.size, hzl.1, HBW.out.trans (hb3.mono HBW.out.size), HYL.out.2, hzl.2⟩)
  clear hz hzl hb3
  unfold Ls.val at HF ⊢
  go_wp2_with fail
  go_ret2
  exact HF.out
end Go.Proofs.Ytileglkimbkkgaa
