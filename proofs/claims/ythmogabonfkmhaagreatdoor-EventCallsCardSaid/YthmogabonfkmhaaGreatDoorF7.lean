
/- Law 3's lives. -/
import Derived.Test.YthmogabonfkmhaaGreatDoorF5
import Derived.Test.YthmogabonfkmhaaGreatDoorF6
import Derived.Test.YthmogabonfkmhaaGreatDoorV
namespace Go.Proofs.YthmogabonfkmhaaGreatDoor
open Go.RowKit
set_option linter.unusedSimpArgs false
set_option linter.unusedVariables false
set_option maxRecDepth 100000

def firstE : Ev := ⟨7, 1, 3, 2, 16384, 5⟩
def pixelE : Ev := ⟨7, 2, 0, 7, 0, 0⟩
def firstS : ByteArray := ⟨#[55, 32, 114, 101, 97, 100, 32, 51, 32, 49, 54, 51, 56, 52, 32, 53]⟩
def wrongS : ByteArray := ⟨#[48, 55, 32, 114, 101, 97, 100, 32, 51, 32, 49, 54, 51, 56, 52, 32, 53]⟩
theorem first_may : firstE.May := by decide +kernel
theorem first_bytes : evB firstE = [2, 7, 3, 249, 0, 64, 5] := by decide +kernel
theorem first_text : (textE firstE).toArray = firstS.data := by decide +kernel
theorem first_say : sayE firstS = firstE := by kernel_rfl
theorem first_told : Told firstS := by decide +kernel
theorem wrong_told : ¬ Told wrongS := by decide +kernel
theorem first_order : ordE pixelE firstE = 1 := by decide +kernel

theorem first_any (w : World) : Calls Tryz.prog 22 #[] w fun e w' => e = .returned firstE.val ∧ Below w.heap.size w w' := by
  go_enter Tryz.func22, Tryz.ntmps22
  go_wp2_with fail
  (try simp only [Exit.inBlock, Exit.then])
  refine bodyPost_ret (v := firstE.val) ?_ rfl ⟨rfl, ?_⟩
  · simp [results, go_sem]
    rfl
  · exact (Below.refl _ _).alloc (Nat.le_refl _) _

theorem bytes_first (w : World) : Calls Tryz.prog 5 #[firstE.val] w fun e w' => ∃ A c, e = .returned (.tuple #[.slice A 7 c, .int .i64 0]) ∧ OB w' w.heap.size A c [2, 7, 3, 249, 0, 64, 5] ∧ Below w.heap.size w w' := by
  refine (ebytes_may w firstE first_may).mono ?_
  rintro e w' ⟨A, c, he, ho, hb⟩
  rw [first_bytes] at he ho
  exact ⟨A, c, he, ho, hb⟩
theorem text_first (w : World) (hV : Vars w) : Calls Tryz.prog 20 #[firstE.val] w fun e w' => e = .returned (.string firstS) ∧ Below w.heap.size w w' := by
  refine (text_may w firstE hV first_may).mono ?_
  rintro e w' ⟨he, hb⟩
  rw [first_text] at he
  exact ⟨he, hb⟩
theorem parse_first (w : World) (hV : Vars w) : Calls Tryz.prog 10 #[.string firstS] w fun e w' => e = .returned (.tuple #[firstE.val, .int .i64 0]) ∧ Below w.heap.size w w' := by
  refine (parse_any firstS w hV (by decide)).mono ?_
  rintro e w' ⟨he, hb⟩
  rcases he with ⟨_, he⟩ | ⟨hn, _⟩
  · rw [first_say] at he; exact ⟨he, hb⟩
  · exact absurd first_told hn
theorem parse_wrong (w : World) (hV : Vars w) : Calls Tryz.prog 10 #[.string wrongS] w fun e w' => e = .returned (.tuple #[zeroE.val, .int .i64 4]) ∧ Below w.heap.size w w' := by
  refine (parse_any wrongS w hV (by decide)).mono ?_
  rintro e w' ⟨he, hb⟩
  rcases he with ⟨hn, _⟩ | ⟨_, he⟩
  · exact absurd hn wrong_told
  · exact ⟨he, hb⟩
theorem order_first (w : World) : Calls Tryz.prog 18 #[pixelE.val, firstE.val] w fun e w' => e = .returned (.int .i64 1) ∧ Below w.heap.size w w' := by
  refine (order_any w pixelE firstE).mono ?_
  rintro e w' ⟨he, hb⟩
  rw [first_order] at he
  exact ⟨he, hb⟩

set_option maxHeartbeats 3200000 in
theorem lives3_any (w : World) (hV : Vars w) : Calls Tryz.prog 4 #[] w fun e w' => e = .returned (.bool true) ∧ Below w.heap.size w w' := by
  have hf : firstE.val = .agg #[.int .i64 7, .int .i64 1, .int .i64 3, .int .i64 2, .int .i64 16384, .int .i64 5] := rfl
  have hp : pixelE.val = .agg #[.int .i64 7, .int .i64 2, .int .i64 0, .int .i64 7, .int .i64 0, .int .i64 0] := rfl
  have hs : firstS = ⟨#[55, 32, 114, 101, 97, 100, 32, 51, 32, 49, 54, 51, 56, 52, 32, 53]⟩ := rfl
  have C1 := fun w => first_any w
  have C2 := fun w => bytes_first w
  have C3 := fun w hV => text_first w hV
  have C4 := fun w hV => parse_first w hV
  have C5 := fun w => order_first w
  rw [hf] at C1 C2 C3 C4 C5
  rw [hs] at C3 C4
  rw [hp] at C5
  clear hf hp hs
  have H1 := Lib.hid C1
  have H2 := Lib.hid C2
  have H3 := Lib.hid C3
  have H4 := Lib.hid C4
  have H5 := Lib.hid C5
  clear C1 C2 C3 C4 C5
  go_enter Tryz.func4, Tryz.ntmps4
  go_wp2_with fail
  refine (H1.out _).mono ?_
  rintro e w1 ⟨rfl, hB1⟩
  go_wp2_with fail
  refine (H2.out _).mono ?_
  rintro e w2 ⟨A, c, rfl, ho2, hb⟩
  have hB2 := hB1.trans (hb.mono hB1.size)
  clear hb
  go_wp2_with fail
  refine (H4.out _ (hV.on hB2)).mono ?_
  rintro e w3 ⟨rfl, hb⟩
  have hB3 := hB2.trans (hb.mono hB2.size)
  have hr3 := ho2.rb.belowH hb
  have hE := ((EW.laid w3 firstE).more (evO pixelE))
  have hP := (EW.laid (w3.alloc (evO firstE)) pixelE)
  rw [show (w3.alloc (evO firstE)).heap.size = w3.heap.size + 1 by simp] at hP
  have hB4 : Below w.heap.size w ((w3.alloc (evO firstE)).alloc (evO pixelE)) := (hB3.alloc hB3.size _).alloc (by have := hB3.size; simp; omega) _
  have hr4 : RB ((w3.alloc (evO firstE)).alloc (evO pixelE)) w3.heap.size A c [2, 7, 3, 249, 0, 64, 5] := (hr3.alloc (Nat.le_refl _) _).alloc (by simp) _
  have hz4 : ((w3.alloc (evO firstE)).alloc (evO pixelE)).heap.size = w3.heap.size + 2 := by simp
  clear hb hB1 hB2 hB3 ho2 hr3
  have e0 : ∀ p : M.Of (M.Base ((w3.alloc (evO firstE)).alloc (evO pixelE))), p.w.cell? ⟨w3.heap.size, 0, none⟩ = some (.int .i64 7) := fun p => (p.ok.2.cell (p := ⟨w3.heap.size, 0, none⟩) (by rw [hz4]; show w3.heap.size < _; omega)).trans hE.ev.c0
  have e1 : ∀ p : M.Of (M.Base ((w3.alloc (evO firstE)).alloc (evO pixelE))), p.w.cell? ⟨w3.heap.size, 1, none⟩ = some (.int .i64 1) := fun p => (p.ok.2.cell (p := ⟨w3.heap.size, 1, none⟩) (by rw [hz4]; show w3.heap.size < _; omega)).trans hE.ev.c1
  have e2 : ∀ p : M.Of (M.Base ((w3.alloc (evO firstE)).alloc (evO pixelE))), p.w.cell? ⟨w3.heap.size, 2, none⟩ = some (.int .i64 3) := fun p => (p.ok.2.cell (p := ⟨w3.heap.size, 2, none⟩) (by rw [hz4]; show w3.heap.size < _; omega)).trans hE.ev.c2
  have e3 : ∀ p : M.Of (M.Base ((w3.alloc (evO firstE)).alloc (evO pixelE))), p.w.cell? ⟨w3.heap.size, 3, none⟩ = some (.int .i64 2) := fun p => (p.ok.2.cell (p := ⟨w3.heap.size, 3, none⟩) (by rw [hz4]; show w3.heap.size < _; omega)).trans hE.ev.c3
  have e4 : ∀ p : M.Of (M.Base ((w3.alloc (evO firstE)).alloc (evO pixelE))), p.w.cell? ⟨w3.heap.size, 4, none⟩ = some (.int .i64 16384) := fun p => (p.ok.2.cell (p := ⟨w3.heap.size, 4, none⟩) (by rw [hz4]; show w3.heap.size < _; omega)).trans hE.ev.c4
  have e5 : ∀ p : M.Of (M.Base ((w3.alloc (evO firstE)).alloc (evO pixelE))), p.w.cell? ⟨w3.heap.size, 5, none⟩ = some (.int .i64 5) := fun p => (p.ok.2.cell (p := ⟨w3.heap.size, 5, none⟩) (by rw [hz4]; show w3.heap.size < _; omega)).trans hE.ev.c5
  have p0 : ∀ p : M.Of (M.Base ((w3.alloc (evO firstE)).alloc (evO pixelE))), p.w.cell? ⟨w3.heap.size + 1, 0, none⟩ = some (.int .i64 7) := fun p => (p.ok.2.cell (p := ⟨w3.heap.size + 1, 0, none⟩) (by rw [hz4]; show w3.heap.size + 1 < _; omega)).trans hP.ev.c0
  have p1 : ∀ p : M.Of (M.Base ((w3.alloc (evO firstE)).alloc (evO pixelE))), p.w.cell? ⟨w3.heap.size + 1, 1, none⟩ = some (.int .i64 2) := fun p => (p.ok.2.cell (p := ⟨w3.heap.size + 1, 1, none⟩) (by rw [hz4]; show w3.heap.size + 1 < _; omega)).trans hP.ev.c1
  have p2 : ∀ p : M.Of (M.Base ((w3.alloc (evO firstE)).alloc (evO pixelE))), p.w.cell? ⟨w3.heap.size + 1, 2, none⟩ = some (.int .i64 0) := fun p => (p.ok.2.cell (p := ⟨w3.heap.size + 1, 2, none⟩) (by rw [hz4]; show w3.heap.size + 1 < _; omega)).trans hP.ev.c2
  have p3 : ∀ p : M.Of (M.Base ((w3.alloc (evO firstE)).alloc (evO pixelE))), p.w.cell? ⟨w3.heap.size + 1, 3, none⟩ = some (.int .i64 7) := fun p => (p.ok.2.cell (p := ⟨w3.heap.size + 1, 3, none⟩) (by rw [hz4]; show w3.heap.size + 1 < _; omega)).trans hP.ev.c3
  have p4 : ∀ p : M.Of (M.Base ((w3.alloc (evO firstE)).alloc (evO pixelE))), p.w.cell? ⟨w3.heap.size + 1, 4, none⟩ = some (.int .i64 0) := fun p => (p.ok.2.cell (p := ⟨w3.heap.size + 1, 4, none⟩) (by rw [hz4]; show w3.heap.size + 1 < _; omega)).trans hP.ev.c4
  have p5 : ∀ p : M.Of (M.Base ((w3.alloc (evO firstE)).alloc (evO pixelE))), p.w.cell? ⟨w3.heap.size + 1, 5, none⟩ = some (.int .i64 0) := fun p => (p.ok.2.cell (p := ⟨w3.heap.size + 1, 5, none⟩) (by rw [hz4]; show w3.heap.size + 1 < _; omega)).trans hP.ev.c5
  have hq : ∀ p : M.Of (M.Base ((w3.alloc (evO firstE)).alloc (evO pixelE))), (convert 24 9 (.slice A 7 c)).run Tryz.prog p.w = .ok (.string ⟨#[2, 7, 3, 249, 0, 64, 5]⟩) p.w := fun p => str_rb p.w w3.heap.size A c 7 [2, 7, 3, 249, 0, 64, 5] (hr4.below (p.ok.2.mono (by rw [hz4]; omega))) rfl
  simp only [evO, firstE, pixelE] at e0 e1 e2 e3 e4 e5 p0 p1 p2 p3 p4 p5 hq hB4
  clear hE hP hr4 hz4
  go_upto_region 4 with fail
  refine M.region_ (by kernel_rfl) ?_
  refine M.seg_ [0, 1, 2, 3, 4, 5, 6, 7] 20 _ _ (M.Base.refl _) (by kernel_rfl) (by kernel_rfl) (by kernel_rfl) (by simp only [pickOps, mask, plain, List.getElem?_toArray, List.getElem?_cons_zero, List.getElem?_cons_succ, if_true]; rfl) ?_
  repeat (go_big_quiet_step (fail))
  refine wpQuiet_nil ?_
  clear hq
  refine M.calm_ (i := 8) (.agg #[.int .i64 7, .int .i64 1, .int .i64 3, .int .i64 2, .int .i64 16384, .int .i64 5]) rfl (by kernel_rfl) (by kernel_rfl) (by kernel_rfl) (by kernel_rfl) ?_ ?_
  · intro wz sz
    unfold Oper.does
    go_simp
    exact (H1.out wz).mono fun e w' ⟨he, hw⟩ => ⟨_, he, rfl, Save.of_below hw⟩
  refine M.calm_ (i := 9) (.string ⟨#[55, 32, 114, 101, 97, 100, 32, 51, 32, 49, 54, 51, 56, 52, 32, 53]⟩) rfl (by kernel_rfl) (by kernel_rfl) (by kernel_rfl) (by kernel_rfl) ?_ ?_
  · intro wz sz
    unfold Oper.does
    go_simp
    exact (H3.out wz (hV.on (hB4.trans (sz.2.mono hB4.size)))).mono fun e w' ⟨he, hw⟩ => ⟨_, he, rfl, Save.of_below hw⟩
  go_simp
  refine M.seg_ [10, 11, 12, 13, 14, 15, 16, 17] 10 _ _ (M.Base.refl _) (by kernel_rfl) (by kernel_rfl) (by kernel_rfl) (by simp only [pickOps, mask, plain, List.getElem?_toArray, List.getElem?_cons_zero, List.getElem?_cons_succ, if_true]; rfl) ?_
  repeat (go_big_quiet_step (fail))
  refine wpQuiet_nil ?_
  clear e0 e1 e2 e3 e4 e5
  refine M.calm_ (i := 18) (.agg #[.int .i64 7, .int .i64 1, .int .i64 3, .int .i64 2, .int .i64 16384, .int .i64 5]) rfl (by kernel_rfl) (by kernel_rfl) (by kernel_rfl) (by kernel_rfl) ?_ ?_
  · intro wz sz
    unfold Oper.does
    go_simp
    exact (H1.out wz).mono fun e w' ⟨he, hw⟩ => ⟨_, he, rfl, Save.of_below hw⟩
  go_simp
  refine M.seg_ [19, 20, 21, 22] 5 _ _ (M.Base.refl _) (by kernel_rfl) (by kernel_rfl) (by kernel_rfl) (by simp only [pickOps, mask, plain, List.getElem?_toArray, List.getElem?_cons_zero, List.getElem?_cons_succ, if_true]; rfl) ?_
  repeat (go_big_quiet_step (fail))
  refine wpQuiet_nil ?_
  clear p0 p1 p2 p3 p4 p5
  refine M.calm_ (i := 23) (.agg #[.int .i64 7, .int .i64 1, .int .i64 3, .int .i64 2, .int .i64 16384, .int .i64 5]) rfl (by kernel_rfl) (by kernel_rfl) (by kernel_rfl) (by kernel_rfl) ?_ ?_
  · intro wz sz
    unfold Oper.does
    go_simp
    exact (H1.out wz).mono fun e w' ⟨he, hw⟩ => ⟨_, he, rfl, Save.of_below hw⟩
  refine M.calm_ (i := 24) (.int .i64 1) rfl (by kernel_rfl) (by kernel_rfl) (by kernel_rfl) (by kernel_rfl) ?_ ?_
  · intro wz sz
    unfold Oper.does
    go_simp
    exact (H5.out wz).mono fun e w' ⟨he, hw⟩ => ⟨_, he, rfl, Save.of_below hw⟩
  go_simp
  refine M.seg_ [25, 26, 27] 0 _ _ (M.Base.refl _) (by kernel_rfl) (by kernel_rfl) (by kernel_rfl) (by simp only [pickOps, mask, plain, List.getElem?_toArray, List.getElem?_cons_zero, List.getElem?_cons_succ, if_true]; rfl) ?_
  repeat (go_big_quiet_step (fail))
  refine wpQuiet_nil ?_
  refine M.end_ (by kernel_rfl) ?_
  intro wc sc
  have hBc := hB4.trans (sc.2.mono hB4.size)
  clear hB4 sc
  go_wp2
  go_ret
  exact ⟨rfl, hBc⟩
end Go.Proofs.YthmogabonfkmhaaGreatDoor
