
/- Registers, the document's own: Swap. -/
import Derived.Test.YtedlfcmlchjjlaaY6
import Derived.Test.YtedlfcmlchjjlaaQ5
import Derived.Test.YtedlfcmlchjjlaaYC
import Derived.Test.YtedlfcmlchjjlaaYK
namespace Go.Proofs.Ytedlfcmlchjjlaa
open Go.RowKit
set_option linter.unusedSimpArgs false
set_option linter.unusedVariables false
set_option maxRecDepth 100000

theorem swap_eq0 (r : Rg) : putPairR { r with AF2 := pairR r 0 3 true } 0 3 true r.AF2 = swapR r 0 := rfl
theorem swap_eq1 (r : Rg) : putPairR (putPairR (putPairR { { { r with BC2 := pairR r 0 0 false } with DE2 := pairR r 0 1 false } with HL2 := pairR r 0 2 false } 0 0 false r.BC2) 0 1 false r.DE2) 0 2 false r.HL2 = swapR r 1 := rfl
theorem swap_mod (r : Rg) (k n : Int) (h : k % 3 = n) (hn : n = 0 ∨ n = 1 ∨ n = 2) : swapR r k = swapR r n := by
  unfold swapR
  rw [h]
  rcases hn with rfl | rfl | rfl <;> rfl

set_option maxHeartbeats 8000000 in
theorem r8_swap0 (r : Rg) (hr : r.Ok) (k : Int) (hk : k % 3 = 0) (w : World) (wk : (Lit.int .i64 k).wf = true) : Calls Try.prog 26 #[r.val, .int .i64 k] w fun e w' => e = .returned (swapR r 0).val ∧ Below w.heap.size w w' := by
  have hM := Lib.hid (fun w => r5_mod_3 k w wk)
  rw [hk] at hM
  obtain ⟨w1, hw1⟩ : ∃ w1, W2 w r = w1 := ⟨_, rfl⟩
  have HL := Lib.hid (show RgW w1 w.heap.size r from hw1 ▸ W2_r w r)
  have hZ : RgW w1 (w.heap.size + 1) zeroR := hw1 ▸ W2_z w r
  have hB : Below w.heap.size w w1 := hw1 ▸ W2_b w r
  have g15 := HL.out.gAF2
  unfold W2 rgO zeroR at hw1
  obtain ⟨Z, hZe⟩ : ∃ Z, (swapR r 0).val = Z := ⟨_, rfl⟩
  rw [hZe, rg_val r]
  have HZe := Lib.hid ((congrArg Rg.val (swap_eq0 r)).trans hZe)
  clear hZe
  clear wk hk
  go_enter Try.func26, Try.ntmps26
  go_wp2_with (first
    | (go_at_call 57; (with_reducible refine (hM.out _).mono ?_); rintro e w' ⟨rfl, rfl⟩)
    | (refine wpList_load_row rfl 24 _ rfl w.heap.size rfl _ _ (0, 0) _ HL.out Try.underlying24 rfl rg_info ?_))
  refine (r8_pair_c r hr 0 3 true _ rfl rfl).mono ?_
  rintro e w3 ⟨rfl, hb⟩
  have hR3 := HL.out.below hb HL.out.lt
  have hZ3 := hZ.below hb hZ.lt
  have hB3 := hB.trans (hb.mono hB.size)
  clear hb HL hZ hB g15 hw1
  have g15 := hR3.gAF2
  have f15 := hR3.free 15
  have HL4 := Lib.hid (hR3.sAF2 (pairR r 0 3 true))
  have HZ4 := Lib.hid (hZ3.set_other ⟨w.heap.size, 15, none⟩ (.int .u16 (pairR r 0 3 true)) (by simp))
  have HB4 := Lib.hid (hB3.setCell (p := ⟨w.heap.size, 15, none⟩) (Nat.le_refl _) (.int .u16 (pairR r 0 3 true)))
  clear hR3 hZ3 hB3
  obtain ⟨P, hP⟩ : ∃ P, pairR r 0 3 true = P := ⟨_, rfl⟩
  rw [hP] at HL4 HZ4 HB4 HZe ⊢
  clear hP
  go_wp2_with (refine wpList_load_row rfl 24 _ rfl w.heap.size rfl _ _ (0, 0) _ HL4.out Try.underlying24 rfl rg_info ?_)
  refine (r8_putpair_c { r with AF2 := P } 0 3 true r.AF2 hr.AF2 _ rfl rfl).mono ?_
  rintro e w5 ⟨rfl, hb⟩
  have HZ5 := Lib.hid (HZ4.out.below hb HZ4.out.lt)
  have HB5 := Lib.hid (HB4.out.trans (hb.mono HB4.out.size))
  clear hb HL4 HZ4 HB4 g15 f15
  go_wp2_with (refine wpList_store_row rfl 24 _ _ rfl (w.heap.size + 1) _ rfl rfl _ _ HZ5.out rg_info rfl (rg_one _) ?_)
  (try simp only [Exit.inBlock, Exit.then])
  exact bodyPost_ret (results_rg rfl _ _ _ _ rfl (HZ5.out.row _)) rfl ⟨congrArg Ending.returned HZe.out, below_setRow HB5.out (by omega) _⟩

set_option maxHeartbeats 8000000 in
theorem r8_swap2 (r : Rg) (k : Int) (hk : k % 3 = 2) (w : World) (wk : (Lit.int .i64 k).wf = true) : Calls Try.prog 26 #[r.val, .int .i64 k] w fun e w' => e = .returned (swapR r 2).val ∧ Below w.heap.size w w' := by
  have hM := Lib.hid (fun w => r5_mod_3 k w wk)
  rw [hk] at hM
  have hR := W2_r w r
  have HL := Lib.hid (W2_r w { r with D := r.H, E := r.L, H := r.D, L := r.E })
  have HZ := Lib.hid (W2_z w { r with D := r.H, E := r.L, H := r.D, L := r.E })
  have HB := Lib.hid (W2_b w { r with D := r.H, E := r.L, H := r.D, L := r.E })
  have gD := hR.gD
  have gE := hR.gE
  have gH := hR.gH
  have gL := hR.gL
  have f4 := hR.free 4
  have f5 := hR.free 5
  have f6 := hR.free 6
  have f7 := hR.free 7
  rw [show swapR r 2 = { r with D := r.H, E := r.L, H := r.D, L := r.E } from rfl, rg_val r]
  clear hR wk hk
  go_enter Try.func26, Try.ntmps26
  go_wp2_with (first
    | (go_at_call 57; (with_reducible refine (hM.out _).mono ?_); rintro e w' ⟨rfl, rfl⟩)
    | (refine wpList_load_row rfl 24 _ rfl w.heap.size rfl _ _ (0, 0) _ HL.out Try.underlying24 rfl rg_info ?_)
    | (refine wpList_store_row rfl 24 _ _ rfl (w.heap.size + 1) _ rfl rfl _ _ HZ.out rg_info rfl (rg_one _) ?_))
  (try simp only [Exit.inBlock, Exit.then])
  exact bodyPost_ret (results_rg rfl _ _ _ _ rfl (HZ.out.row _)) rfl ⟨rfl, below_setRow HB.out (by omega) _⟩

def setBC (r : Rg) (p : Int) : Rg := { r with BC2 := p }
def setDE (r : Rg) (p : Int) : Rg := { r with DE2 := p }
def setHL (r : Rg) (p : Int) : Rg := { r with HL2 := p }
theorem swap_eq1s (r : Rg) : putPairR (putPairR (putPairR (setHL (setDE (setBC r (pairR r 0 0 false)) (pairR r 0 1 false)) (pairR r 0 2 false)) 0 0 false r.BC2) 0 1 false r.DE2) 0 2 false r.HL2 = swapR r 1 := by
  obtain ⟨a, b, c, d, e, f, g, h, i, j, k, l, m, n, o, p, q, s, t, u, v, x, y, z⟩ := r
  rfl
/-- A block that is registers but for the three pairs put aside. -/
def asideB (r : Rg) : Option Obj → Prop := fun o => ∃ x y z : Int, o = some (.cells ({ r with BC2 := x, DE2 := y, HL2 := z } : Rg).cells 24 (0, 0))
def isT : Nat → Bool := fun i => i == 0 || i == 2 || i == 4
def isST : Nat → Bool := fun i => i == 7 || i == 9 || i == 11
theorem aside_self (r : Rg) : ({ r with BC2 := r.BC2, DE2 := r.DE2, HL2 := r.HL2 } : Rg) = r := rfl

set_option maxHeartbeats 8000000 in
theorem r8_swap1 (r : Rg) (hr : r.Ok) (k : Int) (hk : k % 3 = 1) (w : World) (wk : (Lit.int .i64 k).wf = true) : Calls Try.prog 26 #[r.val, .int .i64 k] w fun e w' => e = .returned (swapR r 1).val ∧ Below w.heap.size w w' := by
  have hM := Lib.hid (fun w => r5_mod_3 k w wk)
  rw [hk] at hM
  obtain ⟨w1, hw1⟩ : ∃ w1, W2 w r = w1 := ⟨_, rfl⟩
  have hL : RgW w1 w.heap.size r := hw1 ▸ W2_r w r
  have hZ : RgW w1 (w.heap.size + 1) zeroR := hw1 ▸ W2_z w r
  have hB : Below w.heap.size w w1 := hw1 ▸ W2_b w r
  have hlt := hL.lt
  have g16 : ∀ p : M.Of (M.Base w1), p.w.cell? ⟨w.heap.size, 16, none⟩ = some (.int .u16 r.BC2) := fun p => (hL.below p.ok.2 hlt).gBC2
  have g17 : ∀ p : M.Of (M.Base w1), p.w.cell? ⟨w.heap.size, 17, none⟩ = some (.int .u16 r.DE2) := fun p => (hL.below p.ok.2 hlt).gDE2
  have g18 : ∀ p : M.Of (M.Base w1), p.w.cell? ⟨w.heap.size, 18, none⟩ = some (.int .u16 r.HL2) := fun p => (hL.below p.ok.2 hlt).gHL2
  have HL := Lib.hid hL
  unfold W2 rgO zeroR at hw1
  obtain ⟨Z, hZe⟩ : ∃ Z, (swapR r 1).val = Z := ⟨_, rfl⟩
  rw [hZe, rg_val r]
  have HZe := Lib.hid ((congrArg Rg.val (swap_eq1s r)).trans hZe)
  clear wk hk hZe hL
  go_enter Try.func26, Try.ntmps26
  go_upto_region 7 with (go_at_call 57; (with_reducible refine (hM.out _).mono ?_); rintro e w' ⟨rfl, rfl⟩)
  refine M.region_ (by kernel_rfl) ?_
  refine M.seg_ [0, 1, 2, 3, 4, 5, 6, 7, 8] 0 _ _ (M.Base.refl _) (by kernel_rfl) (by kernel_rfl) (by kernel_rfl) (by simp only [pickOps, mask, plain, List.getElem?_toArray, List.getElem?_cons_zero, List.getElem?_cons_succ, if_true, Bool.false_eq_true, if_false]; rfl) ?_
  repeat (go_big_quiet_step (fail))
  refine wpQuiet_nil ?_
  clear g16 g17 g18
  refine M.end_ (by kernel_rfl) ?_
  intro wc sc
  have HLc := Lib.hid (HL.out.below sc.2 HL.out.lt)
  have hZc := hZ.below sc.2 hZ.lt
  have hBc := hB.trans (sc.2.mono hB.size)
  clear sc hZ hB HL hw1
  have hltc := HLc.out.lt
  obtain ⟨P1, hP1⟩ : ∃ P, pairR r 0 0 false = P := ⟨_, rfl⟩
  obtain ⟨P2, hP2⟩ : ∃ P, pairR r 0 1 false = P := ⟨_, rfl⟩
  obtain ⟨P3, hP3⟩ : ∃ P, pairR r 0 2 false = P := ⟨_, rfl⟩
  have HC1 := Lib.hid (fun w => r8_pair_c r hr 0 0 false w rfl rfl)
  have HC2 := Lib.hid (fun w => r8_pair_c r hr 0 1 false w rfl rfl)
  have HC3 := Lib.hid (fun w => r8_pair_c r hr 0 2 false w rfl rfl)
  rw [hP1] at HC1
  rw [hP2] at HC2
  rw [hP3] at HC3
  rw [hP1, hP2, hP3] at HZe
  clear hP1 hP2 hP3
  go_upto_region 8 with fail
  refine H.region_ isT isST (M.Base wc) (M.But wc w.heap.size (asideB r)) (M.closed_base _) (fun w' hw' => ⟨hltc, Save.of_below hw'.2, ⟨r.BC2, r.DE2, r.HL2, HLc.out.below hw'.2 hltc⟩⟩) (fun n => ⟨Nat.le_refl _, (Save.drawn _ wc n).all⟩) (by kernel_rfl) ?_
  have hD : ∀ listed : Array Bool, (listed.getD 0 true = true ∧ listed.getD 2 true = true ∧ listed.getD 4 true = true) → H.Dn isT listed := fun listed h t ht => by
    unfold isT at ht
    simp only [Bool.or_eq_true, beq_iff_eq] at ht
    rcases ht with (rfl | rfl) | rfl
    · exact h.1
    · exact h.2.1
    · exact h.2.2
  refine H.calm_ (i := 0) r.val rfl (by kernel_rfl) (by kernel_rfl) (by kernel_rfl) rfl (by kernel_rfl) (by kernel_rfl) ?_ ?_
  · intro wz sz
    exact does_load_row 24 _ rfl _ rfl _ _ (0, 0) _ (HLc.out.below sz.2 hltc) Try.underlying24 rfl rg_info ⟨rfl, Save.refl _ _⟩
  go_simp
  refine H.any_ (i := 1) (.int .u16 P1) rfl (by kernel_rfl) (by kernel_rfl) (by kernel_rfl) rfl (by kernel_rfl) ?_ ?_
  · intro wz sz
    unfold Oper.does
    go_simp
    exact (HC1.out wz).mono fun e w' ⟨he, hw⟩ => ⟨_, he, rfl, Save.of_below hw⟩
  go_simp
  refine H.calm_ (i := 2) r.val rfl (by kernel_rfl) (by kernel_rfl) (by kernel_rfl) rfl (by kernel_rfl) (by kernel_rfl) ?_ ?_
  · intro wz sz
    exact does_load_row 24 _ rfl _ rfl _ _ (0, 0) _ (HLc.out.below sz.2 hltc) Try.underlying24 rfl rg_info ⟨rfl, Save.refl _ _⟩
  go_simp
  refine H.any_ (i := 3) (.int .u16 P2) rfl (by kernel_rfl) (by kernel_rfl) (by kernel_rfl) rfl (by kernel_rfl) ?_ ?_
  · intro wz sz
    unfold Oper.does
    go_simp
    exact (HC2.out wz).mono fun e w' ⟨he, hw⟩ => ⟨_, he, rfl, Save.of_below hw⟩
  go_simp
  refine H.calm_ (i := 4) r.val rfl (by kernel_rfl) (by kernel_rfl) (by kernel_rfl) rfl (by kernel_rfl) (by kernel_rfl) ?_ ?_
  · intro wz sz
    exact does_load_row 24 _ rfl _ rfl _ _ (0, 0) _ (HLc.out.below sz.2 hltc) Try.underlying24 rfl rg_info ⟨rfl, Save.refl _ _⟩
  go_simp
  refine H.any_ (i := 5) (.int .u16 P3) rfl (by kernel_rfl) (by kernel_rfl) (by kernel_rfl) rfl (by kernel_rfl) ?_ ?_
  · intro wz sz
    unfold Oper.does
    go_simp
    exact (HC3.out wz).mono fun e w' ⟨he, hw⟩ => ⟨_, he, rfl, Save.of_below hw⟩
  go_simp
  refine H.any_ (i := 6) (.pointer (some ⟨w.heap.size, 16, none⟩)) rfl (by kernel_rfl) (by kernel_rfl) (by kernel_rfl) rfl (by kernel_rfl) ?_ ?_
  · intro wz sz
    unfold Oper.does
    go_simp
    exact Save.refl _ _
  go_simp
  refine H.store_ [7] (by kernel_rfl) (by simp) ?_
  intro i hi
  obtain rfl : i = 7 := by simpa using hi
  refine H.one_ rfl rfl (hD _ ⟨by kernel_rfl, by kernel_rfl, by kernel_rfl⟩) (by kernel_rfl) ?_
  intro wz sz
  have hB0 : RgW wz w.heap.size (r : Rg) := HLc.out.below sz.2 hltc
  have gg := hB0.gBC2
  have ff := hB0.free 16
  unfold Oper.does
  go_simp
  refine ⟨M.But wc w.heap.size (fun o => o = some (.cells (setBC r P1).cells 24 (0, 0))), ⟨hltc, Save.trans (Save.of_below sz.2) (save_setCell wz w.heap.size 16 _), hB0.sBC2 P1⟩, M.closed_but _ _ _, M.But.weaken (fun o ho => ⟨P1, r.DE2, r.HL2, ho⟩), ?_⟩
  clear gg ff hB0 sz
  go_simp
  refine H.any_ (i := 8) (.pointer (some ⟨w.heap.size, 17, none⟩)) rfl (by kernel_rfl) (by kernel_rfl) (by kernel_rfl) rfl (by kernel_rfl) ?_ ?_
  · intro wz sz
    unfold Oper.does
    go_simp
    exact Save.refl _ _
  go_simp
  refine H.store_ [9] (by kernel_rfl) (by simp) ?_
  intro i hi
  obtain rfl : i = 9 := by simpa using hi
  refine H.one_ rfl rfl (hD _ ⟨by kernel_rfl, by kernel_rfl, by kernel_rfl⟩) (by kernel_rfl) ?_
  intro wz sz
  have hB1 : RgW wz w.heap.size (setBC r P1) := sz.2.2
  have gg := hB1.gDE2
  have ff := hB1.free 17
  unfold Oper.does
  go_simp
  refine ⟨M.But wc w.heap.size (fun o => o = some (.cells (setDE (setBC r P1) P2 : Rg).cells 24 (0, 0))), sz.step (save_setCell wz w.heap.size 17 _) (hB1.sDE2 P2), M.closed_but _ _ _, M.But.weaken (fun o ho => ⟨P1, P2, r.HL2, ho⟩), ?_⟩
  clear gg ff hB1 sz
  go_simp
  refine H.any_ (i := 10) (.pointer (some ⟨w.heap.size, 18, none⟩)) rfl (by kernel_rfl) (by kernel_rfl) (by kernel_rfl) rfl (by kernel_rfl) ?_ ?_
  · intro wz sz
    unfold Oper.does
    go_simp
    exact Save.refl _ _
  go_simp
  refine H.store_ [11] (by kernel_rfl) (by simp) ?_
  intro i hi
  obtain rfl : i = 11 := by simpa using hi
  refine H.one_ rfl rfl (hD _ ⟨by kernel_rfl, by kernel_rfl, by kernel_rfl⟩) (by kernel_rfl) ?_
  intro wz sz
  have hB2 : RgW wz w.heap.size (setDE (setBC r P1) P2) := sz.2.2
  have gg := hB2.gHL2
  have ff := hB2.free 18
  unfold Oper.does
  go_simp
  refine ⟨M.But wc w.heap.size (fun o => o = some (.cells (setHL (setDE (setBC r P1) P2) P3).cells 24 (0, 0))), sz.step (save_setCell wz w.heap.size 18 _) (hB2.sHL2 P3), M.closed_but _ _ _, M.But.weaken (fun o ho => ⟨P1, P2, P3, ho⟩), ?_⟩
  clear gg ff hB2 sz
  go_simp
  refine H.end_ (by kernel_rfl) ?_
  intro we se
  have hRe : RgW we w.heap.size (setHL (setDE (setBC r P1) P2) P3) := se.2.2
  have hZe2 : RgW we (w.heap.size + 1) zeroR := (se.other hZc.lt (by omega)).trans hZc
  have hBe := hBc.trans (se.below (Nat.le_refl _))
  clear se HLc hZc hBc HC1 HC2 HC3 hD
  obtain ⟨s, hs⟩ : ∃ s, setHL (setDE (setBC r P1) P2) P3 = s := ⟨_, rfl⟩
  rw [hs] at hRe HZe
  clear hs
  have HRe := Lib.hid hRe
  have HZ2 := Lib.hid hZe2
  clear hRe hZe2
  go_wp2_with (refine wpList_load_row rfl 24 _ rfl w.heap.size rfl _ _ (0, 0) _ HRe.out Try.underlying24 rfl rg_info ?_)
  refine (r8_putpair_c s 0 0 false r.BC2 hr.BC2 _ rfl rfl).mono ?_
  rintro e w5 ⟨rfl, hb5⟩
  have HZ5 := Lib.hid (HZ2.out.below hb5 HZ2.out.lt)
  have hB5 := hBe.trans (hb5.mono hBe.size)
  obtain ⟨s1, hs1⟩ : ∃ s1, putPairR s 0 0 false r.BC2 = s1 := ⟨_, rfl⟩
  rw [hs1] at HZe ⊢
  clear hb5 hBe HZ2 HRe hs1
  go_wp2_with fail
  refine (r8_putpair_c s1 0 1 false r.DE2 hr.DE2 _ rfl rfl).mono ?_
  rintro e w6 ⟨rfl, hb6⟩
  have HZ6 := Lib.hid (HZ5.out.below hb6 HZ5.out.lt)
  have hB6 := hB5.trans (hb6.mono hB5.size)
  obtain ⟨s2, hs2⟩ : ∃ s2, putPairR s1 0 1 false r.DE2 = s2 := ⟨_, rfl⟩
  rw [hs2] at HZe ⊢
  clear hb6 hB5 HZ5 hs2
  go_wp2_with fail
  refine (r8_putpair_c s2 0 2 false r.HL2 hr.HL2 _ rfl rfl).mono ?_
  rintro e w7 ⟨rfl, hb7⟩
  have HZ7 := Lib.hid (HZ6.out.below hb7 HZ6.out.lt)
  have hB7 := hB6.trans (hb7.mono hB6.size)
  clear hb7 hB6 HZ6
  go_wp2_with (refine wpList_store_row rfl 24 _ _ rfl (w.heap.size + 1) _ rfl rfl _ _ HZ7.out rg_info rfl (rg_one _) ?_)
  (try simp only [Exit.inBlock, Exit.then])
  exact bodyPost_ret (results_rg rfl _ _ _ _ rfl (HZ7.out.row _)) rfl ⟨congrArg Ending.returned HZe.out, below_setRow hB7 (by omega) _⟩

theorem r8_swap (r : Rg) (hr : r.Ok) (k : Int) (w : World) (wk : (Lit.int .i64 k).wf = true) : Calls Try.prog 26 #[r.val, .int .i64 k] w fun e w' => e = .returned (swapR r k).val ∧ Below w.heap.size w w' := by
  have h3 : k % 3 = 0 ∨ k % 3 = 1 ∨ k % 3 = 2 := by omega
  rcases h3 with h | h | h
  · rw [swap_mod r k 0 h (.inl rfl)]; exact r8_swap0 r hr k h w wk
  · rw [swap_mod r k 1 h (.inr (.inl rfl))]; exact r8_swap1 r hr k h w wk
  · rw [swap_mod r k 2 h (.inr (.inr rfl))]; exact r8_swap2 r k h w wk
end Go.Proofs.Ytedlfcmlchjjlaa
