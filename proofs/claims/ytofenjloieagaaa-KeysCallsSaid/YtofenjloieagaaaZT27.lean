/-  -/
import Derived.Test.YtofenjloieagaaaZT26
namespace Go.Proofs.Ytofenjloieagaaa
open Go.RowKit
set_option linter.unusedSimpArgs false
set_option linter.unusedVariables false
set_option maxRecDepth 100000

set_option maxHeartbeats 8000000 in
theorem sym2_any (w : World) (g c L : Nat) (X : List Value) (D : List Tc) (h : SW w g X D) (hL : D.length = L) (hLc : L ≤ c) (hL1 : L ≤ 1000000) (a m b : Nat) (hmb : b = m + 1) (hab : a + 1 < m) (h2 : Two D a m b) :
    Calls Try.prog 66 #[.slice (some ⟨g, 0, none⟩) L c, .int .i64 a, .int .i64 m, .int .i64 b, lessV] w fun e w' => e = .returned (.tuple #[]) ∧ ∃ N, Sorts D N a b ∧ SW w' g X N ∧ Save (· = g) w w' := by
  have Hs0 := Lib.hid h
  have HDL := Lib.hid hL
  have hgl := h.lt
  have hbL : b ≤ L := by have := h2.le; omega
  have HTo : Hid (∀ s : Nat, a ≤ s → s ≤ m → (s < m → (D.getD m tcZ).time < (D.getD s tcZ).time) → (a < s → (D.getD (s - 1) tcZ).time ≤ (D.getD m tcZ).time) → ∃ T, Sorts D T a b ∧ MovL T D m s) := by
    subst hmb
    exact Lib.hid (fun (e : Nat) h3 h4 hx hy => sym2_sorts (s := e) h2 h3 h4 hx hy)
  have ham : m < b := by omega
  have ham2 : b ≤ m + 1 := by omega
  have hg : ((m : Int) - (a : Int) == 1) = false := by simp; omega
  have hg2 : ((b : Int) - (m : Int) == 1) = true := by simp; omega
  clear h h2 hL hmb
  go_enter Try.func66, Try.ntmps66
  go_wp2_with fail
  go_loopw [14, 15] (fun s5 s6 wr => ∃ lo hi : Nat, s5 = .int .i64 lo ∧ s6 = .int .i64 hi ∧ a ≤ lo ∧ lo ≤ hi ∧ hi ≤ m ∧ Hid ((hi < m → (D.getD m tcZ).time < (D.getD hi tcZ).time) ∧ (a < lo → (D.getD (lo - 1) tcZ).time ≤ (D.getD m tcZ).time)) ∧ SW wr g X D ∧ Save (· = g) w wr) (fun s5 s6 _ => (intOf s6).toNat - (intOf s5).toNat)
  case atStart => exact ⟨a, m, rfl, rfl, Nat.le_refl _, by omega, Nat.le_refl _, Lib.hid ⟨fun h => by omega, fun h => by omega⟩, Hs0.out, Save.refl _ _⟩
  case round =>
    rename World => wr
    obtain ⟨lo, hi, rfl, rfl, hlo, hle, hhi, HR, hs, hsv⟩ := hrel
    have HN := Lib.hid hs
    have HV := Lib.hid hsv
    have hlt := hs.lt
    clear hs hsv Hs0
    by_cases hlh : lo < hi
    · obtain ⟨q, hq⟩ : ∃ q : Nat, (lo + hi) / 2 = q := ⟨_, rfl⟩
      have hq1 : lo ≤ q ∧ q < hi := by omega
      have eq1 : ((lo : Int) + (hi : Int)) / 2 = (q : Int) := by omega
      have hxk : m < D.length := by rw [HDL.out]; omega
      have hyk : q < D.length := by rw [HDL.out]; omega
      have HDn : Hid ((D.getD m tcZ).time < (D.getD q tcZ).time → Hid ((q < m → (D.getD m tcZ).time < (D.getD q tcZ).time) ∧ (a < lo → (D.getD (lo - 1) tcZ).time ≤ (D.getD m tcZ).time))) := Lib.hid fun h => Lib.hid ⟨fun _ => h, HR.out.2⟩
      have HUp : Hid (¬ (D.getD m tcZ).time < (D.getD q tcZ).time → Hid ((hi < m → (D.getD m tcZ).time < (D.getD hi tcZ).time) ∧ (a < q + 1 → (D.getD (q + 1 - 1) tcZ).time ≤ (D.getD m tcZ).time))) := Lib.hid fun h => Lib.hid ⟨HR.out.1, fun _ => by rw [Nat.add_sub_cancel]; omega⟩
      obtain ⟨x, hx⟩ : ∃ x, D.getD m tcZ = x := ⟨_, rfl⟩
      obtain ⟨y, hy⟩ : ∃ y, D.getD q tcZ = y := ⟨_, rfl⟩
      have HXY := Lib.hid (And.intro hx hy)
      have HQ := Lib.hid hq
      have hlq : q < L := by omega
      have hla : m < L := by omega
      have HT : Hid (x.time < y.time ↔ (D.getD m tcZ).time < (D.getD q tcZ).time) := Lib.hid (by rw [hx, hy])
      clear hq hx hy HR HTo
      go_upto_region 17 with fail
      have hTx := HN.out.tb hxk
      have hTy := HN.out.tb hyk
      rw [HXY.out.1] at hTx
      rw [HXY.out.2] at hTy
      obtain ⟨c0, c1, c2, c3⟩ := hTx
      obtain ⟨d0, d1, d2, d3⟩ := hTy
      have x0 := fun p : M.Of (M.Base wr) => (p.ok.2.cell hlt).trans c0
      have x1 := fun p : M.Of (M.Base wr) => (p.ok.2.cell hlt).trans c1
      have x2 := fun p : M.Of (M.Base wr) => (p.ok.2.cell hlt).trans c2
      have x3 := fun p : M.Of (M.Base wr) => (p.ok.2.cell hlt).trans c3
      have y0 := fun p : M.Of (M.Base wr) => (p.ok.2.cell hlt).trans d0
      have y1 := fun p : M.Of (M.Base wr) => (p.ok.2.cell hlt).trans d1
      have y2 := fun p : M.Of (M.Base wr) => (p.ok.2.cell hlt).trans d2
      have y3 := fun p : M.Of (M.Base wr) => (p.ok.2.cell hlt).trans d3
      clear c0 c1 c2 c3 d0 d1 d2 d3
      have HC := Lib.hid (fun w => less17 x y w)
      have HCm := Lib.hid (cmpT_neg x.time y.time)
      unfold Tc.val at HC
      generalize cmpT x.time y.time = cm at *
      refine M.region_ (by kernel_rfl) ?_
      refine M.seg_ [0, 1, 2, 3, 4, 5, 6, 7, 8] 3 _ _ (M.Base.refl _) (by kernel_rfl) (by kernel_rfl) (by kernel_rfl) (by simp only [pickOps, mask, plain, List.getElem?_toArray, List.getElem?_cons_zero, List.getElem?_cons_succ, if_true, Bool.false_eq_true, if_false]; rfl) ?_
      repeat (go_big_quiet_step (fail))
      refine wpQuiet_nil ?_
      refine M.calm_ (i := 9) (.int .i64 cm) rfl (by kernel_rfl) (by kernel_rfl) (by kernel_rfl) (by kernel_rfl) ?_ ?_
      · intro wz sz
        unfold Oper.does
        go_simp
        exact (HC.out wz).mono fun e w' ⟨he, hw⟩ => ⟨_, he, rfl, Save.of_below hw⟩
      go_simp
      by_cases hxy : x.time < y.time
      · have hcm := HCm.out.trans (decide_eq_true hxy)
        have HR1 := Lib.hid (HDn.out (HT.out.1 hxy))
        clear HUp HDn HT hxy
        refine M.seg_ [10, 11] 0 _ _ (M.Base.refl _) (by kernel_rfl) (by kernel_rfl) (by kernel_rfl) (by simp only [pickOps, mask, plain, List.getElem?_toArray, List.getElem?_cons_zero, List.getElem?_cons_succ, if_true, Bool.false_eq_true, if_false]; rfl) ?_
        repeat (go_big_quiet_step (fail))
        refine wpQuiet_nil ?_
        refine M.end_ (by kernel_rfl) ?_
        intro wc sc
        have HNc := Lib.hid (HN.out.below sc.2 hlt)
        have HVc := Lib.hid (HV.out.trans (Save.of_below sc.2))
        clear x0 x1 x2 x3 y0 y1 y2 y3 sc HN HV HCm HC HXY
        go_wp2_with fail
        exact ⟨⟨lo, q, rfl, rfl, by omega, by omega, by omega, HR1.out, HNc.out, HVc.out⟩, by simp [intOf]; omega⟩
      · have hcm := HCm.out.trans (decide_eq_false hxy)
        have HR1 := Lib.hid (HUp.out (fun h => hxy (HT.out.2 h)))
        clear HUp HDn HT hxy
        refine M.seg_ [10, 11] 0 _ _ (M.Base.refl _) (by kernel_rfl) (by kernel_rfl) (by kernel_rfl) (by simp only [pickOps, mask, plain, List.getElem?_toArray, List.getElem?_cons_zero, List.getElem?_cons_succ, if_true, Bool.false_eq_true, if_false]; rfl) ?_
        repeat (go_big_quiet_step (fail))
        refine wpQuiet_nil ?_
        refine M.end_ (by kernel_rfl) ?_
        intro wc sc
        have HNc := Lib.hid (HN.out.below sc.2 hlt)
        have HVc := Lib.hid (HV.out.trans (Save.of_below sc.2))
        clear x0 x1 x2 x3 y0 y1 y2 y3 sc HN HV HCm HC HXY
        go_wp2_with fail
        exact ⟨⟨q + 1, hi, by go_num, rfl, by omega, by omega, by omega, HR1.out, HNc.out, HVc.out⟩, by simp [intOf]; omega⟩
    · obtain rfl : hi = lo := by omega
      obtain ⟨T, hST, hmv⟩ := HTo.out hi hlo hhi HR.out.1 HR.out.2
      have HST := Lib.hid hST
      have HMv := Lib.hid hmv
      clear hST hmv HTo HR
      go_wp2_with fail
      go_loopw [17] (fun kv wm => ∃ (j : Nat) (N : List Tc), hi ≤ j ∧ j ≤ m ∧ kv = .int .i64 j ∧ SW wm g X N ∧ N.length = L ∧ MovL T N j hi ∧ Save (· = g) w wm) (fun kv _ => (intOf kv).toNat)
      case atStart => exact ⟨m, D, by omega, Nat.le_refl _, rfl, HN.out, HDL.out, HMv.out, HV.out⟩
      case round =>
        rename World => wm
        clear HN HMv HV
        obtain ⟨j, N, haj, hj, rfl, hs, hNL, hmv, hsv⟩ := hrel
        have HN := Lib.hid hs
        have HMv := Lib.hid hmv
        have HV := Lib.hid hsv
        have hlt := hs.lt
        clear hs hmv hsv
        by_cases hjt : hi < j
        · have hml := HMv.out.len
          obtain ⟨q, rfl⟩ : ∃ q, j = q + 1 := ⟨j - 1, by omega⟩
          have HStep := Lib.hid (HMv.out.step hjt)
          obtain ⟨j, hq⟩ : ∃ j, q + 1 = j := ⟨_, rfl⟩
          rw [hq] at HStep hj haj hjt hml ⊢
          clear HMv
          have hq1 : q < j := by omega
          have hq2 : j ≤ q + 1 := by omega
          have hxk : j < N.length := by omega
          have hyk : q < N.length := by omega
          obtain ⟨x, hx⟩ : ∃ x, N.getD j tcZ = x := ⟨_, rfl⟩
          obtain ⟨y, hy⟩ : ∃ y, N.getD q tcZ = y := ⟨_, rfl⟩
          rw [hx, hy] at HStep
          have HXY := Lib.hid (And.intro hx hy)
          have HQ := Lib.hid hq
          have eq1 : (j : Int) - 1 = q := by omega
          have hlj : j < L := by omega
          have hlq : q < L := by omega
          have wj : IntKind.i64.wrap (j : Int) = j := by rw [IntKind.wrap_i64]; omega
          have wq : IntKind.i64.wrap (q : Int) = q := by rw [IntKind.wrap_i64]; omega
          clear hx hy hq
          go_upto_region 23 with fail
          refine H.region_ (fun i => i == 9 || i == 13) (fun i => i == 15 || i == 17) (M.Base wm) (M.But wm g (fun o => ∃ N' : List Tc, N'.length = L ∧ SWo X N' o)) (M.closed_base _) (fun w' hw' => ⟨hlt, Save.of_below hw'.2, ⟨_, hNL, HN.out.below hw'.2 hlt⟩⟩) (fun n => ⟨Nat.le_refl _, (Save.drawn _ wm n).all⟩) (by kernel_rfl) ?_
          refine H.any_ (i := 0) (.slice (some ⟨g, 0, none⟩) L c) rfl (by kernel_rfl) (by kernel_rfl) (by kernel_rfl) rfl (by kernel_rfl) ?_ ?_
          · intro wz sz
            unfold Oper.does
            go_simp
            try exact Save.refl _ _
          go_simp
          refine H.any_ (i := 1) (.int .i64 j) rfl (by kernel_rfl) (by kernel_rfl) (by kernel_rfl) rfl (by kernel_rfl) ?_ ?_
          · intro wz sz
            unfold Oper.does
            go_simp
            try exact Save.refl _ _
          go_simp
          refine H.any_ (i := 2) (.slice (some ⟨g, 0, none⟩) L c) rfl (by kernel_rfl) (by kernel_rfl) (by kernel_rfl) rfl (by kernel_rfl) ?_ ?_
          · intro wz sz
            unfold Oper.does
            go_simp
            try exact Save.refl _ _
          go_simp
          refine H.any_ (i := 3) (.int .i64 j) rfl (by kernel_rfl) (by kernel_rfl) (by kernel_rfl) rfl (by kernel_rfl) ?_ ?_
          · intro wz sz
            unfold Oper.does
            go_simp
            try exact Save.refl _ _
          go_simp
          refine H.any_ (i := 4) (.int .i64 q) rfl (by kernel_rfl) (by kernel_rfl) (by kernel_rfl) rfl (by kernel_rfl) ?_ ?_
          · intro wz sz
            unfold Oper.does
            go_simp
            try exact Save.refl _ _
          go_simp
          refine H.any_ (i := 5) (.slice (some ⟨g, 0, none⟩) L c) rfl (by kernel_rfl) (by kernel_rfl) (by kernel_rfl) rfl (by kernel_rfl) ?_ ?_
          · intro wz sz
            unfold Oper.does
            go_simp
            try exact Save.refl _ _
          go_simp
          refine H.any_ (i := 6) (.int .i64 j) rfl (by kernel_rfl) (by kernel_rfl) (by kernel_rfl) rfl (by kernel_rfl) ?_ ?_
          · intro wz sz
            unfold Oper.does
            go_simp
            try exact Save.refl _ _
          go_simp
          refine H.any_ (i := 7) (.int .i64 q) rfl (by kernel_rfl) (by kernel_rfl) (by kernel_rfl) rfl (by kernel_rfl) ?_ ?_
          · intro wz sz
            unfold Oper.does
            go_simp
            try exact Save.refl _ _
          go_simp
          refine H.any_ (i := 8) (.pointer (some ⟨g, q * 4, none⟩)) rfl (by kernel_rfl) (by kernel_rfl) (by kernel_rfl) rfl (by kernel_rfl) ?_ ?_
          · intro wz sz
            unfold Oper.does
            go_simp
            try exact Save.refl _ _
          go_simp
          refine H.calm_ (i := 9) (.agg #[.int .i64 y.time, .int .i64 y.what, .int .i64 y.key, .bool y.on]) rfl (by kernel_rfl) (by kernel_rfl) (by kernel_rfl) rfl (by kernel_rfl) (by kernel_rfl) ?_ ?_
          · intro wz sz
            have hT := (HN.out.below sz.2 hlt).tb hyk
            rw [HXY.out.2] at hT
            obtain ⟨c0, c1, c2, c3⟩ := hT
            unfold Oper.does
            go_simp
            exact Save.refl _ _
          go_simp
          refine H.any_ (i := 10) (.slice (some ⟨g, 0, none⟩) L c) rfl (by kernel_rfl) (by kernel_rfl) (by kernel_rfl) rfl (by kernel_rfl) ?_ ?_
          · intro wz sz
            unfold Oper.does
            go_simp
            try exact Save.refl _ _
          go_simp
          refine H.any_ (i := 11) (.int .i64 j) rfl (by kernel_rfl) (by kernel_rfl) (by kernel_rfl) rfl (by kernel_rfl) ?_ ?_
          · intro wz sz
            unfold Oper.does
            go_simp
            try exact Save.refl _ _
          go_simp
          refine H.any_ (i := 12) (.pointer (some ⟨g, j * 4, none⟩)) rfl (by kernel_rfl) (by kernel_rfl) (by kernel_rfl) rfl (by kernel_rfl) ?_ ?_
          · intro wz sz
            unfold Oper.does
            go_simp
            try exact Save.refl _ _
          go_simp
          refine H.calm_ (i := 13) (.agg #[.int .i64 x.time, .int .i64 x.what, .int .i64 x.key, .bool x.on]) rfl (by kernel_rfl) (by kernel_rfl) (by kernel_rfl) rfl (by kernel_rfl) (by kernel_rfl) ?_ ?_
          · intro wz sz
            have hT := (HN.out.below sz.2 hlt).tb hxk
            rw [HXY.out.1] at hT
            obtain ⟨c0, c1, c2, c3⟩ := hT
            unfold Oper.does
            go_simp
            exact Save.refl _ _
          go_simp
          refine H.any_ (i := 14) (.pointer (some ⟨g, j * 4, none⟩)) rfl (by kernel_rfl) (by kernel_rfl) (by kernel_rfl) rfl (by kernel_rfl) ?_ ?_
          · intro wz sz
            unfold Oper.does
            go_simp
            try exact Save.refl _ _
          go_simp
          refine H.store_ [15] (by kernel_rfl) (by simp) ?_
          intro i hi
          obtain rfl : i = 15 := by simpa using hi
          refine H.one_ rfl rfl (by intro t ht; simp only [Bool.or_eq_true, beq_iff_eq] at ht; rcases ht with rfl | rfl <;> kernel_rfl) (by kernel_rfl) ?_
          intro wz sz
          have hB : SW wz g X N := HN.out.below sz.2 hlt
          obtain ⟨c0, c1, c2, c3⟩ := hB.tb (k := j) (by omega)
          have f0 := hB.free (j * 4)
          have f1 := hB.free (j * 4 + 1)
          have f2 := hB.free (j * 4 + 2)
          have f3 := hB.free (j * 4 + 3)
          unfold Oper.does
          go_simp
          refine ⟨M.But wm g (SWo X (N.set j y)), ⟨hlt, Save.trans (Save.of_below sz.2) (save_putT wz g j y), hB.put (by omega) y⟩, M.closed_but _ _ _, M.But.weaken (fun o ho => ⟨_, by simpa using hNL, ho⟩), ?_⟩
          clear c0 c1 c2 c3 f0 f1 f2 f3 hB sz
          go_simp
          refine H.any_ (i := 16) (.pointer (some ⟨g, q * 4, none⟩)) rfl (by kernel_rfl) (by kernel_rfl) (by kernel_rfl) rfl (by kernel_rfl) ?_ ?_
          · intro wz sz
            unfold Oper.does
            go_simp
            try exact Save.refl _ _
          go_simp
          refine H.store_ [17] (by kernel_rfl) (by simp) ?_
          intro i hi
          obtain rfl : i = 17 := by simpa using hi
          refine H.one_ rfl rfl (by intro t ht; simp only [Bool.or_eq_true, beq_iff_eq] at ht; rcases ht with rfl | rfl <;> kernel_rfl) (by kernel_rfl) ?_
          intro wz sz
          have hB : SW wz g X (N.set j y) := sz.2.2
          obtain ⟨c0, c1, c2, c3⟩ := hB.tb (k := q) (by simp; omega)
          have f0 := hB.free (q * 4)
          have f1 := hB.free (q * 4 + 1)
          have f2 := hB.free (q * 4 + 2)
          have f3 := hB.free (q * 4 + 3)
          unfold Oper.does
          go_simp
          refine ⟨M.But wm g (SWo X ((N.set j y).set q x)), sz.step (save_putT wz g q x) (hB.put (by simp; omega) x), M.closed_but _ _ _, M.But.weaken (fun o ho => ⟨_, by simpa using hNL, ho⟩), ?_⟩
          clear c0 c1 c2 c3 f0 f1 f2 f3 hB sz
          go_simp
          refine H.end_ (by kernel_rfl) ?_
          intro we se
          have HNe := Lib.hid se.2.2
          have HVe := Lib.hid (HV.out.trans se.2.1)
          clear se HN HV HXY
          go_wp2_with fail
          exact ⟨⟨q, _, by omega, by omega, rfl, HNe.out, by simp; omega, HStep.out, HVe.out⟩, by simp [intOf] <;> omega⟩
        · obtain rfl : j = hi := by omega
          have hd := HMv.out.done
          rw [hd] at HN
          clear HMv hd
          go_wp2_with fail
          refine bodyPost_ret (results_none rfl _ _ _) rfl ?_
          exact ⟨rfl, T, HST.out, HN.out, HV.out⟩
end Go.Proofs.Ytofenjloieagaaa
