/-  -/
import Derived.Test.YtofenjloieagaaaZT6
import Derived.BigRegion
namespace Go.Proofs.Ytofenjloieagaaa
open Go.RowKit
set_option linter.unusedSimpArgs false
set_option linter.unusedVariables false
set_option maxRecDepth 100000

def mayT (t : Int) : Bool := decide (0 ≤ t ∧ t ≤ 1099511627776)
theorem r2may17 (t : Int) (w : World) : Calls Try.prog 43 #[.int .i64 t] w fun e w' => e = .returned (.bool (mayT t)) ∧ w = w' := by
  unfold mayT
  by_cases h0 : 0 ≤ t
  · go_enter Try.func43, Try.ntmps43
    go_wp2
    all_goals go_ret
    all_goals exact ⟨by simp [*], rfl⟩
  · go_enter Try.func43, Try.ntmps43
    go_wp2
    all_goals go_ret
    all_goals exact ⟨by simp [*] <;> omega, rfl⟩

theorem good_next {l : List Tc} {k : Nat} (hg : GoodTo l k) (hk : k < l.length) (h1 : (l.getD k tcZ).what = 1 ∧ 0 ≤ (l.getD k tcZ).key ∧ (l.getD k tcZ).key < 40 ∨ (l.getD k tcZ).what = 2 ∧ (l.getD k tcZ).key = 0)
    (h2 : mayT (l.getD k tcZ).time = true) (h3 : 0 < k → (l.getD (k - 1) tcZ).time ≤ (l.getD k tcZ).time) : GoodTo l (k + 1) := by
  have h2 := of_decide_eq_true h2
  intro i hi
  by_cases e : i = k
  · subst e
    refine ⟨?_, ?_⟩
    · unfold Tc.Fine
      rcases h1 with ⟨a, b, c⟩ | ⟨a, b⟩
      · left; omega
      · right; omega
    · unfold lastT
      split
      · exact h2.1
      · exact h3 (by omega)
  · exact hg i (by omega)
theorem not_good_a {l : List Tc} {k : Nat} (hk : k < l.length) (h1 : ¬ ((l.getD k tcZ).what = 1 ∧ 0 ≤ (l.getD k tcZ).key ∧ (l.getD k tcZ).key < 40 ∨ (l.getD k tcZ).what = 2 ∧ (l.getD k tcZ).key = 0)) : ¬ GoodTo l l.length := fun hg => h1 (by
  rcases (hg k hk).1 with ⟨a, b, c, d⟩ | ⟨a, b, c⟩
  · left; omega
  · right; omega)
theorem not_good_b {l : List Tc} {k : Nat} (hk : k < l.length) (h1 : mayT (l.getD k tcZ).time = false) : ¬ GoodTo l l.length := fun hg => by
  have h0 := good_low hg k hk
  have := of_decide_eq_false h1
  rcases (hg k hk).1 with ⟨a, b, c, d⟩ | ⟨a, b, c⟩ <;> omega
theorem not_good_c {l : List Tc} {k : Nat} (hk : k < l.length) (h0 : 0 < k) (h1 : (l.getD k tcZ).time < (l.getD (k - 1) tcZ).time) : ¬ GoodTo l l.length := fun hg => by
  have := good_mono hg k hk (k - 1) (by omega)
  omega

set_option maxHeartbeats 8000000 in
theorem rcheck17_any (w : World) (A : Option Addr) (c : Nat) (l : List Tc) (hl : TsAt w w.heap.size A l) (hc : l.length ≤ maxLen) :
    Calls Try.prog 14 #[.slice A l.length c] w fun e w' => e = .returned (.int .i64 (errL l)) ∧ Below w.heap.size w w' := by
  unfold maxLen at hc
  by_cases hlong : 65536 < l.length
  · have he : errL l = 3 := by unfold errL; rw [if_pos hlong]
    rw [he]
    go_enter Try.func14, Try.ntmps14
    go_wp2_with fail
    go_ret
    exact ⟨rfl, Below.refl _ _⟩
  · have HL := Lib.hid hl
    have HE0 := Lib.hid (show GoodTo l l.length → errL l = 0 from fun h => by unfold errL; rw [if_neg hlong, if_pos h])
    have HE1 := Lib.hid (show ¬ GoodTo l l.length → errL l = 2 from fun h => by unfold errL; rw [if_neg hlong, if_neg h])
    clear hl
    generalize errL l = er at *
    go_enter Try.func14, Try.ntmps14
    go_wp2_with fail
    go_loopw [3] (fun i wr => ∃ k : Nat, k ≤ l.length ∧ i = .int .i64 k ∧ Hid (GoodTo l k) ∧ Below w.heap.size w wr) (fun i _ => l.length - (intOf i).toNat)
    case atStart => exact ⟨0, Nat.zero_le _, rfl, Lib.hid (fun i h => by omega), Below.refl _ _⟩
    case round =>
      rename World => wr
      obtain ⟨k, hk, rfl, HG, hb⟩ := hrel
      have HB := Lib.hid hb
      clear hb
      by_cases hlt : k < l.length
      · obtain ⟨b, o, hA, hb1, hat⟩ := HL.out.at_ (by omega)
        have hev := (hat k hlt).below HB.out hb1
        have HP := Lib.hid (fun h : 0 < k => (hat (k - 1) (by omega)).below HB.out hb1)
        have HNx := Lib.hid (fun h1 h2 h3 => good_next HG.out hlt h1 h2 h3)
        have HNa := Lib.hid (fun h1 => HE1.out (not_good_a hlt h1))
        have HNb := Lib.hid (fun h1 => HE1.out (not_good_b hlt h1))
        have HNc := Lib.hid (fun h0 h1 => HE1.out (not_good_c hlt h0 h1))
        have hbl : b < wr.heap.size := by have := HB.out.size; omega
        have h1s : w.heap.size ≤ wr.heap.size := HB.out.size
        clear hat HG HE0
        subst hA
        generalize l.getD k tcZ = y at *
        generalize l.getD (k - 1) tcZ = z at *
        obtain ⟨t, kd, ky, n⟩ := y
        obtain ⟨c0, c1, c2, c3⟩ := hev
        simp only at c0 c1 c2 c3 HNx HNa HNb HNc
        have HMay := Lib.hid (r2may17 t)
        go_upto_region 7 with fail
        obtain ⟨hBx, hQ, hltx⟩ := TB.boxed (q := ⟨t, kd, ky, n⟩) (Below.refl (wr.alloc (tcO ⟨t, kd, ky, n⟩)).heap.size (wr.alloc (tcO ⟨t, kd, ky, n⟩)))
        simp only [tcO] at hBx hQ hltx
        generalize wr.alloc (.cells #[.int .i64 t, .int .i64 kd, .int .i64 ky, .bool n] 45) = wx at *
        have HBx := Lib.hid (HB.out.trans (hBx.mono h1s))
        have hblx : b < wx.heap.size := by omega
        have HPx := Lib.hid (fun h : 0 < k => (HP.out h).below hBx hbl)
        obtain ⟨d0, d1, d2, d3⟩ := hQ
        simp only at d0 d1 d2 d3
        clear hBx HB HP c0 c1 c2 c3
        have hways : (kd = 1 ∧ 0 ≤ ky ∧ ky < 40) ∨ (kd = 2 ∧ ky = 0) ∨ (kd = 1 ∧ ky < 0) ∨ (kd = 1 ∧ 0 ≤ ky ∧ 40 ≤ ky) ∨ (kd = 2 ∧ ¬ ky = 0) ∨ (¬ kd = 1 ∧ ¬ kd = 2) := by omega
        rcases hways with ⟨rfl, g1, g2⟩ | ⟨rfl, rfl⟩ | ⟨rfl, g1⟩ | ⟨rfl, g1, g2⟩ | ⟨rfl, g1⟩ | ⟨g1, g2⟩
        · skip
          have HOk := Lib.hid (fun h2 h3 => HNx.out (.inl ⟨rfl, g1, g2⟩) h2 h3)
          clear HNx HNa
          go_upto_region 8 with fail
          have x0 := fun p : M.Of (M.Base wx) => (p.ok.2.cell hltx).trans d0
          clear d0 d1 d2 d3
          generalize mayT t = m at *
          cases m with
          | false =>
            refine M.region_ (by kernel_rfl) ?_
            refine M.seg_ [0, 1, 2, 3, 4] 18 _ _ (M.Base.refl _) (by kernel_rfl) (by kernel_rfl) (by kernel_rfl) (by simp only [pickOps, mask, plain, List.getElem?_toArray, List.getElem?_cons_zero, List.getElem?_cons_succ, if_true, Bool.false_eq_true, if_false]; rfl) ?_
            repeat (go_big_quiet_step (fail))
            refine wpQuiet_nil ?_
            refine M.calm_ (i := 5) (.bool false) rfl (by kernel_rfl) (by kernel_rfl) (by kernel_rfl) (by kernel_rfl) ?_ ?_
            · intro wz sz
              unfold Oper.does
              go_simp
              exact (HMay.out wz).mono fun e w' ⟨he, hw⟩ => ⟨_, he, rfl, hw ▸ Save.refl _ _⟩
            go_simp
            refine M.seg_ [6, 7, 8, 9, 10, 11, 12, 13, 14, 15, 16, 17, 18, 19, 20, 21, 22] 0 _ _ (M.Base.refl _) (by kernel_rfl) (by kernel_rfl) (by kernel_rfl) (by simp only [pickOps, mask, plain, List.getElem?_toArray, List.getElem?_cons_zero, List.getElem?_cons_succ, if_true, Bool.false_eq_true, if_false]; rfl) ?_
            repeat (go_big_quiet_step (fail))
            refine wpQuiet_nil ?_
            refine M.end_ (by kernel_rfl) ?_
            intro wc sc
            have HBc := Lib.hid (HBx.out.trans (sc.2.mono HBx.out.size))
            have HF := Lib.hid (HNb.out rfl)
            clear x0 sc
            go_wp2_with fail
            go_ret
            exact ⟨by rw [HF.out]; rfl, HBc.out⟩
          | true =>
            cases k with
            | zero =>
              refine M.region_ (by kernel_rfl) ?_
              refine M.seg_ [0, 1, 2, 3, 4] 18 _ _ (M.Base.refl _) (by kernel_rfl) (by kernel_rfl) (by kernel_rfl) (by simp only [pickOps, mask, plain, List.getElem?_toArray, List.getElem?_cons_zero, List.getElem?_cons_succ, if_true, Bool.false_eq_true, if_false]; rfl) ?_
              repeat (go_big_quiet_step (fail))
              refine wpQuiet_nil ?_
              refine M.calm_ (i := 5) (.bool true) rfl (by kernel_rfl) (by kernel_rfl) (by kernel_rfl) (by kernel_rfl) ?_ ?_
              · intro wz sz
                unfold Oper.does
                go_simp
                exact (HMay.out wz).mono fun e w' ⟨he, hw⟩ => ⟨_, he, rfl, hw ▸ Save.refl _ _⟩
              go_simp
              refine M.seg_ [6, 7, 8, 9, 10, 11, 12, 13, 14, 15, 16, 17, 18, 19, 20, 21, 22] 0 _ _ (M.Base.refl _) (by kernel_rfl) (by kernel_rfl) (by kernel_rfl) (by simp only [pickOps, mask, plain, List.getElem?_toArray, List.getElem?_cons_zero, List.getElem?_cons_succ, if_true, Bool.false_eq_true, if_false]; rfl) ?_
              repeat (go_big_quiet_step (fail))
              refine wpQuiet_nil ?_
              refine M.end_ (by kernel_rfl) ?_
              intro wc sc
              have HBc := Lib.hid (HBx.out.trans (sc.2.mono HBx.out.size))
              have HF := Lib.hid (HOk.out rfl (fun h => absurd h (Nat.lt_irrefl 0)))
              clear x0 sc HOk
              go_wp2_with fail
              exact ⟨⟨1, by omega, by go_num, HF, HBc.out⟩, by simp [intOf] <;> omega⟩
            | succ j =>
              obtain ⟨e0, -, -, -⟩ := HPx.out (Nat.succ_pos j)
              have y0 := fun p : M.Of (M.Base wx) => (p.ok.2.cell hblx).trans e0
              simp only [Nat.add_sub_cancel] at y0
              clear e0 HPx
              generalize z.time = zt at *
              by_cases hz : t < zt
              · have hzb : decide (t < zt) = true := decide_eq_true hz
                refine M.region_ (by kernel_rfl) ?_
                refine M.seg_ [0, 1, 2, 3, 4] 18 _ _ (M.Base.refl _) (by kernel_rfl) (by kernel_rfl) (by kernel_rfl) (by simp only [pickOps, mask, plain, List.getElem?_toArray, List.getElem?_cons_zero, List.getElem?_cons_succ, if_true, Bool.false_eq_true, if_false]; rfl) ?_
                repeat (go_big_quiet_step (fail))
                refine wpQuiet_nil ?_
                refine M.calm_ (i := 5) (.bool true) rfl (by kernel_rfl) (by kernel_rfl) (by kernel_rfl) (by kernel_rfl) ?_ ?_
                · intro wz sz
                  unfold Oper.does
                  go_simp
                  exact (HMay.out wz).mono fun e w' ⟨he, hw⟩ => ⟨_, he, rfl, hw ▸ Save.refl _ _⟩
                go_simp
                refine M.seg_ [6, 7, 8, 9, 10, 11, 12, 13, 14, 15, 16, 17, 18, 19, 20, 21, 22] 0 _ _ (M.Base.refl _) (by kernel_rfl) (by kernel_rfl) (by kernel_rfl) (by simp only [pickOps, mask, plain, List.getElem?_toArray, List.getElem?_cons_zero, List.getElem?_cons_succ, if_true, Bool.false_eq_true, if_false]; rfl) ?_
                repeat (go_big_quiet_step (fail))
                refine wpQuiet_nil ?_
                refine M.end_ (by kernel_rfl) ?_
                intro wc sc
                have HBc := Lib.hid (HBx.out.trans (sc.2.mono HBx.out.size))
                have HF := Lib.hid (HNc.out (Nat.succ_pos j) hz)
                clear x0 y0 sc
                go_wp2_with fail
                go_ret
                exact ⟨by rw [HF.out]; rfl, HBc.out⟩
              · have hzb : decide (t < zt) = false := decide_eq_false hz
                refine M.region_ (by kernel_rfl) ?_
                refine M.seg_ [0, 1, 2, 3, 4] 18 _ _ (M.Base.refl _) (by kernel_rfl) (by kernel_rfl) (by kernel_rfl) (by simp only [pickOps, mask, plain, List.getElem?_toArray, List.getElem?_cons_zero, List.getElem?_cons_succ, if_true, Bool.false_eq_true, if_false]; rfl) ?_
                repeat (go_big_quiet_step (fail))
                refine wpQuiet_nil ?_
                refine M.calm_ (i := 5) (.bool true) rfl (by kernel_rfl) (by kernel_rfl) (by kernel_rfl) (by kernel_rfl) ?_ ?_
                · intro wz sz
                  unfold Oper.does
                  go_simp
                  exact (HMay.out wz).mono fun e w' ⟨he, hw⟩ => ⟨_, he, rfl, hw ▸ Save.refl _ _⟩
                go_simp
                refine M.seg_ [6, 7, 8, 9, 10, 11, 12, 13, 14, 15, 16, 17, 18, 19, 20, 21, 22] 0 _ _ (M.Base.refl _) (by kernel_rfl) (by kernel_rfl) (by kernel_rfl) (by simp only [pickOps, mask, plain, List.getElem?_toArray, List.getElem?_cons_zero, List.getElem?_cons_succ, if_true, Bool.false_eq_true, if_false]; rfl) ?_
                repeat (go_big_quiet_step (fail))
                refine wpQuiet_nil ?_
                refine M.end_ (by kernel_rfl) ?_
                intro wc sc
                have HBc := Lib.hid (HBx.out.trans (sc.2.mono HBx.out.size))
                have HF := Lib.hid (HOk.out rfl (fun _ => by omega))
                clear x0 y0 sc HOk
                go_wp2_with fail
                exact ⟨⟨j + 1 + 1, by omega, by go_num, HF, HBc.out⟩, by simp [intOf] <;> omega⟩
        · skip
          have HOk := Lib.hid (fun h2 h3 => HNx.out (.inr ⟨rfl, rfl⟩) h2 h3)
          clear HNx HNa
          go_upto_region 8 with fail
          have x0 := fun p : M.Of (M.Base wx) => (p.ok.2.cell hltx).trans d0
          clear d0 d1 d2 d3
          generalize mayT t = m at *
          cases m with
          | false =>
            refine M.region_ (by kernel_rfl) ?_
            refine M.seg_ [0, 1, 2, 3, 4] 18 _ _ (M.Base.refl _) (by kernel_rfl) (by kernel_rfl) (by kernel_rfl) (by simp only [pickOps, mask, plain, List.getElem?_toArray, List.getElem?_cons_zero, List.getElem?_cons_succ, if_true, Bool.false_eq_true, if_false]; rfl) ?_
            repeat (go_big_quiet_step (fail))
            refine wpQuiet_nil ?_
            refine M.calm_ (i := 5) (.bool false) rfl (by kernel_rfl) (by kernel_rfl) (by kernel_rfl) (by kernel_rfl) ?_ ?_
            · intro wz sz
              unfold Oper.does
              go_simp
              exact (HMay.out wz).mono fun e w' ⟨he, hw⟩ => ⟨_, he, rfl, hw ▸ Save.refl _ _⟩
            go_simp
            refine M.seg_ [6, 7, 8, 9, 10, 11, 12, 13, 14, 15, 16, 17, 18, 19, 20, 21, 22] 0 _ _ (M.Base.refl _) (by kernel_rfl) (by kernel_rfl) (by kernel_rfl) (by simp only [pickOps, mask, plain, List.getElem?_toArray, List.getElem?_cons_zero, List.getElem?_cons_succ, if_true, Bool.false_eq_true, if_false]; rfl) ?_
            repeat (go_big_quiet_step (fail))
            refine wpQuiet_nil ?_
            refine M.end_ (by kernel_rfl) ?_
            intro wc sc
            have HBc := Lib.hid (HBx.out.trans (sc.2.mono HBx.out.size))
            have HF := Lib.hid (HNb.out rfl)
            clear x0 sc
            go_wp2_with fail
            go_ret
            exact ⟨by rw [HF.out]; rfl, HBc.out⟩
          | true =>
            cases k with
            | zero =>
              refine M.region_ (by kernel_rfl) ?_
              refine M.seg_ [0, 1, 2, 3, 4] 18 _ _ (M.Base.refl _) (by kernel_rfl) (by kernel_rfl) (by kernel_rfl) (by simp only [pickOps, mask, plain, List.getElem?_toArray, List.getElem?_cons_zero, List.getElem?_cons_succ, if_true, Bool.false_eq_true, if_false]; rfl) ?_
              repeat (go_big_quiet_step (fail))
              refine wpQuiet_nil ?_
              refine M.calm_ (i := 5) (.bool true) rfl (by kernel_rfl) (by kernel_rfl) (by kernel_rfl) (by kernel_rfl) ?_ ?_
              · intro wz sz
                unfold Oper.does
                go_simp
                exact (HMay.out wz).mono fun e w' ⟨he, hw⟩ => ⟨_, he, rfl, hw ▸ Save.refl _ _⟩
              go_simp
              refine M.seg_ [6, 7, 8, 9, 10, 11, 12, 13, 14, 15, 16, 17, 18, 19, 20, 21, 22] 0 _ _ (M.Base.refl _) (by kernel_rfl) (by kernel_rfl) (by kernel_rfl) (by simp only [pickOps, mask, plain, List.getElem?_toArray, List.getElem?_cons_zero, List.getElem?_cons_succ, if_true, Bool.false_eq_true, if_false]; rfl) ?_
              repeat (go_big_quiet_step (fail))
              refine wpQuiet_nil ?_
              refine M.end_ (by kernel_rfl) ?_
              intro wc sc
              have HBc := Lib.hid (HBx.out.trans (sc.2.mono HBx.out.size))
              have HF := Lib.hid (HOk.out rfl (fun h => absurd h (Nat.lt_irrefl 0)))
              clear x0 sc HOk
              go_wp2_with fail
              exact ⟨⟨1, by omega, by go_num, HF, HBc.out⟩, by simp [intOf] <;> omega⟩
            | succ j =>
              obtain ⟨e0, -, -, -⟩ := HPx.out (Nat.succ_pos j)
              have y0 := fun p : M.Of (M.Base wx) => (p.ok.2.cell hblx).trans e0
              simp only [Nat.add_sub_cancel] at y0
              clear e0 HPx
              generalize z.time = zt at *
              by_cases hz : t < zt
              · have hzb : decide (t < zt) = true := decide_eq_true hz
                refine M.region_ (by kernel_rfl) ?_
                refine M.seg_ [0, 1, 2, 3, 4] 18 _ _ (M.Base.refl _) (by kernel_rfl) (by kernel_rfl) (by kernel_rfl) (by simp only [pickOps, mask, plain, List.getElem?_toArray, List.getElem?_cons_zero, List.getElem?_cons_succ, if_true, Bool.false_eq_true, if_false]; rfl) ?_
                repeat (go_big_quiet_step (fail))
                refine wpQuiet_nil ?_
                refine M.calm_ (i := 5) (.bool true) rfl (by kernel_rfl) (by kernel_rfl) (by kernel_rfl) (by kernel_rfl) ?_ ?_
                · intro wz sz
                  unfold Oper.does
                  go_simp
                  exact (HMay.out wz).mono fun e w' ⟨he, hw⟩ => ⟨_, he, rfl, hw ▸ Save.refl _ _⟩
                go_simp
                refine M.seg_ [6, 7, 8, 9, 10, 11, 12, 13, 14, 15, 16, 17, 18, 19, 20, 21, 22] 0 _ _ (M.Base.refl _) (by kernel_rfl) (by kernel_rfl) (by kernel_rfl) (by simp only [pickOps, mask, plain, List.getElem?_toArray, List.getElem?_cons_zero, List.getElem?_cons_succ, if_true, Bool.false_eq_true, if_false]; rfl) ?_
                repeat (go_big_quiet_step (fail))
                refine wpQuiet_nil ?_
                refine M.end_ (by kernel_rfl) ?_
                intro wc sc
                have HBc := Lib.hid (HBx.out.trans (sc.2.mono HBx.out.size))
                have HF := Lib.hid (HNc.out (Nat.succ_pos j) hz)
                clear x0 y0 sc
                go_wp2_with fail
                go_ret
                exact ⟨by rw [HF.out]; rfl, HBc.out⟩
              · have hzb : decide (t < zt) = false := decide_eq_false hz
                refine M.region_ (by kernel_rfl) ?_
                refine M.seg_ [0, 1, 2, 3, 4] 18 _ _ (M.Base.refl _) (by kernel_rfl) (by kernel_rfl) (by kernel_rfl) (by simp only [pickOps, mask, plain, List.getElem?_toArray, List.getElem?_cons_zero, List.getElem?_cons_succ, if_true, Bool.false_eq_true, if_false]; rfl) ?_
                repeat (go_big_quiet_step (fail))
                refine wpQuiet_nil ?_
                refine M.calm_ (i := 5) (.bool true) rfl (by kernel_rfl) (by kernel_rfl) (by kernel_rfl) (by kernel_rfl) ?_ ?_
                · intro wz sz
                  unfold Oper.does
                  go_simp
                  exact (HMay.out wz).mono fun e w' ⟨he, hw⟩ => ⟨_, he, rfl, hw ▸ Save.refl _ _⟩
                go_simp
                refine M.seg_ [6, 7, 8, 9, 10, 11, 12, 13, 14, 15, 16, 17, 18, 19, 20, 21, 22] 0 _ _ (M.Base.refl _) (by kernel_rfl) (by kernel_rfl) (by kernel_rfl) (by simp only [pickOps, mask, plain, List.getElem?_toArray, List.getElem?_cons_zero, List.getElem?_cons_succ, if_true, Bool.false_eq_true, if_false]; rfl) ?_
                repeat (go_big_quiet_step (fail))
                refine wpQuiet_nil ?_
                refine M.end_ (by kernel_rfl) ?_
                intro wc sc
                have HBc := Lib.hid (HBx.out.trans (sc.2.mono HBx.out.size))
                have HF := Lib.hid (HOk.out rfl (fun _ => by omega))
                clear x0 y0 sc HOk
                go_wp2_with fail
                exact ⟨⟨j + 1 + 1, by omega, by go_num, HF, HBc.out⟩, by simp [intOf] <;> omega⟩
        · skip
          have HF := Lib.hid (HNa.out (by omega))
          clear HNx HNa
          go_upto_region 8 with fail
          have x0 := fun p : M.Of (M.Base wx) => (p.ok.2.cell hltx).trans d0
          clear d0 d1 d2 d3
          refine M.region_ (by kernel_rfl) ?_
          refine M.seg_ [0, 1, 2, 3, 4, 5, 6, 7, 8, 9, 10, 11, 12, 13, 14, 15, 16, 17, 18, 19, 20, 21, 22] 0 _ _ (M.Base.refl _) (by kernel_rfl) (by kernel_rfl) (by kernel_rfl) (by simp only [pickOps, mask, plain, List.getElem?_toArray, List.getElem?_cons_zero, List.getElem?_cons_succ, if_true, Bool.false_eq_true, if_false]; rfl) ?_
          repeat (go_big_quiet_step (fail))
          refine wpQuiet_nil ?_
          refine M.end_ (by kernel_rfl) ?_
          intro wc sc
          have HBc := Lib.hid (HBx.out.trans (sc.2.mono HBx.out.size))
          clear x0 sc
          go_wp2_with fail
          go_ret
          exact ⟨by rw [HF.out]; rfl, HBc.out⟩
        · skip
          have q0 : decide (ky < 40) = false := decide_eq_false (by omega)
          have HF := Lib.hid (HNa.out (by omega))
          clear HNx HNa
          go_upto_region 8 with fail
          have x0 := fun p : M.Of (M.Base wx) => (p.ok.2.cell hltx).trans d0
          clear d0 d1 d2 d3
          refine M.region_ (by kernel_rfl) ?_
          refine M.seg_ [0, 1, 2, 3, 4, 5, 6, 7, 8, 9, 10, 11, 12, 13, 14, 15, 16, 17, 18, 19, 20, 21, 22] 0 _ _ (M.Base.refl _) (by kernel_rfl) (by kernel_rfl) (by kernel_rfl) (by simp only [pickOps, mask, plain, List.getElem?_toArray, List.getElem?_cons_zero, List.getElem?_cons_succ, if_true, Bool.false_eq_true, if_false]; rfl) ?_
          repeat (go_big_quiet_step (fail))
          refine wpQuiet_nil ?_
          refine M.end_ (by kernel_rfl) ?_
          intro wc sc
          have HBc := Lib.hid (HBx.out.trans (sc.2.mono HBx.out.size))
          clear x0 sc
          go_wp2_with fail
          go_ret
          exact ⟨by rw [HF.out]; rfl, HBc.out⟩
        · skip
          have q0 : (ky == 0) = false := by simpa using g1
          have HF := Lib.hid (HNa.out (by omega))
          clear HNx HNa
          go_upto_region 8 with fail
          have x0 := fun p : M.Of (M.Base wx) => (p.ok.2.cell hltx).trans d0
          clear d0 d1 d2 d3
          refine M.region_ (by kernel_rfl) ?_
          refine M.seg_ [0, 1, 2, 3, 4, 5, 6, 7, 8, 9, 10, 11, 12, 13, 14, 15, 16, 17, 18, 19, 20, 21, 22] 0 _ _ (M.Base.refl _) (by kernel_rfl) (by kernel_rfl) (by kernel_rfl) (by simp only [pickOps, mask, plain, List.getElem?_toArray, List.getElem?_cons_zero, List.getElem?_cons_succ, if_true, Bool.false_eq_true, if_false]; rfl) ?_
          repeat (go_big_quiet_step (fail))
          refine wpQuiet_nil ?_
          refine M.end_ (by kernel_rfl) ?_
          intro wc sc
          have HBc := Lib.hid (HBx.out.trans (sc.2.mono HBx.out.size))
          clear x0 sc
          go_wp2_with fail
          go_ret
          exact ⟨by rw [HF.out]; rfl, HBc.out⟩
        · skip
          have q0 : (kd == 1) = false := by simpa using g1
          have q1 : (kd == 2) = false := by simpa using g2
          have HF := Lib.hid (HNa.out (by omega))
          clear HNx HNa
          go_upto_region 8 with fail
          have x0 := fun p : M.Of (M.Base wx) => (p.ok.2.cell hltx).trans d0
          clear d0 d1 d2 d3
          refine M.region_ (by kernel_rfl) ?_
          refine M.seg_ [0, 1, 2, 3, 4, 5, 6, 7, 8, 9, 10, 11, 12, 13, 14, 15, 16, 17, 18, 19, 20, 21, 22] 0 _ _ (M.Base.refl _) (by kernel_rfl) (by kernel_rfl) (by kernel_rfl) (by simp only [pickOps, mask, plain, List.getElem?_toArray, List.getElem?_cons_zero, List.getElem?_cons_succ, if_true, Bool.false_eq_true, if_false]; rfl) ?_
          repeat (go_big_quiet_step (fail))
          refine wpQuiet_nil ?_
          refine M.end_ (by kernel_rfl) ?_
          intro wc sc
          have HBc := Lib.hid (HBx.out.trans (sc.2.mono HBx.out.size))
          clear x0 sc
          go_wp2_with fail
          go_ret
          exact ⟨by rw [HF.out]; rfl, HBc.out⟩
      · obtain rfl : k = l.length := by omega
        have HGo := Lib.hid (HE0.out HG.out)
        clear HG
        go_wp2_with fail
        go_ret
        exact ⟨by rw [HGo.out]; rfl, HB.out⟩
end Go.Proofs.Ytofenjloieagaaa
