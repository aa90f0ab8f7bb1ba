/-  -/
import Derived.Test.YtofenjloieagaaaZT27
namespace Go.Proofs.Ytofenjloieagaaa
open Go.RowKit
set_option linter.unusedSimpArgs false
set_option linter.unusedVariables false
set_option maxRecDepth 100000

theorem Four.rest {D P A U V B Q : List Tc} {a s m e b : Nat} (F : Four D P A U V B Q a s m e b) (mid : Nat) (hm : mid + m = s + e) :
    ∃ T, T.length = D.length ∧ Turns T D m (m - s) (e - m) ∧ (¬ (s < m ∧ m < e) → D = T) ∧ Two T a s mid ∧ ∀ N, (Sorts T N a mid ∨ (¬ (a < s ∧ s < mid) ∧ N = T)) → N.length = D.length ∧ Two N mid e b ∧ ∀ N', (Sorts N N' mid b ∨ (¬ (mid < e ∧ e < b) ∧ N' = N)) → Sorts D N' a b := by
  have h1 := F.lP; have h2 := F.lA; have h3 := F.lU; have h4 := F.lV; have h5 := F.lB
  refine ⟨P ++ (A ++ (V ++ (U ++ (B ++ Q)))), by rw [F.is]; simp only [List.length_append]; omega, F.turns, F.same, F.two1 mid hm, fun N hN => ?_⟩
  obtain ⟨L', rfl, hS, hR⟩ : ∃ L', N = P ++ (L' ++ (U ++ (B ++ Q))) ∧ Same (A ++ V) L' ∧ Rising L' := by
    rcases hN with hN | ⟨hn, rfl⟩
    · have e1 : P ++ (A ++ (V ++ (U ++ (B ++ Q)))) = P ++ ((A ++ V) ++ (U ++ (B ++ Q))) := by simp only [List.append_assoc]
      rw [e1] at hN
      exact hN.of h1 (by rw [List.length_append]; omega)
    · refine ⟨A ++ V, by simp only [List.append_assoc], Same.refl _, ?_⟩
      by_cases hA : A = []
      · subst hA; exact F.rV.left
      · have : 0 < A.length := List.length_pos_iff.2 hA
        have hV : V = [] := List.eq_nil_of_length_eq_zero (by omega)
        subst hV; rw [List.append_nil]; exact F.rU.left
  have hl := hS.length
  rw [List.length_append] at hl
  refine ⟨by rw [F.is]; simp only [List.length_append]; omega, F.two2 mid hm hS, fun N' hN' => ?_⟩
  obtain ⟨R', rfl, hS2, hR2⟩ : ∃ R', N' = P ++ (L' ++ (R' ++ Q)) ∧ Same (U ++ B) R' ∧ Rising R' := by
    rcases hN' with hN' | ⟨hn, rfl⟩
    · have e1 : P ++ (L' ++ (U ++ (B ++ Q))) = (P ++ L') ++ ((U ++ B) ++ Q) := by simp only [List.append_assoc]
      rw [e1] at hN'
      obtain ⟨R', e2, h6, h7⟩ := hN'.of (by rw [List.length_append]; omega) (by rw [List.length_append]; omega)
      exact ⟨R', by rw [e2, List.append_assoc], h6, h7⟩
    · refine ⟨U ++ B, by simp only [List.append_assoc], Same.refl _, ?_⟩
      by_cases hU : U = []
      · subst hU; exact F.rV.right
      · have : 0 < U.length := List.length_pos_iff.2 hU
        have hB : B = [] := List.eq_nil_of_length_eq_zero (by omega)
        subst hB; rw [List.append_nil]; exact F.rU.right
  exact F.sorts hS hS2 hR hR2
/-- Where the search of symMerge ends. -/
theorem Two.search {D : List Tc} {a m b mid s0 r0 s : Nat} (h : Two D a m b) (ham : a < m) (hmb : m < b) (hmid : (a + b) / 2 = mid) (h0 : mid < m → s0 + b = mid + m ∧ r0 = mid) (h1 : m ≤ mid → s0 = a ∧ r0 = m) (hs0 : s0 ≤ s) (hr0 : s ≤ r0)
    (hx : s < r0 → (D.getD (mid + m - 1 - s) tcZ).time < (D.getD s tcZ).time) (hy : s0 < s → (D.getD (s - 1) tcZ).time ≤ (D.getD (mid + m - s) tcZ).time) :
    ∃ e T, e + s = mid + m ∧ a ≤ s ∧ s ≤ m ∧ m ≤ e ∧ e ≤ b ∧ s ≤ mid ∧ mid ≤ e ∧ T.length = D.length ∧ Turns T D m (m - s) (e - m) ∧ (¬ (s < m ∧ m < e) → D = T) ∧ Two T a s mid ∧ ∀ N, (Sorts T N a mid ∨ (¬ (a < s ∧ s < mid) ∧ N = T)) → N.length = D.length ∧ Two N mid e b ∧ ∀ N', (Sorts N N' mid b ∨ (¬ (mid < e ∧ e < b) ∧ N' = N)) → Sorts D N' a b := by
  have hb := h.le
  have k1 : a ≤ s ∧ s ≤ m ∧ m ≤ mid + m - s ∧ mid + m - s ≤ b ∧ s ≤ mid ∧ s ≤ mid + m := by
    rcases Nat.lt_or_ge mid m with h2 | h2
    · have := h0 h2; omega
    · have := h1 h2; omega
  obtain ⟨k1, k2, k3, k4, k5, k6⟩ := k1
  obtain ⟨P, A, U, V, B, Q, F⟩ := h.four (s := s) (e := mid + m - s) k1 k2 k3 k4 (fun g1 g2 => by
      have g3 : s < r0 := by
        rcases Nat.lt_or_ge mid m with h2 | h2
        · have := h0 h2; omega
        · have := h1 h2; omega
      have := hx g3
      rw [show mid + m - 1 - s = mid + m - s - 1 by omega] at this
      exact this) (fun g1 g2 => by
      have g3 : s0 < s := by
        rcases Nat.lt_or_ge mid m with h2 | h2
        · have := h0 h2; omega
        · have := h1 h2; omega
      exact hy g3)
  obtain ⟨T, hT⟩ := F.rest mid (by omega)
  exact ⟨mid + m - s, T, by omega, k1, k2, k3, k4, k5, by omega, hT⟩

set_option maxHeartbeats 16000000 in
theorem sym3_any (g c L : Nat) (X : List Value) (hLc : L ≤ c) (hL1 : L ≤ 1000000) (a m b : Nat) (ham : a + 1 < m) (hmb : m + 1 < b)
    (IH : ∀ (w1 : World) (D1 : List Tc) (a1 m1 b1 : Nat), SW w1 g X D1 → D1.length = L → a1 < m1 → m1 < b1 → b1 + a < b + a1 → Two D1 a1 m1 b1 → Calls Try.prog 66 #[.slice (some ⟨g, 0, none⟩) L c, .int .i64 a1, .int .i64 m1, .int .i64 b1, lessV] w1 fun e w' => e = .returned (.tuple #[]) ∧ ∃ N, Sorts D1 N a1 b1 ∧ SW w' g X N ∧ Save (· = g) w1 w')
    (w : World) (D : List Tc) (h : SW w g X D) (hL : D.length = L) (h2 : Two D a m b) :
    Calls Try.prog 66 #[.slice (some ⟨g, 0, none⟩) L c, .int .i64 a, .int .i64 m, .int .i64 b, lessV] w fun e w' => e = .returned (.tuple #[]) ∧ ∃ N, Sorts D N a b ∧ SW w' g X N ∧ Save (· = g) w w' := by
  have Hs0 := Lib.hid h
  have HDL := Lib.hid hL
  have hgl := h.lt
  have hbL : b ≤ L := by have := h2.le; omega
  obtain ⟨mid, hmid⟩ : ∃ mid, (a + b) / 2 = mid := ⟨_, rfl⟩
  obtain ⟨s0, r0, h0, h1⟩ : ∃ s0 r0 : Nat, (mid < m → s0 + b = mid + m ∧ r0 = mid) ∧ (m ≤ mid → s0 = a ∧ r0 = m) := by
    rcases Nat.lt_or_ge mid m with h2 | h2
    · exact ⟨mid + m - b, mid, fun _ => by omega, fun _ => by omega⟩
    · exact ⟨a, m, fun _ => by omega, fun _ => by omega⟩
  have HTo := Lib.hid (fun (s : Nat) g1 g2 g3 g4 => Two.search (s := s) h2 (by omega) (by omega) hmid h0 h1 g1 g2 g3 g4)
  have HRot := Lib.hid (fun (w1 : World) (T : List Tc) (h1 : SW w1 g X D) (s e : Nat) (hs : s < m) (he : m < e) (ht : Turns T D m (m - s) (e - m)) => rotate_any w1 g c L X D T h1 hL hLc hL1 s m e hs he ht lessV)
  unfold SortTo at HRot
  have HI := Lib.hid IH
  have hg : ((m : Int) - (a : Int) == 1) = false := by simp; omega
  have hg2 : ((b : Int) - (m : Int) == 1) = false := by simp; omega
  have eqm : ((a : Int) + (b : Int)) / 2 = (mid : Int) := by omega
  have hm1 : a < mid := by omega
  have hm2 : mid < b := by omega
  have hs1 : s0 ≤ r0 := by
    rcases Nat.lt_or_ge mid m with h2 | h2
    · have := h0 h2; omega
    · have := h1 h2; omega
  have hs2 : r0 ≤ m := by
    rcases Nat.lt_or_ge mid m with h2 | h2
    · have := h0 h2; omega
    · have := h1 h2; omega
  have hs3 : mid + m ≤ s0 + b := by
    rcases Nat.lt_or_ge mid m with h2 | h2
    · have := h0 h2; omega
    · have := h1 h2; omega
  have hs4 : r0 ≤ mid := by
    rcases Nat.lt_or_ge mid m with h2 | h2
    · have := h0 h2; omega
    · have := h1 h2; omega
  have HB0 := Lib.hid h0
  have HB1 := Lib.hid h1
  clear h h2 hL hmid h0 h1 IH
  go_enter Try.func66, Try.ntmps66
  rcases Nat.lt_or_ge mid m with HW | HW
  · have HS0 : Hid (s0 + b = mid + m ∧ r0 = mid) := Lib.hid (HB0.out HW)
    clear HB0 HB1
    go_wp2_with fail
    go_loopw [20, 21] (fun s5 s6 wr => ∃ lo hi : Nat, s5 = .int .i64 lo ∧ s6 = .int .i64 hi ∧ s0 ≤ lo ∧ lo ≤ hi ∧ hi ≤ r0 ∧ Hid ((hi < r0 → (D.getD (mid + m - 1 - hi) tcZ).time < (D.getD hi tcZ).time) ∧ (s0 < lo → (D.getD (lo - 1) tcZ).time ≤ (D.getD (mid + m - lo) tcZ).time)) ∧ SW wr g X D ∧ Save (· = g) w wr) (fun s5 s6 _ => (intOf s6).toNat - (intOf s5).toNat)
    case atStart => exact ⟨s0, r0, by have := HS0.out; congr 1; omega, by have := HS0.out; congr 1; omega, Nat.le_refl _, hs1, Nat.le_refl _, Lib.hid ⟨fun h => by omega, fun h => by omega⟩, Hs0.out, Save.refl _ _⟩
    case round =>
      rename World => wr
      obtain ⟨lo, hi, rfl, rfl, hlo, hle, hhi, HR, hs, hsv⟩ := hrel
      have HN := Lib.hid hs
      have HV := Lib.hid hsv
      have hlt := hs.lt
      clear hs hsv Hs0
      by_cases hlh : lo < hi
      · obtain ⟨q, hq⟩ : ∃ q : Nat, (lo + hi) / 2 = q := ⟨_, rfl⟩
        have hq1 : lo ≤ q ∧ q < hi := by omega
        obtain ⟨z, hz⟩ : ∃ z, mid + m - 1 - q = z := ⟨_, rfl⟩
        have eq1 : ((lo : Int) + (hi : Int)) / 2 = (q : Int) := by omega
        have eq2 : (mid : Int) + m - 1 - q = (z : Int) := by omega
        have hzl : z < L := by omega
        have hlq : q < L := by omega
        have hxk : z < D.length := by rw [HDL.out]; exact hzl
        have hyk : q < D.length := by rw [HDL.out]; exact hlq
        have HDn : Hid ((D.getD z tcZ).time < (D.getD q tcZ).time → Hid ((q < r0 → (D.getD (mid + m - 1 - q) tcZ).time < (D.getD q tcZ).time) ∧ (s0 < lo → (D.getD (lo - 1) tcZ).time ≤ (D.getD (mid + m - lo) tcZ).time))) := Lib.hid fun h => Lib.hid ⟨fun _ => by rw [hz]; exact h, HR.out.2⟩
        have HUp : Hid (¬ (D.getD z tcZ).time < (D.getD q tcZ).time → Hid ((hi < r0 → (D.getD (mid + m - 1 - hi) tcZ).time < (D.getD hi tcZ).time) ∧ (s0 < q + 1 → (D.getD (q + 1 - 1) tcZ).time ≤ (D.getD (mid + m - (q + 1)) tcZ).time))) := Lib.hid fun h => Lib.hid ⟨HR.out.1, fun _ => by rw [Nat.add_sub_cancel, show mid + m - (q + 1) = z by omega]; omega⟩
        obtain ⟨x, hx⟩ : ∃ x, D.getD z tcZ = x := ⟨_, rfl⟩
        obtain ⟨y, hy⟩ : ∃ y, D.getD q tcZ = y := ⟨_, rfl⟩
        have HXY := Lib.hid (And.intro hx hy)
        have HT : Hid (x.time < y.time ↔ (D.getD z tcZ).time < (D.getD q tcZ).time) := Lib.hid (by rw [hx, hy])
        clear hq hz hx hy HR HTo HRot HI
        go_upto_region 35 with fail
        have hTx := HN.out.tb hxk
        have hTy := HN.out.tb hyk
        rw [HXY.out.1] at hTx
        rw [HXY.out.2] at hTy
        obtain ⟨c0, c1, c2, c3⟩ := hTx
        obtain ⟨d0, d1, d2, d3⟩ := hTy
        have x0 := fun p : M.Of (M.Base wr) => (p.ok.2.cell hlt).trans c0
        have x1 := fun p : M.Of (M.Base wr) => (p.ok.2.cell hlt).trans c1
        have x2 := fun p : M.Of (M.Base wr) => (p.ok.2.cell hlt).trans c2
        have x3 := fun p : M.Of (M.Base wr) => (p.ok.2.cell hlt).trans c3
        have y0 := fun p : M.Of (M.Base wr) => (p.ok.2.cell hlt).trans d0
        have y1 := fun p : M.Of (M.Base wr) => (p.ok.2.cell hlt).trans d1
        have y2 := fun p : M.Of (M.Base wr) => (p.ok.2.cell hlt).trans d2
        have y3 := fun p : M.Of (M.Base wr) => (p.ok.2.cell hlt).trans d3
        clear c0 c1 c2 c3 d0 d1 d2 d3
        have HC := Lib.hid (fun w => less17 x y w)
        have HCm := Lib.hid (cmpT_neg x.time y.time)
        unfold Tc.val at HC
        generalize cmpT x.time y.time = cm at *
        refine M.region_ (by kernel_rfl) ?_
        refine M.seg_ [0, 1, 2, 3, 4, 5, 6, 7, 8, 9, 10] 3 _ _ (M.Base.refl _) (by kernel_rfl) (by kernel_rfl) (by kernel_rfl) (by simp only [pickOps, mask, plain, List.getElem?_toArray, List.getElem?_cons_zero, List.getElem?_cons_succ, if_true, Bool.false_eq_true, if_false]; rfl) ?_
        repeat (go_big_quiet_step (fail))
        refine wpQuiet_nil ?_
        refine M.calm_ (i := 11) (.int .i64 cm) rfl (by kernel_rfl) (by kernel_rfl) (by kernel_rfl) (by kernel_rfl) ?_ ?_
        · intro wz sz
          unfold Oper.does
          go_simp
          exact (HC.out wz).mono fun e w' ⟨he, hw⟩ => ⟨_, he, rfl, Save.of_below hw⟩
        go_simp
        by_cases hxy : x.time < y.time
        · have hcm := HCm.out.trans (decide_eq_true hxy)
          have HR1 := Lib.hid (HDn.out (HT.out.1 hxy))
          clear HUp HDn HT hxy
          refine M.seg_ [12, 13] 0 _ _ (M.Base.refl _) (by kernel_rfl) (by kernel_rfl) (by kernel_rfl) (by simp only [pickOps, mask, plain, List.getElem?_toArray, List.getElem?_cons_zero, List.getElem?_cons_succ, if_true, Bool.false_eq_true, if_false]; rfl) ?_
          repeat (go_big_quiet_step (fail))
          refine wpQuiet_nil ?_
          refine M.end_ (by kernel_rfl) ?_
          intro wc sc
          have HNc := Lib.hid (HN.out.below sc.2 hlt)
          have HVc := Lib.hid (HV.out.trans (Save.of_below sc.2))
          clear x0 x1 x2 x3 y0 y1 y2 y3 sc HN HV HCm HC HXY
          go_wp2_with fail
          exact ⟨⟨lo, q, rfl, rfl, by omega, by omega, by omega, HR1.out, HNc.out, HVc.out⟩, by simp [intOf]; omega⟩
        · have hcm := HCm.out.trans (decide_eq_false hxy)
          have HR1 := Lib.hid (HUp.out (fun h => hxy (HT.out.2 h)))
          clear HUp HDn HT hxy
          refine M.seg_ [12, 13] 0 _ _ (M.Base.refl _) (by kernel_rfl) (by kernel_rfl) (by kernel_rfl) (by simp only [pickOps, mask, plain, List.getElem?_toArray, List.getElem?_cons_zero, List.getElem?_cons_succ, if_true, Bool.false_eq_true, if_false]; rfl) ?_
          repeat (go_big_quiet_step (fail))
          refine wpQuiet_nil ?_
          refine M.end_ (by kernel_rfl) ?_
          intro wc sc
          have HNc := Lib.hid (HN.out.below sc.2 hlt)
          have HVc := Lib.hid (HV.out.trans (Save.of_below sc.2))
          clear x0 x1 x2 x3 y0 y1 y2 y3 sc HN HV HCm HC HXY
          go_wp2_with fail
          exact ⟨⟨q + 1, hi, by go_num, rfl, by omega, by omega, by omega, HR1.out, HNc.out, HVc.out⟩, by simp [intOf]; omega⟩
      · obtain rfl : hi = lo := by omega
        obtain ⟨e, T, he, k1, k2, k3, k4, k5, k6, hTL, ht, hsame, htwo, hrest⟩ := HTo.out hi hlo hhi HR.out.1 HR.out.2
        have eqe : (mid : Int) + m - hi = (e : Int) := by omega
        have HTn := Lib.hid ht
        have HSm := Lib.hid hsame
        have HTw := Lib.hid htwo
        have HRe := Lib.hid hrest
        have HTL := Lib.hid (hTL.trans HDL.out)
        clear he ht hsame htwo hrest hTL HTo HR HS0 hlh hlo hle hhi
        by_cases hr : hi < m ∧ m < e
        · have h1 : hi < m := hr.1
          have h2 : m < e := hr.2
          have hd1 : decide ((hi : Int) < m) = true := decide_eq_true (by omega)
          have hd2 : decide ((m : Int) < e) = true := decide_eq_true (by omega)
          have HC := Lib.hid (HRot.out wr T HN.out hi e h1 h2 HTn.out)
          clear HRot HTn HSm hr
          go_wp2_with fail
          refine HC.out.mono ?_
          rintro e0 w1 ⟨rfl, hs, hsv⟩
          have HN1 := Lib.hid hs
          have HV1 := Lib.hid (HV.out.trans hsv)
          clear hs hsv HC HN HV hd1 hd2 h1 h2
          by_cases hl : a < hi ∧ hi < mid
          · have h1 : a < hi := hl.1
            have h2 : hi < mid := hl.2
            have hd1 : decide ((a : Int) < hi) = true := decide_eq_true (by omega)
            have hd2 : decide ((hi : Int) < mid) = true := decide_eq_true (by omega)
            have HC := Lib.hid (HI.out w1 T a hi mid HN1.out HTL.out h1 h2 (by omega) HTw.out)
            clear HTw hl
            go_wp2_with fail
            refine HC.out.mono ?_
            rintro e0 w2 ⟨rfl, N, hso, hs, hsv⟩
            have HN2 := Lib.hid hs
            have HV2 := Lib.hid (HV1.out.trans hsv)
            have HR2 := Lib.hid (HRe.out N (.inl hso))
            clear hs hsv hso HC HN1 HV1 HRe hd1 hd2 h1 h2
            by_cases hl : mid < e ∧ e < b
            · have h1 : mid < e := hl.1
              have h2 : e < b := hl.2
              have hd1 : decide ((mid : Int) < e) = true := decide_eq_true (by omega)
              have hd2 : decide ((e : Int) < b) = true := decide_eq_true (by omega)
              have HC := Lib.hid (HI.out w2 N mid e b HN2.out (HR2.out.1.trans HDL.out) h1 h2 (by omega) HR2.out.2.1)
              clear hl
              go_wp2_with fail
              refine HC.out.mono ?_
              rintro e0 w3 ⟨rfl, N', hso, hs, hsv⟩
              have HN3 := Lib.hid hs
              have HV3 := Lib.hid (HV2.out.trans hsv)
              have HR3 := Lib.hid (HR2.out.2.2 N' (.inl hso))
              clear hs hsv hso HC HN2 HV2 HR2 hd1 hd2 h1 h2
              go_wp2_with fail
              go_end0
              exact ⟨rfl, N', HR3.out, HN3.out, HV3.out⟩
            · have HR3 := Lib.hid (HR2.out.2.2 N (.inr ⟨hl, rfl⟩))
              have hw1 : (e ≤ mid ∧ decide ((mid : Int) < e) = false) ∨ (mid < e ∧ b ≤ e ∧ decide ((mid : Int) < e) = true ∧ decide ((e : Int) < b) = false) := by
                by_cases h1 : mid < e
                · exact .inr ⟨h1, by omega, decide_eq_true (by omega), decide_eq_false (by omega)⟩
                · exact .inl ⟨by omega, decide_eq_false (by omega)⟩
              clear hl HR2
              rcases hw1 with ⟨q1, hd1⟩ | ⟨q1, q2, hd1, hd2⟩
              all_goals try (exfalso; omega)
              all_goals
                go_wp2_with fail
                go_end0
                exact ⟨rfl, N, HR3.out, HN2.out, HV2.out⟩
          · have HR2 := Lib.hid (HRe.out T (.inr ⟨hl, rfl⟩))
            have HN2 := HN1
            have HV2 := HV1
            have hw1 : (hi ≤ a ∧ decide ((a : Int) < hi) = false) ∨ (a < hi ∧ mid ≤ hi ∧ decide ((a : Int) < hi) = true ∧ decide ((hi : Int) < mid) = false) := by
              by_cases h1 : a < hi
              · exact .inr ⟨h1, by omega, decide_eq_true (by omega), decide_eq_false (by omega)⟩
              · exact .inl ⟨by omega, decide_eq_false (by omega)⟩
            clear HTw hl HN1 HV1 HRe
            rcases hw1 with ⟨q1, hd1⟩ | ⟨q1, q2, hd1, hd2⟩
            all_goals try (exfalso; omega)
            all_goals
              go_upto_region 43 with fail
              clear hd1 q1
              try clear hd2
              try clear q2
              by_cases hl : mid < e ∧ e < b
              · have h1 : mid < e := hl.1
                have h2 : e < b := hl.2
                have hd1 : decide ((mid : Int) < e) = true := decide_eq_true (by omega)
                have hd2 : decide ((e : Int) < b) = true := decide_eq_true (by omega)
                have HC := Lib.hid (HI.out w1 T mid e b HN2.out (HR2.out.1.trans HDL.out) h1 h2 (by omega) HR2.out.2.1)
                clear hl
                go_wp2_with fail
                refine HC.out.mono ?_
                rintro e0 w3 ⟨rfl, N', hso, hs, hsv⟩
                have HN3 := Lib.hid hs
                have HV3 := Lib.hid (HV2.out.trans hsv)
                have HR3 := Lib.hid (HR2.out.2.2 N' (.inl hso))
                clear hs hsv hso HC HN2 HV2 HR2 hd1 hd2 h1 h2
                go_wp2_with fail
                go_end0
                exact ⟨rfl, N', HR3.out, HN3.out, HV3.out⟩
              · have HR3 := Lib.hid (HR2.out.2.2 T (.inr ⟨hl, rfl⟩))
                have hw1 : (e ≤ mid ∧ decide ((mid : Int) < e) = false) ∨ (mid < e ∧ b ≤ e ∧ decide ((mid : Int) < e) = true ∧ decide ((e : Int) < b) = false) := by
                  by_cases h1 : mid < e
                  · exact .inr ⟨h1, by omega, decide_eq_true (by omega), decide_eq_false (by omega)⟩
                  · exact .inl ⟨by omega, decide_eq_false (by omega)⟩
                clear hl HR2
                rcases hw1 with ⟨q1, hd1⟩ | ⟨q1, q2, hd1, hd2⟩
                all_goals try (exfalso; omega)
                all_goals
                  go_wp2_with fail
                  go_end0
                  exact ⟨rfl, T, HR3.out, HN2.out, HV2.out⟩
        · have hDT := HSm.out hr
          have HN1 := HN
          rw [hDT] at HN1
          have HV1 := HV
          have hw1 : (m ≤ hi ∧ decide ((hi : Int) < m) = false) ∨ (hi < m ∧ e ≤ m ∧ decide ((hi : Int) < m) = true ∧ decide ((m : Int) < e) = false) := by
            by_cases h1 : hi < m
            · exact .inr ⟨h1, by omega, decide_eq_true (by omega), decide_eq_false (by omega)⟩
            · exact .inl ⟨by omega, decide_eq_false (by omega)⟩
          clear HRot HTn HSm hr HN HV hDT
          rcases hw1 with ⟨q1, hd1⟩ | ⟨q1, q2, hd1, hd2⟩
          all_goals try (exfalso; omega)
          all_goals
            go_upto_region 41 with fail
            clear hd1 q1
            try clear hd2
            try clear q2
            by_cases hl : a < hi ∧ hi < mid
            · have h1 : a < hi := hl.1
              have h2 : hi < mid := hl.2
              have hd1 : decide ((a : Int) < hi) = true := decide_eq_true (by omega)
              have hd2 : decide ((hi : Int) < mid) = true := decide_eq_true (by omega)
              have HC := Lib.hid (HI.out wr T a hi mid HN1.out HTL.out h1 h2 (by omega) HTw.out)
              clear HTw hl
              go_wp2_with fail
              refine HC.out.mono ?_
              rintro e0 w2 ⟨rfl, N, hso, hs, hsv⟩
              have HN2 := Lib.hid hs
              have HV2 := Lib.hid (HV1.out.trans hsv)
              have HR2 := Lib.hid (HRe.out N (.inl hso))
              clear hs hsv hso HC HN1 HV1 HRe hd1 hd2 h1 h2
              by_cases hl : mid < e ∧ e < b
              · have h1 : mid < e := hl.1
                have h2 : e < b := hl.2
                have hd1 : decide ((mid : Int) < e) = true := decide_eq_true (by omega)
                have hd2 : decide ((e : Int) < b) = true := decide_eq_true (by omega)
                have HC := Lib.hid (HI.out w2 N mid e b HN2.out (HR2.out.1.trans HDL.out) h1 h2 (by omega) HR2.out.2.1)
                clear hl
                go_wp2_with fail
                refine HC.out.mono ?_
                rintro e0 w3 ⟨rfl, N', hso, hs, hsv⟩
                have HN3 := Lib.hid hs
                have HV3 := Lib.hid (HV2.out.trans hsv)
                have HR3 := Lib.hid (HR2.out.2.2 N' (.inl hso))
                clear hs hsv hso HC HN2 HV2 HR2 hd1 hd2 h1 h2
                go_wp2_with fail
                go_end0
                exact ⟨rfl, N', HR3.out, HN3.out, HV3.out⟩
              · have HR3 := Lib.hid (HR2.out.2.2 N (.inr ⟨hl, rfl⟩))
                have hw1 : (e ≤ mid ∧ decide ((mid : Int) < e) = false) ∨ (mid < e ∧ b ≤ e ∧ decide ((mid : Int) < e) = true ∧ decide ((e : Int) < b) = false) := by
                  by_cases h1 : mid < e
                  · exact .inr ⟨h1, by omega, decide_eq_true (by omega), decide_eq_false (by omega)⟩
                  · exact .inl ⟨by omega, decide_eq_false (by omega)⟩
                clear hl HR2
                rcases hw1 with ⟨q1, hd1⟩ | ⟨q1, q2, hd1, hd2⟩
                all_goals try (exfalso; omega)
                all_goals
                  go_wp2_with fail
                  go_end0
                  exact ⟨rfl, N, HR3.out, HN2.out, HV2.out⟩
            · have HR2 := Lib.hid (HRe.out T (.inr ⟨hl, rfl⟩))
              have HN2 := HN1
              have HV2 := HV1
              have hw1 : (hi ≤ a ∧ decide ((a : Int) < hi) = false) ∨ (a < hi ∧ mid ≤ hi ∧ decide ((a : Int) < hi) = true ∧ decide ((hi : Int) < mid) = false) := by
                by_cases h1 : a < hi
                · exact .inr ⟨h1, by omega, decide_eq_true (by omega), decide_eq_false (by omega)⟩
                · exact .inl ⟨by omega, decide_eq_false (by omega)⟩
              clear HTw hl HN1 HV1 HRe
              rcases hw1 with ⟨q1, hd1⟩ | ⟨q1, q2, hd1, hd2⟩
              all_goals try (exfalso; omega)
              all_goals
                go_upto_region 43 with fail
                clear hd1 q1
                try clear hd2
                try clear q2
                by_cases hl : mid < e ∧ e < b
                · have h1 : mid < e := hl.1
                  have h2 : e < b := hl.2
                  have hd1 : decide ((mid : Int) < e) = true := decide_eq_true (by omega)
                  have hd2 : decide ((e : Int) < b) = true := decide_eq_true (by omega)
                  have HC := Lib.hid (HI.out wr T mid e b HN2.out (HR2.out.1.trans HDL.out) h1 h2 (by omega) HR2.out.2.1)
                  clear hl
                  go_wp2_with fail
                  refine HC.out.mono ?_
                  rintro e0 w3 ⟨rfl, N', hso, hs, hsv⟩
                  have HN3 := Lib.hid hs
                  have HV3 := Lib.hid (HV2.out.trans hsv)
                  have HR3 := Lib.hid (HR2.out.2.2 N' (.inl hso))
                  clear hs hsv hso HC HN2 HV2 HR2 hd1 hd2 h1 h2
                  go_wp2_with fail
                  go_end0
                  exact ⟨rfl, N', HR3.out, HN3.out, HV3.out⟩
                · have HR3 := Lib.hid (HR2.out.2.2 T (.inr ⟨hl, rfl⟩))
                  have hw1 : (e ≤ mid ∧ decide ((mid : Int) < e) = false) ∨ (mid < e ∧ b ≤ e ∧ decide ((mid : Int) < e) = true ∧ decide ((e : Int) < b) = false) := by
                    by_cases h1 : mid < e
                    · exact .inr ⟨h1, by omega, decide_eq_true (by omega), decide_eq_false (by omega)⟩
                    · exact .inl ⟨by omega, decide_eq_false (by omega)⟩
                  clear hl HR2
                  rcases hw1 with ⟨q1, hd1⟩ | ⟨q1, q2, hd1, hd2⟩
                  all_goals try (exfalso; omega)
                  all_goals
                    go_wp2_with fail
                    go_end0
                    exact ⟨rfl, T, HR3.out, HN2.out, HV2.out⟩
  · have HS0 : Hid (s0 = a ∧ r0 = m) := Lib.hid (HB1.out HW)
    clear HB0 HB1
    have hdw : decide (mid < m) = false := decide_eq_false (by omega)
    go_wp2_with fail
    go_loopw [20, 21] (fun s5 s6 wr => ∃ lo hi : Nat, s5 = .int .i64 lo ∧ s6 = .int .i64 hi ∧ s0 ≤ lo ∧ lo ≤ hi ∧ hi ≤ r0 ∧ Hid ((hi < r0 → (D.getD (mid + m - 1 - hi) tcZ).time < (D.getD hi tcZ).time) ∧ (s0 < lo → (D.getD (lo - 1) tcZ).time ≤ (D.getD (mid + m - lo) tcZ).time)) ∧ SW wr g X D ∧ Save (· = g) w wr) (fun s5 s6 _ => (intOf s6).toNat - (intOf s5).toNat)
    case atStart => exact ⟨s0, r0, by have := HS0.out; congr 1; omega, by have := HS0.out; congr 1; omega, Nat.le_refl _, hs1, Nat.le_refl _, Lib.hid ⟨fun h => by omega, fun h => by omega⟩, Hs0.out, Save.refl _ _⟩
    case round =>
      rename World => wr
      obtain ⟨lo, hi, rfl, rfl, hlo, hle, hhi, HR, hs, hsv⟩ := hrel
      have HN := Lib.hid hs
      have HV := Lib.hid hsv
      have hlt := hs.lt
      clear hs hsv Hs0
      by_cases hlh : lo < hi
      · obtain ⟨q, hq⟩ : ∃ q : Nat, (lo + hi) / 2 = q := ⟨_, rfl⟩
        have hq1 : lo ≤ q ∧ q < hi := by omega
        obtain ⟨z, hz⟩ : ∃ z, mid + m - 1 - q = z := ⟨_, rfl⟩
        have eq1 : ((lo : Int) + (hi : Int)) / 2 = (q : Int) := by omega
        have eq2 : (mid : Int) + m - 1 - q = (z : Int) := by omega
        have hzl : z < L := by omega
        have hlq : q < L := by omega
        have hxk : z < D.length := by rw [HDL.out]; exact hzl
        have hyk : q < D.length := by rw [HDL.out]; exact hlq
        have HDn : Hid ((D.getD z tcZ).time < (D.getD q tcZ).time → Hid ((q < r0 → (D.getD (mid + m - 1 - q) tcZ).time < (D.getD q tcZ).time) ∧ (s0 < lo → (D.getD (lo - 1) tcZ).time ≤ (D.getD (mid + m - lo) tcZ).time))) := Lib.hid fun h => Lib.hid ⟨fun _ => by rw [hz]; exact h, HR.out.2⟩
        have HUp : Hid (¬ (D.getD z tcZ).time < (D.getD q tcZ).time → Hid ((hi < r0 → (D.getD (mid + m - 1 - hi) tcZ).time < (D.getD hi tcZ).time) ∧ (s0 < q + 1 → (D.getD (q + 1 - 1) tcZ).time ≤ (D.getD (mid + m - (q + 1)) tcZ).time))) := Lib.hid fun h => Lib.hid ⟨HR.out.1, fun _ => by rw [Nat.add_sub_cancel, show mid + m - (q + 1) = z by omega]; omega⟩
        obtain ⟨x, hx⟩ : ∃ x, D.getD z tcZ = x := ⟨_, rfl⟩
        obtain ⟨y, hy⟩ : ∃ y, D.getD q tcZ = y := ⟨_, rfl⟩
        have HXY := Lib.hid (And.intro hx hy)
        have HT : Hid (x.time < y.time ↔ (D.getD z tcZ).time < (D.getD q tcZ).time) := Lib.hid (by rw [hx, hy])
        clear hq hz hx hy HR HTo HRot HI
        go_upto_region 35 with fail
        have hTx := HN.out.tb hxk
        have hTy := HN.out.tb hyk
        rw [HXY.out.1] at hTx
        rw [HXY.out.2] at hTy
        obtain ⟨c0, c1, c2, c3⟩ := hTx
        obtain ⟨d0, d1, d2, d3⟩ := hTy
        have x0 := fun p : M.Of (M.Base wr) => (p.ok.2.cell hlt).trans c0
        have x1 := fun p : M.Of (M.Base wr) => (p.ok.2.cell hlt).trans c1
        have x2 := fun p : M.Of (M.Base wr) => (p.ok.2.cell hlt).trans c2
        have x3 := fun p : M.Of (M.Base wr) => (p.ok.2.cell hlt).trans c3
        have y0 := fun p : M.Of (M.Base wr) => (p.ok.2.cell hlt).trans d0
        have y1 := fun p : M.Of (M.Base wr) => (p.ok.2.cell hlt).trans d1
        have y2 := fun p : M.Of (M.Base wr) => (p.ok.2.cell hlt).trans d2
        have y3 := fun p : M.Of (M.Base wr) => (p.ok.2.cell hlt).trans d3
        clear c0 c1 c2 c3 d0 d1 d2 d3
        have HC := Lib.hid (fun w => less17 x y w)
        have HCm := Lib.hid (cmpT_neg x.time y.time)
        unfold Tc.val at HC
        generalize cmpT x.time y.time = cm at *
        refine M.region_ (by kernel_rfl) ?_
        refine M.seg_ [0, 1, 2, 3, 4, 5, 6, 7, 8, 9, 10] 3 _ _ (M.Base.refl _) (by kernel_rfl) (by kernel_rfl) (by kernel_rfl) (by simp only [pickOps, mask, plain, List.getElem?_toArray, List.getElem?_cons_zero, List.getElem?_cons_succ, if_true, Bool.false_eq_true, if_false]; rfl) ?_
        repeat (go_big_quiet_step (fail))
        refine wpQuiet_nil ?_
        refine M.calm_ (i := 11) (.int .i64 cm) rfl (by kernel_rfl) (by kernel_rfl) (by kernel_rfl) (by kernel_rfl) ?_ ?_
        · intro wz sz
          unfold Oper.does
          go_simp
          exact (HC.out wz).mono fun e w' ⟨he, hw⟩ => ⟨_, he, rfl, Save.of_below hw⟩
        go_simp
        by_cases hxy : x.time < y.time
        · have hcm := HCm.out.trans (decide_eq_true hxy)
          have HR1 := Lib.hid (HDn.out (HT.out.1 hxy))
          clear HUp HDn HT hxy
          refine M.seg_ [12, 13] 0 _ _ (M.Base.refl _) (by kernel_rfl) (by kernel_rfl) (by kernel_rfl) (by simp only [pickOps, mask, plain, List.getElem?_toArray, List.getElem?_cons_zero, List.getElem?_cons_succ, if_true, Bool.false_eq_true, if_false]; rfl) ?_
          repeat (go_big_quiet_step (fail))
          refine wpQuiet_nil ?_
          refine M.end_ (by kernel_rfl) ?_
          intro wc sc
          have HNc := Lib.hid (HN.out.below sc.2 hlt)
          have HVc := Lib.hid (HV.out.trans (Save.of_below sc.2))
          clear x0 x1 x2 x3 y0 y1 y2 y3 sc HN HV HCm HC HXY
          go_wp2_with fail
          exact ⟨⟨lo, q, rfl, rfl, by omega, by omega, by omega, HR1.out, HNc.out, HVc.out⟩, by simp [intOf]; omega⟩
        · have hcm := HCm.out.trans (decide_eq_false hxy)
          have HR1 := Lib.hid (HUp.out (fun h => hxy (HT.out.2 h)))
          clear HUp HDn HT hxy
          refine M.seg_ [12, 13] 0 _ _ (M.Base.refl _) (by kernel_rfl) (by kernel_rfl) (by kernel_rfl) (by simp only [pickOps, mask, plain, List.getElem?_toArray, List.getElem?_cons_zero, List.getElem?_cons_succ, if_true, Bool.false_eq_true, if_false]; rfl) ?_
          repeat (go_big_quiet_step (fail))
          refine wpQuiet_nil ?_
          refine M.end_ (by kernel_rfl) ?_
          intro wc sc
          have HNc := Lib.hid (HN.out.below sc.2 hlt)
          have HVc := Lib.hid (HV.out.trans (Save.of_below sc.2))
          clear x0 x1 x2 x3 y0 y1 y2 y3 sc HN HV HCm HC HXY
          go_wp2_with fail
          exact ⟨⟨q + 1, hi, by go_num, rfl, by omega, by omega, by omega, HR1.out, HNc.out, HVc.out⟩, by simp [intOf]; omega⟩
      · obtain rfl : hi = lo := by omega
        obtain ⟨e, T, he, k1, k2, k3, k4, k5, k6, hTL, ht, hsame, htwo, hrest⟩ := HTo.out hi hlo hhi HR.out.1 HR.out.2
        have eqe : (mid : Int) + m - hi = (e : Int) := by omega
        have HTn := Lib.hid ht
        have HSm := Lib.hid hsame
        have HTw := Lib.hid htwo
        have HRe := Lib.hid hrest
        have HTL := Lib.hid (hTL.trans HDL.out)
        clear he ht hsame htwo hrest hTL HTo HR HS0 hlh hlo hle hhi
        by_cases hr : hi < m ∧ m < e
        · have h1 : hi < m := hr.1
          have h2 : m < e := hr.2
          have hd1 : decide ((hi : Int) < m) = true := decide_eq_true (by omega)
          have hd2 : decide ((m : Int) < e) = true := decide_eq_true (by omega)
          have HC := Lib.hid (HRot.out wr T HN.out hi e h1 h2 HTn.out)
          clear HRot HTn HSm hr
          go_wp2_with fail
          refine HC.out.mono ?_
          rintro e0 w1 ⟨rfl, hs, hsv⟩
          have HN1 := Lib.hid hs
          have HV1 := Lib.hid (HV.out.trans hsv)
          clear hs hsv HC HN HV hd1 hd2 h1 h2
          by_cases hl : a < hi ∧ hi < mid
          · have h1 : a < hi := hl.1
            have h2 : hi < mid := hl.2
            have hd1 : decide ((a : Int) < hi) = true := decide_eq_true (by omega)
            have hd2 : decide ((hi : Int) < mid) = true := decide_eq_true (by omega)
            have HC := Lib.hid (HI.out w1 T a hi mid HN1.out HTL.out h1 h2 (by omega) HTw.out)
            clear HTw hl
            go_wp2_with fail
            refine HC.out.mono ?_
            rintro e0 w2 ⟨rfl, N, hso, hs, hsv⟩
            have HN2 := Lib.hid hs
            have HV2 := Lib.hid (HV1.out.trans hsv)
            have HR2 := Lib.hid (HRe.out N (.inl hso))
            clear hs hsv hso HC HN1 HV1 HRe hd1 hd2 h1 h2
            by_cases hl : mid < e ∧ e < b
            · have h1 : mid < e := hl.1
              have h2 : e < b := hl.2
              have hd1 : decide ((mid : Int) < e) = true := decide_eq_true (by omega)
              have hd2 : decide ((e : Int) < b) = true := decide_eq_true (by omega)
              have HC := Lib.hid (HI.out w2 N mid e b HN2.out (HR2.out.1.trans HDL.out) h1 h2 (by omega) HR2.out.2.1)
              clear hl
              go_wp2_with fail
              refine HC.out.mono ?_
              rintro e0 w3 ⟨rfl, N', hso, hs, hsv⟩
              have HN3 := Lib.hid hs
              have HV3 := Lib.hid (HV2.out.trans hsv)
              have HR3 := Lib.hid (HR2.out.2.2 N' (.inl hso))
              clear hs hsv hso HC HN2 HV2 HR2 hd1 hd2 h1 h2
              go_wp2_with fail
              go_end0
              exact ⟨rfl, N', HR3.out, HN3.out, HV3.out⟩
            · have HR3 := Lib.hid (HR2.out.2.2 N (.inr ⟨hl, rfl⟩))
              have hw1 : (e ≤ mid ∧ decide ((mid : Int) < e) = false) ∨ (mid < e ∧ b ≤ e ∧ decide ((mid : Int) < e) = true ∧ decide ((e : Int) < b) = false) := by
                by_cases h1 : mid < e
                · exact .inr ⟨h1, by omega, decide_eq_true (by omega), decide_eq_false (by omega)⟩
                · exact .inl ⟨by omega, decide_eq_false (by omega)⟩
              clear hl HR2
              rcases hw1 with ⟨q1, hd1⟩ | ⟨q1, q2, hd1, hd2⟩
              all_goals try (exfalso; omega)
              all_goals
                go_wp2_with fail
                go_end0
                exact ⟨rfl, N, HR3.out, HN2.out, HV2.out⟩
          · have HR2 := Lib.hid (HRe.out T (.inr ⟨hl, rfl⟩))
            have HN2 := HN1
            have HV2 := HV1
            have hw1 : (hi ≤ a ∧ decide ((a : Int) < hi) = false) ∨ (a < hi ∧ mid ≤ hi ∧ decide ((a : Int) < hi) = true ∧ decide ((hi : Int) < mid) = false) := by
              by_cases h1 : a < hi
              · exact .inr ⟨h1, by omega, decide_eq_true (by omega), decide_eq_false (by omega)⟩
              · exact .inl ⟨by omega, decide_eq_false (by omega)⟩
            clear HTw hl HN1 HV1 HRe
            rcases hw1 with ⟨q1, hd1⟩ | ⟨q1, q2, hd1, hd2⟩
            all_goals try (exfalso; omega)
            all_goals
              go_upto_region 43 with fail
              clear hd1 q1
              try clear hd2
              try clear q2
              by_cases hl : mid < e ∧ e < b
              · have h1 : mid < e := hl.1
                have h2 : e < b := hl.2
                have hd1 : decide ((mid : Int) < e) = true := decide_eq_true (by omega)
                have hd2 : decide ((e : Int) < b) = true := decide_eq_true (by omega)
                have HC := Lib.hid (HI.out w1 T mid e b HN2.out (HR2.out.1.trans HDL.out) h1 h2 (by omega) HR2.out.2.1)
                clear hl
                go_wp2_with fail
                refine HC.out.mono ?_
                rintro e0 w3 ⟨rfl, N', hso, hs, hsv⟩
                have HN3 := Lib.hid hs
                have HV3 := Lib.hid (HV2.out.trans hsv)
                have HR3 := Lib.hid (HR2.out.2.2 N' (.inl hso))
                clear hs hsv hso HC HN2 HV2 HR2 hd1 hd2 h1 h2
                go_wp2_with fail
                go_end0
                exact ⟨rfl, N', HR3.out, HN3.out, HV3.out⟩
              · have HR3 := Lib.hid (HR2.out.2.2 T (.inr ⟨hl, rfl⟩))
                have hw1 : (e ≤ mid ∧ decide ((mid : Int) < e) = false) ∨ (mid < e ∧ b ≤ e ∧ decide ((mid : Int) < e) = true ∧ decide ((e : Int) < b) = false) := by
                  by_cases h1 : mid < e
                  · exact .inr ⟨h1, by omega, decide_eq_true (by omega), decide_eq_false (by omega)⟩
                  · exact .inl ⟨by omega, decide_eq_false (by omega)⟩
                clear hl HR2
                rcases hw1 with ⟨q1, hd1⟩ | ⟨q1, q2, hd1, hd2⟩
                all_goals try (exfalso; omega)
                all_goals
                  go_wp2_with fail
                  go_end0
                  exact ⟨rfl, T, HR3.out, HN2.out, HV2.out⟩
        · have hDT := HSm.out hr
          have HN1 := HN
          rw [hDT] at HN1
          have HV1 := HV
          have hw1 : (m ≤ hi ∧ decide ((hi : Int) < m) = false) ∨ (hi < m ∧ e ≤ m ∧ decide ((hi : Int) < m) = true ∧ decide ((m : Int) < e) = false) := by
            by_cases h1 : hi < m
            · exact .inr ⟨h1, by omega, decide_eq_true (by omega), decide_eq_false (by omega)⟩
            · exact .inl ⟨by omega, decide_eq_false (by omega)⟩
          clear HRot HTn HSm hr HN HV hDT
          rcases hw1 with ⟨q1, hd1⟩ | ⟨q1, q2, hd1, hd2⟩
          all_goals try (exfalso; omega)
          all_goals
            go_upto_region 41 with fail
            clear hd1 q1
            try clear hd2
            try clear q2
            by_cases hl : a < hi ∧ hi < mid
            · have h1 : a < hi := hl.1
              have h2 : hi < mid := hl.2
              have hd1 : decide ((a : Int) < hi) = true := decide_eq_true (by omega)
              have hd2 : decide ((hi : Int) < mid) = true := decide_eq_true (by omega)
              have HC := Lib.hid (HI.out wr T a hi mid HN1.out HTL.out h1 h2 (by omega) HTw.out)
              clear HTw hl
              go_wp2_with fail
              refine HC.out.mono ?_
              rintro e0 w2 ⟨rfl, N, hso, hs, hsv⟩
              have HN2 := Lib.hid hs
              have HV2 := Lib.hid (HV1.out.trans hsv)
              have HR2 := Lib.hid (HRe.out N (.inl hso))
              clear hs hsv hso HC HN1 HV1 HRe hd1 hd2 h1 h2
              by_cases hl : mid < e ∧ e < b
              · have h1 : mid < e := hl.1
                have h2 : e < b := hl.2
                have hd1 : decide ((mid : Int) < e) = true := decide_eq_true (by omega)
                have hd2 : decide ((e : Int) < b) = true := decide_eq_true (by omega)
                have HC := Lib.hid (HI.out w2 N mid e b HN2.out (HR2.out.1.trans HDL.out) h1 h2 (by omega) HR2.out.2.1)
                clear hl
                go_wp2_with fail
                refine HC.out.mono ?_
                rintro e0 w3 ⟨rfl, N', hso, hs, hsv⟩
                have HN3 := Lib.hid hs
                have HV3 := Lib.hid (HV2.out.trans hsv)
                have HR3 := Lib.hid (HR2.out.2.2 N' (.inl hso))
                clear hs hsv hso HC HN2 HV2 HR2 hd1 hd2 h1 h2
                go_wp2_with fail
                go_end0
                exact ⟨rfl, N', HR3.out, HN3.out, HV3.out⟩
              · have HR3 := Lib.hid (HR2.out.2.2 N (.inr ⟨hl, rfl⟩))
                have hw1 : (e ≤ mid ∧ decide ((mid : Int) < e) = false) ∨ (mid < e ∧ b ≤ e ∧ decide ((mid : Int) < e) = true ∧ decide ((e : Int) < b) = false) := by
                  by_cases h1 : mid < e
                  · exact .inr ⟨h1, by omega, decide_eq_true (by omega), decide_eq_false (by omega)⟩
                  · exact .inl ⟨by omega, decide_eq_false (by omega)⟩
                clear hl HR2
                rcases hw1 with ⟨q1, hd1⟩ | ⟨q1, q2, hd1, hd2⟩
                all_goals try (exfalso; omega)
                all_goals
                  go_wp2_with fail
                  go_end0
                  exact ⟨rfl, N, HR3.out, HN2.out, HV2.out⟩
            · have HR2 := Lib.hid (HRe.out T (.inr ⟨hl, rfl⟩))
              have HN2 := HN1
              have HV2 := HV1
              have hw1 : (hi ≤ a ∧ decide ((a : Int) < hi) = false) ∨ (a < hi ∧ mid ≤ hi ∧ decide ((a : Int) < hi) = true ∧ decide ((hi : Int) < mid) = false) := by
                by_cases h1 : a < hi
                · exact .inr ⟨h1, by omega, decide_eq_true (by omega), decide_eq_false (by omega)⟩
                · exact .inl ⟨by omega, decide_eq_false (by omega)⟩
              clear HTw hl HN1 HV1 HRe
              rcases hw1 with ⟨q1, hd1⟩ | ⟨q1, q2, hd1, hd2⟩
              all_goals try (exfalso; omega)
              all_goals
                go_upto_region 43 with fail
                clear hd1 q1
                try clear hd2
                try clear q2
                by_cases hl : mid < e ∧ e < b
                · have h1 : mid < e := hl.1
                  have h2 : e < b := hl.2
                  have hd1 : decide ((mid : Int) < e) = true := decide_eq_true (by omega)
                  have hd2 : decide ((e : Int) < b) = true := decide_eq_true (by omega)
                  have HC := Lib.hid (HI.out wr T mid e b HN2.out (HR2.out.1.trans HDL.out) h1 h2 (by omega) HR2.out.2.1)
                  clear hl
                  go_wp2_with fail
                  refine HC.out.mono ?_
                  rintro e0 w3 ⟨rfl, N', hso, hs, hsv⟩
                  have HN3 := Lib.hid hs
                  have HV3 := Lib.hid (HV2.out.trans hsv)
                  have HR3 := Lib.hid (HR2.out.2.2 N' (.inl hso))
                  clear hs hsv hso HC HN2 HV2 HR2 hd1 hd2 h1 h2
                  go_wp2_with fail
                  go_end0
                  exact ⟨rfl, N', HR3.out, HN3.out, HV3.out⟩
                · have HR3 := Lib.hid (HR2.out.2.2 T (.inr ⟨hl, rfl⟩))
                  have hw1 : (e ≤ mid ∧ decide ((mid : Int) < e) = false) ∨ (mid < e ∧ b ≤ e ∧ decide ((mid : Int) < e) = true ∧ decide ((e : Int) < b) = false) := by
                    by_cases h1 : mid < e
                    · exact .inr ⟨h1, by omega, decide_eq_true (by omega), decide_eq_false (by omega)⟩
                    · exact .inl ⟨by omega, decide_eq_false (by omega)⟩
                  clear hl HR2
                  rcases hw1 with ⟨q1, hd1⟩ | ⟨q1, q2, hd1, hd2⟩
                  all_goals try (exfalso; omega)
                  all_goals
                    go_wp2_with fail
                    go_end0
                    exact ⟨rfl, T, HR3.out, HN2.out, HV2.out⟩
end Go.Proofs.Ytofenjloieagaaa
