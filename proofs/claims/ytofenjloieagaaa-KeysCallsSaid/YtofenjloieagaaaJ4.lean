/-   -/
import Derived.Test.YtofenjloieagaaaZT21
namespace Go.Proofs.Ytofenjloieagaaa
open Go.RowKit
set_option linter.unusedSimpArgs false
set_option linter.unusedVariables false
set_option maxRecDepth 100000

/-- The first k of two ranges exchanged. -/
def swL (M : List Tc) (a b : Nat) : Nat → List Tc
  | 0 => M
  | k + 1 => ((swL M a b k).set (a + k) ((swL M a b k).getD (b + k) tcZ)).set (b + k) ((swL M a b k).getD (a + k) tcZ)
theorem swL_len (M : List Tc) (a b : Nat) : ∀ k, (swL M a b k).length = M.length
  | 0 => rfl
  | k + 1 => by simp [swL, swL_len M a b k]
/-- What the parts of a sort leave: the row as M' is, all other blocks as they were. -/
def SortTo (w : World) (g : Nat) (X : List Value) (M' : List Tc) (e : Ending) (w' : World) : Prop := e = .returned (.tuple #[]) ∧ SW w' g X M' ∧ Save (· = g) w w'

set_option maxHeartbeats 8000000 in
theorem swaprange_any (w : World) (g c L : Nat) (X : List Value) (D : List Tc) (h : SW w g X D) (hL : D.length = L) (hLc : L ≤ c) (hL1 : L ≤ 1000000) (a b n : Nat) (ha : a + n ≤ L) (hb : b + n ≤ L) (F : Value) :
    Calls Try.prog 86 #[.slice (some ⟨g, 0, none⟩) L c, .int .i64 a, .int .i64 b, .int .i64 n, F] w (SortTo w g X (swL D a b n)) := by
  have Hs0 := Lib.hid h
  have HS := Lib.hid (show ∀ k, swL D a b (k + 1) = ((swL D a b k).set (a + k) ((swL D a b k).getD (b + k) tcZ)).set (b + k) ((swL D a b k).getD (a + k) tcZ) from fun k => rfl)
  have HLn := Lib.hid (fun k => (swL_len D a b k).trans hL)
  have H0 := Lib.hid (show swL D a b 0 = D from rfl)
  unfold SortTo
  clear h hL
  generalize swL D a b = sw at *
  go_enter Try.func86, Try.ntmps86
  go_wp2_with fail
  go_loopw [10] (fun i wr => ∃ k : Nat, k ≤ n ∧ i = .int .i64 k ∧ SW wr g X (sw k) ∧ Save (· = g) w wr) (fun i _ => n - (intOf i).toNat)
  case atStart => exact ⟨0, Nat.zero_le _, rfl, by rw [H0.out]; exact Hs0.out, Save.refl _ _⟩
  case round =>
    rename World => wr
    obtain ⟨k, hk, rfl, hs, hsv⟩ := hrel
    have HN := Lib.hid hs
    have HV := Lib.hid hsv
    have hlt := hs.lt
    clear hs hsv Hs0
    by_cases hkn : k < n
    · have HSk := Lib.hid (HS.out k)
      have hNL := HLn.out k
      have hxk : a + k < (sw k).length := by omega
      have hyk : b + k < (sw k).length := by omega
      clear HS HLn H0
      generalize hsk : sw k = N at *
      clear hsk
      obtain ⟨pa, hpa⟩ : ∃ pa, a + k = pa := ⟨_, rfl⟩
      obtain ⟨pb, hpb⟩ : ∃ pb, b + k = pb := ⟨_, rfl⟩
      rw [hpa] at hxk
      rw [hpb] at hyk
      rw [hpa, hpb] at HSk
      have ea : (a : Int) + k = pa := by omega
      have eb : (b : Int) + k = pb := by omega
      clear hpa hpb
      have hla : pa < L := by omega
      have hlb : pb < L := by omega
      have wa : IntKind.i64.wrap (pa : Int) = pa := by rw [IntKind.wrap_i64]; omega
      have wb : IntKind.i64.wrap (pb : Int) = pb := by rw [IntKind.wrap_i64]; omega
      obtain ⟨x, hx⟩ : ∃ x, N.getD pa tcZ = x := ⟨_, rfl⟩
      obtain ⟨y, hy⟩ : ∃ y, N.getD pb tcZ = y := ⟨_, rfl⟩
      rw [hx, hy] at HSk
      have HXY := Lib.hid (And.intro hx hy)
      clear hx hy
      go_upto_region 3 with fail
      refine H.region_ (fun i => i == 13 || i == 19) (fun i => i == 21 || i == 23) (M.Base wr) (M.But wr g (fun o => ∃ N' : List Tc, N'.length = L ∧ SWo X N' o)) (M.closed_base _) (fun w' hw' => ⟨hlt, Save.of_below hw'.2, ⟨_, hNL, HN.out.below hw'.2 hlt⟩⟩) (fun n => ⟨Nat.le_refl _, (Save.drawn _ wr n).all⟩) (by kernel_rfl) ?_
      refine H.any_ (i := 0) (.slice (some ⟨g, 0, none⟩) L c) rfl (by kernel_rfl) (by kernel_rfl) (by kernel_rfl) rfl (by kernel_rfl) ?_ ?_
      · intro wz sz
        unfold Oper.does
        go_simp
        try exact Save.refl _ _
      go_simp
      refine H.any_ (i := 1) (.int .i64 a) rfl (by kernel_rfl) (by kernel_rfl) (by kernel_rfl) rfl (by kernel_rfl) ?_ ?_
      · intro wz sz
        unfold Oper.does
        go_simp
        try exact Save.refl _ _
      go_simp
      refine H.any_ (i := 2) (.int .i64 k) rfl (by kernel_rfl) (by kernel_rfl) (by kernel_rfl) rfl (by kernel_rfl) ?_ ?_
      · intro wz sz
        unfold Oper.does
        go_simp
        try exact Save.refl _ _
      go_simp
      refine H.any_ (i := 3) (.int .i64 pa) rfl (by kernel_rfl) (by kernel_rfl) (by kernel_rfl) rfl (by kernel_rfl) ?_ ?_
      · intro wz sz
        unfold Oper.does
        go_simp
        try exact Save.refl _ _
      go_simp
      refine H.any_ (i := 4) (.slice (some ⟨g, 0, none⟩) L c) rfl (by kernel_rfl) (by kernel_rfl) (by kernel_rfl) rfl (by kernel_rfl) ?_ ?_
      · intro wz sz
        unfold Oper.does
        go_simp
        try exact Save.refl _ _
      go_simp
      refine H.any_ (i := 5) (.int .i64 b) rfl (by kernel_rfl) (by kernel_rfl) (by kernel_rfl) rfl (by kernel_rfl) ?_ ?_
      · intro wz sz
        unfold Oper.does
        go_simp
        try exact Save.refl _ _
      go_simp
      refine H.any_ (i := 6) (.int .i64 k) rfl (by kernel_rfl) (by kernel_rfl) (by kernel_rfl) rfl (by kernel_rfl) ?_ ?_
      · intro wz sz
        unfold Oper.does
        go_simp
        try exact Save.refl _ _
      go_simp
      refine H.any_ (i := 7) (.int .i64 pb) rfl (by kernel_rfl) (by kernel_rfl) (by kernel_rfl) rfl (by kernel_rfl) ?_ ?_
      · intro wz sz
        unfold Oper.does
        go_simp
        try exact Save.refl _ _
      go_simp
      refine H.any_ (i := 8) (.slice (some ⟨g, 0, none⟩) L c) rfl (by kernel_rfl) (by kernel_rfl) (by kernel_rfl) rfl (by kernel_rfl) ?_ ?_
      · intro wz sz
        unfold Oper.does
        go_simp
        try exact Save.refl _ _
      go_simp
      refine H.any_ (i := 9) (.int .i64 b) rfl (by kernel_rfl) (by kernel_rfl) (by kernel_rfl) rfl (by kernel_rfl) ?_ ?_
      · intro wz sz
        unfold Oper.does
        go_simp
        try exact Save.refl _ _
      go_simp
      refine H.any_ (i := 10) (.int .i64 k) rfl (by kernel_rfl) (by kernel_rfl) (by kernel_rfl) rfl (by kernel_rfl) ?_ ?_
      · intro wz sz
        unfold Oper.does
        go_simp
        try exact Save.refl _ _
      go_simp
      refine H.any_ (i := 11) (.int .i64 pb) rfl (by kernel_rfl) (by kernel_rfl) (by kernel_rfl) rfl (by kernel_rfl) ?_ ?_
      · intro wz sz
        unfold Oper.does
        go_simp
        try exact Save.refl _ _
      go_simp
      refine H.any_ (i := 12) (.pointer (some ⟨g, pb * 4, none⟩)) rfl (by kernel_rfl) (by kernel_rfl) (by kernel_rfl) rfl (by kernel_rfl) ?_ ?_
      · intro wz sz
        unfold Oper.does
        go_simp
        try exact Save.refl _ _
      go_simp
      refine H.calm_ (i := 13) (.agg #[.int .i64 y.time, .int .i64 y.what, .int .i64 y.key, .bool y.on]) rfl (by kernel_rfl) (by kernel_rfl) (by kernel_rfl) rfl (by kernel_rfl) (by kernel_rfl) ?_ ?_
      · intro wz sz
        have hT := (HN.out.below sz.2 hlt).tb hyk
        rw [HXY.out.2] at hT
        obtain ⟨c0, c1, c2, c3⟩ := hT
        unfold Oper.does
        go_simp
        exact Save.refl _ _
      go_simp
      refine H.any_ (i := 14) (.slice (some ⟨g, 0, none⟩) L c) rfl (by kernel_rfl) (by kernel_rfl) (by kernel_rfl) rfl (by kernel_rfl) ?_ ?_
      · intro wz sz
        unfold Oper.does
        go_simp
        try exact Save.refl _ _
      go_simp
      refine H.any_ (i := 15) (.int .i64 a) rfl (by kernel_rfl) (by kernel_rfl) (by kernel_rfl) rfl (by kernel_rfl) ?_ ?_
      · intro wz sz
        unfold Oper.does
        go_simp
        try exact Save.refl _ _
      go_simp
      refine H.any_ (i := 16) (.int .i64 k) rfl (by kernel_rfl) (by kernel_rfl) (by kernel_rfl) rfl (by kernel_rfl) ?_ ?_
      · intro wz sz
        unfold Oper.does
        go_simp
        try exact Save.refl _ _
      go_simp
      refine H.any_ (i := 17) (.int .i64 pa) rfl (by kernel_rfl) (by kernel_rfl) (by kernel_rfl) rfl (by kernel_rfl) ?_ ?_
      · intro wz sz
        unfold Oper.does
        go_simp
        try exact Save.refl _ _
      go_simp
      refine H.any_ (i := 18) (.pointer (some ⟨g, pa * 4, none⟩)) rfl (by kernel_rfl) (by kernel_rfl) (by kernel_rfl) rfl (by kernel_rfl) ?_ ?_
      · intro wz sz
        unfold Oper.does
        go_simp
        try exact Save.refl _ _
      go_simp
      refine H.calm_ (i := 19) (.agg #[.int .i64 x.time, .int .i64 x.what, .int .i64 x.key, .bool x.on]) rfl (by kernel_rfl) (by kernel_rfl) (by kernel_rfl) rfl (by kernel_rfl) (by kernel_rfl) ?_ ?_
      · intro wz sz
        have hT := (HN.out.below sz.2 hlt).tb hxk
        rw [HXY.out.1] at hT
        obtain ⟨c0, c1, c2, c3⟩ := hT
        unfold Oper.does
        go_simp
        exact Save.refl _ _
      go_simp
      refine H.any_ (i := 20) (.pointer (some ⟨g, pa * 4, none⟩)) rfl (by kernel_rfl) (by kernel_rfl) (by kernel_rfl) rfl (by kernel_rfl) ?_ ?_
      · intro wz sz
        unfold Oper.does
        go_simp
        try exact Save.refl _ _
      go_simp
      refine H.store_ [21] (by kernel_rfl) (by simp) ?_
      intro i hi
      obtain rfl : i = 21 := by simpa using hi
      refine H.one_ rfl rfl (by intro t ht; simp only [Bool.or_eq_true, beq_iff_eq] at ht; rcases ht with rfl | rfl <;> kernel_rfl) (by kernel_rfl) ?_
      intro wz sz
      have hB : SW wz g X N := HN.out.below sz.2 hlt
      obtain ⟨c0, c1, c2, c3⟩ := hB.tb (k := pa) (by omega)
      have f0 := hB.free (pa * 4)
      have f1 := hB.free (pa * 4 + 1)
      have f2 := hB.free (pa * 4 + 2)
      have f3 := hB.free (pa * 4 + 3)
      unfold Oper.does
      go_simp
      refine ⟨M.But wr g (SWo X (N.set pa y)), ⟨hlt, Save.trans (Save.of_below sz.2) (save_putT wz g pa y), hB.put (by omega) y⟩, M.closed_but _ _ _, M.But.weaken (fun o ho => ⟨_, by simpa using hNL, ho⟩), ?_⟩
      clear c0 c1 c2 c3 f0 f1 f2 f3 hB sz
      go_simp
      refine H.any_ (i := 22) (.pointer (some ⟨g, pb * 4, none⟩)) rfl (by kernel_rfl) (by kernel_rfl) (by kernel_rfl) rfl (by kernel_rfl) ?_ ?_
      · intro wz sz
        unfold Oper.does
        go_simp
        try exact Save.refl _ _
      go_simp
      refine H.store_ [23] (by kernel_rfl) (by simp) ?_
      intro i hi
      obtain rfl : i = 23 := by simpa using hi
      refine H.one_ rfl rfl (by intro t ht; simp only [Bool.or_eq_true, beq_iff_eq] at ht; rcases ht with rfl | rfl <;> kernel_rfl) (by kernel_rfl) ?_
      intro wz sz
      have hB : SW wz g X (N.set pa y) := sz.2.2
      obtain ⟨c0, c1, c2, c3⟩ := hB.tb (k := pb) (by simp; omega)
      have f0 := hB.free (pb * 4)
      have f1 := hB.free (pb * 4 + 1)
      have f2 := hB.free (pb * 4 + 2)
      have f3 := hB.free (pb * 4 + 3)
      unfold Oper.does
      go_simp
      refine ⟨M.But wr g (SWo X ((N.set pa y).set pb x)), sz.step (save_putT wz g pb x) (hB.put (by simp; omega) x), M.closed_but _ _ _, M.But.weaken (fun o ho => ⟨_, by simpa using hNL, ho⟩), ?_⟩
      clear c0 c1 c2 c3 f0 f1 f2 f3 hB sz
      go_simp
      refine H.end_ (by kernel_rfl) ?_
      intro we se
      have HWe : Hid (SW we g X (sw (k + 1))) := Lib.hid (by rw [HSk.out]; exact se.2.2)
      have HVe := Lib.hid (HV.out.trans se.2.1)
      clear se HN HV HXY
      go_wp2_with fail
      exact ⟨⟨k + 1, by omega, by go_num, HWe.out, HVe.out⟩, by simp [intOf]; omega⟩
    · obtain rfl : k = n := by omega
      clear HS HLn H0
      go_wp2_with fail
      go_end0
      exact ⟨rfl, HN.out, HV.out⟩
end Go.Proofs.Ytofenjloieagaaa
namespace Go.Proofs.Ytofenjloieagaaa
open Go.RowKit
set_option linter.unusedSimpArgs false
set_option linter.unusedVariables false
set_option maxRecDepth 100000

theorem set_getD {α : Type} (z : α) (l : List α) (j i : Nat) (x : α) (hj : j < l.length) : (l.set j x).getD i z = if i = j then x else l.getD i z := by
  simp only [List.getD_eq_getElem?_getD, List.getElem?_set]
  by_cases h : j = i
  · subst h; simp [hj]
  · have h2 : ¬ i = j := fun e => h e.symm
    simp [h, h2]
theorem app_getD {α : Type} (z : α) (X Y : List α) (i : Nat) : (X ++ Y).getD i z = if i < X.length then X.getD i z else Y.getD (i - X.length) z := by
  simp only [List.getD_eq_getElem?_getD]
  split
  · rw [List.getElem?_append_left (by omega)]
  · rw [List.getElem?_append_right (by omega)]
theorem swL_get (M : List Tc) (a b n : Nat) (hab : a + n ≤ b) (hb : b + n ≤ M.length) : ∀ k, k ≤ n → ∀ i,
    (swL M a b k).getD i tcZ = if a ≤ i ∧ i < a + k then M.getD (b + (i - a)) tcZ else if b ≤ i ∧ i < b + k then M.getD (a + (i - b)) tcZ else M.getD i tcZ
  | 0, _, i => by
    rw [if_neg (by omega), if_neg (by omega)]
    rfl
  | k + 1, hk, i => by
    have ih := swL_get M a b n hab hb k (by omega)
    have hl := swL_len M a b k
    simp only [swL]
    rw [set_getD tcZ _ _ _ _ (by simp; omega), set_getD tcZ _ _ _ _ (by omega), ih (a + k), ih (b + k), ih i]
    by_cases h1 : i = b + k
    · subst h1
      rw [if_pos rfl, if_neg (by omega), if_neg (by omega), if_neg (by omega), if_pos (by omega)]
      congr 1; omega
    · rw [if_neg h1]
      by_cases h2 : i = a + k
      · subst h2
        rw [if_pos rfl, if_neg (by omega), if_neg (by omega), if_pos (by omega)]
        congr 1; omega
      · rw [if_neg h2]
        by_cases h3 : a ≤ i ∧ i < a + k
        · rw [if_pos h3, if_pos (by omega)]
        · rw [if_neg h3, if_neg (show ¬ (a ≤ i ∧ i < a + (k + 1)) by omega)]
          by_cases h4 : b ≤ i ∧ i < b + k
          · rw [if_pos h4, if_pos (by omega)]
          · rw [if_neg h4, if_neg (by omega)]
theorem swL_app (P A B C Q : List Tc) (h : A.length = C.length) : swL (P ++ (A ++ (B ++ (C ++ Q)))) P.length (P.length + A.length + B.length) A.length = P ++ (C ++ (B ++ (A ++ Q))) := by
  refine list_eq_of tcZ (by rw [swL_len]; simp only [List.length_append]; omega) (fun i _ => ?_)
  rw [swL_get _ _ _ A.length (by omega) (by simp only [List.length_append]; omega) A.length (Nat.le_refl _) i]
  by_cases h1 : i < P.length
  · rw [if_neg (by omega), if_neg (by omega)]
    simp only [app_getD, if_pos h1]
  · by_cases h2 : i < P.length + A.length
    · rw [if_pos (by omega)]
      simp only [app_getD]
      rw [if_neg (by omega), if_neg (by omega), if_neg (by omega), if_pos (by omega), if_neg h1, if_pos (by omega)]
      congr 1; omega
    · rw [if_neg (by omega)]
      by_cases h3 : i < P.length + A.length + B.length
      · rw [if_neg (by omega)]
        simp only [app_getD]
        rw [if_neg h1, if_neg (by omega), if_pos (by omega), if_neg h1, if_neg (by omega), if_pos (by omega)]
        congr 1; omega
      · by_cases h4 : i < P.length + A.length + B.length + A.length
        · rw [if_pos (by omega)]
          simp only [app_getD]
          rw [if_neg (by omega), if_pos (by omega), if_neg h1, if_neg (by omega), if_neg (by omega), if_pos (by omega)]
          congr 1; omega
        · rw [if_neg (by omega)]
          simp only [app_getD]
          rw [if_neg h1, if_neg (by omega), if_neg (by omega), if_neg (by omega), if_neg h1, if_neg (by omega), if_neg (by omega), if_neg (by omega)]
          congr 1; omega

/-- A row that has still to be turned: U and V are to be exchanged, all else stands. -/
structure Turns (T M : List Tc) (m i j : Nat) : Prop where
  is : ∃ P U V Q : List Tc, M = P ++ (U ++ (V ++ Q)) ∧ T = P ++ (V ++ (U ++ Q)) ∧ P.length + i = m ∧ U.length = i ∧ V.length = j
theorem Turns.left {T M : List Tc} {m i j : Nat} (h : Turns T M m i j) (hij : j < i) (hj : 0 < j) : Turns T (swL M (m - i) m j) m (i - j) j := by
  obtain ⟨P, U, V, Q, rfl, rfl, h1, h2, h3⟩ := h.is
  obtain ⟨A, B, rfl, hA⟩ : ∃ A B, U = A ++ B ∧ A.length = j := ⟨U.take j, U.drop j, (List.take_append_drop j U).symm, by rw [List.length_take]; omega⟩
  rw [List.length_append] at h2
  have e := swL_app P A B V Q (by omega)
  rw [hA] at e
  have e1 : m - i = P.length := by omega
  have e2 : m = P.length + j + B.length := by omega
  rw [e1, show swL (P ++ (A ++ B ++ (V ++ Q))) P.length m j = swL (P ++ (A ++ (B ++ (V ++ Q)))) P.length (P.length + j + B.length) j by rw [← e2, List.append_assoc], e]
  exact ⟨⟨P ++ V, B, A, Q, by simp only [List.append_assoc], by simp only [List.append_assoc], by rw [List.length_append]; omega, by omega, hA⟩⟩
theorem Turns.right {T M : List Tc} {m i j : Nat} (h : Turns T M m i j) (hij : i < j) : Turns T (swL M (m - i) (m + j - i) i) m i (j - i) := by
  obtain ⟨P, U, V, Q, rfl, rfl, h1, h2, h3⟩ := h.is
  obtain ⟨A, B, rfl, hA⟩ : ∃ A B, V = A ++ B ∧ A.length = j - i := ⟨V.take (j - i), V.drop (j - i), (List.take_append_drop (j - i) V).symm, by rw [List.length_take]; omega⟩
  rw [List.length_append] at h3
  have e := swL_app P U A B Q (by omega)
  rw [h2] at e
  have e1 : m - i = P.length := by omega
  have e2 : m + j - i = P.length + i + A.length := by omega
  rw [e1, e2, show P ++ (U ++ (A ++ B ++ Q)) = P ++ (U ++ (A ++ (B ++ Q))) by rw [List.append_assoc A B Q], e]
  exact ⟨⟨P, B, A, U ++ Q, by simp only [List.append_assoc], by simp only [List.append_assoc], by omega, by omega, hA⟩⟩
theorem Turns.last {T M : List Tc} {m i : Nat} (h : Turns T M m i i) : swL M (m - i) m i = T := by
  obtain ⟨P, U, V, Q, rfl, rfl, h1, h2, h3⟩ := h.is
  have e := swL_app P U [] V Q (by omega)
  rw [h2] at e
  have e1 : m - i = P.length := by omega
  have e2 : P.length + i + ([] : List Tc).length = m := by simp; omega
  rw [e2] at e
  rw [e1]
  simpa using e
theorem Turns.len {T M : List Tc} {m i j : Nat} (h : Turns T M m i j) : T.length = M.length ∧ i ≤ m ∧ m + j ≤ M.length := by
  obtain ⟨P, U, V, Q, rfl, rfl, h1, h2, h3⟩ := h.is
  simp only [List.length_append]
  omega

set_option maxHeartbeats 4000000 in
theorem rotate_any (w : World) (g c L : Nat) (X : List Value) (D T : List Tc) (h : SW w g X D) (hL : D.length = L) (hLc : L ≤ c) (hL1 : L ≤ 1000000) (a m b : Nat) (ham : a < m) (hmb : m < b) (ht : Turns T D m (m - a) (b - m)) (F : Value) :
    Calls Try.prog 75 #[.slice (some ⟨g, 0, none⟩) L c, .int .i64 a, .int .i64 m, .int .i64 b, F] w (SortTo w g X T) := by
  have Hs0 := Lib.hid h
  have HT0 := Lib.hid ht
  have HL := Lib.hid hL
  have hmL : m + (b - m) ≤ L := by have := ht.len; omega
  have HSw := Lib.hid (fun (w1 : World) (D1 : List Tc) (h1 : SW w1 g X D1) (h2 : D1.length = L) (a b n : Nat) (ha : a + n ≤ L) (hb : b + n ≤ L) => swaprange_any w1 g c L X D1 h1 h2 hLc hL1 a b n ha hb F)
  unfold SortTo at *
  clear h ht hL
  go_enter Try.func75, Try.ntmps75
  go_wp2_with fail
  go_loopw [10, 11] (fun s5 s6 wr => ∃ (i j : Nat) (N : List Tc), 0 < i ∧ 0 < j ∧ s5 = .int .i64 i ∧ s6 = .int .i64 j ∧ SW wr g X N ∧ N.length = L ∧ Turns T N m i j ∧ Save (· = g) w wr) (fun s5 s6 _ => (intOf s5).toNat + (intOf s6).toNat)
  case atStart => exact ⟨m - a, b - m, D, by omega, by omega, by congr 1; omega, by congr 1; omega, Hs0.out, HL.out, HT0.out, Save.refl _ _⟩
  case round =>
    rename World => wr
    obtain ⟨i, j, N, hi, hj, rfl, rfl, hs, hNL, ht, hsv⟩ := hrel
    obtain ⟨-, hle1, hle2⟩ := ht.len
    have HN := Lib.hid hs
    have HV := Lib.hid hsv
    have HT := Lib.hid ht
    have HNL := Lib.hid hNL
    rw [hNL] at hle2
    clear hs hsv ht Hs0 HT0 HL hNL
    rcases Nat.lt_trichotomy i j with hij | hij | hij
    · have HC := Lib.hid (HSw.out wr N HN.out HNL.out (m - i) (m + j - i) i (by omega) (by omega))
      rw [show ((m - i : Nat) : Int) = (m : Int) - i by omega, show ((m + j - i : Nat) : Int) = (m : Int) + j - i by omega] at HC
      have hne : ((i : Int) != (j : Int)) = true := by simp; omega
      have hgt : decide ((j : Int) < i) = false := decide_eq_false (by omega)
      go_wp2_with fail
      refine HC.out.mono ?_
      rintro e w1 ⟨rfl, hs, hsv⟩
      have HN1 := Lib.hid hs
      have HV1 := Lib.hid (HV.out.trans hsv)
      have HT1 := Lib.hid (HT.out.right hij)
      have HL1 := Lib.hid ((swL_len N (m - i) (m + j - i) i).trans HNL.out)
      clear hs hsv HC HV HT HN
      go_wp2_with fail
      exact ⟨⟨i, j - i, _, by omega, by omega, rfl, by congr 1; omega, HN1.out, HL1.out, HT1.out, HV1.out⟩, by simp [intOf]; omega⟩
    · subst hij
      have HC := Lib.hid (HSw.out wr N HN.out HNL.out (m - i) m i (by omega) (by omega))
      rw [show ((m - i : Nat) : Int) = (m : Int) - i by omega] at HC
      have HT1 := Lib.hid HT.out.last
      clear HT HNL
      go_wp2_with fail
      refine HC.out.mono ?_
      rintro e w1 ⟨rfl, hs, hsv⟩
      rw [HT1.out] at hs
      have HN1 := Lib.hid hs
      have HV1 := Lib.hid (HV.out.trans hsv)
      clear hs hsv HC HV HN
      go_wp2_with fail
      go_end0
      exact ⟨rfl, HN1.out, HV1.out⟩
    · have HC := Lib.hid (HSw.out wr N HN.out HNL.out (m - i) m j (by omega) (by omega))
      rw [show ((m - i : Nat) : Int) = (m : Int) - i by omega] at HC
      have hne : ((i : Int) != (j : Int)) = true := by simp; omega
      have hgt : decide ((j : Int) < i) = true := decide_eq_true (by omega)
      go_wp2_with fail
      refine HC.out.mono ?_
      rintro e w1 ⟨rfl, hs, hsv⟩
      have HN1 := Lib.hid hs
      have HV1 := Lib.hid (HV.out.trans hsv)
      have HT1 := Lib.hid (HT.out.left hij hj)
      have HL1 := Lib.hid ((swL_len N (m - i) m j).trans HNL.out)
      clear hs hsv HC HV HT HN
      go_wp2_with fail
      exact ⟨⟨i - j, j, _, by omega, by omega, by congr 1; omega, rfl, HN1.out, HL1.out, HT1.out, HV1.out⟩, by simp [intOf]; omega⟩
end Go.Proofs.Ytofenjloieagaaa
