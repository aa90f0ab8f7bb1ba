
/- slices: rotate. -/
import Derived.Test.YtdmjfadeffcidaaT22
namespace Go.Proofs.Ytdmjfadeffcidaa
open Go.RowKit
set_option linter.unusedSimpArgs false
set_option linter.unusedVariables false
set_option maxRecDepth 100000

theorem set_getD {α : Type} (z : α) (l : List α) (j i : Nat) (x : α) (hj : j < l.length) : (l.set j x).getD i z = if i = j then x else l.getD i z := by
  simp only [List.getD_eq_getElem?_getD, List.getElem?_set]
  by_cases h : j = i
  · subst h; simp [hj]
  · have h2 : ¬ i = j := fun e => h e.symm
    simp [h, h2]
theorem app_getD {α : Type} (z : α) (X Y : List α) (i : Nat) : (X ++ Y).getD i z = if i < X.length then X.getD i z else Y.getD (i - X.length) z := by
  simp only [List.getD_eq_getElem?_getD]
  split
  · rw [List.getElem?_append_left (by omega)]
  · rw [List.getElem?_append_right (by omega)]
theorem swL_get (M : List Tc) (a b n : Nat) (hab : a + n ≤ b) (hb : b + n ≤ M.length) : ∀ k, k ≤ n → ∀ i,
    (swL M a b k).getD i tcZ = if a ≤ i ∧ i < a + k then M.getD (b + (i - a)) tcZ else if b ≤ i ∧ i < b + k then M.getD (a + (i - b)) tcZ else M.getD i tcZ
  | 0, _, i => by
    rw [if_neg (by omega), if_neg (by omega)]
    rfl
  | k + 1, hk, i => by
    have ih := swL_get M a b n hab hb k (by omega)
    have hl := swL_len M a b k
    simp only [swL]
    rw [set_getD tcZ _ _ _ _ (by simp; omega), set_getD tcZ _ _ _ _ (by omega), ih (a + k), ih (b + k), ih i]
    by_cases h1 : i = b + k
    · subst h1
      rw [if_pos rfl, if_neg (by omega), if_neg (by omega), if_neg (by omega), if_pos (by omega)]
      congr 1; omega
    · rw [if_neg h1]
      by_cases h2 : i = a + k
      · subst h2
        rw [if_pos rfl, if_neg (by omega), if_neg (by omega), if_pos (by omega)]
        congr 1; omega
      · rw [if_neg h2]
        by_cases h3 : a ≤ i ∧ i < a + k
        · rw [if_pos h3, if_pos (by omega)]
        · rw [if_neg h3, if_neg (show ¬ (a ≤ i ∧ i < a + (k + 1)) by omega)]
          by_cases h4 : b ≤ i ∧ i < b + k
          · rw [if_pos h4, if_pos (by omega)]
          · rw [if_neg h4, if_neg (by omega)]
theorem swL_app (P A B C Q : List Tc) (h : A.length = C.length) : swL (P ++ (A ++ (B ++ (C ++ Q)))) P.length (P.length + A.length + B.length) A.length = P ++ (C ++ (B ++ (A ++ Q))) := by
  refine list_eq_of tcZ (by rw [swL_len]; simp only [List.length_append]; omega) (fun i _ => ?_)
  rw [swL_get _ _ _ A.length (by omega) (by simp only [List.length_append]; omega) A.length (Nat.le_refl _) i]
  by_cases h1 : i < P.length
  · rw [if_neg (by omega), if_neg (by omega)]
    simp only [app_getD, if_pos h1]
  · by_cases h2 : i < P.length + A.length
    · rw [if_pos (by omega)]
      simp only [app_getD]
      rw [if_neg (by omega), if_neg (by omega), if_neg (by omega), if_pos (by omega), if_neg h1, if_pos (by omega)]
      congr 1; omega
    · rw [if_neg (by omega)]
      by_cases h3 : i < P.length + A.length + B.length
      · rw [if_neg (by omega)]
        simp only [app_getD]
        rw [if_neg h1, if_neg (by omega), if_pos (by omega), if_neg h1, if_neg (by omega), if_pos (by omega)]
        congr 1; omega
      · by_cases h4 : i < P.length + A.length + B.length + A.length
        · rw [if_pos (by omega)]
          simp only [app_getD]
          rw [if_neg (by omega), if_pos (by omega), if_neg h1, if_neg (by omega), if_neg (by omega), if_pos (by omega)]
          congr 1; omega
        · rw [if_neg (by omega)]
          simp only [app_getD]
          rw [if_neg h1, if_neg (by omega), if_neg (by omega), if_neg (by omega), if_neg h1, if_neg (by omega), if_neg (by omega), if_neg (by omega)]
          congr 1; omega

/-- A row that has still to be turned: U and V are to be exchanged, all else stands. -/
structure Turns (T M : List Tc) (m i j : Nat) : Prop where
  is : ∃ P U V Q : List Tc, M = P ++ (U ++ (V ++ Q)) ∧ T = P ++ (V ++ (U ++ Q)) ∧ P.length + i = m ∧ U.length = i ∧ V.length = j
theorem Turns.left {T M : List Tc} {m i j : Nat} (h : Turns T M m i j) (hij : j < i) (hj : 0 < j) : Turns T (swL M (m - i) m j) m (i - j) j := by
  obtain ⟨P, U, V, Q, rfl, rfl, h1, h2, h3⟩ := h.is
  obtain ⟨A, B, rfl, hA⟩ : ∃ A B, U = A ++ B ∧ A.length = j := ⟨U.take j, U.drop j, (List.take_append_drop j U).symm, by rw [List.length_take]; omega⟩
  rw [List.length_append] at h2
  have e := swL_app P A B V Q (by omega)
  rw [hA] at e
  have e1 : m - i = P.length := by omega
  have e2 : m = P.length + j + B.length := by omega
  rw [e1, show swL (P ++ (A ++ B ++ (V ++ Q))) P.length m j = swL (P ++ (A ++ (B ++ (V ++ Q)))) P.length (P.length + j + B.length) j by rw [← e2, List.append_assoc], e]
  exact ⟨⟨P ++ V, B, A, Q, by simp only [List.append_assoc], by simp only [List.append_assoc], by rw [List.length_append]; omega, by omega, hA⟩⟩
theorem Turns.right {T M : List Tc} {m i j : Nat} (h : Turns T M m i j) (hij : i < j) : Turns T (swL M (m - i) (m + j - i) i) m i (j - i) := by
  obtain ⟨P, U, V, Q, rfl, rfl, h1, h2, h3⟩ := h.is
  obtain ⟨A, B, rfl, hA⟩ : ∃ A B, V = A ++ B ∧ A.length = j - i := ⟨V.take (j - i), V.drop (j - i), (List.take_append_drop (j - i) V).symm, by rw [List.length_take]; omega⟩
  rw [List.length_append] at h3
  have e := swL_app P U A B Q (by omega)
  rw [h2] at e
  have e1 : m - i = P.length := by omega
  have e2 : m + j - i = P.length + i + A.length := by omega
  rw [e1, e2, show P ++ (U ++ (A ++ B ++ Q)) = P ++ (U ++ (A ++ (B ++ Q))) by rw [List.append_assoc A B Q], e]
  exact ⟨⟨P, B, A, U ++ Q, by simp only [List.append_assoc], by simp only [List.append_assoc], by omega, by omega, hA⟩⟩
theorem Turns.last {T M : List Tc} {m i : Nat} (h : Turns T M m i i) : swL M (m - i) m i = T := by
  obtain ⟨P, U, V, Q, rfl, rfl, h1, h2, h3⟩ := h.is
  have e := swL_app P U [] V Q (by omega)
  rw [h2] at e
  have e1 : m - i = P.length := by omega
  have e2 : P.length + i + ([] : List Tc).length = m := by simp; omega
  rw [e2] at e
  rw [e1]
  simpa using e
theorem Turns.len {T M : List Tc} {m i j : Nat} (h : Turns T M m i j) : T.length = M.length ∧ i ≤ m ∧ m + j ≤ M.length := by
  obtain ⟨P, U, V, Q, rfl, rfl, h1, h2, h3⟩ := h.is
  simp only [List.length_append]
  omega

set_option maxHeartbeats 4000000 in
theorem rotate_any (w : World) (g c L : Nat) (X : List Value) (D T : List Tc) (h : SW w g X D) (hL : D.length = L) (hLc : L ≤ c) (hL1 : L ≤ 1000000) (a m b : Nat) (ham : a < m) (hmb : m < b) (ht : Turns T D m (m - a) (b - m)) (F : Value) :
    Calls Try.prog 83 #[.slice (some ⟨g, 0, none⟩) L c, .int .i64 a, .int .i64 m, .int .i64 b, F] w (SortTo w g X T) := by
  have Hs0 := Lib.hid h
  have HT0 := Lib.hid ht
  have HL := Lib.hid hL
  have hmL : m + (b - m) ≤ L := by have := ht.len; omega
  have HSw := Lib.hid (fun (w1 : World) (D1 : List Tc) (h1 : SW w1 g X D1) (h2 : D1.length = L) (a b n : Nat) (ha : a + n ≤ L) (hb : b + n ≤ L) => swaprange_any w1 g c L X D1 h1 h2 hLc hL1 a b n ha hb F)
  unfold SortTo at *
  clear h ht hL
  go_enter Try.func83, Try.ntmps83
  go_wp2_with fail
  go_loopw [10, 11] (fun s5 s6 wr => ∃ (i j : Nat) (N : List Tc), 0 < i ∧ 0 < j ∧ s5 = .int .i64 i ∧ s6 = .int .i64 j ∧ SW wr g X N ∧ N.length = L ∧ Turns T N m i j ∧ Save (· = g) w wr) (fun s5 s6 _ => (intOf s5).toNat + (intOf s6).toNat)
  case atStart => exact ⟨m - a, b - m, D, by omega, by omega, by congr 1; omega, by congr 1; omega, Hs0.out, HL.out, HT0.out, Save.refl _ _⟩
  case round =>
    rename World => wr
    obtain ⟨i, j, N, hi, hj, rfl, rfl, hs, hNL, ht, hsv⟩ := hrel
    obtain ⟨-, hle1, hle2⟩ := ht.len
    have HN := Lib.hid hs
    have HV := Lib.hid hsv
    have HT := Lib.hid ht
    have HNL := Lib.hid hNL
    rw [hNL] at hle2
    clear hs hsv ht Hs0 HT0 HL hNL
    rcases Nat.lt_trichotomy i j with hij | hij | hij
    · have HC := Lib.hid (HSw.out wr N HN.out HNL.out (m - i) (m + j - i) i (by omega) (by omega))
      rw [show ((m - i : Nat) : Int) = (m : Int) - i by omega, show ((m + j - i : Nat) : Int) = (m : Int) + j - i by omega] at HC
      have hne : ((i : Int) != (j : Int)) = true := by simp; omega
      have hgt : decide ((j : Int) < i) = false := decide_eq_false (by omega)
      go_wp2_with fail
      refine HC.out.mono ?_
      rintro e w1 ⟨rfl, hs, hsv⟩
      have HN1 := Lib.hid hs
      have HV1 := Lib.hid (HV.out.trans hsv)
      have HT1 := Lib.hid (HT.out.right hij)
      have HL1 := Lib.hid ((swL_len N (m - i) (m + j - i) i).trans HNL.out)
      clear hs hsv HC HV HT HN
      go_wp2_with fail
      exact ⟨⟨i, j - i, _, by omega, by omega, rfl, by congr 1; omega, HN1.out, HL1.out, HT1.out, HV1.out⟩, by simp [intOf]; omega⟩
    · subst hij
      have HC := Lib.hid (HSw.out wr N HN.out HNL.out (m - i) m i (by omega) (by omega))
      rw [show ((m - i : Nat) : Int) = (m : Int) - i by omega] at HC
      have HT1 := Lib.hid HT.out.last
      clear HT HNL
      go_wp2_with fail
      refine HC.out.mono ?_
      rintro e w1 ⟨rfl, hs, hsv⟩
      rw [HT1.out] at hs
      have HN1 := Lib.hid hs
      have HV1 := Lib.hid (HV.out.trans hsv)
      clear hs hsv HC HV HN
      go_wp2_with fail
      go_end0
      exact ⟨rfl, HN1.out, HV1.out⟩
    · have HC := Lib.hid (HSw.out wr N HN.out HNL.out (m - i) m j (by omega) (by omega))
      rw [show ((m - i : Nat) : Int) = (m : Int) - i by omega] at HC
      have hne : ((i : Int) != (j : Int)) = true := by simp; omega
      have hgt : decide ((j : Int) < i) = true := decide_eq_true (by omega)
      go_wp2_with fail
      refine HC.out.mono ?_
      rintro e w1 ⟨rfl, hs, hsv⟩
      have HN1 := Lib.hid hs
      have HV1 := Lib.hid (HV.out.trans hsv)
      have HT1 := Lib.hid (HT.out.left hij hj)
      have HL1 := Lib.hid ((swL_len N (m - i) m j).trans HNL.out)
      clear hs hsv HC HV HT HN
      go_wp2_with fail
      exact ⟨⟨i - j, j, _, by omega, by omega, by congr 1; omega, rfl, HN1.out, HL1.out, HT1.out, HV1.out⟩, by simp [intOf]; omega⟩
end Go.Proofs.Ytdmjfadeffcidaa
