
/- slices: symMerge, the plain mathematics. -/
import Derived.Test.YtdmjfadeffcidaaT24
namespace Go.Proofs.Ytdmjfadeffcidaa
open Go.RowKit
set_option linter.unusedSimpArgs false
set_option linter.unusedVariables false
set_option maxRecDepth 100000

theorem swap_adj2 (Z W : List Tc) (x y : Tc) : ((Z ++ (x :: y :: W)).set Z.length y).set (Z.length + 1) x = Z ++ (y :: x :: W) := by
  rw [List.set_append_right _ _ (by omega), Nat.sub_self, List.set_append_right _ _ (by omega), show Z.length + 1 - Z.length = 1 by omega]
  rfl
theorem two_getD (Z W : List Tc) (x y : Tc) : (Z ++ (x :: y :: W)).getD (Z.length + 1) tcZ = y := by
  have e : Z ++ (x :: y :: W) = (Z ++ [x]) ++ (y :: W) := by simp
  have h : (Z ++ [x]).length = Z.length + 1 := by simp
  rw [e, ← h]; exact mid_getD _ _ _
theorem Same.exch {U V : List Tc} (h : ∀ x ∈ V, ∀ y ∈ U, ¬ x.time = y.time) : Same (U ++ V) (V ++ U) := fun t => by
  rw [List.filter_append, List.filter_append]
  by_cases hV : V.filter (fun x => x.time == t) = []
  · rw [hV, List.append_nil, List.nil_append]
  · have hU : U.filter (fun x => x.time == t) = [] := by
      rw [List.filter_eq_nil_iff]
      intro y hy hyt
      obtain ⟨x, hx⟩ := List.exists_mem_of_ne_nil _ hV
      obtain ⟨hx1, hx2⟩ := List.mem_filter.1 hx
      refine h x hx1 y hy ?_
      rw [beq_iff_eq.1 hx2, beq_iff_eq.1 hyt]
    rw [hU, List.nil_append, List.append_nil]
theorem Same.length {A B : List Tc} (h : Same A B) : A.length = B.length := by
  have key : ∀ (n : Nat) (A B : List Tc), A.length ≤ n → Same A B → A.length = B.length := by
    intro n
    induction n with
    | zero =>
      intro A B hA h
      have : A = [] := List.eq_nil_of_length_eq_zero (by omega)
      subst this
      cases B with
      | nil => rfl
      | cons b B =>
        have := h.symm.mem (x := b) (List.mem_cons_self ..)
        cases this
    | succ n ih =>
      intro A B hA h
      cases A with
      | nil =>
        cases B with
        | nil => rfl
        | cons b B =>
          have := h.symm.mem (x := b) (List.mem_cons_self ..)
          cases this
      | cons a A =>
        obtain ⟨B1, B2, rfl, hB⟩ : ∃ B1 B2, B = B1 ++ (a :: B2) ∧ B1.filter (fun x => x.time == a.time) = [] := by
          have ha := h a.time
          simp only [List.filter_cons, beq_self_eq_true, if_true] at ha
          obtain ⟨l1, l2, e, h1, h2⟩ := List.filter_eq_cons_iff.1 ha.symm
          exact ⟨l1, l2, e, List.filter_eq_nil_iff.2 h1⟩
        have h2 : Same A (B1 ++ B2) := fun t => by
          have ht := h t
          simp only [List.filter_append, List.filter_cons] at ht ⊢
          by_cases e : a.time = t
          · subst e
            simp only [beq_self_eq_true, if_true, hB, List.nil_append] at ht ⊢
            injection ht
          · have : (a.time == t) = false := by simpa using e
            simpa [this] using ht
        have := ih A (B1 ++ B2) (by simpa using hA) h2
        simp only [List.length_append, List.length_cons] at this ⊢
        omega
  exact key A.length A B (Nat.le_refl _) h

/-- One touch on its way up, on its way down. -/
structure MovR (T N : List Tc) (k e : Nat) : Prop where
  is : ∃ Z u B W, N = Z ++ (u :: (B ++ W)) ∧ T = Z ++ (B ++ (u :: W)) ∧ Z.length = k ∧ k + B.length = e
structure MovL (T N : List Tc) (k s : Nat) : Prop where
  is : ∃ Z B u W, N = Z ++ (B ++ (u :: W)) ∧ T = Z ++ (u :: (B ++ W)) ∧ Z.length = s ∧ s + B.length = k
theorem MovR.step {T N : List Tc} {k e : Nat} (h : MovR T N k e) (hk : k < e) : MovR T ((N.set k (N.getD (k + 1) tcZ)).set (k + 1) (N.getD k tcZ)) (k + 1) e := by
  obtain ⟨Z, u, B, W, rfl, rfl, rfl, h2⟩ := h.is
  cases B with
  | nil => simp at h2; omega
  | cons y B =>
    simp only [List.cons_append]
    rw [two_getD, mid_getD, swap_adj2]
    exact ⟨⟨Z ++ [y], u, B, W, by simp, by simp, by simp, by simp at h2; omega⟩⟩
theorem MovR.done {T N : List Tc} {e : Nat} (h : MovR T N e e) : N = T := by
  obtain ⟨Z, u, B, W, rfl, rfl, h1, h2⟩ := h.is
  have : B = [] := List.eq_nil_of_length_eq_zero (by omega)
  subst this
  rfl
theorem MovR.len {T N : List Tc} {k e : Nat} (h : MovR T N k e) : e < N.length ∧ T.length = N.length := by
  obtain ⟨Z, u, B, W, rfl, rfl, h1, h2⟩ := h.is
  simp only [List.length_append, List.length_cons]
  omega
theorem MovL.step {T N : List Tc} {q s : Nat} (h : MovL T N (q + 1) s) (hk : s < q + 1) : MovL T ((N.set (q + 1) (N.getD q tcZ)).set q (N.getD (q + 1) tcZ)) q s := by
  obtain ⟨Z, B, u, W, rfl, rfl, h1, h2⟩ := h.is
  have hne : B ≠ [] := fun e => by rw [e] at h2; simp at h2; omega
  obtain ⟨B', y, rfl⟩ : ∃ B' y, B = B' ++ [y] := ⟨B.dropLast, B.getLast hne, (List.dropLast_concat_getLast hne).symm⟩
  rw [List.length_append, List.length_singleton] at h2
  have e : Z ++ (B' ++ [y] ++ (u :: W)) = (Z ++ B') ++ (y :: u :: W) := by simp
  have hZ : (Z ++ B').length = q := by rw [List.length_append]; omega
  have g1 := two_getD (Z ++ B') W y u
  have g2 := mid_getD (Z ++ B') (u :: W) y
  have g3 := swap_adj (Z ++ B') W u y
  rw [hZ] at g1 g2 g3
  rw [e, g1, g2, g3]
  exact ⟨⟨Z, B', u, y :: W, by simp, by simp, h1, by omega⟩⟩
theorem MovL.done {T N : List Tc} {s : Nat} (h : MovL T N s s) : N = T := by
  obtain ⟨Z, B, u, W, rfl, rfl, h1, h2⟩ := h.is
  have : B = [] := List.eq_nil_of_length_eq_zero (by omega)
  subst this
  rfl
theorem MovL.len {T N : List Tc} {k s : Nat} (h : MovL T N k s) : k < N.length ∧ T.length = N.length := by
  obtain ⟨Z, B, u, W, rfl, rfl, h1, h2⟩ := h.is
  simp only [List.length_append, List.length_cons]
  omega

/-- Two sorted parts, side by side. -/
def Two (D : List Tc) (a m b : Nat) : Prop := ∃ P U V Q : List Tc, D = P ++ (U ++ (V ++ Q)) ∧ P.length = a ∧ a + U.length = m ∧ m + V.length = b ∧ Rising U ∧ Rising V
theorem Two.le {D : List Tc} {a m b : Nat} (h : Two D a m b) : a ≤ m ∧ m ≤ b ∧ b ≤ D.length := by
  obtain ⟨P, U, V, Q, rfl, h1, h2, h3, _⟩ := h
  simp only [List.length_append]
  omega
theorem split_at {α : Type} (D : List α) (n : Nat) (h : n ≤ D.length) : ∃ X Y, D = X ++ Y ∧ X.length = n := ⟨D.take n, D.drop n, (List.take_append_drop n D).symm, by simp; omega⟩
/-- They, each parted in two: what the search has found. -/
structure Four (D P A U V B Q : List Tc) (a s m e b : Nat) : Prop where
  is : D = P ++ (A ++ (U ++ (V ++ (B ++ Q))))
  lP : P.length = a
  lA : a + A.length = s
  lU : s + U.length = m
  lV : m + V.length = e
  lB : e + B.length = b
  rU : Rising (A ++ U)
  rV : Rising (V ++ B)
  less : ∀ x ∈ V, ∀ y ∈ U, x.time < y.time
  rise : ∀ x ∈ A, ∀ y ∈ B, x.time ≤ y.time
theorem Rising.left {A B : List Tc} (h : Rising (A ++ B)) : Rising A := (List.pairwise_append.1 h).1
theorem Rising.right {A B : List Tc} (h : Rising (A ++ B)) : Rising B := (List.pairwise_append.1 h).2.1
theorem Rising.mid {A B : List Tc} (h : Rising (A ++ B)) : ∀ x ∈ A, ∀ y ∈ B, x.time ≤ y.time := (List.pairwise_append.1 h).2.2
theorem rising_last {A : List Tc} {z : Tc} (h : Rising (A ++ [z])) : ∀ x ∈ A ++ [z], x.time ≤ z.time := fun x hx => by
  rcases List.mem_append.1 hx with h1 | h1
  · exact h.mid x h1 z (List.mem_singleton.2 rfl)
  · obtain rfl := List.mem_singleton.1 h1
    exact Int.le_refl _
theorem rising_first {A : List Tc} {z : Tc} (h : Rising (z :: A)) : ∀ x ∈ z :: A, z.time ≤ x.time := fun x hx => by
  rcases List.mem_cons.1 hx with rfl | h1
  · exact Int.le_refl _
  · exact (List.pairwise_cons.1 h).1 x h1
theorem Two.four {D : List Tc} {a m b s e : Nat} (h : Two D a m b) (h1 : a ≤ s) (h2 : s ≤ m) (h3 : m ≤ e) (h4 : e ≤ b)
    (hx : s < m → m < e → (D.getD (e - 1) tcZ).time < (D.getD s tcZ).time) (hy : a < s → e < b → (D.getD (s - 1) tcZ).time ≤ (D.getD e tcZ).time) : ∃ P A U V B Q, Four D P A U V B Q a s m e b := by
  obtain ⟨P, U, V, Q, rfl, l1, l2, l3, r1, r2⟩ := h
  obtain ⟨A, U, rfl, hA⟩ := split_at U (s - a) (by omega)
  obtain ⟨V, B, rfl, hV⟩ := split_at V (e - m) (by omega)
  rw [List.length_append] at l2 l3
  have eD : P ++ (A ++ U ++ (V ++ B ++ Q)) = P ++ (A ++ (U ++ (V ++ (B ++ Q)))) := by simp only [List.append_assoc]
  rw [eD] at hx hy ⊢
  refine ⟨P, A, U, V, B, Q, rfl, l1, by omega, by omega, by omega, by omega, r1, r2, fun x hxV y hyU => ?_, fun x hxA y hyB => ?_⟩
  · have hV0 : V ≠ [] := fun e => by rw [e] at hxV; cases hxV
    obtain ⟨V', z, rfl⟩ : ∃ V' z, V = V' ++ [z] := ⟨V.dropLast, V.getLast hV0, (List.dropLast_concat_getLast hV0).symm⟩
    cases U with
    | nil => cases hyU
    | cons u U =>
      simp only [List.length_append, List.length_cons, List.length_nil] at l2 l3 hV
      have g1 : (P ++ (A ++ (u :: U ++ (V' ++ [z] ++ (B ++ Q))))).getD s tcZ = u := by
        have e1 : P ++ (A ++ (u :: U ++ (V' ++ [z] ++ (B ++ Q)))) = (P ++ A) ++ (u :: (U ++ (V' ++ [z] ++ (B ++ Q)))) := by simp
        have e2 : (P ++ A).length = s := by rw [List.length_append]; omega
        rw [e1, ← e2]; exact mid_getD _ _ _
      have g2 : (P ++ (A ++ (u :: U ++ (V' ++ [z] ++ (B ++ Q))))).getD (e - 1) tcZ = z := by
        have e1 : P ++ (A ++ (u :: U ++ (V' ++ [z] ++ (B ++ Q)))) = (P ++ (A ++ (u :: U ++ V'))) ++ (z :: (B ++ Q)) := by simp
        have e2 : (P ++ (A ++ (u :: U ++ V'))).length = e - 1 := by simp only [List.length_append, List.length_cons]; omega
        rw [e1, ← e2]; exact mid_getD _ _ _
      have := hx (by omega) (by omega)
      rw [g1, g2] at this
      have h5 := rising_last r2.left x hxV
      have h6 := rising_first r1.right y hyU
      omega
  · have hA0 : A ≠ [] := fun e => by rw [e] at hxA; cases hxA
    obtain ⟨A', z, rfl⟩ : ∃ A' z, A = A' ++ [z] := ⟨A.dropLast, A.getLast hA0, (List.dropLast_concat_getLast hA0).symm⟩
    cases B with
    | nil => cases hyB
    | cons u B =>
      simp only [List.length_append, List.length_cons, List.length_nil] at l2 l3 hA
      have g1 : (P ++ (A' ++ [z] ++ (U ++ (V ++ (u :: B ++ Q))))).getD e tcZ = u := by
        have e1 : P ++ (A' ++ [z] ++ (U ++ (V ++ (u :: B ++ Q)))) = (P ++ (A' ++ [z] ++ (U ++ V))) ++ (u :: (B ++ Q)) := by simp
        have e2 : (P ++ (A' ++ [z] ++ (U ++ V))).length = e := by simp only [List.length_append, List.length_cons, List.length_nil]; omega
        rw [e1, ← e2]; exact mid_getD _ _ _
      have g2 : (P ++ (A' ++ [z] ++ (U ++ (V ++ (u :: B ++ Q))))).getD (s - 1) tcZ = z := by
        have e1 : P ++ (A' ++ [z] ++ (U ++ (V ++ (u :: B ++ Q)))) = (P ++ A') ++ (z :: (U ++ (V ++ (u :: B ++ Q)))) := by simp
        have e2 : (P ++ A').length = s - 1 := by rw [List.length_append]; omega
        rw [e1, ← e2]; exact mid_getD _ _ _
      have := hy (by omega) (by omega)
      rw [g1, g2] at this
      have h5 := rising_last r1.left x hxA
      have h6 := rising_first r2.right y hyB
      omega
/-- The row with its middle parts exchanged, then its halves sorted, is sorted. -/
theorem Four.sorts {D P A U V B Q : List Tc} {a s m e b : Nat} (h : Four D P A U V B Q a s m e b) {L R : List Tc} (hL : Same (A ++ V) L) (hR : Same (U ++ B) R) (rL : Rising L) (rR : Rising R) : Sorts D (P ++ (L ++ (R ++ Q))) a b := by
  have hl := hL.length
  have hr := hR.length
  rw [List.length_append] at hl hr
  have h1 := h.lP; have h2 := h.lA; have h3 := h.lU; have h4 := h.lV; have h5 := h.lB
  refine ⟨P, A ++ (U ++ (V ++ B)), L ++ R, Q, by rw [h.is]; simp only [List.append_assoc], by simp only [List.append_assoc], h1, by simp only [List.length_append]; omega, by simp only [List.length_append]; omega, ?_, ?_⟩
  · have e1 : Same (U ++ V) (V ++ U) := Same.exch (fun x hx y hy => by have := h.less x hx y hy; omega)
    have e2 : Same (A ++ (U ++ (V ++ B))) ((A ++ V) ++ (U ++ B)) := by
      have := Same.app (Same.refl A) (Same.app e1 (Same.refl B))
      simpa only [List.append_assoc] using this
    exact e2.trans (Same.app hL hR)
  · refine List.pairwise_append.2 ⟨rL, rR, fun x hx y hy => ?_⟩
    have hx := hL.symm.mem hx
    have hy := hR.symm.mem hy
    rcases List.mem_append.1 hx with hx | hx <;> rcases List.mem_append.1 hy with hy | hy
    · exact h.rU.mid x hx y hy
    · exact h.rise x hx y hy
    · exact Int.le_of_lt (h.less x hx y hy)
    · exact h.rV.mid x hx y hy
theorem Four.turns {D P A U V B Q : List Tc} {a s m e b : Nat} (h : Four D P A U V B Q a s m e b) : Turns (P ++ (A ++ (V ++ (U ++ (B ++ Q))))) D m (m - s) (e - m) := by
  have h1 := h.lP; have h2 := h.lA; have h3 := h.lU; have h4 := h.lV
  exact ⟨⟨P ++ A, U, V, B ++ Q, by rw [h.is]; simp only [List.append_assoc], by simp only [List.append_assoc], by rw [List.length_append]; omega, by omega, by omega⟩⟩
theorem Four.same {D P A U V B Q : List Tc} {a s m e b : Nat} (h : Four D P A U V B Q a s m e b) (hn : ¬ (s < m ∧ m < e)) : D = P ++ (A ++ (V ++ (U ++ (B ++ Q)))) := by
  have h3 := h.lU; have h4 := h.lV
  rw [h.is]
  by_cases hU : U = []
  · subst hU; rfl
  · have : 0 < U.length := List.length_pos_iff.2 hU
    have hV : V = [] := List.eq_nil_of_length_eq_zero (by omega)
    subst hV; rfl
/-- The left half of the row that was turned. -/
theorem Four.two1 {D P A U V B Q : List Tc} {a s m e b : Nat} (h : Four D P A U V B Q a s m e b) (mid : Nat) (hm : mid + m = s + e) : Two (P ++ (A ++ (V ++ (U ++ (B ++ Q))))) a s mid := by
  have h1 := h.lP; have h2 := h.lA; have h3 := h.lU; have h4 := h.lV
  exact ⟨P, A, V, U ++ (B ++ Q), rfl, h1, h2, by omega, h.rU.left, h.rV.left⟩
theorem Four.two2 {D P A U V B Q : List Tc} {a s m e b : Nat} (h : Four D P A U V B Q a s m e b) (mid : Nat) (hm : mid + m = s + e) {L : List Tc} (hL : Same (A ++ V) L) : Two (P ++ (L ++ (U ++ (B ++ Q)))) mid e b := by
  have h1 := h.lP; have h2 := h.lA; have h3 := h.lU; have h4 := h.lV; have h5 := h.lB
  have hl := hL.length
  rw [List.length_append] at hl
  exact ⟨P ++ L, U, B, Q, by simp only [List.append_assoc], by rw [List.length_append]; omega, by omega, by omega, h.rU.right, h.rV.right⟩
theorem app_inj {P P' A A' : List Tc} (h : P ++ A = P' ++ A') (hl : P.length = P'.length) : P = P' ∧ A = A' := List.append_inj h hl
/-- What a sort of a known part leaves. -/
theorem Sorts.of {P S Q N : List Tc} {a b : Nat} (h : Sorts (P ++ (S ++ Q)) N a b) (h1 : P.length = a) (h2 : a + S.length = b) : ∃ S', N = P ++ (S' ++ Q) ∧ Same S S' ∧ Rising S' := by
  obtain ⟨P', S1, S', Q', e, hN, l1, l2, l3, h3, h4⟩ := h
  obtain ⟨e1, e⟩ := app_inj e (by omega)
  obtain ⟨e3, e4⟩ := app_inj e (by omega)
  exact ⟨S', by rw [hN, e1, e4], by rw [e3]; exact h3, h4⟩
end Go.Proofs.Ytdmjfadeffcidaa
