
/- slices: symMerge of any two parts; blocks of a row that are sorted. -/
import Derived.Test.YtdmjfadeffcidaaT28
namespace Go.Proofs.Ytdmjfadeffcidaa
open Go.RowKit
set_option linter.unusedSimpArgs false
set_option linter.unusedVariables false
set_option maxRecDepth 100000

theorem symmerge_any (g c L : Nat) (X : List Value) (hLc : L ≤ c) (hL1 : L ≤ 1000000) : ∀ (n a m b : Nat), b ≤ a + n → ∀ (w : World) (D : List Tc), SW w g X D → D.length = L → a < m → m < b → Two D a m b →
    Calls Try.prog 77 #[.slice (some ⟨g, 0, none⟩) L c, .int .i64 a, .int .i64 m, .int .i64 b, lessV] w fun e w' => e = .returned (.tuple #[]) ∧ ∃ N, Sorts D N a b ∧ SW w' g X N ∧ Save (· = g) w w' := by
  intro n
  induction n with
  | zero => intro a m b h w D _ _ h1 h2 _; omega
  | succ n ih =>
    intro a m b hn w D h hL ham hmb h2
    by_cases h3 : m = a + 1
    · exact sym1_any w g c L X D h hL hLc hL1 a m b h3 hmb h2
    · by_cases h4 : b = m + 1
      · exact sym2_any w g c L X D h hL hLc hL1 a m b h4 (by omega) h2
      · exact sym3_any g c L X hLc hL1 a m b (by omega) (by omega) (fun w1 D1 a1 m1 b1 k1 k2 k3 k4 k5 k6 => ih a1 m1 b1 (by omega) w1 D1 k1 k2 k3 k4 k6) w D h hL h2

/-- A part of a row is sorted. -/
def RisA (D : List Tc) (a b : Nat) : Prop := ∀ i j, a ≤ i → i < j → j < b → (D.getD i tcZ).time ≤ (D.getD j tcZ).time
theorem getD_getElem (D : List Tc) (i : Nat) (h : i < D.length) : D.getD i tcZ = D[i] := by
  rw [List.getD_eq_getElem?_getD, List.getElem?_eq_getElem h]; rfl
theorem rising_iff (S : List Tc) : Rising S ↔ ∀ i j, i < j → j < S.length → (S.getD i tcZ).time ≤ (S.getD j tcZ).time := by
  unfold Rising
  rw [List.pairwise_iff_getElem]
  constructor
  · intro h i j h1 h2
    rw [getD_getElem S i (by omega), getD_getElem S j h2]
    exact h i j (by omega) h2 h1
  · intro h i j h1 h2 h3
    have := h i j h3 h2
    rwa [getD_getElem S i h1, getD_getElem S j h2] at this
theorem app3_getD (P S Q : List Tc) (i : Nat) (h1 : P.length ≤ i) (h2 : i < P.length + S.length) : (P ++ (S ++ Q)).getD i tcZ = S.getD (i - P.length) tcZ := by
  rw [app_getD, if_neg (by omega), app_getD, if_pos (by omega)]
theorem risA_of {P S Q : List Tc} {a b : Nat} (h : Rising S) (h1 : P.length = a) (h2 : a + S.length = b) : RisA (P ++ (S ++ Q)) a b := fun i j hi hij hj => by
  rw [app3_getD _ _ _ _ (by omega) (by omega), app3_getD _ _ _ _ (by omega) (by omega)]
  exact (rising_iff S).1 h _ _ (by omega) (by omega)
theorem rising_of {P S Q : List Tc} {a b : Nat} (h : RisA (P ++ (S ++ Q)) a b) (h1 : P.length = a) (h2 : a + S.length = b) : Rising S := by
  refine (rising_iff S).2 fun i j hij hj => ?_
  have := h (a + i) (a + j) (by omega) (by omega) (by omega)
  rw [app3_getD _ _ _ _ (by omega) (by omega), app3_getD _ _ _ _ (by omega) (by omega)] at this
  rwa [show a + i - P.length = i by omega, show a + j - P.length = j by omega] at this
theorem two_of {D : List Tc} {a m b : Nat} (h1 : a ≤ m) (h2 : m ≤ b) (h3 : b ≤ D.length) (r1 : RisA D a m) (r2 : RisA D m b) : Two D a m b := by
  obtain ⟨P, R, rfl, hP⟩ := split_at D a (by omega)
  rw [List.length_append] at h3
  obtain ⟨U, R, rfl, hU⟩ := split_at R (m - a) (by omega)
  rw [List.length_append] at h3
  obtain ⟨V, Q, rfl, hV⟩ := split_at R (b - m) (by omega)
  refine ⟨P, U, V, Q, rfl, hP, by omega, by omega, rising_of r1 hP (by omega), ?_⟩
  rw [← List.append_assoc P U] at r2
  exact rising_of r2 (by rw [List.length_append]; omega) (by omega)
/-- What a sort of a part leaves, place by place. -/
theorem Sorts.at {D N : List Tc} {a b : Nat} (h : Sorts D N a b) : N.length = D.length ∧ Same D N ∧ RisA N a b ∧ ∀ i, (i < a ∨ b ≤ i) → N.getD i tcZ = D.getD i tcZ := by
  have hl := h.len
  obtain ⟨P, S, S', Q, rfl, rfl, h1, h2, h3, h4, h5⟩ := h
  refine ⟨hl, Same.app (Same.refl _) (Same.app h4 (Same.refl _)), risA_of h5 h1 (by omega), fun i hi => ?_⟩
  by_cases h6 : i < P.length
  · rw [app_getD _ P (S' ++ Q), if_pos h6, app_getD _ P (S ++ Q), if_pos h6]
  · rw [app_getD _ P (S' ++ Q), if_neg h6, app_getD _ P (S ++ Q), if_neg h6, app_getD _ S', if_neg (by omega), app_getD _ S, if_neg (by omega), h3]
theorem RisA.keep {D N : List Tc} {a b c d : Nat} (h : RisA D c d) (hs : Sorts D N a b) (ho : d ≤ a ∨ b ≤ c) : RisA N c d := fun i j hi hij hj => by
  rw [hs.at.2.2.2 i (by omega), hs.at.2.2.2 j (by omega)]
  exact h i j hi hij hj
theorem RisA.less {D : List Tc} {a b c d : Nat} (h : RisA D a b) (h1 : a ≤ c) (h2 : d ≤ b) : RisA D c d := fun i j hi hij hj => h i j (by omega) hij (by omega)
/-- The first t blocks of s are sorted. -/
def BlkTo (D : List Tc) (s t : Nat) : Prop := ∀ k, k < t → RisA D (k * s) (k * s + s)
/-- Every block of s is sorted, the last one as far as the row goes. -/
def Blk (D : List Tc) (s : Nat) : Prop := ∀ k, RisA D (k * s) (min (k * s + s) D.length)
/-- The first t blocks of 2s are sorted, behind them every block of s. -/
def Half (D : List Tc) (s t : Nat) : Prop := BlkTo D (2 * s) t ∧ ∀ k, RisA D (t * (2 * s) + k * s) (min (t * (2 * s) + k * s + s) D.length)
theorem mul_le_step {k t : Nat} (s : Nat) (h : k < t) : k * s + s ≤ t * s := by
  have h1 : (k + 1) * s ≤ t * s := Nat.mul_le_mul_right s h
  rw [Nat.add_mul, Nat.one_mul] at h1
  exact h1
theorem BlkTo.zero (D : List Tc) (s : Nat) : BlkTo D s 0 := fun k h => absurd h (Nat.not_lt_zero _)
theorem BlkTo.step {D N : List Tc} {s t : Nat} (h : BlkTo D s t) (hs : Sorts D N (t * s) (t * s + s)) : BlkTo N s (t + 1) := fun k hk => by
  by_cases e : k = t
  · subst e; exact hs.at.2.2.1
  · exact (h k (by omega)).keep hs (.inl (mul_le_step s (by omega)))
theorem BlkTo.last {D N : List Tc} {s t : Nat} (h : BlkTo D s t) (hs : Sorts D N (t * s) D.length) (hl : D.length < t * s + s) : Blk N s := fun k => by
  rw [hs.at.1]
  rcases Nat.lt_trichotomy k t with h1 | h1 | h1
  · have := mul_le_step s h1
    by_cases h2 : t * s ≤ D.length
    · exact ((h k h1).keep hs (.inl this)).less (Nat.le_refl _) (Nat.min_le_left _ _)
    · obtain ⟨P, S, S', Q, e, _, l1, _⟩ := hs
      have : D.length = (P ++ (S ++ Q)).length := by rw [← e]
      rw [List.length_append] at this
      omega
  · subst h1
    exact hs.at.2.2.1.less (Nat.le_refl _) (Nat.min_le_right _ _)
  · have := mul_le_step s h1
    intro i j hi hij hj
    have : min (k * s + s) D.length ≤ D.length := Nat.min_le_right _ _
    omega
theorem Blk.half {D : List Tc} {s : Nat} (h : Blk D s) : Half D s 0 := ⟨BlkTo.zero _ _, fun k => by
  have := h k
  simpa using this⟩
theorem Half.two {D : List Tc} {s t : Nat} (h : Half D s t) (hl : t * (2 * s) + 2 * s ≤ D.length) : Two D (t * (2 * s)) (t * (2 * s) + s) (t * (2 * s) + 2 * s) := by
  have h0 := h.2 0
  have h1 := h.2 1
  rw [Nat.zero_mul, Nat.add_zero, Nat.min_eq_left (by omega)] at h0
  rw [Nat.one_mul, Nat.min_eq_left (by omega)] at h1
  exact two_of (by omega) (by omega) (by omega) h0 (h1.less (Nat.le_refl _) (by omega))
theorem Half.step {D N : List Tc} {s t : Nat} (h : Half D s t) (hs : Sorts D N (t * (2 * s)) (t * (2 * s) + 2 * s)) : Half N s (t + 1) := by
  refine ⟨h.1.step hs, fun k => ?_⟩
  have e : (t + 1) * (2 * s) + k * s = t * (2 * s) + (k + 2) * s := by rw [Nat.add_mul, Nat.one_mul, Nat.add_mul]; omega
  rw [e, hs.at.1]
  exact (h.2 (k + 2)).keep hs (.inr (by rw [Nat.add_mul]; omega))
theorem Half.two2 {D : List Tc} {s t : Nat} (h : Half D s t) (h1 : t * (2 * s) + s < D.length) (h2 : D.length < t * (2 * s) + 2 * s) : Two D (t * (2 * s)) (t * (2 * s) + s) D.length := by
  have h0 := h.2 0
  have h3 := h.2 1
  rw [Nat.zero_mul, Nat.add_zero, Nat.min_eq_left (by omega)] at h0
  rw [Nat.one_mul, Nat.min_eq_right (by omega)] at h3
  exact two_of (by omega) (by omega) (by omega) h0 h3
theorem Half.last {D N : List Tc} {s t : Nat} (h : Half D s t) (hs : Sorts D N (t * (2 * s)) D.length) (hl : D.length < t * (2 * s) + 2 * s) : Blk N (2 * s) := h.1.last hs hl
theorem Half.done {D : List Tc} {s t : Nat} (h : Half D s t) (hl : D.length ≤ t * (2 * s) + s) (hl2 : D.length < t * (2 * s) + 2 * s) : Blk D (2 * s) := fun k => by
  rcases Nat.lt_trichotomy k t with h1 | h1 | h1
  · exact (h.1 k h1).less (Nat.le_refl _) (Nat.min_le_left _ _)
  · subst h1
    have h0 := h.2 0
    rw [Nat.zero_mul, Nat.add_zero, Nat.min_eq_right hl] at h0
    exact h0.less (Nat.le_refl _) (Nat.min_le_right _ _)
  · have := mul_le_step (2 * s) h1
    intro i j hi hij hj
    have : min (k * (2 * s) + 2 * s) D.length ≤ D.length := Nat.min_le_right _ _
    omega
theorem Blk.all {D : List Tc} {s : Nat} (h : Blk D s) (hl : D.length ≤ s) : Rising D := by
  have h0 := h 0
  rw [Nat.zero_mul, Nat.zero_add, Nat.min_eq_right hl] at h0
  exact (rising_iff D).2 fun i j hij hj => h0 i j (Nat.zero_le _) hij hj
end Go.Proofs.Ytdmjfadeffcidaa
