/-    -/
import Derived.Test.YtofenjloieagaaaZT28
namespace Go.Proofs.Ytofenjloieagaaa
open Go.RowKit
set_option linter.unusedSimpArgs false
set_option linter.unusedVariables false
set_option maxRecDepth 100000

theorem symmerge_any (g c L : Nat) (X : List Value) (hLc : L ≤ c) (hL1 : L ≤ 1000000) : ∀ (n a m b : Nat), b ≤ a + n → ∀ (w : World) (D : List Tc), SW w g X D → D.length = L → a < m → m < b → Two D a m b →
    Calls Try.prog 66 #[.slice (some ⟨g, 0, none⟩) L c, .int .i64 a, .int .i64 m, .int .i64 b, lessV] w fun e w' => e = .returned (.tuple #[]) ∧ ∃ N, Sorts D N a b ∧ SW w' g X N ∧ Save (· = g) w w' := by
  intro n
  induction n with
  | zero => intro a m b h w D _ _ h1 h2 _; omega
  | succ n ih =>
    intro a m b hn w D h hL ham hmb h2
    by_cases h3 : m = a + 1
    · exact sym1_any w g c L X D h hL hLc hL1 a m b h3 hmb h2
    · by_cases h4 : b = m + 1
      · exact sym2_any w g c L X D h hL hLc hL1 a m b h4 (by omega) h2
      · exact sym3_any g c L X hLc hL1 a m b (by omega) (by omega) (fun w1 D1 a1 m1 b1 k1 k2 k3 k4 k5 k6 => ih a1 m1 b1 (by omega) w1 D1 k1 k2 k3 k4 k6) w D h hL h2

/-- A part of a row is sorted. -/
def RisA (D : List Tc) (a b : Nat) : Prop := ∀ i j, a ≤ i → i < j → j < b → (D.getD i tcZ).time ≤ (D.getD j tcZ).time
theorem getD_getElem (D : List Tc) (i : Nat) (h : i < D.length) : D.getD i tcZ = D[i] := by
  rw [List.getD_eq_getElem?_getD, List.getElem?_eq_getElem h]; rfl
theorem rising_iff (S : List Tc) : Rising S ↔ ∀ i j, i < j → j < S.length → (S.getD i tcZ).time ≤ (S.getD j tcZ).time := by
  unfold Rising
  rw [List.pairwise_iff_getElem]
  constructor
  · intro h i j h1 h2
    rw [getD_getElem S i (by omega), getD_getElem S j h2]
    exact h i j (by omega) h2 h1
  · intro h i j h1 h2 h3
    have := h i j h3 h2
    rwa [getD_getElem S i h1, getD_getElem S j h2] at this
theorem app3_getD (P S Q : List Tc) (i : Nat) (h1 : P.length ≤ i) (h2 : i < P.length + S.length) : (P ++ (S ++ Q)).getD i tcZ = S.getD (i - P.length) tcZ := by
  rw [app_getD, if_neg (by omega), app_getD, if_pos (by omega)]
theorem risA_of {P S Q : List Tc} {a b : Nat} (h : Rising S) (h1 : P.length = a) (h2 : a + S.length = b) : RisA (P ++ (S ++ Q)) a b := fun i j hi hij hj => by
  rw [app3_getD _ _ _ _ (by omega) (by omega), app3_getD _ _ _ _ (by omega) (by omega)]
  exact (rising_iff S).1 h _ _ (by omega) (by omega)
theorem rising_of {P S Q : List Tc} {a b : Nat} (h : RisA (P ++ (S ++ Q)) a b) (h1 : P.length = a) (h2 : a + S.length = b) : Rising S := by
  refine (rising_iff S).2 fun i j hij hj => ?_
  have := h (a + i) (a + j) (by omega) (by omega) (by omega)
  rw [app3_getD _ _ _ _ (by omega) (by omega), app3_getD _ _ _ _ (by omega) (by omega)] at this
  rwa [show a + i - P.length = i by omega, show a + j - P.length = j by omega] at this
theorem two_of {D : List Tc} {a m b : Nat} (h1 : a ≤ m) (h2 : m ≤ b) (h3 : b ≤ D.length) (r1 : RisA D a m) (r2 : RisA D m b) : Two D a m b := by
  obtain ⟨P, R, rfl, hP⟩ := split_at D a (by omega)
  rw [List.length_append] at h3
  obtain ⟨U, R, rfl, hU⟩ := split_at R (m - a) (by omega)
  rw [List.length_append] at h3
  obtain ⟨V, Q, rfl, hV⟩ := split_at R (b - m) (by omega)
  refine ⟨P, U, V, Q, rfl, hP, by omega, by omega, rising_of r1 hP (by omega), ?_⟩
  rw [← List.append_assoc P U] at r2
  exact rising_of r2 (by rw [List.length_append]; omega) (by omega)
/-- What a sort of a part leaves, place by place. -/
theorem Sorts.at {D N : List Tc} {a b : Nat} (h : Sorts D N a b) : N.length = D.length ∧ Same D N ∧ RisA N a b ∧ ∀ i, (i < a ∨ b ≤ i) → N.getD i tcZ = D.getD i tcZ := by
  have hl := h.len
  obtain ⟨P, S, S', Q, rfl, rfl, h1, h2, h3, h4, h5⟩ := h
  refine ⟨hl, Same.app (Same.refl _) (Same.app h4 (Same.refl _)), risA_of h5 h1 (by omega), fun i hi => ?_⟩
  by_cases h6 : i < P.length
  · rw [app_getD _ P (S' ++ Q), if_pos h6, app_getD _ P (S ++ Q), if_pos h6]
  · rw [app_getD _ P (S' ++ Q), if_neg h6, app_getD _ P (S ++ Q), if_neg h6, app_getD _ S', if_neg (by omega), app_getD _ S, if_neg (by omega), h3]
theorem RisA.keep {D N : List Tc} {a b c d : Nat} (h : RisA D c d) (hs : Sorts D N a b) (ho : d ≤ a ∨ b ≤ c) : RisA N c d := fun i j hi hij hj => by
  rw [hs.at.2.2.2 i (by omega), hs.at.2.2.2 j (by omega)]
  exact h i j hi hij hj
theorem RisA.less {D : List Tc} {a b c d : Nat} (h : RisA D a b) (h1 : a ≤ c) (h2 : d ≤ b) : RisA D c d := fun i j hi hij hj => h i j (by omega) hij (by omega)
/-- The first t blocks of s are sorted. -/
def BlkTo (D : List Tc) (s t : Nat) : Prop := ∀ k, k < t → RisA D (k * s) (k * s + s)
/-- Every block of s is sorted, the last one as far as the row goes. -/
def Blk (D : List Tc) (s : Nat) : Prop := ∀ k, RisA D (k * s) (min (k * s + s) D.length)
/-- The first t blocks of 2s are sorted, behind them every block of s. -/
def Half (D : List Tc) (s t : Nat) : Prop := BlkTo D (2 * s) t ∧ ∀ k, RisA D (t * (2 * s) + k * s) (min (t * (2 * s) + k * s + s) D.length)
theorem mul_le_step {k t : Nat} (s : Nat) (h : k < t) : k * s + s ≤ t * s := by
  have h1 : (k + 1) * s ≤ t * s := Nat.mul_le_mul_right s h
  rw [Nat.add_mul, Nat.one_mul] at h1
  exact h1
theorem BlkTo.zero (D : List Tc) (s : Nat) : BlkTo D s 0 := fun k h => absurd h (Nat.not_lt_zero _)
theorem BlkTo.step {D N : List Tc} {s t : Nat} (h : BlkTo D s t) (hs : Sorts D N (t * s) (t * s + s)) : BlkTo N s (t + 1) := fun k hk => by
  by_cases e : k = t
  · subst e; exact hs.at.2.2.1
  · exact (h k (by omega)).keep hs (.inl (mul_le_step s (by omega)))
theorem BlkTo.last {D N : List Tc} {s t : Nat} (h : BlkTo D s t) (hs : Sorts D N (t * s) D.length) (hl : D.length < t * s + s) : Blk N s := fun k => by
  rw [hs.at.1]
  rcases Nat.lt_trichotomy k t with h1 | h1 | h1
  · have := mul_le_step s h1
    by_cases h2 : t * s ≤ D.length
    · exact ((h k h1).keep hs (.inl this)).less (Nat.le_refl _) (Nat.min_le_left _ _)
    · obtain ⟨P, S, S', Q, e, _, l1, _⟩ := hs
      have : D.length = (P ++ (S ++ Q)).length := by rw [← e]
      rw [List.length_append] at this
      omega
  · subst h1
    exact hs.at.2.2.1.less (Nat.le_refl _) (Nat.min_le_right _ _)
  · have := mul_le_step s h1
    intro i j hi hij hj
    have : min (k * s + s) D.length ≤ D.length := Nat.min_le_right _ _
    omega
theorem Blk.half {D : List Tc} {s : Nat} (h : Blk D s) : Half D s 0 := ⟨BlkTo.zero _ _, fun k => by
  have := h k
  simpa using this⟩
theorem Half.two {D : List Tc} {s t : Nat} (h : Half D s t) (hl : t * (2 * s) + 2 * s ≤ D.length) : Two D (t * (2 * s)) (t * (2 * s) + s) (t * (2 * s) + 2 * s) := by
  have h0 := h.2 0
  have h1 := h.2 1
  rw [Nat.zero_mul, Nat.add_zero, Nat.min_eq_left (by omega)] at h0
  rw [Nat.one_mul, Nat.min_eq_left (by omega)] at h1
  exact two_of (by omega) (by omega) (by omega) h0 (h1.less (Nat.le_refl _) (by omega))
theorem Half.step {D N : List Tc} {s t : Nat} (h : Half D s t) (hs : Sorts D N (t * (2 * s)) (t * (2 * s) + 2 * s)) : Half N s (t + 1) := by
  refine ⟨h.1.step hs, fun k => ?_⟩
  have e : (t + 1) * (2 * s) + k * s = t * (2 * s) + (k + 2) * s := by rw [Nat.add_mul, Nat.one_mul, Nat.add_mul]; omega
  rw [e, hs.at.1]
  exact (h.2 (k + 2)).keep hs (.inr (by rw [Nat.add_mul]; omega))
theorem Half.two2 {D : List Tc} {s t : Nat} (h : Half D s t) (h1 : t * (2 * s) + s < D.length) (h2 : D.length < t * (2 * s) + 2 * s) : Two D (t * (2 * s)) (t * (2 * s) + s) D.length := by
  have h0 := h.2 0
  have h3 := h.2 1
  rw [Nat.zero_mul, Nat.add_zero, Nat.min_eq_left (by omega)] at h0
  rw [Nat.one_mul, Nat.min_eq_right (by omega)] at h3
  exact two_of (by omega) (by omega) (by omega) h0 h3
theorem Half.last {D N : List Tc} {s t : Nat} (h : Half D s t) (hs : Sorts D N (t * (2 * s)) D.length) (hl : D.length < t * (2 * s) + 2 * s) : Blk N (2 * s) := h.1.last hs hl
theorem Half.done {D : List Tc} {s t : Nat} (h : Half D s t) (hl : D.length ≤ t * (2 * s) + s) (hl2 : D.length < t * (2 * s) + 2 * s) : Blk D (2 * s) := fun k => by
  rcases Nat.lt_trichotomy k t with h1 | h1 | h1
  · exact (h.1 k h1).less (Nat.le_refl _) (Nat.min_le_left _ _)
  · subst h1
    have h0 := h.2 0
    rw [Nat.zero_mul, Nat.add_zero, Nat.min_eq_right hl] at h0
    exact h0.less (Nat.le_refl _) (Nat.min_le_right _ _)
  · have := mul_le_step (2 * s) h1
    intro i j hi hij hj
    have : min (k * (2 * s) + 2 * s) D.length ≤ D.length := Nat.min_le_right _ _
    omega
theorem Blk.all {D : List Tc} {s : Nat} (h : Blk D s) (hl : D.length ≤ s) : Rising D := by
  have h0 := h 0
  rw [Nat.zero_mul, Nat.zero_add, Nat.min_eq_right hl] at h0
  exact (rising_iff D).2 fun i j hij hj => h0 i j (Nat.zero_le _) hij hj
end Go.Proofs.Ytofenjloieagaaa
namespace Go.Proofs.Ytofenjloieagaaa
open Go.RowKit
set_option linter.unusedSimpArgs false
set_option linter.unusedVariables false
set_option maxRecDepth 100000

theorem blk_step {D N : List Tc} {t a b : Nat} (h : BlkTo D 20 t) (hs : Sorts D N a b) (ha : a = t * 20) (h1 : a + 20 ≤ b) (h2 : b ≤ a + 20) : BlkTo N 20 (t + 1) ∧ b = (t + 1) * 20 := by
  obtain rfl : b = a + 20 := by omega
  subst ha
  exact ⟨h.step hs, by omega⟩
theorem blk_last {D N : List Tc} {t a L : Nat} (h : BlkTo D 20 t) (hs : Sorts D N a L) (ha : a = t * 20) (hL : D.length = L) (h1 : L < a + 20) : Blk N 20 := by
  subst ha; subst hL
  exact h.last hs h1
theorem half_two {D : List Tc} {s t a b : Nat} (h : Half D s t) (ha : a = t * (2 * s)) (h1 : a + 2 * s ≤ b) (h2 : b ≤ a + 2 * s) (hb : b ≤ D.length) : Two D a (a + s) b := by
  obtain rfl : b = a + 2 * s := by omega
  subst ha
  exact h.two hb
theorem half_step {D N : List Tc} {s t a b : Nat} (h : Half D s t) (hs : Sorts D N a b) (ha : a = t * (2 * s)) (h1 : a + 2 * s ≤ b) (h2 : b ≤ a + 2 * s) : Half N s (t + 1) ∧ b = (t + 1) * (2 * s) := by
  obtain rfl : b = a + 2 * s := by omega
  subst ha
  exact ⟨h.step hs, by rw [Nat.add_mul, Nat.one_mul]⟩
theorem half_two2 {D : List Tc} {s t a L : Nat} (h : Half D s t) (ha : a = t * (2 * s)) (hL : D.length = L) (h1 : a + s < L) (h2 : L < a + 2 * s) : Two D a (a + s) L := by
  subst ha; subst hL
  exact h.two2 h1 h2
theorem half_last {D N : List Tc} {s t a L : Nat} (h : Half D s t) (hs : Sorts D N a L) (ha : a = t * (2 * s)) (hL : D.length = L) (h1 : L < a + 2 * s) : Blk N (2 * s) := by
  subst ha; subst hL
  exact h.last hs h1
theorem half_done {D : List Tc} {s t a L : Nat} (h : Half D s t) (ha : a = t * (2 * s)) (hL : D.length = L) (h1 : L ≤ a + s) (h2 : L < a + 2 * s) : Blk D (2 * s) := by
  subst ha; subst hL
  exact h.done h1 h2
/-- What the stable sort leaves. -/
def Stable (D N : List Tc) : Prop := Same D N ∧ N.length = D.length
theorem Stable.refl (D : List Tc) : Stable D D := ⟨Same.refl _, rfl⟩
theorem Stable.sorts {D M N : List Tc} {a b : Nat} (h : Stable D M) (hs : Sorts M N a b) : Stable D N := ⟨h.1.trans hs.at.2.1, hs.at.1.trans h.2⟩

set_option maxHeartbeats 8000000 in
theorem stable_any (w : World) (g c L : Nat) (X : List Value) (D : List Tc) (h : SW w g X D) (hL : D.length = L) (hLc : L ≤ c) (hL1 : L ≤ 1000000) :
    Calls Try.prog 53 #[.slice (some ⟨g, 0, none⟩) L c, .int .i64 L, lessV] w fun e w' => e = .returned (.tuple #[]) ∧ ∃ N, Stable D N ∧ Rising N ∧ SW w' g X N ∧ Save (· = g) w w' := by
  have Hs0 := Lib.hid h
  have HDL := Lib.hid hL
  have hgl := h.lt
  have HIns := Lib.hid (fun (w1 : World) (D1 : List Tc) (h1 : SW w1 g X D1) (h2 : D1.length = L) (a b : Nat) (hab : a ≤ b) (hb : b ≤ L) => insertion_any w1 g c L X D1 h1 h2 hLc hL1 a b hab hb)
  have HSym := Lib.hid (fun (w1 : World) (D1 : List Tc) (a m b : Nat) (h1 : SW w1 g X D1) (h2 : D1.length = L) (ham : a < m) (hmb : m < b) (h3 : Two D1 a m b) => symmerge_any g c L X hLc hL1 b a m b (by omega) w1 D1 h1 h2 ham hmb h3)
  clear h hL
  go_enter Try.func53, Try.ntmps53
  go_wp2_with fail
  go_loopw [7, 8] (fun s7 s8 wr => ∃ (t a b : Nat) (N : List Tc), s7 = .int .i64 a ∧ s8 = .int .i64 b ∧ a ≤ L ∧ a + 20 ≤ b ∧ b ≤ a + 20 ∧ Hid (a = t * 20) ∧ Hid (BlkTo N 20 t) ∧ Hid (Stable D N) ∧ SW wr g X N ∧ Save (· = g) w wr) (fun s7 _ _ => L - (intOf s7).toNat)
  case atStart => exact ⟨0, 0, 20, D, rfl, rfl, by omega, by omega, by omega, Lib.hid (by omega), Lib.hid (BlkTo.zero _ _), Lib.hid (Stable.refl _), Hs0.out, Save.refl _ _⟩
  case round =>
    rename World => wr
    obtain ⟨t, a, b, N, rfl, rfl, haL, hb1, hb2, HA, HBk, HSt, hs, hsv⟩ := hrel
    have HN := Lib.hid hs
    have HV := Lib.hid hsv
    clear hs hsv Hs0
    by_cases hbL : b ≤ L
    · have HC := Lib.hid (HIns.out wr N HN.out (HSt.out.2.trans HDL.out) a b (by omega) hbL)
      clear HIns HSym
      go_wp2_with fail
      refine HC.out.mono ?_
      rintro e w1 ⟨rfl, N1, hso, hs, hsv⟩
      obtain ⟨k1, k2⟩ := blk_step HBk.out hso HA.out hb1 hb2
      have HBk1 := Lib.hid k1
      have HA1 := Lib.hid k2
      have HSt1 := Lib.hid (HSt.out.sorts hso)
      have HN1 := Lib.hid hs
      have HV1 := Lib.hid (HV.out.trans hsv)
      clear hs hsv hso k1 k2 HC HN HV HBk HA HSt
      go_wp2_with fail
      exact ⟨⟨t + 1, b, b + 20, N1, rfl, by go_num, hbL, by omega, by omega, HA1, HBk1, HSt1, HN1.out, HV1.out⟩, by simp [intOf]; omega⟩
    · have HC := Lib.hid (HIns.out wr N HN.out (HSt.out.2.trans HDL.out) a L haL (Nat.le_refl _))
      clear HIns
      go_wp2_with fail
      refine HC.out.mono ?_
      rintro e w1 ⟨rfl, N1, hso, hs, hsv⟩
      have HBk1 := Lib.hid (blk_last HBk.out hso HA.out (HSt.out.2.trans HDL.out) (by omega))
      have HSt1 := Lib.hid (HSt.out.sorts hso)
      have HN1 := Lib.hid hs
      have HV1 := Lib.hid (HV.out.trans hsv)
      clear hs hsv hso HC HN HV HBk HA HSt
      go_wp2_with fail
      go_loopw [6, 7, 8, 9] (fun s6 s7 s8 s9 wr => ∃ (s : Nat) (N : List Tc), s6 = .int .i64 s ∧ 20 ≤ s ∧ s ≤ 2000000 ∧ Hid (Blk N s) ∧ Hid (Stable D N) ∧ SW wr g X N ∧ Save (· = g) w wr) (fun s6 _ _ _ _ => L - (intOf s6).toNat)
      case atStart => exact ⟨20, N1, rfl, by omega, by omega, HBk1, HSt1, HN1.out, HV1.out⟩
      case round =>
        rename World => wq
        clear HBk1 HSt1 HN1 HV1
        obtain ⟨s, N, rfl, hs1, hs2, HBk, HSt, hs, hsv⟩ := hrel
        have HN := Lib.hid hs
        have HV := Lib.hid hsv
        clear hs hsv
        by_cases hsL : s < L
        · go_wp2_with fail
          go_loopw [7, 8] (fun s7 s8 wr => ∃ (t a b : Nat) (N : List Tc), s7 = .int .i64 a ∧ s8 = .int .i64 b ∧ a ≤ L ∧ a + 2 * s ≤ b ∧ b ≤ a + 2 * s ∧ Hid (a = t * (2 * s)) ∧ Hid (Half N s t) ∧ Hid (Stable D N) ∧ SW wr g X N ∧ Save (· = g) w wr) (fun s7 _ _ => L - (intOf s7).toNat)
          case atStart => exact ⟨0, 0, 2 * s, N, rfl, by go_num, by omega, by omega, by omega, Lib.hid (by omega), Lib.hid HBk.out.half, HSt, HN.out, HV.out⟩
          case round =>
            rename World => wi
            clear HBk HSt HN HV
            obtain ⟨t, a, b, N, rfl, rfl, haL, hb1, hb2, HA, HBk, HSt, hs, hsv⟩ := hrel
            have HN := Lib.hid hs
            have HV := Lib.hid hsv
            clear hs hsv
            by_cases hbL : b ≤ L
            · have HC := Lib.hid (HSym.out wi N a (a + s) b HN.out (HSt.out.2.trans HDL.out) (by omega) (by omega) (half_two HBk.out HA.out hb1 hb2 (by rw [HSt.out.2, HDL.out]; exact hbL)))
              rw [show ((a + s : Nat) : Int) = (a : Int) + s by omega] at HC
              clear HSym
              go_wp2_with fail
              refine HC.out.mono ?_
              rintro e w2 ⟨rfl, N2, hso, hs, hsv⟩
              obtain ⟨k1, k2⟩ := half_step HBk.out hso HA.out hb1 hb2
              have HBk1 := Lib.hid k1
              have HA1 := Lib.hid k2
              have HSt1 := Lib.hid (HSt.out.sorts hso)
              have HN1 := Lib.hid hs
              have HV1 := Lib.hid (HV.out.trans hsv)
              clear hs hsv hso k1 k2 HC HN HV HBk HA HSt
              go_wp2_with fail
              exact ⟨⟨t + 1, b, b + 2 * s, N2, rfl, by go_num, hbL, by omega, by omega, HA1, HBk1, HSt1, HN1.out, HV1.out⟩, by simp [intOf]; omega⟩
            · by_cases hm : a + s < L
              · have HC := Lib.hid (HSym.out wi N a (a + s) L HN.out (HSt.out.2.trans HDL.out) (by omega) hm (half_two2 HBk.out HA.out (HSt.out.2.trans HDL.out) hm (by omega)))
                rw [show ((a + s : Nat) : Int) = (a : Int) + s by omega] at HC
                clear HSym
                go_wp2_with fail
                refine HC.out.mono ?_
                rintro e w2 ⟨rfl, N2, hso, hs, hsv⟩
                have HBk1 := Lib.hid (half_last HBk.out hso HA.out (HSt.out.2.trans HDL.out) (by omega))
                have HSt1 := Lib.hid (HSt.out.sorts hso)
                have HN1 := Lib.hid hs
                have HV1 := Lib.hid (HV.out.trans hsv)
                clear hs hsv hso HC HN HV HBk HA HSt
                go_wp2_with fail
                exact ⟨⟨2 * s, N2, by go_num, by omega, by omega, HBk1, HSt1, HN1.out, HV1.out⟩, by simp [intOf]; omega⟩
              · have HBk1 := Lib.hid (half_done HBk.out HA.out (HSt.out.2.trans HDL.out) (by omega) (by omega))
                clear HBk HA HSym
                go_wp2_with fail
                exact ⟨⟨2 * s, N, by go_num, by omega, by omega, HBk1, HSt, HN.out, HV.out⟩, by simp [intOf]; omega⟩
        · have HR := Lib.hid (HBk.out.all (by rw [HSt.out.2, HDL.out]; omega))
          clear HBk HSym
          go_wp2_with fail
          go_end0
          exact ⟨rfl, N, HSt.out, HR.out, HN.out, HV.out⟩
end Go.Proofs.Ytofenjloieagaaa
namespace Go.Proofs.Ytofenjloieagaaa
open Go.RowKit
set_option linter.unusedSimpArgs false
set_option linter.unusedVariables false
set_option maxRecDepth 100000

/-- A sorted list is known by what stands at each time. -/
theorem rising_unique : ∀ (A B : List Tc), Rising A → Rising B → Same A B → A = B := by
  intro A
  induction A with
  | nil =>
    intro B _ _ h
    cases B with
    | nil => rfl
    | cons y B => have := h.symm.mem (x := y) (List.mem_cons_self ..); cases this
  | cons x A ih =>
    intro B hA hB h
    cases B with
    | nil => have := h.mem (x := x) (List.mem_cons_self ..); cases this
    | cons y B =>
      have h1 := rising_first hA y (h.symm.mem (List.mem_cons_self ..))
      have h2 := rising_first hB x (h.mem (List.mem_cons_self ..))
      have ht : y.time = x.time := by omega
      have hx := h x.time
      simp only [List.filter_cons, ht, beq_self_eq_true, if_true] at hx
      injection hx with e1 e2
      subst e1
      rw [ih B (List.pairwise_cons.1 hA).2 (List.pairwise_cons.1 hB).2 (fun t => by
        have := h t
        simp only [List.filter_cons] at this
        split at this
        · injection this
        · exact this)]
/-- Two lists put together by their times, a's ahead. -/
def mergeL (A B : List Tc) : List Tc :=
  match A, B with
  | [], B => B
  | x :: A, [] => x :: A
  | x :: A, y :: B => if x.time ≤ y.time then x :: mergeL A (y :: B) else y :: mergeL (x :: A) B
termination_by A.length + B.length
theorem mergeL_nil (B : List Tc) : mergeL [] B = B := by unfold mergeL; rfl
theorem mergeL_none (A : List Tc) : mergeL A [] = A := by cases A <;> (unfold mergeL; rfl)
theorem mergeL_cons (x y : Tc) (A B : List Tc) : mergeL (x :: A) (y :: B) = if x.time ≤ y.time then x :: mergeL A (y :: B) else y :: mergeL (x :: A) B := by rw [mergeL]
theorem mergeL_ind {P : List Tc → List Tc → Prop} (h0 : ∀ B, P [] B) (h1 : ∀ A, P A []) (h2 : ∀ x y A B, x.time ≤ y.time → P A (y :: B) → P (x :: A) (y :: B)) (h3 : ∀ x y A B, ¬ x.time ≤ y.time → P (x :: A) B → P (x :: A) (y :: B)) : ∀ (n : Nat) (A B : List Tc), A.length + B.length ≤ n → P A B := by
  intro n
  induction n with
  | zero =>
    intro A B h
    obtain rfl : A = [] := List.eq_nil_of_length_eq_zero (by omega)
    exact h0 B
  | succ n ih =>
    intro A B h
    cases A with
    | nil => exact h0 B
    | cons x A =>
      cases B with
      | nil => exact h1 _
      | cons y B =>
        simp only [List.length_cons] at h
        by_cases e : x.time ≤ y.time
        · exact h2 x y A B e (ih _ _ (by simp only [List.length_cons]; omega))
        · exact h3 x y A B e (ih _ _ (by simp only [List.length_cons]; omega))
theorem mergeL_len (A B : List Tc) : (mergeL A B).length = A.length + B.length := by
  refine mergeL_ind (P := fun A B => (mergeL A B).length = A.length + B.length) (fun B => by simp [mergeL_nil]) (fun A => by simp [mergeL_none]) (fun x y A B e h => ?_) (fun x y A B e h => ?_) _ A B (Nat.le_refl _)
  · rw [mergeL_cons, if_pos e, List.length_cons, h]; simp only [List.length_cons]; omega
  · rw [mergeL_cons, if_neg e, List.length_cons, h]; simp only [List.length_cons]; omega
theorem mergeL_mem (A B : List Tc) : ∀ z, z ∈ mergeL A B ↔ z ∈ A ∨ z ∈ B := by
  refine mergeL_ind (P := fun A B => ∀ z, z ∈ mergeL A B ↔ z ∈ A ∨ z ∈ B) (fun B z => by simp [mergeL_nil]) (fun A z => by simp [mergeL_none]) (fun x y A B e h z => ?_) (fun x y A B e h z => ?_) _ A B (Nat.le_refl _)
  · rw [mergeL_cons, if_pos e, List.mem_cons, h, List.mem_cons, List.mem_cons, or_assoc]
  · rw [mergeL_cons, if_neg e, List.mem_cons, h, List.mem_cons, List.mem_cons]
    constructor
    · rintro (h | (h | h) | h)
      · exact .inr (.inl h)
      · exact .inl (.inl h)
      · exact .inl (.inr h)
      · exact .inr (.inr h)
    · rintro ((h | h) | h | h)
      · exact .inr (.inl (.inl h))
      · exact .inr (.inl (.inr h))
      · exact .inl h
      · exact .inr (.inr h)
theorem mergeL_rising (A B : List Tc) : Rising A → Rising B → Rising (mergeL A B) := by
  refine mergeL_ind (P := fun A B => Rising A → Rising B → Rising (mergeL A B)) (fun B _ h => by rw [mergeL_nil]; exact h) (fun A h _ => by rw [mergeL_none]; exact h) (fun x y A B e h hA hB => ?_) (fun x y A B e h hA hB => ?_) _ A B (Nat.le_refl _)
  · rw [mergeL_cons, if_pos e]
    refine List.pairwise_cons.2 ⟨fun z hz => ?_, h (List.pairwise_cons.1 hA).2 hB⟩
    rcases (mergeL_mem _ _ z).1 hz with h1 | h1
    · exact (List.pairwise_cons.1 hA).1 z h1
    · have := rising_first hB z h1; omega
  · rw [mergeL_cons, if_neg e]
    refine List.pairwise_cons.2 ⟨fun z hz => ?_, h hA (List.pairwise_cons.1 hB).2⟩
    rcases (mergeL_mem _ _ z).1 hz with h1 | h1
    · have := rising_first hA z h1; omega
    · exact (List.pairwise_cons.1 hB).1 z h1
theorem mergeL_same (A B : List Tc) : Rising A → Same (A ++ B) (mergeL A B) := by
  refine mergeL_ind (P := fun A B => Rising A → Same (A ++ B) (mergeL A B)) (fun B _ => by rw [mergeL_nil]; exact Same.refl _) (fun A _ => by rw [mergeL_none, List.append_nil]; exact Same.refl _) (fun x y A B e h hA => ?_) (fun x y A B e h hA => ?_) _ A B (Nat.le_refl _)
  · rw [mergeL_cons, if_pos e]
    exact Same.app (Same.refl [x]) (h (List.pairwise_cons.1 hA).2)
  · rw [mergeL_cons, if_neg e]
    have h1 : Same ((x :: A) ++ [y]) ([y] ++ (x :: A)) := Same.exch (fun u hu v hv => by
      obtain rfl := List.mem_singleton.1 hu
      have := rising_first hA v hv
      omega)
    have h2 := (Same.app h1 (Same.refl B)).trans (by rw [List.append_assoc]; exact Same.app (Same.refl [y]) (h hA))
    simpa using h2
/-- What a stable sort of the two makes of them. -/
theorem merge_is {A B N : List Tc} (hA : Rising A) (hB : Rising B) (h : Stable (A ++ B) N) (hN : Rising N) : N = mergeL A B :=
  rising_unique _ _ hN (mergeL_rising A B hA hB) (h.1.symm.trans (mergeL_same A B hA))

theorem ins0 (A : Option Addr) (c : Nat) (w : World) :
    Calls Try.prog 65 #[.slice A 0 c, .int .i64 0, .int .i64 0, lessV] w fun e w' => e = .returned (.tuple #[]) ∧ w = w' := by
  go_enter Try.func65, Try.ntmps65
  go_wp2_with fail
  go_loopw [8, 9] (fun s8 _ wr => s8 = .int .i64 1 ∧ w = wr) (fun _ _ _ => 0)
  case atStart => exact ⟨rfl, rfl⟩
  case round =>
    obtain ⟨rfl, rfl⟩ := hrel
    go_wp2_with fail
    go_end0
    exact ⟨rfl, rfl⟩
theorem stable0 (A : Option Addr) (c : Nat) (w : World) :
    Calls Try.prog 53 #[.slice A 0 c, .int .i64 0, lessV] w fun e w' => e = .returned (.tuple #[]) ∧ w = w' := by
  have HI := Lib.hid (ins0 A c w)
  go_enter Try.func53, Try.ntmps53
  go_wp2_with fail
  go_loopw [7, 8] (fun s7 s8 wr => s7 = .int .i64 0 ∧ s8 = .int .i64 20 ∧ w = wr) (fun _ _ _ => 0)
  case atStart => exact ⟨rfl, rfl, rfl⟩
  case round =>
    obtain ⟨rfl, rfl, rfl⟩ := hrel
    go_wp2_with fail
    refine HI.out.mono ?_
    rintro e w1 ⟨rfl, rfl⟩
    clear HI
    go_wp2_with fail
    go_loopw [6, 7, 8, 9] (fun s6 _ _ _ wr => s6 = .int .i64 20 ∧ w = wr) (fun _ _ _ _ _ => 0)
    case atStart => exact ⟨rfl, rfl⟩
    case round =>
      obtain ⟨rfl, rfl⟩ := hrel
      go_wp2_with fail
      go_end0
      exact ⟨rfl, rfl⟩
theorem sortstable_any (w : World) (base : Nat) (v : Value) (D : List Tc) (h : OwnT w base v D) (hb : base ≤ w.heap.size) (hL : D.length ≤ 1000000) :
    Calls Try.prog 27 #[v, lessV] w fun e w' => e = .returned (.tuple #[]) ∧ ∃ N, Stable D N ∧ Rising N ∧ OwnT w' base v N ∧ Below base w w' := by
  by_cases h0 : 0 < D.length
  · obtain ⟨g, c, X, rfl, hg, hn, hm, hs, hsw⟩ := h.sw h0
    have HC := Lib.hid (stable_any w g c D.length X D hsw rfl hn hL)
    have HO := Lib.hid (fun (w1 : World) (N : List Tc) (hN : N.length = D.length) (h1 : SW w1 g X N) => h1.own hg (by rw [hN]; exact hn) hm (by rw [← hs, List.length_append, List.length_append, rowT_len, rowT_len, hN]))
    have HB := Lib.hid (fun (w1 : World) (h1 : Save (· = g) w w1) => h1.below hb (fun k hk => by rw [hk]; exact hg))
    clear h hsw hs hm hn
    go_enter Try.func27, Try.ntmps27
    go_wp2_with fail
    refine HC.out.mono ?_
    rintro e w1 ⟨rfl, N, hst, hr, hs, hsv⟩
    have HF : Hid (Stable D N ∧ Rising N ∧ OwnT w1 base (.slice (some ⟨g, 0, none⟩) D.length c) N ∧ Below base w w1) := Lib.hid ⟨hst, hr, by have := HO.out w1 N hst.2 hs; rwa [hst.2] at this, HB.out w1 hsv⟩
    clear hst hr hs hsv HC HO HB
    go_wp2_with fail
    go_end0
    exact ⟨rfl, N, HF.out⟩
  · obtain rfl : D = [] := List.eq_nil_of_length_eq_zero (by omega)
    obtain ⟨A, c, rfl, -, -⟩ := h.shape
    have HO := Lib.hid h
    have HC := Lib.hid (stable0 A c w)
    clear h
    go_enter Try.func27, Try.ntmps27
    go_wp2_with fail
    refine HC.out.mono ?_
    rintro e w1 ⟨rfl, rfl⟩
    go_wp2_with fail
    go_end0
    exact ⟨rfl, [], Stable.refl _, List.Pairwise.nil, HO.out, Below.refl _ _⟩
end Go.Proofs.Ytofenjloieagaaa
