
/- How much is done in a frame: pure. -/
import Derived.Test.YtlghfngomiiclaaVA
namespace Go.Proofs.Ytlghfngomiiclaa
open Go.RowKit
set_option linter.unusedSimpArgs false
set_option linter.unusedVariables false
set_option maxRecDepth 100000

/-- At how many places below n the value is d. -/
def cnt (f : Nat → Int) (d : Int) : Nat → Int
  | 0 => 0
  | n + 1 => cnt f d n + if f n = d then 1 else 0
theorem cnt_in (f : Nat → Int) (d : Int) (n : Nat) : 0 ≤ cnt f d n ∧ cnt f d n ≤ n := by
  induction n with
  | zero => exact ⟨Int.le_refl _, Int.le_refl _⟩
  | succ n ih =>
    unfold cnt
    split <;> omega
theorem cnt_add (f : Nat → Int) (d : Int) (a b : Nat) : cnt f d (a + b) = cnt f d a + cnt (fun i => f (a + i)) d b := by
  induction b with
  | zero => show cnt f d a = cnt f d a + 0; omega
  | succ b ih =>
    show cnt f d (a + b) + (if f (a + b) = d then 1 else 0) = cnt f d a + (cnt (fun i => f (a + i)) d b + (if f (a + b) = d then 1 else 0))
    rw [ih]
    omega
theorem cnt_same (f g : Nat → Int) (d : Int) (n : Nat) (h : ∀ i, i < n → f i = g i) : cnt f d n = cnt g d n := by
  induction n with
  | zero => rfl
  | succ n ih =>
    show cnt f d n + (if f n = d then 1 else 0) = cnt g d n + (if g n = d then 1 else 0)
    rw [ih fun i hi => h i (by omega), h n (by omega)]
/-- Outside of the picture, from column a on. -/
theorem cnt_bor (f : Nat → Int) (a n : Nat) (h : ∀ i, i < n → f i = if (a + i) % 8 = 0 then 3 else 0) : cnt f 1 n = 0 ∧ cnt f 2 n = 0 ∧ cnt f 3 n = ((a + n + 7) / 8 : Nat) - ((a + 7) / 8 : Nat) := by
  induction n with
  | zero => exact ⟨rfl, rfl, by show (0 : Int) = _; omega⟩
  | succ n ih =>
    obtain ⟨h1, h2, h3⟩ := ih fun i hi => h i (by omega)
    have hn := h n (by omega)
    show cnt f 1 n + (if f n = 1 then 1 else 0) = 0 ∧ cnt f 2 n + (if f n = 2 then 1 else 0) = 0 ∧ cnt f 3 n + (if f n = 3 then 1 else 0) = _
    rw [h1, h2, h3, hn]
    by_cases hc : (a + n) % 8 = 0
    · rw [if_pos hc]
      refine ⟨by decide, by decide, ?_⟩
      rw [if_pos rfl]
      omega
    · rw [if_neg hc]
      refine ⟨by decide, by decide, ?_⟩
      rw [if_neg (by decide)]
      omega
/-- In the picture. -/
theorem cnt_pic (f : Nat → Int) (n : Nat) (h : ∀ i, i < n → f i = if i % 8 = 0 then 1 else if i % 8 = 1 then 2 else if i % 8 = 2 then 1 else if i % 8 = 3 then 2 else 0) :
    cnt f 1 n = ((n + 7) / 8 + (n + 5) / 8 : Nat) ∧ cnt f 2 n = ((n + 6) / 8 + (n + 4) / 8 : Nat) ∧ cnt f 3 n = 0 := by
  induction n with
  | zero => exact ⟨rfl, rfl, rfl⟩
  | succ n ih =>
    obtain ⟨h1, h2, h3⟩ := ih fun i hi => h i (by omega)
    have hn := h n (by omega)
    show cnt f 1 n + (if f n = 1 then 1 else 0) = _ ∧ cnt f 2 n + (if f n = 2 then 1 else 0) = _ ∧ cnt f 3 n + (if f n = 3 then 1 else 0) = 0
    rw [h1, h2, h3]
    rcases (show n % 8 = 0 ∨ n % 8 = 1 ∨ n % 8 = 2 ∨ n % 8 = 3 ∨ 4 ≤ n % 8 by omega) with k | k | k | k | k
    · rw [if_pos k] at hn
      rw [hn, if_pos rfl, if_neg (by decide), if_neg (by decide)]
      omega
    · rw [if_neg (by omega), if_pos k] at hn
      rw [hn, if_pos rfl, if_neg (by decide), if_neg (by decide)]
      omega
    · rw [if_neg (by omega), if_neg (by omega), if_pos k] at hn
      rw [hn, if_pos rfl, if_neg (by decide), if_neg (by decide)]
      omega
    · rw [if_neg (by omega), if_neg (by omega), if_neg (by omega), if_pos k] at hn
      rw [hn, if_pos rfl, if_neg (by decide), if_neg (by decide)]
      omega
    · rw [if_neg (by omega), if_neg (by omega), if_neg (by omega), if_neg (by omega)] at hn
      rw [hn, if_neg (by decide), if_neg (by decide), if_neg (by decide)]
      omega
/-- Lines one behind the other: A of one of the picture's, B of another. -/
theorem cnt_lines (f : Nat → Int) (d : Int) (C T R : Nat) (A B : Int) (m : Nat) (h : ∀ l, l < m → cnt (fun i => f (l * C + i)) d C = if T ≤ l ∧ l < T + R then A else B) :
    cnt f d (m * C) = B * m + (A - B) * ((if m ≤ T then 0 else if m ≤ T + R then m - T else R : Nat) : Int) := by
  induction m with
  | zero =>
    rw [Nat.zero_mul]
    show (0 : Int) = _
    simp
  | succ m ih =>
    have e := ih fun l hl => h l (by omega)
    rw [Nat.succ_mul, cnt_add, e, h m (by omega)]
    clear e ih h
    by_cases h1 : m + 1 ≤ T
    · rw [if_pos h1, if_pos (show m ≤ T by omega), if_neg (show ¬ (T ≤ m ∧ m < T + R) by omega)]
      rw [show ((m + 1 : Nat) : Int) = (m : Int) + 1 by omega, Int.mul_add]
      omega
    · rw [if_neg h1]
      by_cases h2 : m + 1 ≤ T + R
      · rw [if_pos h2, if_pos (show T ≤ m ∧ m < T + R by omega)]
        have e2 : (if m ≤ T then 0 else if m ≤ T + R then m - T else R : Nat) = m - T := by
          by_cases h3 : m ≤ T
          · rw [if_pos h3]; omega
          · rw [if_neg h3, if_pos (by omega)]
        rw [e2, show ((m + 1 : Nat) : Int) = (m : Int) + 1 by omega, Int.mul_add, show ((m + 1 - T : Nat) : Int) = ((m - T : Nat) : Int) + 1 by omega, Int.mul_add]
        omega
      · rw [if_neg h2, if_neg (show ¬ (T ≤ m ∧ m < T + R) by omega)]
        have e2 : (if m ≤ T then 0 else if m ≤ T + R then m - T else R : Nat) = R := by
          by_cases h3 : m ≤ T
          · rw [if_pos h3]; omega
          · rw [if_neg h3]
            by_cases h4 : m ≤ T + R
            · rw [if_pos h4]; omega
            · rw [if_neg h4]
        rw [e2, show ((m + 1 : Nat) : Int) = (m : Int) + 1 by omega, Int.mul_add]
        omega

/-- What is done at a T-state of a frame. -/
noncomputable def doF (s : Scr) (k : Nat) : Int := (beamB s (k : Int)).1
theorem bor_do (l c : Int) : (borB l c).1 = if c % 8 = 0 then 3 else 0 := by unfold borB; split <;> rfl
theorem pic_do (y c : Int) : (picB y c).1 = if c % 8 = 0 then 1 else if c % 8 = 1 then 2 else if c % 8 = 2 then 1 else if c % 8 = 3 then 2 else 0 := by
  unfold picB
  repeat' split
  all_goals rfl
theorem count_line {s : Scr} (hm : s.May) (l C : Nat) (hC : s.columns = C) (hl : (l : Int) < s.lines) :
    (cnt (fun i => doF s (l * C + i)) 1 C = if s.top.toNat ≤ l ∧ l < s.top.toNat + s.rows.toNat then s.wide else 0) ∧
    (cnt (fun i => doF s (l * C + i)) 2 C = if s.top.toNat ≤ l ∧ l < s.top.toNat + s.rows.toNat then s.wide else 0) ∧
    (cnt (fun i => doF s (l * C + i)) 3 C = if s.top.toNat ≤ l ∧ l < s.top.toNat + s.rows.toNat then (s.columns + 7) / 8 - s.wide / 2 else (s.columns + 7) / 8) := by
  obtain ⟨⟨l0, l1⟩, ⟨b0, b1⟩, _, ⟨r0, r1, _⟩, ⟨t0, t1⟩, ⟨w0, w1, w2⟩, ⟨f0, f1⟩⟩ := hm.bnd
  have hd : ∀ i, i < C → doF s (l * C + i) = (spotB s l i).1 := fun i hi => by
    unfold doF
    rw [show ((l * C + i : Nat) : Int) = (l : Int) * s.columns + (i : Int) by rw [hC, Int.natCast_add, Int.natCast_mul]]
    rw [(line_col hm l i (by omega) hl (by omega) (by omega)).2]
  by_cases hp : s.top.toNat ≤ l ∧ l < s.top.toNat + s.rows.toNat
  · simp only [if_pos hp]
    obtain ⟨a, ha⟩ : ∃ a : Nat, s.left = a := ⟨s.left.toNat, by omega⟩
    obtain ⟨n, hn⟩ : ∃ n : Nat, 4 * s.wide = n := ⟨(4 * s.wide).toNat, by omega⟩
    obtain ⟨r, hr⟩ : ∃ r : Nat, C = a + (n + r) := ⟨C - a - n, by omega⟩
    have k1 := cnt_bor (fun i => doF s (l * C + i)) 0 a fun i hi => by
      rw [hd i (by omega)]
      unfold spotB
      rw [if_neg (fun hi2 : InP s l i => by have := hi2.2; omega), bor_do]
      by_cases q : i % 8 = 0
      · rw [if_pos (by omega), if_pos (by omega)]
      · rw [if_neg (by omega), if_neg (by omega)]
    have k2 := cnt_pic (fun i => doF s (l * C + (a + i))) n fun i hi => by
      rw [hd (a + i) (by omega)]
      unfold spotB
      rw [if_pos (show InP s l ((a + i : Nat) : Int) from ⟨⟨by omega, by omega⟩, by omega, by omega⟩), pic_do]
      have e : ((a + i : Nat) : Int) - s.left = (i : Int) := by omega
      rw [e]
      repeat' split
      all_goals first | rfl | omega
    have k3 := cnt_bor (fun i => doF s (l * C + (a + (n + i)))) (a + n) r fun i hi => by
      rw [hd (a + (n + i)) (by omega)]
      unfold spotB
      rw [if_neg (fun hi2 : InP s l ((a + (n + i) : Nat) : Int) => by have := hi2.2; omega), bor_do]
      by_cases q : (a + n + i) % 8 = 0
      · rw [if_pos (by omega), if_pos (by omega)]
      · rw [if_neg (by omega), if_neg (by omega)]
    have split3 : ∀ d, cnt (fun i => doF s (l * C + i)) d C = cnt (fun i => doF s (l * C + i)) d a + (cnt (fun i => doF s (l * C + (a + i))) d n + cnt (fun i => doF s (l * C + (a + (n + i)))) d r) := fun d => by
      have e1 := cnt_add (fun i => doF s (l * C + i)) d a (n + r)
      have e2 := cnt_add (fun i => doF s (l * C + (a + i))) d n r
      rw [← hr] at e1
      rw [e1, e2]
    rw [split3, split3, split3, k1.1, k1.2.1, k1.2.2, k2.1, k2.2.1, k2.2.2, k3.1, k3.2.1, k3.2.2]
    omega
  · simp only [if_neg hp]
    have k1 := cnt_bor (fun i => doF s (l * C + i)) 0 C fun i hi => by
      rw [hd i (by omega)]
      unfold spotB
      rw [if_neg (fun hi2 : InP s l i => by have := hi2.1; omega), bor_do]
      by_cases q : i % 8 = 0
      · rw [if_pos (by omega), if_pos (by omega)]
      · rw [if_neg (by omega), if_neg (by omega)]
    rw [k1.1, k1.2.1, k1.2.2]
    omega
theorem count_frame {s : Scr} (hm : s.May) : cnt (doF s) 1 s.len.toNat = s.rows * s.wide ∧ cnt (doF s) 2 s.len.toNat = s.rows * s.wide ∧ cnt (doF s) 3 s.len.toNat = borN s := by
  obtain ⟨⟨l0, l1⟩, ⟨b0, b1⟩, _, ⟨r0, r1, _⟩, ⟨t0, t1⟩, ⟨w0, w1, w2⟩, ⟨f0, f1⟩⟩ := hm.bnd
  obtain ⟨hl, _, _⟩ := Scr.len_may hm
  obtain ⟨C, hC⟩ : ∃ C : Nat, s.columns = C := ⟨s.columns.toNat, by omega⟩
  obtain ⟨M, hM⟩ : ∃ M : Nat, s.lines = M := ⟨s.lines.toNat, by omega⟩
  have hL : s.len.toNat = M * C := by rw [hl, hM, hC, ← Int.natCast_mul]; rfl
  have e1 := cnt_lines (doF s) 1 C s.top.toNat s.rows.toNat s.wide 0 M fun l hl2 => (count_line hm l C hC (by omega)).1
  have e2 := cnt_lines (doF s) 2 C s.top.toNat s.rows.toNat s.wide 0 M fun l hl2 => (count_line hm l C hC (by omega)).2.1
  have e3 := cnt_lines (doF s) 3 C s.top.toNat s.rows.toNat ((s.columns + 7) / 8 - s.wide / 2) ((s.columns + 7) / 8) M fun l hl2 => (count_line hm l C hC (by omega)).2.2
  have hR : ((if M ≤ s.top.toNat then 0 else if M ≤ s.top.toNat + s.rows.toNat then M - s.top.toNat else s.rows.toNat : Nat) : Int) = s.rows := by
    by_cases h1 : M ≤ s.top.toNat
    · rw [if_pos h1]; omega
    · rw [if_neg h1]
      by_cases h2 : M ≤ s.top.toNat + s.rows.toNat
      · rw [if_pos h2]; omega
      · rw [if_neg h2]; omega
  rw [hR] at e1 e2 e3
  rw [Int.zero_mul, Int.sub_zero, Int.zero_add] at e1 e2
  rw [hL, e1, e2, e3]
  have hw : s.rows * s.wide / 2 = s.wide / 2 * s.rows := by
    obtain ⟨h, hh⟩ : ∃ h, s.wide = 2 * h := ⟨s.wide / 2, by omega⟩
    rw [hh, show s.rows * (2 * h) = 2 * (h * s.rows) by rw [Int.mul_left_comm, Int.mul_comm s.rows h], Int.mul_ediv_cancel_left _ (by decide), Int.mul_ediv_cancel_left _ (by decide)]
  unfold borN
  rw [hw, hM, Int.mul_comm s.rows s.wide, Int.mul_comm (M : Int) ((s.columns + 7) / 8)]
  refine ⟨rfl, rfl, ?_⟩
  rw [show (s.columns + 7) / 8 - s.wide / 2 - (s.columns + 7) / 8 = -(s.wide / 2) by omega, Int.neg_mul]
  omega
end Go.Proofs.Ytlghfngomiiclaa
