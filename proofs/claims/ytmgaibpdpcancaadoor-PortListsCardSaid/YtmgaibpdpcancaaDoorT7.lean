
/- PortLists. -/
import Derived.Test.YtmgaibpdpcancaaDoorT5
namespace Go.Proofs.YtmgaibpdpcancaaDoor
open Go.RowKit
set_option linter.unusedSimpArgs false
set_option linter.unusedVariables false
set_option maxRecDepth 100000

theorem clsL_pre (f : Nat → Bool) (j : Nat) : ∀ m, j ≤ m → ∃ t, clsL f m = clsL f j ++ t
  | 0, h => ⟨[], by obtain rfl : j = 0 := by omega
                    simp⟩
  | m + 1, h => by
    rcases Nat.lt_or_ge m j with h1 | h1
    · obtain rfl : j = m + 1 := by omega
      exact ⟨[], by simp⟩
    · obtain ⟨t, ht⟩ := clsL_pre f j m h1
      cases hm : f m with
      | true => exact ⟨t ++ [((m + 1 : Nat) : Int)], by rw [clsL_yes hm, ht, List.append_assoc]⟩
      | false => exact ⟨t, by rw [clsL_no hm, ht]⟩
theorem clsL_at (f : Nat → Bool) (j m : Nat) (h : f j = true) (hj : j < m) : (clsL f j).length < (clsL f m).length ∧ (clsL f m).getD (clsL f j).length 0 = ((j + 1 : Nat) : Int) := by
  obtain ⟨t, ht⟩ := clsL_pre f (j + 1) m hj
  rw [clsL_yes h] at ht
  rw [ht]
  refine ⟨by simp, ?_⟩
  rw [List.getD_eq_getElem?_getD, List.append_assoc, List.getElem?_append_right (Nat.le_refl _), Nat.sub_self]
  rfl
/-- Is what is read among the classes below? -/
def thN (r : Int) (f : Nat → Bool) : Nat → Bool
  | 0 => r == 8
  | j + 1 => thN r f j || (f j && (r == ((j + 1 : Nat) : Int)))
theorem th_all7 (p : Int) : thN (rdI p) (hasC p) 7 = true := by
  rw [rdI_says]
  simp only [thN]
  generalize hasC p 0 = b0
  generalize hasC p 1 = b1
  generalize hasC p 2 = b2
  generalize hasC p 3 = b3
  generalize hasC p 4 = b4
  generalize hasC p 5 = b5
  generalize hasC p 6 = b6
  cases b0 <;> cases b3 <;> cases b5 <;> cases b6 <;> simp
theorem th_no {r : Int} {f : Nat → Bool} {j : Nat} (h : f j = false) : thN r f (j + 1) = thN r f j := by simp only [thN]; rw [h]; simp
theorem th_yes {r : Int} {f : Nat → Bool} {j : Nat} (h : f j = true) : thN r f (j + 1) = (thN r f j || (r == ((j + 1 : Nat) : Int))) := by simp only [thN]; rw [h]; simp
theorem wr_of (p : Int) (j : Nat) (hj : j < 7) (h5 : j ≠ 5) : wrC p j = hasC p j := by
  match j, hj, h5 with
  | 0, _, _ => rfl
  | 1, _, _ => rfl
  | 2, _, _ => rfl
  | 3, _, _ => rfl
  | 4, _, _ => rfl
  | 5, _, h => exact absurd rfl h
  | 6, _, _ => rfl
theorem wr_main (p : Int) : wrC p 5 = false := rfl

/-- How many of some numbers are 2, 4, 5; 3, 6, 7. -/
def oneN (l : List Int) : Nat := (l.filter fun x => x == 2 || x == 4 || x == 5).length
def twoN (l : List Int) : Nat := (l.filter fun x => x == 3 || x == 6 || x == 7).length
theorem take_nextI {Z : List Int} {j : Nat} (hj : j < Z.length) : Z.take (j + 1) = Z.take j ++ [Z.getD j 0] := by
  rw [List.take_succ_eq_append_getElem hj]
  simp [List.getD_eq_getElem?_getD, hj]
theorem one_next {Z : List Int} {j : Nat} (hj : j < Z.length) {x : Int} (hx : Z.getD j 0 = x) : oneN (Z.take (j + 1)) = oneN (Z.take j) + (if (x == 2 || x == 4 || x == 5) = true then 1 else 0) := by
  unfold oneN
  rw [take_nextI hj, hx, List.filter_append, List.length_append]
  split <;> simp_all
theorem two_next {Z : List Int} {j : Nat} (hj : j < Z.length) {x : Int} (hx : Z.getD j 0 = x) : twoN (Z.take (j + 1)) = twoN (Z.take j) + (if (x == 3 || x == 6 || x == 7) = true then 1 else 0) := by
  unfold twoN
  rw [take_nextI hj, hx, List.filter_append, List.length_append]
  split <;> simp_all
theorem eq_one {a b : Int} {k : Nat} (p : Int) (h1 : hasC p 1 = decide (a = 16384)) (h3 : hasC p 3 = decide (a = 49152)) (h4 : hasC p 4 = decide (a = 32768)) (h2 : hasC p 2 = decide (b = 4096)) (h5 : hasC p 5 = decide (b = 8192)) (h6 : hasC p 6 = decide (b = 12288)) :
    oneN (clsL (hasC p) 7) ≤ 1 ∧ twoN (clsL (hasC p) 7) ≤ 1 := by
  simp only [clsL, h1, h2, h3, h4, h5, h6]
  generalize hasC p 0 = b0
  unfold oneN twoN
  have ha : (decide (a = 16384) = false ∨ decide (a = 49152) = false) ∧ (decide (a = 16384) = false ∨ decide (a = 32768) = false) ∧ (decide (a = 49152) = false ∨ decide (a = 32768) = false) := by
    simp only [decide_eq_false_iff_not]; omega
  have hb : (decide (b = 4096) = false ∨ decide (b = 8192) = false) ∧ (decide (b = 4096) = false ∨ decide (b = 12288) = false) ∧ (decide (b = 8192) = false ∨ decide (b = 12288) = false) := by
    simp only [decide_eq_false_iff_not]; omega
  generalize decide (a = 16384) = a1 at *
  generalize decide (a = 49152) = a2 at *
  generalize decide (a = 32768) = a3 at *
  generalize decide (b = 4096) = c1 at *
  generalize decide (b = 8192) = c2 at *
  generalize decide (b = 12288) = c3 at *
  clear h1 h2 h3 h4 h5 h6
  revert ha hb
  revert b0 a1 a2 a3 c1 c2 c3
  decide +kernel
theorem counts_ok (p : Int) : oneN (clsL (hasC p) 7) ≤ 1 ∧ twoN (clsL (hasC p) 7) ≤ 1 :=
  eq_one (a := bits .and .u16 p 49154) (b := bits .and .u16 p 61442) (k := 0) p rfl rfl rfl rfl rfl rfl
theorem is_at (p : Int) (j : Nat) (hj : j < 7) : isI ((j + 1 : Nat) : Int) p = hasC p j := by
  unfold isI
  rw [if_neg (by omega), if_pos (by omega), show ((j + 1 : Nat) : Int).toNat - 1 = j by omega]
theorem LI.at {w : World} {B : Nat} {A : Option Addr} {l : List Int} (h : LI w B A l) (k : Nat) (hk : k < l.length) {x : Int} (hx : l.getD k 0 = x) : ∃ b o, A = some ⟨b, o, Option.none⟩ ∧ b < B ∧ w.cell? ⟨b, o + k, none⟩ = some (.int .i64 x) := by
  obtain ⟨b, o, h1, h2, h3⟩ := h.at_ (by omega)
  exact ⟨b, o, h1, h2, hx ▸ h3 k hk⟩
end Go.Proofs.YtmgaibpdpcancaaDoor
