/-  -/
import Derived.Test.YtofenjloieagaaaZT5
namespace Go.Proofs.Ytofenjloieagaaa
open Go.RowKit
set_option linter.unusedSimpArgs false
set_option linter.unusedVariables false
set_option maxRecDepth 100000

theorem b5_low : ∀ c0 c1 c2 c3 c4 e d0 d1 d2 d3 d4 e2 : Bool, bits .and .u8 (byte5 c0 c1 c2 c3 c4 e % 32) (byte5 d0 d1 d2 d3 d4 e2) = byte5 (c0 || d0) (c1 || d1) (c2 || d2) (c3 || d3) (c4 || d4) e % 32 := by decide +kernel
theorem b5_same : ∀ c0 c1 c2 c3 c4 e d0 d1 d2 d3 d4 : Bool, bits .and .u8 (byte5 c0 c1 c2 c3 c4 e) (byte5 d0 d1 d2 d3 d4 e) = byte5 (c0 || d0) (c1 || d1) (c2 || d2) (c3 || d3) (c4 || d4) e := by decide +kernel
theorem b5_160 : ∀ c0 c1 c2 c3 c4 e : Bool, bits .and .u8 (byte5 c0 c1 c2 c3 c4 e) 160 = 160 := by decide +kernel
theorem b5_64 : ∀ c0 c1 c2 c3 c4 e : Bool, (bits .and .u8 (byte5 c0 c1 c2 c3 c4 e) 64 != 0) = e := by decide +kernel
theorem b5_in : ∀ c0 c1 c2 c3 c4 e : Bool, 0 ≤ byte5 c0 c1 c2 c3 c4 e ∧ byte5 c0 c1 c2 c3 c4 e < 256 := by decide +kernel
theorem b5_zero : ∀ e : Bool, byte5 false false false false false e % 32 = 31 := by decide +kernel
theorem b5_bit : ∀ c0 c1 c2 c3 c4 e : Bool, (byte5 c0 c1 c2 c3 c4 e / 1 % 2 == 0) = c0 ∧ (byte5 c0 c1 c2 c3 c4 e / 2 % 2 == 0) = c1 ∧ (byte5 c0 c1 c2 c3 c4 e / 4 % 2 == 0) = c2 ∧ (byte5 c0 c1 c2 c3 c4 e / 8 % 2 == 0) = c3 ∧ (byte5 c0 c1 c2 c3 c4 e / 16 % 2 == 0) = c4 := by decide +kernel
theorem byteV_in (c : Nat → Bool) (e : Bool) : 0 ≤ byteV c e ∧ byteV c e < 256 := b5_in _ _ _ _ _ _
theorem byteV_low (c d : Nat → Bool) (e e2 : Bool) : bits .and .u8 (byteV c e % 32) (byteV d e2) = byteV (fun j => c j || d j) e % 32 := b5_low _ _ _ _ _ _ _ _ _ _ _ _
theorem byteV_same (c d : Nat → Bool) (e : Bool) : bits .and .u8 (byteV c e) (byteV d e) = byteV (fun j => c j || d j) e := b5_same _ _ _ _ _ _ _ _ _ _ _
theorem byteV_bit (c : Nat → Bool) (e : Bool) (k : Nat) (hk : k < 5) : (byteV c e / 2 ^ k % 2 == 0) = c k := by
  obtain ⟨h0, h1, h2, h3, h4⟩ := b5_bit (c 0) (c 1) (c 2) (c 3) (c 4) e
  have h : k = 0 ∨ k = 1 ∨ k = 2 ∨ k = 3 ∨ k = 4 := by omega
  rcases h with rfl | rfl | rfl | rfl | rfl
  · exact h0
  · exact h1
  · exact h2
  · exact h3
  · exact h4

theorem ask_row : ∀ r s : Fin 8, askB (255 - 2 ^ r.1) s.1 = decide (s.1 = r.1) := by decide +kernel
theorem ask_127 : ∀ (h : Fin 256) (r : Fin 8), askB ((h.1 : Int) % 128) r.1 = (askB (h.1 : Int) r.1 || askB 127 r.1) := by decide +kernel
theorem col_row (f : Int → Bool) (r : Nat) (hr : r < 8) (j : Nat) : ∀ n, n ≤ 8 → colB f (255 - 2 ^ r) n j = (decide (r < n) && f (5 * r + j))
  | 0, _ => by simp [colB]
  | n + 1, hn => by
    have h1 := col_row f r hr j n (by omega)
    have h2 := ask_row ⟨r, hr⟩ ⟨n, by omega⟩
    simp only at h2
    simp only [colB]
    rw [h1, h2]
    by_cases e : n = r
    · subst e; simp
    · have : decide (r < n + 1) = decide (r < n) := by
        by_cases h : r < n
        · rw [decide_eq_true h, decide_eq_true (by omega)]
        · rw [decide_eq_false h, decide_eq_false (by omega)]
      rw [this, decide_eq_false e]
      simp
theorem col_or (f : Int → Bool) (a b c : Int) (j : Nat) : ∀ n, n ≤ 8 → (∀ r, r < 8 → askB a r = (askB b r || askB c r)) → colB f a n j = (colB f b n j || colB f c n j)
  | 0, _, _ => rfl
  | n + 1, hn, h => by
    simp only [colB]
    rw [col_or f a b c j n (by omega) h, h n (by omega)]
    cases colB f b n j <;> cases colB f c n j <;> cases askB b n <;> cases askB c n <;> cases f (5 * n + j) <;> rfl

/-- The byte of one row alone. -/
def rowAt (l : List Tc) (t : Int) (r : Nat) : Int := byteV (fun j => downB (l.take (untilN l t)) (5 * r + j)) (earAt l t)
theorem byte_row (l : List Tc) (t : Int) (r : Nat) (hr : r < 8) : byteAt17 l t (255 - 2 ^ r) = rowAt l t r := by
  unfold byteAt17 rowAt
  congr 1
  funext j
  rw [col_row _ r hr j 8 (Nat.le_refl _), decide_eq_true hr]
  simp
theorem byte_127 (l : List Tc) (t h : Int) (h0 : 0 ≤ h) (h1 : h < 256) : bits .and .u8 (byteAt17 l t h) (byteAt17 l t 127) = byteAt17 l t (h % 128) := by
  unfold byteAt17
  rw [byteV_same]
  congr 1
  funext j
  rw [col_or _ (h % 128) h 127 j 8 (Nat.le_refl _)]
  intro r hr
  have := ask_127 ⟨h.toNat, by omega⟩ ⟨r, hr⟩
  simp only [show ((h.toNat : Nat) : Int) = h by omega] at this
  exact this
/-- What the law puts together of the first r rows. -/
def wantK (l : List Tc) (t h : Int) (r : Nat) : Int := byteV (colB (downB (l.take (untilN l t))) h r) (earAt l t) % 32
theorem wantK_zero (l : List Tc) (t h : Int) : wantK l t h 0 = 31 := b5_zero _
theorem wantK_all (l : List Tc) (t h : Int) : wantK l t h 8 = byteAt17 l t h % 32 := rfl
theorem wantK_yes (l : List Tc) (t h : Int) (r : Nat) (ha : askB h r = true) : bits .and .u8 (wantK l t h r) (rowAt l t r) = wantK l t h (r + 1) := by
  unfold wantK rowAt
  rw [byteV_low]
  simp only [colB, ha, Bool.true_and]
theorem wantK_no (l : List Tc) (t h : Int) (r : Nat) (ha : askB h r = false) : wantK l t h (r + 1) = wantK l t h r := by
  unfold wantK
  simp only [colB, ha, Bool.false_and, Bool.or_false]
theorem wantK_in (l : List Tc) (t h : Int) (r : Nat) : 0 ≤ wantK l t h r ∧ wantK l t h r < 32 := by unfold wantK; omega
theorem rowAt_in (l : List Tc) (t : Int) (r : Nat) : 0 ≤ rowAt l t r ∧ rowAt l t r < 256 := byteV_in _ _
theorem rowAt_bit (l : List Tc) (t : Int) (r k : Nat) (hk : k < 5) : (rowAt l t r / 2 ^ k % 2 == 0) = downB (l.take (untilN l t)) (5 * r + k) := byteV_bit _ _ k hk
theorem byteAt_in (l : List Tc) (t h : Int) : 0 ≤ byteAt17 l t h ∧ byteAt17 l t h < 256 := byteV_in _ _
theorem byteAt_160 (l : List Tc) (t h : Int) : bits .and .u8 (byteAt17 l t h) 160 = 160 := b5_160 _ _ _ _ _ _
theorem byteAt_64 (l : List Tc) (t h : Int) : (bits .and .u8 (byteAt17 l t h) 64 != 0) = earAt l t := b5_64 _ _ _ _ _ _

theorem goodTo_take {l : List Tc} {n k : Nat} (hg : GoodTo l k) (hk : k ≤ n) (hn : n ≤ l.length) : GoodTo (l.take n) k := by
  have e : ∀ i, i < n → (l.take n).getD i tcZ = l.getD i tcZ := fun i hi => by
    simp only [List.getD_eq_getElem?_getD]
    rw [List.getElem?_take_of_lt hi]
  intro i hi
  have h1 := hg i hi
  unfold lastT at h1 ⊢
  by_cases h0 : i = 0
  · rw [if_pos h0, e i (by omega)]
    rw [if_pos h0] at h1
    exact h1
  · rw [if_neg h0, e i (by omega), e (i - 1) (by omega)]
    rw [if_neg h0] at h1
    exact h1
theorem good_take {l : List Tc} (hg : Good l) (n : Nat) : Good (l.take n) := by
  have hl : (l.take n).length ≤ l.length ∧ (l.take n).length ≤ n := by simp only [List.length_take]; omega
  refine ⟨Nat.le_trans hl.1 hg.1, ?_⟩
  by_cases h : n ≤ l.length
  · exact goodTo_take (fun i hi => hg.2 i (by omega)) hl.2 h
  · rw [List.take_of_length_le (by omega)]; exact hg.2
theorem until_take {l : List Tc} {t : Int} (hg : Good l) : untilN (l.take (untilN l t)) t = untilN l t := by
  have h := untilN_in (t := t) hg
  have hl := take_len l t
  refine untilN_is (good_take hg _) (by omega) (fun i hi => ?_) (fun hn => by omega)
  have e : (l.take (untilN l t)).getD i tcZ = l.getD i tcZ := by
    simp only [List.getD_eq_getElem?_getD]
    rw [List.getElem?_take_of_lt hi]
  rw [e]
  exact h.1 i hi
theorem take_same {l : List Tc} {t : Int} (hg : Good l) : (l.take (untilN l t)).take (untilN (l.take (untilN l t)) t) = l.take (untilN l t) := by
  rw [until_take hg, List.take_take, Nat.min_self]
theorem byteAt_take {l : List Tc} {t : Int} (hg : Good l) (h : Int) : byteAt17 (l.take (untilN l t)) t h = byteAt17 l t h := by
  unfold byteAt17 earAt
  rw [take_same hg]
theorem downAt_take {l : List Tc} {t : Int} (hg : Good l) : downAt (l.take (untilN l t)) t = downAt l t := by
  unfold downAt
  rw [take_same hg]
theorem mem_downAt (l : List Tc) (t : Int) (c : Int) : decide (c ∈ downAt l t) = downB (l.take (untilN l t)) c := by
  have := mem_downs (l := l.take (untilN l t)) fine_take c
  unfold downAt
  by_cases h : downB (l.take (untilN l t)) c = true
  · rw [h, decide_eq_true (this.2 h)]
  · rw [decide_eq_false (fun hh => h (this.1 hh))]
    simpa using h
theorem mem_take_more {D : List Int} {i : Nat} (hi : i < D.length) (c : Int) : decide (c ∈ D.take (i + 1)) = (decide (c ∈ D.take i) || (D.getD i 0 == c)) := by
  have e : D.getD i 0 = D[i] := by simp [List.getD_eq_getElem?_getD, hi]
  have hm : c ∈ D.take (i + 1) ↔ c ∈ D.take i ∨ c = D[i] := by rw [List.take_succ_eq_append_getElem hi, List.mem_append, List.mem_singleton]
  rw [e]
  by_cases h : c ∈ D.take i
  · rw [decide_eq_true h, decide_eq_true (hm.2 (.inl h)), Bool.true_or]
  · rw [decide_eq_false h, Bool.false_or]
    by_cases h2 : D[i] = c
    · rw [decide_eq_true (hm.2 (.inr h2.symm))]
      exact (beq_iff_eq.2 h2).symm
    · rw [decide_eq_false (fun hh => (hm.1 hh).elim h (fun e => h2 e.symm))]
      exact (beq_eq_false_iff_ne.2 h2).symm
end Go.Proofs.Ytofenjloieagaaa
