
/- Stretches of a bank, patches of all banks: pure. -/
import Derived.Test.YtflbedomkeophaaSK
namespace Go.Proofs.Ytflbedomkeophaa
open Go.RowKit
set_option linter.unusedSimpArgs false
set_option linter.unusedVariables false

/-- Behind the last 0 among the first k. -/
def frK (L : List Int) : Nat → Nat
  | 0 => 0
  | k + 1 => if L.getD k 0 = 0 then k + 1 else frK L k
/-- The stretches that ended among the first k. -/
def ouK (L : List Int) : Nat → List (Nat × List Int)
  | 0 => []
  | k + 1 => if L.getD k 0 = 0 ∧ frK L k < k then ouK L k ++ [(frK L k, (L.drop (frK L k)).take (k - frK L k))] else ouK L k
def stL (L : List Int) : List (Nat × List Int) := if frK L L.length < L.length then ouK L L.length ++ [(frK L L.length, L.drop (frK L L.length))] else ouK L L.length
theorem frK_le (L : List Int) : ∀ k, frK L k ≤ k
  | 0 => Nat.le_refl _
  | k + 1 => by have := frK_le L k; unfold frK; split <;> omega
def layS (Z : List Int) (s : List (Nat × List Int)) : List Int := s.foldl (fun z x => splice z x.1 x.2) Z
theorem splice_get (L m : List Int) (p j : Nat) (h : p + m.length ≤ L.length) : (splice L p m).getD j 0 = if p ≤ j ∧ j < p + m.length then m.getD (j - p) 0 else L.getD j 0 := by
  unfold splice
  simp only [List.getD_eq_getElem?_getD]
  by_cases h1 : j < p
  · rw [if_neg (by omega), List.getElem?_append_left (by rw [List.length_take]; omega), List.getElem?_take, if_pos h1]
  · rw [List.getElem?_append_right (by rw [List.length_take]; omega), List.length_take, Nat.min_eq_left (by omega)]
    by_cases h2 : j < p + m.length
    · rw [if_pos ⟨by omega, h2⟩, List.getElem?_append_left (by omega)]
    · rw [if_neg (by omega), List.getElem?_append_right (by omega), List.getElem?_drop]
      congr 2
      omega
theorem ouK_rebuilds (L Z : List Int) (hZ : Z.length = L.length) (hz : ∀ i, Z.getD i 0 = 0) : ∀ k, k ≤ L.length →
    (layS Z (ouK L k)).length = L.length ∧ ∀ i, (layS Z (ouK L k)).getD i 0 = if i < frK L k then L.getD i 0 else 0
  | 0, _ => ⟨hZ, fun i => by rw [show frK L 0 = 0 from rfl, if_neg (Nat.not_lt_zero i)]; exact hz i⟩
  | k + 1, hk => by
    obtain ⟨h1, h2⟩ := ouK_rebuilds L Z hZ hz k (by omega)
    have hle := frK_le L k
    unfold ouK
    by_cases h0 : L.getD k 0 = 0
    · have hf : frK L (k + 1) = k + 1 := by unfold frK; rw [if_pos h0]
      rw [hf]
      by_cases h3 : frK L k < k
      · rw [if_pos ⟨h0, h3⟩]
        have hlen : ((L.drop (frK L k)).take (k - frK L k)).length = k - frK L k := by rw [List.length_take, List.length_drop]; omega
        have e : layS Z (ouK L k ++ [(frK L k, (L.drop (frK L k)).take (k - frK L k))]) = splice (layS Z (ouK L k)) (frK L k) ((L.drop (frK L k)).take (k - frK L k)) := by
          unfold layS; rw [List.foldl_append]; rfl
        rw [e]
        refine ⟨by rw [length_splice _ _ _ (by rw [h1, hlen]; omega)]; exact h1, fun i => ?_⟩
        rw [splice_get _ _ _ _ (by rw [h1, hlen]; omega), hlen, h2]
        by_cases h4 : frK L k ≤ i ∧ i < frK L k + (k - frK L k)
        · rw [if_pos h4, if_pos (by omega)]
          simp only [List.getD_eq_getElem?_getD]
          rw [List.getElem?_take, if_pos (by omega), List.getElem?_drop]
          congr 2
          omega
        · rw [if_neg h4]
          by_cases h5 : i < frK L k
          · rw [if_pos h5, if_pos (by omega)]
          · rw [if_neg h5]
            by_cases h6 : i = k
            · subst h6; rw [if_pos (by omega), h0]
            · rw [if_neg (by omega)]
      · rw [if_neg (by omega)]
        refine ⟨h1, fun i => ?_⟩
        rw [h2]
        have : frK L k = k := by omega
        rw [this]
        by_cases h5 : i < k
        · rw [if_pos h5, if_pos (by omega)]
        · rw [if_neg h5]
          by_cases h6 : i = k
          · subst h6; rw [if_pos (by omega), h0]
          · rw [if_neg (by omega)]
    · have hf : frK L (k + 1) = frK L k := by rw [frK, if_neg h0]
      rw [hf, if_neg (fun h => h0 h.1)]
      exact ⟨h1, h2⟩
theorem list_ext0 {A B : List Int} (h : A.length = B.length) (hg : ∀ i, A.getD i 0 = B.getD i 0) : A = B := by
  apply List.ext_getElem h
  intro i h1 h2
  have := hg i
  simpa [List.getD_eq_getElem?_getD, List.getElem?_eq_getElem h1, List.getElem?_eq_getElem h2] using this
theorem stL_rebuilds (L Z : List Int) (hZ : Z.length = L.length) (hz : ∀ i, Z.getD i 0 = 0) : layS Z (stL L) = L := by
  obtain ⟨h1, h2⟩ := ouK_rebuilds L Z hZ hz L.length (Nat.le_refl _)
  have hle := frK_le L L.length
  unfold stL
  by_cases h3 : frK L L.length < L.length
  · rw [if_pos h3]
    have e : layS Z (ouK L L.length ++ [(frK L L.length, L.drop (frK L L.length))]) = splice (layS Z (ouK L L.length)) (frK L L.length) (L.drop (frK L L.length)) := by
      unfold layS; rw [List.foldl_append]; rfl
    have hlen : (L.drop (frK L L.length)).length = L.length - frK L L.length := List.length_drop
    rw [e]
    refine list_ext0 (by rw [length_splice _ _ _ (by rw [h1, hlen]; omega)]; exact h1) fun i => ?_
    rw [splice_get _ _ _ _ (by rw [h1, hlen]; omega), hlen, h2]
    by_cases h4 : frK L L.length ≤ i ∧ i < frK L L.length + (L.length - frK L L.length)
    · rw [if_pos h4]
      simp only [List.getD_eq_getElem?_getD]
      rw [List.getElem?_drop]
      congr 2
      omega
    · rw [if_neg h4]
      split
      · rfl
      · rw [List.getD_eq_getElem?_getD, List.getElem?_eq_none (by omega)]; rfl
  · rw [if_neg h3]
    refine list_ext0 h1 fun i => ?_
    rw [h2]
    split
    · rfl
    · rw [List.getD_eq_getElem?_getD, List.getElem?_eq_none (by omega)]; rfl

/-- What is told of each stretch. -/
def StOk (L : List Int) (x : Nat × List Int) : Prop := x.1 < L.length ∧ x.1 + x.2.length ≤ L.length ∧ (AllB L → AllB x.2)
theorem ouK_ok (L : List Int) : ∀ k, k ≤ L.length → ∀ x ∈ ouK L k, StOk L x
  | 0, _ => fun x hx => by cases hx
  | k + 1, hk => fun x hx => by
    unfold ouK at hx
    split at hx
    · rename_i h
      rcases List.mem_append.1 hx with h1 | h1
      · exact ouK_ok L k (by omega) x h1
      · obtain rfl := List.mem_singleton.1 h1
        refine ⟨by dsimp only; omega, ?_, fun hb => (hb.drop _).take _⟩
        dsimp only
        rw [List.length_take, List.length_drop]
        omega
    · exact ouK_ok L k (by omega) x hx
theorem stL_ok (L : List Int) : ∀ x ∈ stL L, StOk L x := fun x hx => by
  unfold stL at hx
  split at hx
  · rcases List.mem_append.1 hx with h1 | h1
    · exact ouK_ok L _ (Nat.le_refl _) x h1
    · obtain rfl := List.mem_singleton.1 h1
      refine ⟨by assumption, ?_, fun hb => hb.drop _⟩
      dsimp only
      rw [List.length_drop]
      omega
  · exact ouK_ok L _ (Nat.le_refl _) x hx
theorem ouK_few (L : List Int) : ∀ k, 2 * (ouK L k).length ≤ frK L k
  | 0 => Nat.le_refl _
  | k + 1 => by
    have h := ouK_few L k
    have hle := frK_le L k
    have e1 : ouK L (k + 1) = if L.getD k 0 = 0 ∧ frK L k < k then ouK L k ++ [(frK L k, (L.drop (frK L k)).take (k - frK L k))] else ouK L k := rfl
    have e2 : frK L (k + 1) = if L.getD k 0 = 0 then k + 1 else frK L k := rfl
    rw [e1, e2]
    by_cases h0 : L.getD k 0 = 0
    · rw [if_pos h0]
      split
      · rw [List.length_append]; simp; omega
      · omega
    · rw [if_neg h0, if_neg (fun h => h0 h.1)]
      exact h
theorem stL_few (L : List Int) (hL : L.length = 16384) : (stL L).length ≤ 8192 := by
  have h := ouK_few L L.length
  have hle := frK_le L L.length
  unfold stL
  split
  · rw [List.length_append]; simp; omega
  · omega

/-- A patch as plain data. -/
abbrev PP := Nat × Nat × List Int
def Pt.pp (x : Pt) : PP := (x.b.toNat, x.p.toNat, x.l)
def bankP (b : Nat) (L : List Int) : List PP := (stL L).map fun x => (b, x.1, x.2)
/-- The patches of the first n banks. -/
def patsK (M : Nat → List Int) (n : Nat) : List PP := (List.range n).flatMap fun b => bankP b (M b)
abbrev pats (M : Nat → List Int) : List PP := patsK M 12
theorem patsK_succ (M : Nat → List Int) (n : Nat) : patsK M (n + 1) = patsK M n ++ bankP n (M n) := by
  unfold patsK; rw [List.range_succ, List.flatMap_append]; simp
def patchP (L : Nat → List Int) (x : PP) : Nat → List Int := fun i => if i = x.1 then splice (L i) x.2.1 x.2.2 else L i
def newP (ps : List PP) : Nat → List Int := ps.foldl patchP (fun _ => bkL)
theorem newL_pp (ps : List Pt) : newL ps = newP (ps.map Pt.pp) := by
  unfold newL newP
  rw [List.foldl_map]
  rfl
theorem fold_bank (b : Nat) (s : List (Nat × List Int)) : ∀ (F : Nat → List Int) (i : Nat), ((s.map fun x => ((b, x.1, x.2) : PP)).foldl patchP F) i = if i = b then layS (F b) s else F i := by
  induction s with
  | nil => intro F i; simp [layS]; intro h; rw [h]
  | cons x t ih =>
    intro F i
    rw [List.map_cons, List.foldl_cons, ih]
    by_cases h : i = b
    · subst h
      rw [if_pos rfl, if_pos rfl]
      unfold layS patchP
      simp
    · rw [if_neg h, if_neg h]
      unfold patchP
      rw [if_neg h]
/-- Patches make the memory that they are of. -/
theorem newP_patsK (M : Nat → List Int) (hM : ∀ i, i < 12 → (M i).length = 16384) : ∀ n, n ≤ 12 → ∀ i, newP (patsK M n) i = if i < n then M i else bkL
  | 0, _, i => by rw [if_neg (Nat.not_lt_zero i)]; rfl
  | n + 1, hn, i => by
    rw [patsK_succ]
    unfold newP
    rw [List.foldl_append]
    unfold bankP
    rw [fold_bank]
    have ih := newP_patsK M hM n (by omega)
    unfold newP at ih
    by_cases h : i = n
    · subst h
      rw [if_pos rfl, if_pos (by omega), ih, if_neg (Nat.lt_irrefl _)]
      exact stL_rebuilds _ _ (by rw [bkL_len, hM i (by omega)]) bkL_at
    · rw [if_neg h, ih]
      by_cases h2 : i < n
      · rw [if_pos h2, if_pos (by omega)]
      · rw [if_neg h2, if_neg (by omega)]
theorem newP_pats (M : Nat → List Int) (hM : ∀ i, i < 12 → (M i).length = 16384) (i : Nat) (hi : i < 12) : newP (pats M) i = M i := by
  rw [newP_patsK M hM 12 (Nat.le_refl _), if_pos hi]
def PPok (x : PP) : Prop := x.1 < 12 ∧ x.2.1 < 16384 ∧ x.2.1 + x.2.2.length ≤ 16384 ∧ AllB x.2.2
theorem pats_ok (M : Nat → List Int) (hM : ∀ i, i < 12 → (M i).length = 16384) (hb : ∀ i, i < 12 → AllB (M i)) : ∀ x ∈ pats M, PPok x := fun x hx => by
  obtain ⟨b, hb1, hb2⟩ := List.mem_flatMap.1 hx
  have hb3 := List.mem_range.1 hb1
  obtain ⟨s, hs, rfl⟩ := List.mem_map.1 hb2
  obtain ⟨h1, h2, h3⟩ := stL_ok _ s hs
  rw [hM b hb3] at h1 h2
  exact ⟨hb3, h1, h2, h3 (hb b hb3)⟩
theorem patsK_few (M : Nat → List Int) (hM : ∀ i, i < 12 → (M i).length = 16384) : ∀ n, n ≤ 12 → (patsK M n).length ≤ 8192 * n
  | 0, _ => Nat.le_refl _
  | n + 1, hn => by
    rw [patsK_succ, List.length_append]
    have := patsK_few M hM n (by omega)
    have h2 := stL_few (M n) (hM n (by omega))
    unfold bankP
    rw [List.length_map]
    omega
theorem pats_few (M : Nat → List Int) (hM : ∀ i, i < 12 → (M i).length = 16384) : (pats M).length ≤ 98304 := patsK_few M hM 12 (Nat.le_refl _)
theorem patsK_congr {M N : Nat → List Int} : ∀ n, (∀ i, i < n → M i = N i) → patsK M n = patsK N n
  | 0, _ => rfl
  | n + 1, h => by rw [patsK_succ, patsK_succ, patsK_congr n (fun i hi => h i (by omega)), h n (by omega)]
end Go.Proofs.Ytflbedomkeophaa
