/-  -/
import Derived.Test.YtofenjloieagaaaZT32
import Derived.Test.YtofenjloieagaaaZT17
namespace Go.Proofs.Ytofenjloieagaaa
open Go.RowKit
set_option linter.unusedSimpArgs false
set_option linter.unusedVariables false
set_option maxRecDepth 100000

theorem good_iff {l : List Tc} : Good l ↔ l.length ≤ 65536 ∧ Rising l ∧ ∀ x ∈ l, x.Fine ∧ 0 ≤ x.time := by
  constructor
  · intro h
    have hr := good_rising h
    refine ⟨h.1, hr, fun x hx => ?_⟩
    obtain ⟨i, hi, rfl⟩ := List.getElem_of_mem hx
    rw [← getD_getElem l i hi]
    refine ⟨(h.2 i hi).1, ?_⟩
    have h0 := (h.2 0 (by omega)).2
    simp only [lastT, if_true] at h0
    by_cases e : i = 0
    · subst e; exact h0
    · have := (rising_iff l).1 hr 0 i (by omega) hi
      omega
  · rintro ⟨h1, hr, h2⟩
    refine ⟨h1, fun i hi => ?_⟩
    have hm : l.getD i tcZ ∈ l := by rw [getD_getElem l i hi]; exact List.getElem_mem hi
    refine ⟨(h2 _ hm).1, ?_⟩
    unfold lastT
    split
    · exact (h2 _ hm).2
    · exact (rising_iff l).1 hr (i - 1) i (by omega) hi
theorem mergeL_good {A B : List Tc} (hA : Good A) (hB : Good B) (hl : A.length + B.length ≤ 65536) : Good (mergeL A B) := by
  have h1 := good_iff.1 hA
  have h2 := good_iff.1 hB
  refine good_iff.2 ⟨by rw [mergeL_len]; exact hl, mergeL_rising _ _ h1.2.1 h2.2.1, fun x hx => ?_⟩
  rcases (mergeL_mem _ _ x).1 hx with h | h
  · exact h1.2.2 x h
  · exact h2.2.2 x h
theorem mergeL_flen (p : Tc → Bool) (A B : List Tc) : ((mergeL A B).filter p).length = (A.filter p).length + (B.filter p).length := by
  refine mergeL_ind (P := fun A B => ((mergeL A B).filter p).length = (A.filter p).length + (B.filter p).length) (fun B => by simp [mergeL_nil]) (fun A => by simp [mergeL_none]) (fun x y A B e h => ?_) (fun x y A B e h => ?_) _ A B (Nat.le_refl _)
  · rw [mergeL_cons, if_pos e, List.filter_cons, List.filter_cons (x := x) (xs := A)]
    split
    · rw [List.length_cons, List.length_cons, h]; omega
    · exact h
  · rw [mergeL_cons, if_neg e, List.filter_cons, List.filter_cons (x := y) (xs := B)]
    split
    · rw [List.length_cons, List.length_cons, h]; omega
    · exact h
theorem mergeL_fleft (p : Tc → Bool) (A B : List Tc) : (∀ y ∈ B, p y = false) → (mergeL A B).filter p = A.filter p := by
  refine mergeL_ind (P := fun A B => (∀ y ∈ B, p y = false) → (mergeL A B).filter p = A.filter p) (fun B h => by rw [mergeL_nil]; simp; intro y hy; simpa using h y hy) (fun A h => by rw [mergeL_none]) (fun x y A B e h hp => ?_) (fun x y A B e h hp => ?_) _ A B (Nat.le_refl _)
  · rw [mergeL_cons, if_pos e, List.filter_cons, List.filter_cons (x := x) (xs := A), h hp]
  · rw [mergeL_cons, if_neg e, List.filter_cons, hp y (List.mem_cons_self ..)]
    exact h (fun z hz => hp z (List.mem_cons_of_mem _ hz))
theorem mergeL_fright (p : Tc → Bool) (A B : List Tc) : (∀ y ∈ A, p y = false) → (mergeL A B).filter p = B.filter p := by
  refine mergeL_ind (P := fun A B => (∀ y ∈ A, p y = false) → (mergeL A B).filter p = B.filter p) (fun B h => by rw [mergeL_nil]) (fun A h => by rw [mergeL_none]; simp; intro y hy; simpa using h y hy) (fun x y A B e h hp => ?_) (fun x y A B e h hp => ?_) _ A B (Nat.le_refl _)
  · rw [mergeL_cons, if_pos e, List.filter_cons, hp x (List.mem_cons_self ..)]
    exact h (fun z hz => hp z (List.mem_cons_of_mem _ hz))
  · rw [mergeL_cons, if_neg e, List.filter_cons, List.filter_cons (x := y) (xs := B), h hp]
/-- Of a list in order, what is taken while it is early is what is early. -/
theorem tw_filter (t : Int) : ∀ (l : List Tc), Rising l → l.takeWhile (fun x => decide (x.time ≤ t)) = l.filter (fun x => decide (x.time ≤ t))
  | [], _ => rfl
  | x :: l, h => by
    rw [List.takeWhile_cons, List.filter_cons]
    by_cases e : x.time ≤ t
    · simp only [e, decide_true, if_true]
      rw [tw_filter t l (List.pairwise_cons.1 h).2]
    · simp only [e, decide_false, Bool.false_eq_true, if_false]
      symm
      rw [List.filter_eq_nil_iff]
      intro y hy
      have := (List.pairwise_cons.1 h).1 y hy
      simp
      omega
theorem take_until {l : List Tc} (h : Good l) (t : Int) : l.take (untilN l t) = l.filter (fun x => decide (x.time ≤ t)) := by
  unfold untilN
  rw [if_pos h, ← tw_filter t l (good_rising h)]
  exact (List.prefix_iff_eq_take.1 (List.takeWhile_prefix _)).symm
theorem untilN_flen {l : List Tc} (h : Good l) (t : Int) : untilN l t = (l.filter (fun x => decide (x.time ≤ t))).length := by
  unfold untilN
  rw [if_pos h, tw_filter t l (good_rising h)]
theorem downB_filter (c : Int) (l : List Tc) : downB l c = downB (l.filter (fun x => decide (x.what = 1 ∧ x.key = c))) c := by
  unfold downB
  suffices h : ∀ (l : List Tc) (b : Bool), l.foldl (fun b x => stepK x c b) b = (l.filter (fun x => decide (x.what = 1 ∧ x.key = c))).foldl (fun b x => stepK x c b) b from h l false
  intro l
  induction l with
  | nil => intro b; rfl
  | cons x l ih =>
    intro b
    rw [List.filter_cons, List.foldl_cons, ih]
    by_cases e : x.what = 1 ∧ x.key = c
    · rw [if_pos (by simpa using e), List.foldl_cons]
    · rw [if_neg (by simpa using e)]
      congr 1
      unfold stepK
      rw [if_neg e]
theorem count_or (f g h : Int → Bool) : ∀ (R : List Int), (∀ x, f x = (g x || h x)) → (∀ x, g x = true → h x = true → False) → (R.filter f).length = (R.filter g).length + (R.filter h).length
  | [], _, _ => rfl
  | x :: R, h1, h2 => by
    have ih := count_or f g h R h1 h2
    rw [List.filter_cons, List.filter_cons, List.filter_cons, h1 x]
    cases hg : g x <;> cases hh : h x
    · simpa using ih
    · simp [ih]; omega
    · simp [ih]; omega
    · exact (h2 x hg hh).elim
/-- No key of the one is a key of the other. -/
def Unlike (A B : List Tc) : Prop := ∀ x ∈ A, ∀ y ∈ B, ¬ (x.what = y.what ∧ x.key = y.key)
theorem downs_merge {A B : List Tc} (hA : Good A) (hB : Good B) (hl : A.length + B.length ≤ 65536) (hu : Unlike A B) (t : Int) :
    (downAt (mergeL A B) t).length = (downAt A t).length + (downAt B t).length := by
  unfold downAt downs
  rw [take_until (mergeL_good hA hB hl), take_until hA, take_until hB]
  have key : ∀ c, (∀ y ∈ A, ¬ (y.what = 1 ∧ y.key = c)) ∨ (∀ y ∈ B, ¬ (y.what = 1 ∧ y.key = c)) := fun c => by
    by_cases h : ∀ y ∈ A, ¬ (y.what = 1 ∧ y.key = c)
    · exact .inl h
    · refine .inr fun y hy hc => h fun x hx hc2 => hu x hx y hy ⟨by rw [hc.1, hc2.1], by rw [hc.2, hc2.2]⟩
  have none : ∀ (l : List Tc) (c : Int), (∀ y ∈ l, ¬ (y.what = 1 ∧ y.key = c)) → downB (l.filter (fun x => decide (x.time ≤ t))) c = false := fun l c h => by
    rw [downB_filter, List.filter_filter, List.filter_eq_nil_iff.2 (fun y hy => by simp only [Bool.and_eq_true, decide_eq_true_eq]; exact fun h2 => h y hy h2.1)]
    rfl
  refine count_or _ _ _ _ (fun c => ?_) (fun c g1 g2 => ?_)
  · rcases key c with h | h
    · rw [none A c h, Bool.false_or, downB_filter, List.filter_filter, mergeL_fright _ A B (fun y hy => by
        have := h y hy
        simp [this]), ← List.filter_filter, ← downB_filter]
    · rw [none B c h, Bool.or_false, downB_filter, List.filter_filter, mergeL_fleft _ A B (fun y hy => by
        have := h y hy
        simp [this]), ← List.filter_filter, ← downB_filter]
  · rcases key c with h | h
    · rw [none A c h] at g1; cases g1
    · rw [none B c h] at g2; cases g2
theorem until_merge {A B : List Tc} (hA : Good A) (hB : Good B) (hl : A.length + B.length ≤ 65536) (t : Int) : untilN (mergeL A B) t = untilN A t + untilN B t := by
  rw [untilN_flen (mergeL_good hA hB hl), untilN_flen hA, untilN_flen hB, mergeL_flen]
/-- How far the two lists have gone. -/
def Went (D A B : List Tc) (i k : Nat) : Prop := D.drop (i + k) = mergeL (A.drop i) (B.drop k) ∧ D.length = A.length + B.length
theorem Went.start (A B : List Tc) : Went (mergeL A B) A B 0 0 := ⟨by simp, mergeL_len _ _⟩
theorem drop_getD {l : List Tc} {i : Nat} (h : i < l.length) : l.drop i = l.getD i tcZ :: l.drop (i + 1) := by
  rw [getD_getElem l i h]; exact List.drop_eq_getElem_cons h
theorem Went.step {D A B : List Tc} {i k : Nat} (h : Went D A B i k) (hi : i ≤ A.length) (hk : k ≤ B.length) (hx : i + k < A.length + B.length) :
    (i < A.length ∧ (k = B.length ∨ (k < B.length ∧ (A.getD i tcZ).time ≤ (B.getD k tcZ).time)) ∧ D.getD (i + k) tcZ = A.getD i tcZ ∧ Went D A B (i + 1) k) ∨
    (k < B.length ∧ (i = A.length ∨ (i < A.length ∧ ¬ (A.getD i tcZ).time ≤ (B.getD k tcZ).time)) ∧ D.getD (i + k) tcZ = B.getD k tcZ ∧ Went D A B i (k + 1)) := by
  obtain ⟨h1, h2⟩ := h
  have hd := drop_getD (l := D) (i := i + k) (by omega)
  rw [h1] at hd
  by_cases e1 : i < A.length
  · rw [drop_getD e1] at hd
    by_cases e2 : k < B.length
    · rw [drop_getD e2, mergeL_cons] at hd
      by_cases e3 : (A.getD i tcZ).time ≤ (B.getD k tcZ).time
      · rw [if_pos e3] at hd
        injection hd with g1 g2
        exact .inl ⟨e1, .inr ⟨e2, e3⟩, g1.symm, by rw [show i + 1 + k = i + k + 1 by omega, ← g2, drop_getD e2], h2⟩
      · rw [if_neg e3] at hd
        injection hd with g1 g2
        exact .inr ⟨e2, .inr ⟨e1, e3⟩, g1.symm, by rw [show i + (k + 1) = i + k + 1 by omega, ← g2, drop_getD e1], h2⟩
    · obtain rfl : k = B.length := by omega
      rw [List.drop_length, mergeL_none] at hd
      injection hd with g1 g2
      exact .inl ⟨e1, .inl rfl, g1.symm, by rw [show i + 1 + B.length = i + B.length + 1 by omega, ← g2, List.drop_length, mergeL_none], h2⟩
  · obtain rfl : i = A.length := by omega
    have e2 : k < B.length := by omega
    rw [List.drop_length, mergeL_nil, drop_getD e2] at hd
    injection hd with g1 g2
    exact .inr ⟨e2, .inl rfl, g1.symm, by rw [show A.length + (k + 1) = A.length + k + 1 by omega, ← g2, List.drop_length, mergeL_nil], h2⟩
end Go.Proofs.Ytofenjloieagaaa
