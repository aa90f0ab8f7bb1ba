/-  -/
import Derived.Test.YtofenjloieagaaaJ3
import Derived.Test.YtofenjloieagaaaZT11
namespace Go.Proofs.Ytofenjloieagaaa
open Go.RowKit
set_option linter.unusedSimpArgs false
set_option linter.unusedVariables false

theorem numRd_none (r : List Int) (h : (numRd r).2.2 ≠ 0) : (numRd r).1 = 0 := by
  cases r with
  | nil => rfl
  | cons f t =>
    simp only [numRd] at h ⊢
    by_cases h1 : f ≤ 247
    · rw [if_pos h1] at h; exact absurd rfl h
    · rw [if_neg h1] at h ⊢
      by_cases h2 : t.length < (f - 247).toNat
      · rw [if_pos h2]
      · rw [if_neg h2] at h ⊢
        by_cases h3 : (t.take (f - 247).toNat).getLastD 0 = 0 ∨ leV (t.take (f - 247).toNat) ≤ 247
        · rw [if_pos h3]
        · rw [if_neg h3] at h; exact absurd rfl h
theorem num_both (l : List Int) (p : Nat) : ((numSt l p 0).2.2 = 0 ∧ numQ (l.drop p) 0 = ((numSt l p 0).1, l.drop (numSt l p 0).2.1, 0)) ∨ ((numSt l p 0).2.2 ≠ 0 ∧ (numQ (l.drop p) 0).2.2 ≠ 0 ∧ (numSt l p 0).1 = 0) := by
  have he := numRd_none (l.drop p)
  unfold numSt numQ
  simp only [if_true]
  generalize numRd (l.drop p) = q at *
  by_cases hq : q.2.2 = 0
  · rw [if_pos hq]
    exact .inl ⟨hq, by rw [List.drop_drop]⟩
  · rw [if_neg hq]
    exact .inr ⟨hq, hq, he hq⟩
theorem numQ_bad (r : List Int) (e : Int) (h : e ≠ 0) : (numQ r e).2.2 ≠ 0 := by unfold numQ; rw [if_neg h]; exact h
theorem endQ_at (l : List Int) (p : Nat) : endQ (l.drop p) 0 = endSt l p 0 := by
  unfold endSt endQ
  rw [List.length_drop]
  by_cases hp : p < l.length
  · rw [if_pos ⟨rfl, by omega⟩, if_pos ⟨rfl, hp⟩]
  · rw [if_neg (by omega), if_neg (by omega)]
theorem count_ok {l : List Int} {p : Nat} {m : Int} (h0 : 0 ≤ m) (h : ((numSt l p 0).1 : Int) ≤ m) : countSt l p 0 m = numSt l p 0 := by
  unfold countSt
  rw [if_neg (by omega)]
theorem count_big {l : List Int} {p : Nat} {m : Int} (h0 : 0 ≤ m) (h : ¬ ((numSt l p 0).1 : Int) ≤ m) : (countSt l p 0 m).2.2 ≠ 0 := by
  unfold countSt
  rw [if_pos (by omega)]
  simp

/-- The reference's four numbers; the touch; where its reader is, and what it has, behind k of them. -/
def rq1 (r : List Int) (e : Int) := numQ r e
def rq2 (r : List Int) (e : Int) := numQ (rq1 r e).2.1 (rq1 r e).2.2
def rq3 (r : List Int) (e : Int) := numQ (rq2 r e).2.1 (rq2 r e).2.2
def rq4 (r : List Int) (e : Int) := numQ (rq3 r e).2.1 (rq3 r e).2.2
def rqX (r : List Int) (e : Int) : Tc := ⟨((min (rq1 r e).1 2199023255552 : Nat) : Int), ((min (rq2 r e).1 99 : Nat) : Int), ((min (rq3 r e).1 99 : Nat) : Int), (((rq4 r e).1 : Nat) : Int) == 1⟩
def rst (L : List Int) : Nat → List Int × Int
  | 0 => (countQ L 0 65536).2
  | k + 1 => (rq4 (rst L k).1 (rst L k).2).2
def rxs (L : List Int) : Nat → List Tc
  | 0 => []
  | k + 1 => rxs L k ++ [rqX (rst L k).1 (rst L k).2]
theorem rxs_len (L : List Int) : ∀ k, (rxs L k).length = k
  | 0 => rfl
  | k + 1 => by simp [rxs, rxs_len L k]
theorem rq4_bad (r : List Int) (e : Int) (h : e ≠ 0) : (rq4 r e).2.2 ≠ 0 := numQ_bad _ _ (numQ_bad _ _ (numQ_bad _ _ (numQ_bad _ _ h)))

/-- A touch that is in no list that may be. -/
def BadT (x : Tc) : Prop := ¬ x.Fine ∨ x.time < 0
theorem bad_not {l : List Tc} {x : Tc} (hx : x ∈ l) (h : BadT x) : ¬ Good l := by
  intro hg
  obtain ⟨i, hi, rfl⟩ := List.mem_iff_getElem.1 hx
  have e : l.getD i tcZ = l[i] := by simp [List.getD_eq_getElem?_getD, hi]
  have h1 := (hg.2 i hi).1
  have h2 := good_low hg.2 i hi
  rw [e] at h1 h2
  rcases h with h | h
  · exact h h1
  · omega
def BadC (L : List Int) (k : Nat) : Prop := (tst L k).2 ≠ 0 ∨ ∃ x ∈ txs L k, BadT x
def BadQ (L : List Int) (k : Nat) : Prop := (rst L k).2 ≠ 0 ∨ ∃ x ∈ rxs L k, BadT x
def Agr (L : List Int) (k : Nat) : Prop := ((tst L k).2 = 0 ∧ rst L k = (L.drop (tst L k).1, 0) ∧ rxs L k = txs L k) ∨ (BadC L k ∧ BadQ L k)

theorem badC_next {L : List Int} {k : Nat} (h : BadC L k) : BadC L (k + 1) := by
  rcases h with h | ⟨x, hx, hb⟩
  · exact .inl (tch_bad _ _ _ h)
  · exact .inr ⟨x, by unfold txs; exact List.mem_append_left _ hx, hb⟩
theorem badQ_next {L : List Int} {k : Nat} (h : BadQ L k) : BadQ L (k + 1) := by
  rcases h with h | ⟨x, hx, hb⟩
  · exact .inl (rq4_bad _ _ h)
  · exact .inr ⟨x, by unfold rxs; exact List.mem_append_left _ hx, hb⟩
theorem badC_far {L : List Int} {k : Nat} (h : BadC L k) : ∀ j, BadC L (k + j)
  | 0 => h
  | j + 1 => badC_next (badC_far h j)
theorem badC_read {L : List Int} {k : Nat} (hk : k ≤ tcnt L) (h : BadC L k) : readE L = 4 := by
  have := badC_far h (tcnt L - k)
  rw [show k + (tcnt L - k) = tcnt L by omega] at this
  rcases this with h1 | ⟨x, hx, hb⟩
  · exact read_bad L _ (Nat.le_refl _) h1
  · unfold readE
    rw [if_neg fun hh : TGood L => bad_not hx hb hh.2]

theorem cnt_both (L : List Int) : (countQ L 0 65536).1 = tcnt L ∧ Agr L 0 := by
  unfold Agr tcnt
  have h := num_both L 0
  rw [List.drop_zero] at h
  rcases h with ⟨h1, h2⟩ | ⟨h1, h2, h3⟩
  · by_cases hm : ((numSt L 0 0).1 : Int) ≤ 65536
    · have e1 : countSt L 0 0 65536 = numSt L 0 0 := count_ok (by decide) hm
      have e2 : countQ L 0 65536 = ((numSt L 0 0).1, L.drop (numSt L 0 0).2.1, 0) := by unfold countQ; rw [h2]; simp only; rw [if_neg (by omega)]
      rw [e1, e2]
      refine ⟨rfl, .inl ⟨?_, ?_, rfl⟩⟩
      · unfold tst; rw [e1]; exact h1
      · unfold rst tst; rw [e1, e2]
    · have e1 : (countSt L 0 0 65536).2.2 ≠ 0 := count_big (by decide) hm
      have e2 : countQ L 0 65536 = (0, L.drop (numSt L 0 0).2.1, 3) := by unfold countQ; rw [h2]; simp only; rw [if_pos ⟨trivial, by omega⟩]
      have e3 : (countSt L 0 0 65536).1 = 0 := by unfold countSt; rw [if_pos (by omega)]
      refine ⟨by rw [e2, e3], .inr ⟨.inl e1, .inl ?_⟩⟩
      unfold rst; rw [e2]; simp
  · have e1 : countSt L 0 0 65536 = numSt L 0 0 := by unfold countSt; rw [if_neg (by rw [h3]; omega)]
    have e2 : countQ L 0 65536 = numQ L 0 := by unfold countQ; rw [if_neg fun hh => h2 hh.1]
    have e3 := numQ_err L 0 h2
    refine ⟨by rw [e1, e2, e3, h3], .inr ⟨.inl ?_, .inl ?_⟩⟩
    · unfold tst; rw [e1]; exact h1
    · unfold rst; rw [e2]; exact h2

theorem code_bad {L : List Int} {k : Nat} (h : (tch4 L (tst L k).1 (tst L k).2).2.2 ≠ 0) : BadC L (k + 1) := .inl h
theorem ref_bad {L : List Int} {k : Nat} (h : (rq4 (rst L k).1 (rst L k).2).2.2 ≠ 0) : BadQ L (k + 1) := .inl h
theorem ref_badX {L : List Int} {k : Nat} (h : BadT (rqX (rst L k).1 (rst L k).2)) : BadQ L (k + 1) := .inr ⟨_, by unfold rxs; exact List.mem_append_right _ (List.mem_singleton.2 rfl), h⟩
theorem code_badX {L : List Int} {k : Nat} (h : BadT (tchX L (tst L k).1 (tst L k).2)) : BadC L (k + 1) := .inr ⟨_, by unfold txs; exact List.mem_append_right _ (List.mem_singleton.2 rfl), h⟩

theorem bad_what {a b c : Int} {n : Bool} (h : 2 < b) : BadT ⟨a, b, c, n⟩ := .inl fun h1 => by
  rcases h1 with ⟨x, _⟩ | ⟨x, _⟩ <;> simp only at x <;> omega
theorem bad_key {a b c : Int} {n : Bool} (h : 39 < c) : BadT ⟨a, b, c, n⟩ := .inl fun h1 => by
  rcases h1 with ⟨_, _, _, x⟩ | ⟨_, _, x⟩ <;> simp only at x <;> omega
theorem bad_time {a b c : Int} {n : Bool} (h : 1099511627776 < a ∨ a < 0) : BadT ⟨a, b, c, n⟩ := by
  rcases h with h | h
  · exact .inl fun h1 => by rcases h1 with ⟨_, x, _⟩ | ⟨_, x, _⟩ <;> simp only at x <;> omega
  · exact .inr h

theorem agr_next {L : List Int} (hL : AllB L) {k : Nat} (h : Agr L k) (hon : (rq4 (rst L k).1 (rst L k).2).1 ≤ 1) : Agr L (k + 1) := by
  rcases h with ⟨h0, h1, h2⟩ | ⟨h1, h2⟩
  · have hT : tst L (k + 1) = (tch4 L (tst L k).1 (tst L k).2).2 := rfl
    have hR : rst L (k + 1) = (rq4 (rst L k).1 (rst L k).2).2 := rfl
    have hTX : txs L (k + 1) = txs L k ++ [tchX L (tst L k).1 (tst L k).2] := rfl
    have hRX : rxs L (k + 1) = rxs L k ++ [rqX (rst L k).1 (rst L k).2] := rfl
    have cb := @code_bad L k
    have rb := @ref_bad L k
    have rbx := @ref_badX L k
    have cbx := @code_badX L k
    unfold Agr
    rw [hT, hR, hTX, hRX, h2]
    rw [h1] at rb rbx hon
    rw [h0] at cb cbx
    rw [h1, h0]
    clear h0 h1 h2 hT hR hTX hRX
    generalize (tst L k).1 = p at *
    simp only at *
    have f1 : tch1 L p 0 = numSt L p 0 := rfl
    have g1 : rq1 (L.drop p) 0 = numQ (L.drop p) 0 := rfl
    have l1 := numSt_lt L p 0 hL
    rcases num_both L p with ⟨a1, a2⟩ | ⟨a1, a2, -⟩
    · rw [a2] at g1
      have f2 : tch2 L p 0 = countSt L (numSt L p 0).2.1 0 2 := by unfold tch2; rw [f1, a1]
      have g2 : rq2 (L.drop p) 0 = numQ (L.drop (numSt L p 0).2.1) 0 := by unfold rq2; rw [g1]
      generalize (numSt L p 0).2.1 = p2 at *
      rcases num_both L p2 with ⟨b1, b2⟩ | ⟨b1, b2, -⟩
      · rw [b2] at g2
        by_cases hb : ((numSt L p2 0).1 : Int) ≤ 2
        · rw [count_ok (by decide) hb] at f2
          have f3 : tch3 L p 0 = countSt L (numSt L p2 0).2.1 0 39 := by unfold tch3; rw [f2, b1]
          have g3 : rq3 (L.drop p) 0 = numQ (L.drop (numSt L p2 0).2.1) 0 := by unfold rq3; rw [g2]
          generalize (numSt L p2 0).2.1 = p3 at *
          rcases num_both L p3 with ⟨c1, c2⟩ | ⟨c1, c2, -⟩
          · rw [c2] at g3
            by_cases hc : ((numSt L p3 0).1 : Int) ≤ 39
            · rw [count_ok (by decide) hc] at f3
              have f4 : tch4 L p 0 = countSt L (numSt L p3 0).2.1 0 1 := by unfold tch4; rw [f3, c1]
              have g4 : rq4 (L.drop p) 0 = numQ (L.drop (numSt L p3 0).2.1) 0 := by unfold rq4; rw [g3]
              generalize (numSt L p3 0).2.1 = p4 at *
              rcases num_both L p4 with ⟨d1, d2⟩ | ⟨d1, d2, -⟩
              · rw [d2] at g4
                have hon2 : ((numSt L p4 0).1 : Int) ≤ 1 := by rw [g4] at hon; simp only at hon; omega
                rw [count_ok (by decide) hon2] at f4
                by_cases ht : (numSt L p 0).1 ≤ 1099511627776
                · refine .inl ⟨by rw [f4]; exact d1, by rw [g4, f4], ?_⟩
                  unfold rqX tchX
                  rw [f1, f2, f3, f4, g1, g2, g3, g4]
                  simp only
                  have e1 : wrap64 ((numSt L p 0).1 : Int) = ((min (numSt L p 0).1 2199023255552 : Nat) : Int) := by unfold wrap64; omega
                  have e2 : ((min (numSt L p2 0).1 99 : Nat) : Int) = ((numSt L p2 0).1 : Int) := by omega
                  have e3 : ((min (numSt L p3 0).1 99 : Nat) : Int) = ((numSt L p3 0).1 : Int) := by omega
                  rw [e1, e2, e3]
                · refine .inr ⟨cbx ?_, rbx ?_⟩
                  · unfold tchX
                    rw [f1]
                    exact bad_time (by unfold wrap64; omega)
                  · unfold rqX
                    rw [g1]
                    exact bad_time (.inl (by simp only; omega))
              · have f4e : countSt L p4 0 1 = numSt L p4 0 ∨ (countSt L p4 0 1).2.2 ≠ 0 := by
                  unfold countSt
                  split
                  · exact .inr (by simp)
                  · exact .inl rfl
                refine .inr ⟨cb ?_, rb ?_⟩
                · rw [f4]
                  rcases f4e with h | h
                  · rw [h]; exact d1
                  · exact h
                · rw [g4]; exact d2
            · refine .inr ⟨cb ?_, rbx ?_⟩
              · unfold tch4
                rw [f3]
                exact count_bad _ _ _ _ (count_big (by decide) hc)
              · unfold rqX
                rw [g3]
                exact bad_key (by simp only; omega)
          · refine .inr ⟨cb ?_, rb ?_⟩
            · unfold tch4
              rw [f3]
              refine count_bad _ _ _ _ ?_
              unfold countSt
              split
              · simp
              · exact c1
            · unfold rq4
              rw [g3]
              exact numQ_bad _ _ c2
        · refine .inr ⟨cb ?_, rbx ?_⟩
          · unfold tch4 tch3
            rw [f2]
            exact count_bad _ _ _ _ (count_bad _ _ _ _ (count_big (by decide) hb))
          · unfold rqX
            rw [g2]
            exact bad_what (by simp only; omega)
      · refine .inr ⟨cb ?_, rb ?_⟩
        · unfold tch4 tch3
          rw [f2]
          refine count_bad _ _ _ _ (count_bad _ _ _ _ ?_)
          unfold countSt
          split
          · simp
          · exact b1
        · unfold rq4 rq3
          rw [g2]
          exact numQ_bad _ _ (numQ_bad _ _ b2)
    · refine .inr ⟨cb ?_, rb ?_⟩
      · unfold tch4 tch3 tch2
        rw [f1]
        exact count_bad _ _ _ _ (count_bad _ _ _ _ (count_bad _ _ _ _ a1))
      · unfold rq4 rq3 rq2
        rw [g1]
        exact numQ_bad _ _ (numQ_bad _ _ (numQ_bad _ _ a2))
  · exact .inr ⟨badC_next h1, badQ_next h2⟩

/-- A fourth number above 1. -/
theorem agr_on {L : List Int} {k : Nat} (hk : k < tcnt L) (h : Agr L k) (hon : ¬ (rq4 (rst L k).1 (rst L k).2).1 ≤ 1) : readE L = 4 := by
  rcases h with ⟨h0, h1, h2⟩ | ⟨h1, h2⟩
  · refine badC_read (k := k + 1) (by omega) (code_bad ?_)
    rw [h1] at hon
    rw [h0]
    generalize (tst L k).1 = p at *
    simp only at hon
    have g4 : rq4 (L.drop p) 0 = numQ (rq3 (L.drop p) 0).2.1 (rq3 (L.drop p) 0).2.2 := rfl
    have g3 : rq3 (L.drop p) 0 = numQ (rq2 (L.drop p) 0).2.1 (rq2 (L.drop p) 0).2.2 := rfl
    have g2 : rq2 (L.drop p) 0 = numQ (rq1 (L.drop p) 0).2.1 (rq1 (L.drop p) 0).2.2 := rfl
    have g1 : rq1 (L.drop p) 0 = numQ (L.drop p) 0 := rfl
    have f4 : tch4 L p 0 = countSt L (tch3 L p 0).2.1 (tch3 L p 0).2.2 1 := rfl
    have f3 : tch3 L p 0 = countSt L (tch2 L p 0).2.1 (tch2 L p 0).2.2 39 := rfl
    have f2 : tch2 L p 0 = countSt L (tch1 L p 0).2.1 (tch1 L p 0).2.2 2 := rfl
    have f1 : tch1 L p 0 = numSt L p 0 := rfl
    rcases num_both L p with ⟨a1, a2⟩ | ⟨a1, a2, -⟩
    · rw [f1, a1] at f2
      rw [g1, a2] at g2
      simp only at g2
      rcases num_both L (numSt L p 0).2.1 with ⟨b1, b2⟩ | ⟨b1, b2, -⟩
      · rw [b2] at g2
        by_cases hb : ((numSt L (numSt L p 0).2.1 0).1 : Int) ≤ 2
        · rw [count_ok (by decide) hb] at f2
          rw [f2, b1] at f3
          rw [g2] at g3
          simp only at g3
          generalize (numSt L (numSt L p 0).2.1 0).2.1 = p3 at *
          rcases num_both L p3 with ⟨c1, c2⟩ | ⟨c1, c2, -⟩
          · rw [c2] at g3
            by_cases hc : ((numSt L p3 0).1 : Int) ≤ 39
            · rw [count_ok (by decide) hc] at f3
              rw [f3, c1] at f4
              rw [g3] at g4
              simp only at g4
              generalize (numSt L p3 0).2.1 = p4 at *
              rcases num_both L p4 with ⟨d1, d2⟩ | ⟨d1, d2, d3⟩
              · rw [g4, d2] at hon
                simp only at hon
                rw [f4]
                exact count_big (by decide) (by omega)
              · rw [f4]
                unfold countSt
                split
                · simp
                · exact d1
            · rw [f4, f3]
              exact count_bad _ _ _ _ (count_big (by decide) hc)
          · rw [f4, f3]
            refine count_bad _ _ _ _ ?_
            unfold countSt
            split
            · simp
            · exact c1
        · rw [f4, f3, f2]
          exact count_bad _ _ _ _ (count_bad _ _ _ _ (count_big (by decide) hb))
      · rw [f4, f3, f2]
        refine count_bad _ _ _ _ (count_bad _ _ _ _ ?_)
        unfold countSt
        split
        · simp
        · exact b1
    · rw [f4, f3, f2, f1]
      exact count_bad _ _ _ _ (count_bad _ _ _ _ (count_bad _ _ _ _ a1))
  · exact badC_read (by omega) h1

theorem agr_err {L : List Int} {k : Nat} (hk : k ≤ tcnt L) (h : Agr L k) (he : (rst L k).2 ≠ 0) : readE L = 4 := by
  rcases h with ⟨h0, h1, h2⟩ | ⟨h1, h2⟩
  · rw [h1] at he; exact absurd rfl he
  · exact badC_read hk h1
theorem agr_end {L : List Int} (h : Agr L (tcnt L)) (he : (rst L (tcnt L)).2 = 0) :
    readE L = (if endQ (rst L (tcnt L)).1 0 = 0 ∧ Good (rxs L (tcnt L)) then 0 else 4) ∧ (readE L = 0 → readT L = rxs L (tcnt L)) := by
  rcases h with ⟨h0, h1, h2⟩ | ⟨h1, h2⟩
  · refine ⟨?_, fun _ => h2.symm⟩
    rw [h2, h1, endQ_at]
    have hi : TGood L ↔ endSt L (tst L (tcnt L)).1 0 = 0 ∧ Good (txs L (tcnt L)) := by unfold TGood; rw [h0]
    unfold readE
    by_cases hh : TGood L
    · rw [if_pos hh, if_pos (hi.1 hh)]
    · rw [if_neg hh, if_neg fun h => hh (hi.2 h)]
  · have hr := badC_read (Nat.le_refl _) h1
    have hng : ¬ Good (rxs L (tcnt L)) := by
      rcases h2 with h | ⟨x, hx, hb⟩
      · exact absurd he h
      · exact bad_not hx hb
    refine ⟨by rw [hr, if_neg fun hh => hng hh.2], fun h => ?_⟩
    rw [hr] at h
    cases h
end Go.Proofs.Ytofenjloieagaaa
