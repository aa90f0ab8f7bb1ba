
/- Bytes of an event are read as it; what is read has just these bytes (pure). -/
import Derived.Test.YthmogabonfkmhaaGreatDoorG5
import Derived.Test.YthmogabonfkmhaaGreatDoorA
import Derived.Test.YthmogabonfkmhaaGreatDoorF5
namespace Go.Proofs.YthmogabonfkmhaaGreatDoor
open Go.RowKit
set_option linter.unusedSimpArgs false
set_option linter.unusedVariables false
set_option maxRecDepth 100000

theorem count_at (L done r : List Int) (x : Nat) (most : Int) (hx : x < 18446744073709551616) (hm : (x : Int) ≤ most) (h : L = done ++ numB x ++ r) : countSt L done.length 0 most = (x, (done ++ numB x).length, 0) := by
  unfold countSt
  rw [num_at L done r x hx h]
  rw [if_neg (by simp only; omega)]

/-- Five numbers, and what stands behind them. -/
theorem erd_at (x : Ev) (hm : x.May) (t : List Int) : (erd1 (evB x ++ t)).1 = x.kind.toNat ∧ (erd2 (evB x ++ t)).1 = x.time.toNat ∧ (erd3 (evB x ++ t)).1 = x.seq.toNat ∧ (erd4 (evB x ++ t)).1 = x.a.toNat ∧ erd5 (evB x ++ t) = (x.b.toNat, (evB x).length, 0) := by
  have hk := May.kind hm
  obtain ⟨-, -, t0, t1, s0, s1, a0, a1, b0, b1⟩ := hm
  obtain ⟨L, hL⟩ : ∃ L, evB x ++ t = L := ⟨_, rfl⟩
  have e : L = [] ++ numB x.kind.toNat ++ numB x.time.toNat ++ numB x.seq.toNat ++ numB x.a.toNat ++ numB x.b.toNat ++ t := by rw [← hL]; rfl
  rw [hL]
  have h1 : erd1 L = (x.kind.toNat, ([] ++ numB x.kind.toNat).length, 0) := count_at L [] (numB x.time.toNat ++ numB x.seq.toNat ++ numB x.a.toNat ++ numB x.b.toNat ++ t) _ 12 (by omega) (by omega) (by rw [e]; simp only [List.append_assoc])
  have h2 : erd2 L = (x.time.toNat, ([] ++ numB x.kind.toNat ++ numB x.time.toNat).length, 0) := by
    unfold erd2; rw [h1]
    exact num_at L _ (numB x.seq.toNat ++ numB x.a.toNat ++ numB x.b.toNat ++ t) _ (by omega) (by rw [e]; simp only [List.append_assoc])
  have h3 : erd3 L = (x.seq.toNat, ([] ++ numB x.kind.toNat ++ numB x.time.toNat ++ numB x.seq.toNat).length, 0) := by
    unfold erd3; rw [h2]
    exact num_at L _ (numB x.a.toNat ++ numB x.b.toNat ++ t) _ (by omega) (by rw [e]; simp only [List.append_assoc])
  have h4 : erd4 L = (x.a.toNat, ([] ++ numB x.kind.toNat ++ numB x.time.toNat ++ numB x.seq.toNat ++ numB x.a.toNat).length, 0) := by
    unfold erd4; rw [h3]
    exact count_at L _ (numB x.b.toNat ++ t) _ 1048576 (by omega) (by omega) (by rw [e]; simp only [List.append_assoc])
  have h5 : erd5 L = (x.b.toNat, (evB x).length, 0) := by
    unfold erd5; rw [h4]
    exact count_at L _ t _ 255 (by omega) (by omega) (by rw [e])
  exact ⟨by rw [h1], by rw [h2], by rw [h3], by rw [h4], h5⟩

theorem wrap_small (n : Nat) (h : n ≤ 9223372036854775807) : wrap64 (n : Int) = n := by
  unfold wrap64; omega

theorem erd_self (x : Ev) (hm : x.May) : erdE (evB x) = 0 ∧ erdX (evB x) = x := by
  have hk := May.kind hm
  obtain ⟨h1, h2, h3, h4, h5⟩ := erd_at x hm []
  rw [List.append_nil] at h1 h2 h3 h4 h5
  have hc := hm.2.1
  obtain ⟨-, -, t0, t1, s0, s1, a0, a1, b0, b1⟩ := hm
  constructor
  · unfold erdE; rw [h5]; simp [endSt]
  · unfold erdX
    rw [h1, h2, h3, h4, h5, wrap_small _ (by omega), wrap_small _ (by omega)]
    obtain ⟨t, c, s, k, a, b⟩ := x
    simp only at *
    rw [Int.toNat_of_nonneg (by omega : 0 ≤ k), Int.toNat_of_nonneg t0, Int.toNat_of_nonneg s0, Int.toNat_of_nonneg a0, Int.toNat_of_nonneg b0, ← hc]

theorem erd_more (x : Ev) (hm : x.May) (v : Int) : erdE (evB x ++ [v]) ≠ 0 := by
  obtain ⟨h1, h2, h3, h4, h5⟩ := erd_at x hm [v]
  unfold erdE
  rw [h5]
  simp [endSt]

theorem num_err (l : List Int) (p : Nat) (e : Int) (h : e ≠ 0) : (numSt l p e).2.2 ≠ 0 := by
  unfold numSt; rw [if_neg h]; exact h
theorem count_err (l : List Int) (p : Nat) (e most : Int) (h : (numSt l p e).2.2 ≠ 0) : (countSt l p e most).2.2 ≠ 0 := by
  unfold countSt
  split
  · simp
  · exact h
theorem end_err (l : List Int) (p : Nat) (e : Int) (h : e ≠ 0) : endSt l p e ≠ 0 := by
  unfold endSt; rw [if_neg (fun k => h k.1)]; exact h
theorem end_ok (l : List Int) (p : Nat) (e : Int) (h : endSt l p e = 0) : e = 0 ∧ l.length ≤ p := by
  unfold endSt at h
  split at h
  · simp at h
  · rename_i k
    exact ⟨h, by omega⟩
theorem num_ok (l : List Int) (hb : AllB l) (p : Nat) (e : Int) (h : (numSt l p e).2.2 = 0) : e = 0 ∧ l.take (numSt l p e).2.1 = l.take p ++ numB (numSt l p e).1 := by
  have he : e = 0 := by
    rcases Int.lt_trichotomy e 0 with k | k | k
    · exact absurd h (num_err l p e (by omega))
    · exact k
    · exact absurd h (num_err l p e (by omega))
  subst he
  refine ⟨rfl, ?_⟩
  unfold numSt at h ⊢
  rw [if_pos rfl] at h ⊢
  simp only at h ⊢
  have := numB_numRd (l.drop p) (hb.drop p) h
  rw [this.1, List.take_add]
theorem count_ok (l : List Int) (hb : AllB l) (p : Nat) (e most : Int) (h : (countSt l p e most).2.2 = 0) : e = 0 ∧ l.take (countSt l p e most).2.1 = l.take p ++ numB (countSt l p e most).1 := by
  unfold countSt at h ⊢
  split at h
  · simp at h
  · rename_i k
    rw [if_neg k]
    exact num_ok l hb p e h

theorem wrap_nat (v : Nat) (h : v < 18446744073709551616) (h0 : 0 ≤ wrap64 (v : Int)) : (wrap64 (v : Int)).toNat = v := by
  unfold wrap64 at *; omega

/-- WHAT IS READ HAS JUST THESE BYTES. -/
theorem erd_back (l : List Int) (hb : AllB l) (hz : erdE l = 0) (hm : (erdX l).May) : evB (erdX l) = l := by
  obtain ⟨e5, hp⟩ := end_ok _ _ _ hz
  obtain ⟨e4, k5⟩ := count_ok l hb _ _ _ (show (countSt l (erd4 l).2.1 (erd4 l).2.2 255).2.2 = 0 from e5)
  obtain ⟨e3, k4⟩ := count_ok l hb _ _ _ (show (countSt l (erd3 l).2.1 (erd3 l).2.2 1048576).2.2 = 0 from e4)
  obtain ⟨e2, k3⟩ := num_ok l hb _ _ (show (numSt l (erd2 l).2.1 (erd2 l).2.2).2.2 = 0 from e3)
  obtain ⟨e1, k2⟩ := num_ok l hb _ _ (show (numSt l (erd1 l).2.1 (erd1 l).2.2).2.2 = 0 from e2)
  obtain ⟨_, k1⟩ := count_ok l hb _ _ _ (show (countSt l 0 0 12).2.2 = 0 from e1)
  have q5 : l.take (erd5 l).2.1 = l.take (erd4 l).2.1 ++ numB (erd5 l).1 := k5
  have q4 : l.take (erd4 l).2.1 = l.take (erd3 l).2.1 ++ numB (erd4 l).1 := k4
  have q3 : l.take (erd3 l).2.1 = l.take (erd2 l).2.1 ++ numB (erd3 l).1 := k3
  have q2 : l.take (erd2 l).2.1 = l.take (erd1 l).2.1 ++ numB (erd2 l).1 := k2
  have q1 : l.take (erd1 l).2.1 = l.take 0 ++ numB (erd1 l).1 := k1
  have hall : l.take (erd5 l).2.1 = l := List.take_of_length_le hp
  have b2 : (erd2 l).1 < 18446744073709551616 := numSt_lt _ _ _ hb
  have b3 : (erd3 l).1 < 18446744073709551616 := numSt_lt _ _ _ hb
  obtain ⟨-, -, t0, t1, s0, s1, a0, a1, c0, c1⟩ := hm
  have w2 := wrap_nat _ b2 (by have h := t0; unfold erdX at h; exact h)
  have w3 := wrap_nat _ b3 (by have h := s0; unfold erdX at h; exact h)
  have hX : evB (erdX l) = [] ++ numB (erd1 l).1 ++ numB (erd2 l).1 ++ numB (erd3 l).1 ++ numB (erd4 l).1 ++ numB (erd5 l).1 := by
    unfold evB erdX
    simp only
    rw [w2, w3, Int.toNat_natCast, Int.toNat_natCast, Int.toNat_natCast]
  rw [hX]
  refine Eq.trans ?_ hall
  rw [q5, q4, q3, q2, q1, List.take_zero]

/-- WITHOUT ITS LAST BYTE IT IS NONE. -/
theorem erd_less (x : Ev) (hm : x.May) : erdE ((evB x).take ((evB x).length - 1)) ≠ 0 := by
  have hk := May.kind hm
  obtain ⟨-, -, t0, t1, s0, s1, a0, a1, b0, b1⟩ := hm
  have hl := numB_length x.b.toNat
  obtain ⟨D, hD⟩ : ∃ D, [] ++ numB x.kind.toNat ++ numB x.time.toNat ++ numB x.seq.toNat ++ numB x.a.toNat = D := ⟨_, rfl⟩
  have e0 : evB x = D ++ numB x.b.toNat := by rw [← hD]; rfl
  obtain ⟨L, hL⟩ : ∃ L, (evB x).take ((evB x).length - 1) = L := ⟨_, rfl⟩
  have eL : L = D ++ (numB x.b.toNat).take ((numB x.b.toNat).length - 1) := by
    rw [← hL, e0, List.take_append, List.length_append]
    rw [List.take_of_length_le (by omega), show D.length + (numB x.b.toNat).length - 1 - D.length = (numB x.b.toNat).length - 1 by omega]
  have e : L = [] ++ numB x.kind.toNat ++ numB x.time.toNat ++ numB x.seq.toNat ++ numB x.a.toNat ++ (numB x.b.toNat).take ((numB x.b.toNat).length - 1) := by rw [eL, ← hD]
  rw [hL]
  have h1 : erd1 L = (x.kind.toNat, ([] ++ numB x.kind.toNat).length, 0) := count_at L [] (numB x.time.toNat ++ numB x.seq.toNat ++ numB x.a.toNat ++ (numB x.b.toNat).take ((numB x.b.toNat).length - 1)) _ 12 (by omega) (by omega) (by rw [e]; simp only [List.append_assoc])
  have h2 : erd2 L = (x.time.toNat, ([] ++ numB x.kind.toNat ++ numB x.time.toNat).length, 0) := by
    unfold erd2; rw [h1]
    exact num_at L _ (numB x.seq.toNat ++ numB x.a.toNat ++ (numB x.b.toNat).take ((numB x.b.toNat).length - 1)) _ (by omega) (by rw [e]; simp only [List.append_assoc])
  have h3 : erd3 L = (x.seq.toNat, ([] ++ numB x.kind.toNat ++ numB x.time.toNat ++ numB x.seq.toNat).length, 0) := by
    unfold erd3; rw [h2]
    exact num_at L _ (numB x.a.toNat ++ (numB x.b.toNat).take ((numB x.b.toNat).length - 1)) _ (by omega) (by rw [e]; simp only [List.append_assoc])
  have h4 : erd4 L = (x.a.toNat, D.length, 0) := by
    unfold erd4; rw [h3, ← hD]
    exact count_at L _ ((numB x.b.toNat).take ((numB x.b.toNat).length - 1)) _ 1048576 (by omega) (by omega) (by rw [e])
  have h5 : (erd5 L).2.2 ≠ 0 := by
    unfold erd5; rw [h4]
    refine count_err _ _ _ _ ?_
    unfold numSt
    rw [if_pos rfl]
    simp only
    rw [eL, List.drop_left, numRd_short x.b.toNat (by omega) _ (by omega)]
    decide
  exact end_err _ _ _ h5
end Go.Proofs.YthmogabonfkmhaaGreatDoor
