
/- Bytes of touches are read as them; what is read has just these bytes (pure). -/
import Derived.Test.YtdmjfadeffcidaaT11
import Derived.Test.YtdmjfadeffcidaaT18
namespace Go.Proofs.Ytdmjfadeffcidaa
open Go.RowKit
set_option linter.unusedSimpArgs false
set_option linter.unusedVariables false
set_option maxRecDepth 100000

theorem num_at17 (L done r : List Int) (x : Nat) (hx : x < 18446744073709551616) (h : L = done ++ numB x ++ r) : numSt L done.length 0 = (x, (done ++ numB x).length, 0) := by
  unfold numSt
  rw [if_pos rfl, h, List.append_assoc, List.drop_left, numRd_numB x hx, List.length_append]
theorem count_at17 (L done r : List Int) (x : Nat) (most : Int) (hx : x < 18446744073709551616) (hm : (x : Int) ≤ most) (h : L = done ++ numB x ++ r) : countSt L done.length 0 most = (x, (done ++ numB x).length, 0) := by
  unfold countSt
  rw [num_at17 L done r x hx h]
  rw [if_neg (by simp only; omega)]
theorem wrap_small17 (n : Nat) (h : n ≤ 9223372036854775807) : wrap64 (n : Int) = n := by
  unfold wrap64; omega
theorem wrap_nat17 (v : Nat) (h : v < 18446744073709551616) (h0 : 0 ≤ wrap64 (v : Int)) : (wrap64 (v : Int)).toNat = v := by
  unfold wrap64 at *; omega
/-- All but the last number of a touch. -/
def tcB3 (x : Tc) : List Int := numB x.time.toNat ++ numB x.what.toNat ++ numB x.key.toNat
theorem tcB_on (x : Tc) : tcB x = tcB3 x ++ [if x.on then 1 else 0] := by
  unfold tcB tcB3
  cases x.on <;> rfl

theorem tch_at3 (L done r : List Int) (x : Tc) (hx : x.Fine) (h0 : 0 ≤ x.time) (h : L = done ++ tcB3 x ++ r) :
    (tch1 L done.length 0).1 = x.time.toNat ∧ (tch2 L done.length 0).1 = x.what.toNat ∧ tch3 L done.length 0 = (x.key.toNat, (done ++ tcB3 x).length, 0) := by
  have hb : x.time ≤ 1099511627776 ∧ 1 ≤ x.what ∧ x.what ≤ 2 ∧ 0 ≤ x.key ∧ x.key ≤ 39 := by
    rcases hx with ⟨a, b, c, d⟩ | ⟨a, b, c⟩ <;> omega
  have e : L = done ++ numB x.time.toNat ++ numB x.what.toNat ++ numB x.key.toNat ++ r := by rw [h]; unfold tcB3; simp only [List.append_assoc]
  have h1 : tch1 L done.length 0 = (x.time.toNat, (done ++ numB x.time.toNat).length, 0) := num_at17 L done (numB x.what.toNat ++ numB x.key.toNat ++ r) _ (by omega) (by rw [e]; simp only [List.append_assoc])
  have h2 : tch2 L done.length 0 = (x.what.toNat, (done ++ numB x.time.toNat ++ numB x.what.toNat).length, 0) := by
    unfold tch2; rw [h1]
    exact count_at17 L _ (numB x.key.toNat ++ r) _ 2 (by omega) (by omega) (by rw [e]; simp only [List.append_assoc])
  have h3 : tch3 L done.length 0 = (x.key.toNat, (done ++ tcB3 x).length, 0) := by
    unfold tch3; rw [h2]
    rw [count_at17 L _ r _ 39 (by omega) (by omega) e]
    unfold tcB3; simp only [List.append_assoc]
  exact ⟨by rw [h1], by rw [h2], h3⟩
theorem tch_at (L done r : List Int) (x : Tc) (hx : x.Fine) (h0 : 0 ≤ x.time) (h : L = done ++ tcB x ++ r) :
    (tch4 L done.length 0).2 = ((done ++ tcB x).length, 0) ∧ tchX L done.length 0 = x := by
  have hb : x.time ≤ 1099511627776 ∧ 1 ≤ x.what ∧ x.what ≤ 2 ∧ 0 ≤ x.key ∧ x.key ≤ 39 := by
    rcases hx with ⟨a, b, c, d⟩ | ⟨a, b, c⟩ <;> omega
  have e : L = done ++ tcB3 x ++ numB (if x.on then 1 else 0) ++ r := by
    rw [h, tcB_on]
    cases x.on <;> simp [numB]
  obtain ⟨h1, h2, h3⟩ := tch_at3 L done (numB (if x.on then 1 else 0) ++ r) x hx h0 (by rw [e]; simp only [List.append_assoc])
  have h4 : tch4 L done.length 0 = ((if x.on then 1 else 0), (done ++ tcB x).length, 0) := by
    unfold tch4; rw [h3]
    rw [count_at17 L _ r _ 1 (by split <;> omega) (by split <;> omega) e]
    rw [tcB_on]
    cases x.on <;> simp [numB, Nat.add_assoc]
  refine ⟨by rw [h4], ?_⟩
  unfold tchX
  rw [h1, h2, h3, h4, wrap_small17 _ (by omega)]
  obtain ⟨t, k, y, n⟩ := x
  simp only at *
  rw [Int.toNat_of_nonneg h0, Int.toNat_of_nonneg (by omega : 0 ≤ k), Int.toNat_of_nonneg (by omega : 0 ≤ y)]
  cases n <;> rfl

/-- Where a reader stands behind the first k of a list's touches. -/
theorem tst_at (L : List Int) (l : List Tc) (hg : Good l) (m : Nat) (hm : m ≤ l.length) (r : List Int) (h : L = numB l.length ++ tcsB (l.take m) ++ r) :
    ∀ k, k ≤ m → tst L k = ((numB l.length ++ tcsB (l.take k)).length, 0) ∧ txs L k = l.take k
  | 0, _ => by
    have h16 := hg.1
    have := count_at17 L [] (tcsB (l.take m) ++ r) l.length 65536 (by omega) (by omega) (by rw [h]; simp only [List.nil_append, List.append_assoc])
    unfold tst
    rw [show ([] : List Int).length = 0 from rfl] at this
    rw [this]
    simp [tcsB, txs]
  | k + 1, hk => by
    obtain ⟨h1, h2⟩ := tst_at L l hg m hm r h k (by omega)
    have hkl : k < l.length := by omega
    have hs := tcsB_take l k hkl
    have hrest : ∃ q, tcsB (l.take m) = tcsB (l.take k) ++ tcB (l.getD k tcZ) ++ q := by
      refine ⟨tcsB ((l.take m).drop (k + 1)), ?_⟩
      rw [← hs]
      have : l.take m = l.take (k + 1) ++ (l.take m).drop (k + 1) := by
        conv => lhs; rw [← List.take_append_drop (k + 1) (l.take m)]
        rw [List.take_take, Nat.min_eq_left (by omega)]
      conv => lhs; rw [this]
      unfold tcsB
      rw [List.flatMap_append]
    obtain ⟨q, hq⟩ := hrest
    have ht := tch_at L (numB l.length ++ tcsB (l.take k)) (q ++ r) (l.getD k tcZ) (hg.2 k hkl).1 (good_low hg.2 k hkl) (by rw [h, hq]; simp only [List.append_assoc])
    simp only [tst, txs]
    rw [h1, h2]
    simp only
    rw [ht.1, ht.2, hs, tc_take_more hkl]
    exact ⟨by simp only [List.append_assoc], rfl⟩
theorem tcnt_at (L : List Int) (l : List Tc) (hg : Good l) (r : List Int) (h : L = numB l.length ++ r) : tcnt L = l.length := by
  have h16 := hg.1
  have := count_at17 L [] r l.length 65536 (by omega) (by omega) (by rw [h]; simp only [List.nil_append])
  unfold tcnt
  rw [show ([] : List Int).length = 0 from rfl] at this
  rw [this]

theorem read_self {l : List Tc} (hg : Good l) : readE (bytesT l) = 0 ∧ readT (bytesT l) = l := by
  have h0 : bytesT l = numB l.length ++ tcsB (l.take l.length) ++ [] := by rw [List.take_length, List.append_nil]; rfl
  have hc := tcnt_at (bytesT l) l hg (tcsB l) rfl
  obtain ⟨h1, h2⟩ := tst_at (bytesT l) l hg l.length (Nat.le_refl _) [] h0 l.length (Nat.le_refl _)
  rw [List.take_length] at h1 h2
  have hT : readT (bytesT l) = l := by unfold readT; rw [hc, h2]
  refine ⟨?_, hT⟩
  unfold readE
  rw [if_pos]
  unfold TGood
  rw [hc, h1, h2]
  refine ⟨?_, hg⟩
  unfold endSt
  rw [if_neg]
  unfold bytesT
  simp
theorem read_more {l : List Tc} (hg : Good l) (v : Int) : readE (bytesT l ++ [v]) = 4 := by
  have h0 : bytesT l ++ [v] = numB l.length ++ tcsB (l.take l.length) ++ [v] := by rw [List.take_length]; rfl
  have hc := tcnt_at (bytesT l ++ [v]) l hg (tcsB l ++ [v]) (by unfold bytesT; simp only [List.append_assoc])
  obtain ⟨h1, h2⟩ := tst_at (bytesT l ++ [v]) l hg l.length (Nat.le_refl _) [v] h0 l.length (Nat.le_refl _)
  unfold readE
  rw [if_neg]
  unfold TGood
  rw [hc, h1]
  intro h
  have := h.1
  rw [List.take_length] at this
  unfold endSt bytesT at this
  simp at this
theorem count_none (L : List Int) (p : Nat) (most : Int) (h : L.length ≤ p) : (countSt L p 0 most).2.2 ≠ 0 := by
  have h1 : numSt L p 0 = (0, p + 0, 5) := by
    unfold numSt
    rw [if_pos rfl, List.drop_eq_nil_of_le h]
    rfl
  unfold countSt
  rw [h1]
  split <;> simp
theorem read_less {l : List Tc} (hg : Good l) : readE ((bytesT l).take ((bytesT l).length - 1)) = 4 := by
  by_cases hl : l.length = 0
  · have : l = [] := List.eq_nil_of_length_eq_zero hl
    subst this
    decide
  · obtain ⟨m, hm⟩ : ∃ m, l.length = m + 1 := ⟨l.length - 1, by omega⟩
    have hml : m < l.length := by omega
    have hs := tcsB_take l m hml
    have e0 : bytesT l = numB l.length ++ tcsB (l.take m) ++ tcB3 (l.getD m tcZ) ++ [if (l.getD m tcZ).on then 1 else 0] := by
      unfold bytesT
      have : tcsB l = tcsB (l.take (m + 1)) := by rw [← hm, List.take_length]
      rw [this, hs, tcB_on]
      simp only [List.append_assoc]
    have e1 : (bytesT l).take ((bytesT l).length - 1) = numB l.length ++ tcsB (l.take m) ++ tcB3 (l.getD m tcZ) := by
      rw [e0]
      rw [List.length_append, List.length_singleton, Nat.add_sub_cancel, List.take_left]
    rw [e1]
    have hc := tcnt_at (numB l.length ++ tcsB (l.take m) ++ tcB3 (l.getD m tcZ)) l hg (tcsB (l.take m) ++ tcB3 (l.getD m tcZ)) (by simp only [List.append_assoc])
    obtain ⟨h1, _⟩ := tst_at (numB l.length ++ tcsB (l.take m) ++ tcB3 (l.getD m tcZ)) l hg m (by omega) _ rfl m (Nat.le_refl _)
    obtain ⟨_, _, h3⟩ := tch_at3 (numB l.length ++ tcsB (l.take m) ++ tcB3 (l.getD m tcZ)) (numB l.length ++ tcsB (l.take m)) [] (l.getD m tcZ) (hg.2 m hml).1 (good_low hg.2 m hml) (by simp only [List.append_nil])
    refine read_bad _ (m + 1) (by rw [hc]; omega) ?_
    simp only [tst]
    rw [h1]
    simp only
    unfold tch4
    rw [h3]
    exact count_none _ _ _ (Nat.le_refl _)

theorem end_ok17 (l : List Int) (p : Nat) (e : Int) (h : endSt l p e = 0) : e = 0 ∧ l.length ≤ p := by
  unfold endSt at h
  split at h
  · simp at h
  · rename_i k
    exact ⟨h, by omega⟩
theorem num_ok17 (l : List Int) (hb : AllB l) (p : Nat) (e : Int) (h : (numSt l p e).2.2 = 0) : e = 0 ∧ l.take (numSt l p e).2.1 = l.take p ++ numB (numSt l p e).1 := by
  have he : e = 0 := Decidable.byContradiction fun k => num_bad l p e k h
  subst he
  refine ⟨rfl, ?_⟩
  unfold numSt at h ⊢
  rw [if_pos rfl] at h ⊢
  simp only at h ⊢
  have := numB_numRd (l.drop p) (hb.drop p) h
  rw [this.1, List.take_add]
theorem count_ok17 (l : List Int) (hb : AllB l) (p : Nat) (e most : Int) (h : (countSt l p e most).2.2 = 0) : e = 0 ∧ l.take (countSt l p e most).2.1 = l.take p ++ numB (countSt l p e most).1 ∧ ((countSt l p e most).1 : Int) ≤ max most 0 := by
  unfold countSt at h ⊢
  split at h
  · simp at h
  · rename_i k
    rw [if_neg k]
    obtain ⟨h1, h2⟩ := num_ok17 l hb p e h
    exact ⟨h1, h2, by omega⟩
theorem tch_ok (L : List Int) (hb : AllB L) (p : Nat) (e : Int) (h : (tch4 L p e).2.2 = 0) (h0 : 0 ≤ (tchX L p e).time) : e = 0 ∧ L.take (tch4 L p e).2.1 = L.take p ++ tcB (tchX L p e) := by
  obtain ⟨e3, k4, m4⟩ := count_ok17 L hb _ _ _ (show (countSt L (tch3 L p e).2.1 (tch3 L p e).2.2 1).2.2 = 0 from h)
  obtain ⟨e2, k3, m3⟩ := count_ok17 L hb _ _ _ (show (countSt L (tch2 L p e).2.1 (tch2 L p e).2.2 39).2.2 = 0 from e3)
  obtain ⟨e1, k2, m2⟩ := count_ok17 L hb _ _ _ (show (countSt L (tch1 L p e).2.1 (tch1 L p e).2.2 2).2.2 = 0 from e2)
  obtain ⟨e0, k1⟩ := num_ok17 L hb _ _ (show (numSt L p e).2.2 = 0 from e1)
  refine ⟨e0, ?_⟩
  have q4 : L.take (tch4 L p e).2.1 = L.take (tch3 L p e).2.1 ++ numB (tch4 L p e).1 := k4
  have q3 : L.take (tch3 L p e).2.1 = L.take (tch2 L p e).2.1 ++ numB (tch3 L p e).1 := k3
  have q2 : L.take (tch2 L p e).2.1 = L.take (tch1 L p e).2.1 ++ numB (tch2 L p e).1 := k2
  have q1 : L.take (tch1 L p e).2.1 = L.take p ++ numB (tch1 L p e).1 := k1
  have n4 : ((tch4 L p e).1 : Int) ≤ max 1 0 := m4
  have b1 : (tch1 L p e).1 < 18446744073709551616 := numSt_lt _ _ _ hb
  have w1 := wrap_nat17 _ b1 (by unfold tchX at h0; exact h0)
  rw [q4, q3, q2, q1]
  unfold tcB tchX
  simp only
  rw [w1, Int.toNat_natCast, Int.toNat_natCast]
  have hon : (if (((tch4 L p e).1 : Int) == 1) = true then 1 else 0) = (tch4 L p e).1 := by
    by_cases h1 : (tch4 L p e).1 = 1
    · rw [h1]; rfl
    · have h2 : (tch4 L p e).1 = 0 := by omega
      rw [h2]; rfl
  rw [hon]
  simp only [List.append_assoc]
theorem txs_get (L : List Int) : ∀ n k, k < n → (txs L n).getD k tcZ = tchX L (tst L k).1 (tst L k).2
  | n + 1, k, h => by
    have hl := txs_len L n
    simp only [txs]
    by_cases e : k = n
    · subst e
      simp [List.getD_eq_getElem?_getD, hl]
    · have := txs_get L n k (by omega)
      simp only [List.getD_eq_getElem?_getD] at this ⊢
      rw [List.getElem?_append_left (by omega)]
      exact this
theorem tst_ok (L : List Int) (hb : AllB L) : ∀ k, (∀ i, i < k → 0 ≤ (tchX L (tst L i).1 (tst L i).2).time) → (tst L k).2 = 0 → L.take (tst L k).1 = numB (tcnt L) ++ tcsB (txs L k)
  | 0, _, h => by
    obtain ⟨_, h2, _⟩ := count_ok17 L hb 0 0 65536 h
    have : L.take (tst L 0).1 = L.take 0 ++ numB (tcnt L) := h2
    rw [this]
    simp [tcsB, txs]
  | k + 1, h0, h => by
    obtain ⟨h1, h2⟩ := tch_ok L hb _ _ h (h0 k (Nat.lt_succ_self k))
    have ih := tst_ok L hb k (fun i hi => h0 i (by omega)) h1
    have : L.take (tst L (k + 1)).1 = L.take (tst L k).1 ++ tcB (tchX L (tst L k).1 (tst L k).2) := h2
    rw [this, ih]
    simp only [txs]
    unfold tcsB
    rw [List.flatMap_append]
    simp
/-- WHAT IS READ HAS JUST THESE BYTES. -/
theorem read_back (L : List Int) (hb : AllB L) (hz : readE L = 0) : Good (readT L) ∧ bytesT (readT L) = L := by
  have hg : TGood L := by
    unfold readE at hz
    split at hz
    · assumption
    · cases hz
  obtain ⟨h1, h2⟩ := hg
  obtain ⟨e0, hp⟩ := end_ok17 _ _ _ h1
  refine ⟨h2, ?_⟩
  have hl := txs_len L (tcnt L)
  have h3 := tst_ok L hb (tcnt L) (fun i hi => by
    rw [← txs_get L (tcnt L) i hi]
    exact good_low h2.2 i (by rw [hl]; exact hi)) e0
  rw [List.take_of_length_le hp] at h3
  unfold bytesT readT
  rw [hl]
  exact h3.symm
theorem bytesT_pos (l : List Tc) : 1 ≤ (bytesT l).length := by
  unfold bytesT
  have := (numB_length l.length).1
  simp only [List.length_append]
  omega
theorem bytesT_le (l : List Tc) : (bytesT l).length ≤ 9 + l.length * 36 := by
  unfold bytesT
  have := (numB_length l.length).2
  have h2 := tcsB_le l
  simp only [List.length_append]
  omega
theorem bytesT_allB (l : List Tc) : AllB (bytesT l) := by
  unfold bytesT
  refine AllB.append (numB_allB _) ?_
  intro b hb
  obtain ⟨x, _, hx⟩ := List.mem_flatMap.1 hb
  unfold tcB at hx
  simp only [List.mem_append] at hx
  rcases hx with ((h | h) | h) | h
  · exact numB_allB _ b h
  · exact numB_allB _ b h
  · exact numB_allB _ b h
  · exact numB_allB _ b h
end Go.Proofs.Ytdmjfadeffcidaa
