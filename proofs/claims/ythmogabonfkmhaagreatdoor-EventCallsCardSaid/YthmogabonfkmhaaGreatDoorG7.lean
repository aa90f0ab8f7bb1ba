
/- Text of an event is read as it (pure). -/
import Derived.Test.YthmogabonfkmhaaGreatDoorF6
import Derived.Test.YthmogabonfkmhaaGreatDoorF5
namespace Go.Proofs.YthmogabonfkmhaaGreatDoor
open Go.RowKit
set_option linter.unusedSimpArgs false
set_option linter.unusedVariables false
set_option maxRecDepth 100000

theorem idx_hit : ∀ (p r : List UInt8), 32 ∉ p → Lib.index (p ++ 32 :: r) [32] = (p.length : Int)
  | [], r, _ => by simp [Lib.index, List.isPrefixOf]
  | b :: p, r, h => by
    have h1 : (32 : UInt8) ≠ b := fun e => h (by rw [e]; exact List.mem_cons_self)
    have h2 : 32 ∉ p := fun e => h (List.mem_cons_of_mem _ e)
    have ih := idx_hit p r h2
    have hp : ([32] : List UInt8).isPrefixOf (b :: (p ++ 32 :: r)) = false := by
      simp only [List.isPrefixOf, Bool.and_true]
      exact beq_eq_false_iff_ne.2 h1
    rw [List.cons_append]
    unfold Lib.index
    rw [hp, ih]
    rw [if_neg (by decide), if_neg (by simp only [beq_iff_eq]; omega), List.length_cons]
    omega
theorem idx_none : ∀ (p : List UInt8), 32 ∉ p → Lib.index p [32] = -1
  | [], _ => by simp [Lib.index]
  | b :: p, h => by
    have h1 : (32 : UInt8) ≠ b := fun e => h (by rw [e]; exact List.mem_cons_self)
    have h2 : 32 ∉ p := fun e => h (List.mem_cons_of_mem _ e)
    have ih := idx_none p h2
    have hp : ([32] : List UInt8).isPrefixOf (b :: p) = false := by
      simp only [List.isPrefixOf, Bool.and_true]
      exact beq_eq_false_iff_ne.2 h1
    unfold Lib.index
    rw [hp, ih]
    rfl
theorem split_hit (k : Nat) (p r : List UInt8) (h : 32 ∉ p) : Lib.splitK [32] 0 (k + 1) (p ++ 32 :: r) = p :: Lib.splitK [32] 0 k r := by
  have hi := idx_hit p r h
  rw [Lib.splitK, hi, if_neg (by simp only [beq_iff_eq]; omega)]
  simp only [Int.toNat_natCast, Nat.add_zero, List.length_cons, List.length_nil, Nat.zero_add]
  rw [List.take_left, show (p ++ 32 :: r).drop (p.length + 1) = r by rw [← List.drop_drop, List.drop_left]; rfl]
theorem split_none (k : Nat) (p : List UInt8) (h : 32 ∉ p) : Lib.splitK [32] 0 k p = [p] := by
  cases k with
  | zero => rfl
  | succ k => rw [Lib.splitK, idx_none p h]; rfl
theorem join_five (a b c d e : List UInt8) : Lib.join [a, b, c, d, e] [32] = a ++ 32 :: (b ++ 32 :: (c ++ 32 :: (d ++ 32 :: e))) := by
  simp [Lib.join, List.intercalate, List.intersperse]
theorem split_five (a b c d e : List UInt8) (ha : 32 ∉ a) (hb : 32 ∉ b) (hc : 32 ∉ c) (hd : 32 ∉ d) (he : 32 ∉ e) : Lib.splitK [32] 0 5 (Lib.join [a, b, c, d, e] [32]) = [a, b, c, d, e] := by
  rw [join_five, split_hit _ _ _ ha, split_hit _ _ _ hb, split_hit _ _ _ hc, split_hit _ _ _ hd, split_none _ _ he]

/-- Digits. -/
theorem dig_of (n : Nat) (h : n < 10) : (UInt8.ofNat (48 + n)).toNat = 48 + n := by
  rw [UInt8.toNat_ofNat']; omega
theorem dec_digits : ∀ (n u : Nat), u ≤ n → ∀ c ∈ Lib.decDigits u, 48 ≤ c.toNat ∧ c.toNat ≤ 57
  | n, u, hn, c, hc => by
    rw [Lib.decDigits] at hc
    split at hc
    · rename_i h
      have hc := List.mem_singleton.1 hc
      subst hc
      rw [dig_of u h]; omega
    · rename_i h
      rcases List.mem_append.1 hc with hc | hc
      · cases n with
        | zero => omega
        | succ n => exact dec_digits n (u / 10) (by omega) c hc
      · have hc := List.mem_singleton.1 hc
        subst hc
        rw [dig_of (u % 10) (by omega)]; omega
theorem dec_no_blank (u : Nat) : 32 ∉ Lib.decDigits u := fun h => by
  have := dec_digits u u (Nat.le_refl _) 32 h
  simp at this
theorem itoa_no_blank (n : Int) (h : 0 ≤ n) : 32 ∉ Lib.itoa n := by
  unfold Lib.itoa
  rw [if_neg (by omega)]
  exact dec_no_blank _

theorem parse_app (M : Nat) : ∀ (l r : List UInt8) (acc v : Nat), Lib.parseUintM M acc l = .ok v → Lib.parseUintM M acc (l ++ r) = Lib.parseUintM M v r
  | [], r, acc, v, h => by
    unfold Lib.parseUintM at h
    cases h
    rfl
  | c :: l, r, acc, v, h => by
    unfold Lib.parseUintM at h
    rw [List.cons_append]
    conv => lhs; unfold Lib.parseUintM
    split at h
    · rename_i h1
      rw [if_pos h1]
      split at h
      · cases h
      · rename_i h2
        rw [if_neg h2]
        split at h
        · cases h
        · rename_i h3
          rw [if_neg h3]
          exact parse_app M l r _ v h
    · cases h
theorem parse_one (M acc d : Nat) (hd : d < 10) (h1 : acc < 1844674407370955162) (h2 : acc * 10 + d ≤ M) : Lib.parseUintM M acc [UInt8.ofNat (48 + d)] = .ok (acc * 10 + d) := by
  unfold Lib.parseUintM
  rw [dig_of d hd, if_pos (by omega), if_neg (by omega), if_neg (by omega)]
  unfold Lib.parseUintM
  rw [show 48 + d - 48 = d by omega]
theorem parse_dec (M : Nat) : ∀ (n u : Nat), u ≤ n → u ≤ M → u < 18446744073709551610 → Lib.parseUintM M 0 (Lib.decDigits u) = .ok u
  | n, u, hn, hM, hu => by
    rw [Lib.decDigits]
    split
    · rename_i h
      have := parse_one M 0 u h (by omega) (by omega)
      simpa using this
    · rename_i h
      cases n with
      | zero => omega
      | succ n =>
        have ih := parse_dec M n (u / 10) (by omega) (by omega) (by omega)
        rw [parse_app M _ _ _ _ ih, parse_one M (u / 10) (u % 10) (by omega) (by omega) (by omega)]
        rw [show u / 10 * 10 + u % 10 = u by omega]

theorem val_itoa (n : Int) (h0 : 0 ≤ n) (h1 : n ≤ 1099511627776) : valOf (Lib.itoa n) = n := by
  obtain ⟨u, rfl⟩ : ∃ u : Nat, n = u := ⟨n.toNat, by omega⟩
  have e : Lib.itoa (u : Int) = Lib.decDigits u := by unfold Lib.itoa; rw [if_neg (by omega)]; rfl
  rw [e]
  have hp := parse_dec (2 ^ 64 - 1) u u (Nat.le_refl _) (by omega) (by omega)
  have hd := dec_digits u u (Nat.le_refl _)
  obtain ⟨l, hl⟩ : ∃ l, Lib.decDigits u = l := ⟨_, rfl⟩
  rw [hl] at hp hd ⊢
  have hne : l ≠ [] := fun h => by
    have := Lib.decDigits_length u
    rw [hl, h] at this
    have := Lib.nDigits_pos u
    simp at *
    omega
  cases l with
  | nil => exact absurd rfl hne
  | cons c r =>
    have hc := hd c List.mem_cons_self
    have hB : Lib.parseIntB 64 (c :: r) = .ok (u : Int) := by
      unfold Lib.parseIntB
      simp only
      rw [if_neg (by omega)]
      unfold Lib.parseUintB
      rw [if_neg (by simp), hp]
      simp only
      rw [if_neg (by omega), if_neg (by omega), if_neg (by omega)]
    unfold valOf
    rw [hB]

theorem kind_name : ∀ i : Fin 13, kindN (nameB i.val) 0 13 = i.val := by decide +kernel
theorem name_no_blank : ∀ i : Fin 13, 32 ∉ (nameB i.val).data.toList := by decide +kernel

/-- WHAT IS TOLD AS A TEXT IS READ AGAIN. -/
theorem told_text (x : Ev) (hm : x.May) : Told ⟨(textE x).toArray⟩ ∧ sayE ⟨(textE x).toArray⟩ = x := by
  have hk := May.kind hm
  have hc := hm.2.1
  have hm' := hm
  obtain ⟨-, -, t0, t1, s0, s1, a0, a1, b0, b1⟩ := hm'
  obtain ⟨kn, hkn⟩ : ∃ n : Nat, x.kind = n := ⟨x.kind.toNat, by omega⟩
  have hnm : nameOf x.kind = nameB kn := by unfold nameOf; rw [if_pos (by omega), hkn]; rfl
  have nb := name_no_blank ⟨kn, by omega⟩
  obtain ⟨s, hs⟩ : ∃ s : ByteArray, s = ⟨(textE x).toArray⟩ := ⟨_, rfl⟩
  have hsd : s.data.toList = textE x := by rw [hs]
  have hlen : s.size = (textE x).length := by rw [hs]; simp [ByteArray.size]
  have hlo : 5 ≤ s.size := by
    rw [hlen]
    unfold textE
    rw [Lib.join_length]
    have := Lib.nDigits_pos x.time.toNat
    have l0 : (Lib.itoa x.time).length = Lib.nDigits x.time.toNat := by unfold Lib.itoa; rw [if_neg (by omega), Lib.decDigits_length]
    simp only [Lib.lens, List.map_cons, List.map_nil, List.sum_cons, List.sum_nil, List.length_cons, List.length_nil]
    omega
  have hw : (wordsOf s).map (·.data.toList) = [Lib.itoa x.time, (nameB kn).data.toList, Lib.itoa x.seq, Lib.itoa x.a, Lib.itoa x.b] := by
    unfold wordsOf
    rw [Lib.splitB_data, hsd, show min 6 (s.size + 1) - 1 = 5 by omega]
    unfold textE
    rw [hnm]
    exact split_five _ _ _ _ _ (itoa_no_blank _ t0) nb (itoa_no_blank _ s0) (itoa_no_blank _ a0) (itoa_no_blank _ b0)
  have h5 : (wordsOf s).length = 5 := by
    have := congrArg List.length hw
    simpa using this
  have hwd : ∀ k, k < 5 → (wd s k).data.toList = [Lib.itoa x.time, (nameB kn).data.toList, Lib.itoa x.seq, Lib.itoa x.a, Lib.itoa x.b].getD k [] := fun k hk => by
    rw [← hw]
    unfold wd
    simp only [List.getD_eq_getElem?_getD, List.getElem?_map]
    rw [List.getElem?_eq_getElem (by omega)]
    rfl
  have w1 : wd s 1 = nameB kn := Go.WideShapes.bytes_inj (hwd 1 (by omega))
  have hsay : sayE s = x := by
    unfold sayE
    rw [hwd 0 (by omega), hwd 2 (by omega), hwd 3 (by omega), hwd 4 (by omega), w1]
    have hkO : kindO (nameB kn) = x.kind := by
      unfold kindO
      rw [kind_name ⟨kn, by omega⟩, hkn]
    rw [hkO]
    show (⟨valOf (Lib.itoa x.time), chipOf x.kind, valOf (Lib.itoa x.seq), x.kind, valOf (Lib.itoa x.a), valOf (Lib.itoa x.b)⟩ : Ev) = x
    rw [val_itoa _ t0 t1, val_itoa _ s0 (by omega), val_itoa _ a0 (by omega), val_itoa _ b0 (by omega), ← hc]
  rw [← hs]
  exact ⟨⟨h5, by rw [hsay]; exact hm, by rw [hsay, hsd]⟩, hsay⟩
end Go.Proofs.YthmogabonfkmhaaGreatDoor
