/-   -/
import Derived.Lib.BitFns
import Derived.Test.YtofenjloieagaaaZB
import Derived.Shelf.Strconv.Itoa0
import Derived.Test.YtofenjloieagaaaProg
namespace Go.Proofs.Ytofenjloieagaaa

/-- The bytes of x, the lowest first, the highest not 0: at most f of them. -/
def digF : Nat → Nat → List Int
  | 0, _ => []
  | f + 1, x => if x = 0 then [] else ((x % 256 : Nat) : Int) :: digF f (x / 256)

def dig (x : Nat) : List Int := digF 8 x

/-- A number's bytes. -/
def numB (x : Nat) : List Int := if x ≤ 247 then [(x : Int)] else ((247 + (dig x).length : Nat) : Int) :: dig x

theorem digF_zero (f : Nat) : digF f 0 = [] := by cases f <;> simp [digF]
theorem digF_pos (f x : Nat) (h : x ≠ 0) : digF (f + 1) x = ((x % 256 : Nat) : Int) :: digF f (x / 256) := by simp [digF, h]

theorem digF_allB : ∀ (f x : Nat), AllB (digF f x)
  | 0, _ => AllB.nil
  | f + 1, x => by
    unfold digF
    split
    · exact AllB.nil
    · exact AllB.cons (by omega) (by omega) (digF_allB f _)

theorem digF_length : ∀ (f x : Nat), (digF f x).length ≤ f
  | 0, _ => Nat.le_refl _
  | f + 1, x => by
    unfold digF
    split
    · simp
    · have := digF_length f (x / 256); simp; omega

theorem dig_allB (x : Nat) : AllB (dig x) := digF_allB 8 x
theorem dig_length (x : Nat) : (dig x).length ≤ 8 := digF_length 8 x
theorem numB_allB (x : Nat) : AllB (numB x) := by
  unfold numB
  split
  · exact AllB.one (by omega) (by omega)
  · have := dig_length x; exact AllB.cons (by omega) (by omega) (dig_allB x)
theorem numB_length (x : Nat) : 1 ≤ (numB x).length ∧ (numB x).length ≤ 9 := by
  unfold numB
  split
  · simp
  · have := dig_length x; simp; omega

/-- How many bytes: by the number of bits. -/
theorem digF_bits : ∀ (f x : Nat), f ≤ 8 → x < 256 ^ f → (digF f x).length = (Go.Lib.bitLen x + 7) / 8
  | 0, x, _, h => by
    have : x = 0 := by simpa using h
    subst this; rfl
  | f + 1, x, hf, h => by
    by_cases h0 : x = 0
    · subst h0; rw [digF_zero]; rfl
    · rw [digF_pos f x h0, List.length_cons]
      have hlt : x / 256 < 256 ^ f := by rw [Nat.pow_succ] at h; omega
      rw [digF_bits f (x / 256) (by omega) hlt]
      by_cases h1 : 256 ≤ x
      · have hb : x < 18446744073709551616 := by
          refine Nat.lt_of_lt_of_le h ?_
          exact Nat.le_trans (Nat.pow_le_pow_right (by decide) hf) (by decide)
        rw [Go.Lib.bitLen_shift8 x h1 hb]; omega
      · have h2 : x / 256 = 0 := by omega
        rw [h2]
        have h3 := Go.Lib.bitLen_le8 ⟨x, by omega⟩
        have h4 : 1 ≤ Go.Lib.bitLen x := by
          unfold Go.Lib.bitLen; simp [Go.Lib.bitLenAux, h0]
        have h5 : Go.Lib.bitLen 0 = 0 := rfl
        simp only [h5] at *; omega

theorem dig_bits (x : Nat) (h : x < 18446744073709551616) : (dig x).length = (Go.Lib.bitLen x + 7) / 8 := digF_bits 8 x (Nat.le_refl _) h

/-- What bytes, the lowest first, are as a number. -/
def leV : List Int → Nat
  | [] => 0
  | b :: l => b.toNat + 256 * leV l

theorem leV_digF : ∀ (f x : Nat), x < 256 ^ f → leV (digF f x) = x
  | 0, x, h => by have : x = 0 := by simpa using h
                  subst this; rfl
  | f + 1, x, h => by
    by_cases h0 : x = 0
    · subst h0; rw [digF_zero]; rfl
    · rw [digF_pos f x h0, leV, leV_digF f (x / 256) (by rw [Nat.pow_succ] at h; omega)]
      simp only [Int.toNat_natCast]; omega

theorem leV_dig (x : Nat) (h : x < 18446744073709551616) : leV (dig x) = x := leV_digF 8 x h

theorem leV_lt : ∀ (l : List Int), AllB l → leV l < 256 ^ l.length
  | [], _ => by simp [leV]
  | b :: l, h => by
    have h1 := h b (by simp)
    have h2 := leV_lt l (fun n hn => h n (by simp [hn]))
    rw [leV, List.length_cons, Nat.pow_succ]; omega

theorem leV_append : ∀ (l m : List Int), leV (l ++ m) = leV l + 256 ^ l.length * leV m
  | [], m => by simp [leV]
  | b :: l, m => by
    rw [List.cons_append, leV, leV_append l m, leV, List.length_cons, Nat.pow_succ, Nat.mul_add, ← Nat.mul_assoc, Nat.mul_comm 256 (256 ^ l.length), Nat.add_assoc]

theorem leV_snoc (l : List Int) (x : Int) : leV (l ++ [x]) = leV l + x.toNat * 256 ^ l.length := by
  rw [leV_append, leV, leV, Nat.mul_zero, Nat.add_zero, Nat.mul_comm]

/-- The bytes of a number whose highest is not 0 are its own. -/
theorem dig_leV : ∀ (f : Nat) (l : List Int), AllB l → l.length ≤ f → (l = [] ∨ l.getLastD 0 ≠ 0) → digF f (leV l) = l
  | _, [], _, _, _ => by rw [leV, digF_zero]
  | 0, b :: l, _, h, _ => by simp at h
  | f + 1, b :: l, hb, hl, hz => by
    have h1 := hb b (by simp)
    have hbl : AllB l := fun n hn => hb n (by simp [hn])
    have hz' : l = [] ∨ l.getLastD 0 ≠ 0 := by
      cases l with
      | nil => exact .inl rfl
      | cons c m => right; rcases hz with h | h
                    · cases h
                    · simpa using h
    have ih := dig_leV f l hbl (by simpa using hl) hz'
    have hne : leV (b :: l) ≠ 0 := by
      intro h0
      rw [leV] at h0
      have hb0 : b = 0 := by omega
      have hl0 : leV l = 0 := by omega
      rw [hl0, digF_zero] at ih
      subst ih
      rcases hz with h | h
      · cases h
      · simp [hb0] at h
    rw [digF_pos f _ hne, leV]
    have e1 : (b.toNat + 256 * leV l) % 256 = b.toNat := by omega
    have e2 : (b.toNat + 256 * leV l) / 256 = leV l := by omega
    rw [e1, e2, ih, Int.toNat_of_nonneg h1.1]

theorem digF_last : ∀ (f x : Nat), x ≠ 0 → x < 256 ^ f → (digF f x).getLastD 0 ≠ 0
  | 0, x, h0, h => by have : x = 0 := by simpa using h
                      exact absurd this h0
  | f + 1, x, h0, h => by
    rw [digF_pos f x h0]
    by_cases h1 : x / 256 = 0
    · rw [h1, digF_zero]; simp; omega
    · have := digF_last f (x / 256) h1 (by rw [Nat.pow_succ] at h; omega)
      cases hd : digF f (x / 256) with
      | nil => rw [hd] at this; simp at this
      | cons c m => rw [hd] at this; simpa using this

theorem dig_last (x : Nat) (h0 : x ≠ 0) (h : x < 18446744073709551616) : (dig x).getLastD 0 ≠ 0 := digF_last 8 x h0 h

theorem dig_ne_nil (x : Nat) (h : x ≠ 0) : dig x ≠ [] := by unfold dig; rw [digF_pos 7 x h]; simp

/-- A signed number as a number. -/
def foldZ (y : Int) : Nat := if 0 ≤ y then (2 * y).toNat else (-2 * y - 1).toNat
def unfoldN (n : Nat) : Int := if n % 2 = 0 then (n / 2 : Nat) else -((n / 2 : Nat) : Int) - 1
theorem unfold_fold (y : Int) : unfoldN (foldZ y) = y := by unfold unfoldN foldZ; split <;> split <;> omega
theorem fold_unfold (n : Nat) : foldZ (unfoldN n) = n := by unfold unfoldN foldZ; split <;> split <;> omega
theorem foldZ_lt (y : Int) (h0 : -9223372036854775808 ≤ y) (h1 : y < 9223372036854775808) : foldZ y < 18446744073709551616 := by unfold foldZ; split <;> omega

/-- What reading a number does to what is left of the bytes: the number, how many bytes went, the error. -/
def numRd (r : List Int) : Nat × Nat × Int :=
  match r with
  | [] => (0, 0, 5)
  | f :: t =>
    if f ≤ 247 then (f.toNat, 1, 0)
    else if t.length < (f - 247).toNat then (0, 1, 5)
    else if (t.take (f - 247).toNat).getLastD 0 = 0 ∨ leV (t.take (f - 247).toNat) ≤ 247 then (0, 1 + (f - 247).toNat, 4)
    else (leV (t.take (f - 247).toNat), 1 + (f - 247).toNat, 0)

theorem numRd_numB (x : Nat) (h : x < 18446744073709551616) (r : List Int) : numRd (numB x ++ r) = (x, (numB x).length, 0) := by
  unfold numB
  split
  · rename_i hx
    simp [numRd, show (x : Int) ≤ 247 by omega]
  · rename_i hx
    have hl := dig_length x
    have hne := dig_ne_nil x (by omega)
    have hpos : 0 < (dig x).length := List.length_pos_iff.2 hne
    have e : (((247 + (dig x).length : Nat) : Int) - 247).toNat = (dig x).length := by omega
    have h1 : ¬ (((247 + (dig x).length : Nat) : Int) ≤ 247) := by omega
    simp only [numRd, List.cons_append, h1, if_false, e]
    rw [if_neg (by simp), List.take_left', leV_dig x h, if_neg (by
      intro hc
      rcases hc with hc | hc
      · exact dig_last x (by omega) h hc
      · omega)]
    · simp; omega
    · rfl

/-- What is read as a number is just its bytes. -/
theorem numB_numRd (r : List Int) (hb : AllB r) (h : (numRd r).2.2 = 0) : numB (numRd r).1 = r.take (numRd r).2.1 ∧ (numRd r).2.1 ≤ r.length := by
  cases r with
  | nil => simp [numRd] at h
  | cons f t =>
    have hf := hb f (by simp)
    have ht : AllB t := fun n hn => hb n (by simp [hn])
    unfold numRd at h ⊢
    simp only at h ⊢
    split
    · rename_i h1
      have : f.toNat ≤ 247 := by omega
      simp [numB, this, Int.toNat_of_nonneg hf.1]
    · rename_i h1
      rw [if_neg h1] at h
      split
      · rename_i h2; rw [if_pos h2] at h; simp at h
      · rename_i h2
        rw [if_neg h2] at h
        split
        · rename_i h3; rw [if_pos h3] at h; simp at h
        · rename_i h3
          have h3' : ¬ (t.take (f - 247).toNat).getLastD 0 = 0 ∧ ¬ leV (t.take (f - 247).toNat) ≤ 247 := by
            constructor
            · exact fun hc => h3 (.inl hc)
            · exact fun hc => h3 (.inr hc)
          have hlen : (t.take (f - 247).toNat).length = (f - 247).toNat := by rw [List.length_take]; omega
          have hd : dig (leV (t.take (f - 247).toNat)) = t.take (f - 247).toNat := dig_leV 8 _ (ht.take _) (by omega) (.inr h3'.1)
          unfold numB
          rw [if_neg h3'.2, hd, hlen]
          refine ⟨?_, by simp; omega⟩
          rw [Nat.add_comm 1, List.take_succ_cons]
          congr 1
          omega

theorem numRd_le (r : List Int) (hb : AllB r) : (numRd r).1 < 18446744073709551616 := by
  cases r with
  | nil => simp [numRd]
  | cons f t =>
    have hf := hb f (by simp)
    have ht : AllB t := fun n hn => hb n (by simp [hn])
    unfold numRd
    simp only
    split
    · simp only; omega
    · split
      · simp
      · split
        · simp
        · have h1 := leV_lt _ (ht.take (f - 247).toNat)
          have h2 : (t.take (f - 247).toNat).length ≤ 8 := by rw [List.length_take]; omega
          exact Nat.lt_of_lt_of_le h1 (Nat.le_trans (Nat.pow_le_pow_right (by decide) h2) (by decide))

/-- A number whose last byte is missing is not read. -/
theorem numRd_short (x : Nat) (h : x < 18446744073709551616) (k : Nat) (hk : k < (numB x).length) : (numRd ((numB x).take k)).2.2 = 5 := by
  cases k with
  | zero => rfl
  | succ k =>
    unfold numB at hk ⊢
    split
    · rename_i hx; rw [if_pos hx] at hk; simp at hk
    · rename_i hx
      rw [if_neg hx] at hk
      have hl := dig_length x
      have e : (((247 + (dig x).length : Nat) : Int) - 247).toNat = (dig x).length := by omega
      have hpos : 0 < (dig x).length := List.length_pos_iff.2 (dig_ne_nil x (by omega))
      have h1 : ¬ (((247 + (dig x).length : Nat) : Int) ≤ 247) := by omega
      simp only [List.length_cons] at hk
      simp only [List.take_succ_cons, numRd, h1, if_false, e]
      rw [if_pos (by rw [List.length_take]; omega)]

end Go.Proofs.Ytofenjloieagaaa
namespace Go.Proofs.Ytofenjloieagaaa
open Go.Shelf
def len64_ren : Go.Shelf.Ren := ⟨fun | 129 => 68 | n => n, fun | 53 => 50 | 3 => 3 | 4 => 4 | 46 => 76 | 5 => 5 | 9 => 9 | n => n, fun | n => n⟩
theorem len64_lays : Go.Proofs.Lays.n129 Try.prog len64_ren := {
  mixed := by kernel_rfl
  f129 := Try.func68.trans (congrArg some (by kernel_rfl))
  t3 := Try.underlying3
  a3 := Try.isAgg3
  z3 := Try.sizeOf3
  v3 := Try.zeroValue3
  t4 := Try.underlying4
  a4 := Try.isAgg4
  z4 := Try.sizeOf4
  v4 := Try.zeroValue4
  t5 := Try.underlying5
  a5 := Try.isAgg5
  z5 := Try.sizeOf5
  v5 := Try.zeroValue5
  t9 := Try.underlying9
  a9 := Try.isAgg9
  z9 := Try.sizeOf9
  v9 := Try.zeroValue9
  t46 := Try.underlying76
  a46 := Try.isAgg76
  z46 := Try.sizeOf76
  v46 := Try.zeroValue76
  t53 := Try.underlying50
  a53 := Try.isAgg50
  z53 := Try.sizeOf50
  v53 := Try.zeroValue50 }
theorem len64_any (x : Int) (w : World) (h0 : 0 ≤ x) (h1 : x ≤ 18446744073709551615) :
    Calls Try.prog 68 #[.int .u64 x] w fun e w' => e = .returned (.int .i64 (Go.Lib.bitLen x.toNat)) ∧ w = w' := (Any.bits_Len64 len64_lays x w h0 h1).mono fun _ _ ⟨h, k⟩ => ⟨h, k.symm⟩
end Go.Proofs.Ytofenjloieagaaa
