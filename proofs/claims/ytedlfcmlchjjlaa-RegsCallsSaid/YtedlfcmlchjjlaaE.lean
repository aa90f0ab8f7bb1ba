
/- Bits that are turned, and what the sum makes of them: the plain mathematics. -/
import Derived.Test.YtedlfcmlchjjlaaS
namespace Go.Proofs.Ytedlfcmlchjjlaa
open Go.RowKit

def msk (b : Nat) : Nat := 128 / 2 ^ b
def flip1 (l : List Int) (p : Nat) : List Int := l.set (p / 8) (bits .xor .u8 (l.getD (p / 8) 0) (msk (p % 8) : Nat))
def flips (l : List Int) (k ch : Nat) : Nat → List Int
  | 0 => l
  | i + 1 => if ch / 2 ^ i % 2 = 1 then flip1 (flips l k ch i) (k + i) else flips l k ch i
def accB (ch : Nat) : Nat → BitVec 16
  | 0 => 0#16
  | i + 1 => if ch / 2 ^ i % 2 = 1 then accB ch i ^^^ (1#16 <<< (15 - i)) else accB ch i

theorem msk_lt (b : Nat) : msk b < 256 := Nat.lt_of_le_of_lt (Nat.div_le_self _ _) (by decide)

theorem stpN_add (a b : Nat) (v : BitVec 16) : stpN (a + b) v = stpN a (stpN b v) := by
  induction a with
  | zero => simp [stpN]
  | succ a ih => rw [Nat.succ_add]; simp only [stpN]; rw [ih]
theorem stpN_xor (n : Nat) (a b : BitVec 16) : stpN n (a ^^^ b) = stpN n a ^^^ stpN n b := by
  induction n with
  | zero => rfl
  | succ n ih => simp only [stpN]; rw [ih, stp_xor]
theorem stp_zero (x : BitVec 16) (h : stp x = 0#16) : x = 0#16 := by
  unfold stp at h
  split at h
  · have := congrArg (fun v => v.getLsbD 0) h
    simp at this
  · rename_i hm
    have hlt : x.toNat < 32768 := by
      rw [BitVec.msb_eq_decide] at hm
      simp at hm; omega
    have h2 := congrArg BitVec.toNat h
    simp [BitVec.toNat_shiftLeft, Nat.shiftLeft_eq] at h2
    apply BitVec.eq_of_toNat_eq
    simp
    omega
theorem stpN_zero (n : Nat) (x : BitVec 16) (h : stpN n x = 0#16) : x = 0#16 := by
  induction n with
  | zero => exact h
  | succ n ih => exact ih (stp_zero _ h)

theorem mul256_xor (a b : Nat) : (a ^^^ b) * 256 = a * 256 ^^^ b * 256 := by
  have e : ∀ x : Nat, x * 256 = x <<< 8 := fun x => by rw [Nat.shiftLeft_eq]
  rw [e, e, e, Nat.shiftLeft_xor_distrib]

theorem bits_xor_u8 (x : Int) (m : Nat) (h0 : 0 ≤ x) (h1 : x < 256) (hm : m < 256) : bits .xor .u8 x (m : Int) = ((x.toNat ^^^ m : Nat) : Int) := by
  obtain ⟨n, rfl⟩ : ∃ n : Nat, x = (n : Int) := ⟨x.toNat, by omega⟩
  have hn : n < 256 := by omega
  have hx : n ^^^ m < 256 := Nat.xor_lt_two_pow (n := 8) hn hm
  have h := round_arg (BitVec.ofNat 16 (n * 256)) (m : Int) (by omega) (by omega)
  have e : (BitVec.ofNat 16 (n * 256)).toNat = n * 256 := by rw [BitVec.toNat_ofNat]; exact Nat.mod_eq_of_lt (by omega)
  rw [e] at h
  have e2 : (((n * 256 : Nat) : Int)) / 256 = (n : Int) := by omega
  have e3 : n * 256 / 256 = n := by omega
  rw [e2, e3] at h
  simpa using h

theorem byt_flip (t : BitVec 16) (x : Int) (m : Nat) (h0 : 0 ≤ x) (h1 : x < 256) (hm : m < 256) : byt t (bits .xor .u8 x (m : Int)) = byt t x ^^^ byt 0#16 (m : Int) := by
  rw [bits_xor_u8 x m h0 h1 hm]
  unfold byt
  rw [← st8_xor]
  congr 1
  rw [Int.toNat_natCast, Int.toNat_natCast, mul256_xor, BitVec.ofNat_xor]
  simp [BitVec.xor_assoc]

theorem sumFrom_xor (r : List Int) (a d : BitVec 16) : sumFrom (a ^^^ d) r = sumFrom a r ^^^ stpN (8 * r.length) d := by
  induction r generalizing a d with
  | nil => simp [sumFrom, stpN]
  | cons c r ih =>
    have hb : byt (a ^^^ d) c = byt a c ^^^ stpN 8 d := by
      rw [stpN_8]; unfold byt
      rw [← st8_xor]; congr 1
      rw [BitVec.xor_assoc, BitVec.xor_comm d, ← BitVec.xor_assoc]
    show sumFrom (byt (a ^^^ d) c) r = sumFrom (byt a c) r ^^^ _
    rw [hb, ih, ← stpN_add]
    simp [Nat.mul_add]

theorem byt_unit : ∀ b : Fin 8, byt 0#16 ((msk b.val : Nat) : Int) = stpN (8 - b.val) 0x8000#16 := by decide +kernel

theorem flip1_length (l : List Int) (p : Nat) : (flip1 l p).length = l.length := by unfold flip1; rw [List.length_set]
theorem flips_length (l : List Int) (k ch i : Nat) : (flips l k ch i).length = l.length := by
  induction i with
  | zero => rfl
  | succ i ih => simp only [flips]; split <;> simp [flip1_length, ih]
theorem flip1_all (l : List Int) (p : Nat) (h : AllB l) : AllB (flip1 l p) := by
  intro n hn
  unfold flip1 at hn
  rcases List.mem_or_eq_of_mem_set hn with h1 | rfl
  · exact h n h1
  · have := h.getD (p / 8)
    rw [bits_xor_u8 _ _ this.1 this.2 (msk_lt _)]
    have h2 : (l.getD (p / 8) 0).toNat ^^^ msk (p % 8) < 256 := Nat.xor_lt_two_pow (n := 8) (by omega) (msk_lt _)
    omega
theorem flips_all (l : List Int) (k ch i : Nat) (h : AllB l) : AllB (flips l k ch i) := by
  induction i with
  | zero => exact h
  | succ i ih => simp only [flips]; split <;> first | exact flip1_all _ _ ih | exact ih

theorem sum_flip1 (s : BitVec 16) (l : List Int) (p : Nat) (h : AllB l) (hp : p < 8 * l.length) : sumFrom s (flip1 l p) = sumFrom s l ^^^ stpN (8 * l.length - p) 0x8000#16 := by
  have hq : p / 8 < l.length := by omega
  have hx := h.getD (p / 8)
  have e1 : flip1 l p = l.take (p / 8) ++ (bits .xor .u8 (l.getD (p / 8) 0) (msk (p % 8) : Nat)) :: l.drop (p / 8 + 1) := by
    unfold flip1; rw [List.set_eq_take_append_cons_drop, if_pos hq]
  have e2 : sumFrom s l = sumFrom (byt (sumFrom s (l.take (p / 8))) (l.getD (p / 8) 0)) (l.drop (p / 8 + 1)) := by
    conv => lhs; rw [← List.take_append_drop (p / 8) l, List.drop_eq_getElem_cons hq, sumFrom_append]
    rw [getD_lt hq]; rfl
  have e3 : stpN (8 * l.length - p) 0x8000#16 = stpN (8 * (l.drop (p / 8 + 1)).length) (byt 0#16 ((msk (p % 8) : Nat) : Int)) := by
    have := byt_unit ⟨p % 8, Nat.mod_lt _ (by decide)⟩
    simp only at this
    rw [this, ← stpN_add, List.length_drop]
    congr 1
    omega
  rw [e1, e2, e3, sumFrom_append]
  show sumFrom (byt _ _) _ = _
  rw [byt_flip _ _ _ hx.1 hx.2 (msk_lt _), sumFrom_xor]

theorem unit_up : ∀ i : Fin 16, stpN i.val (1#16 <<< (15 - i.val)) = 0x8000#16 := by decide +kernel

theorem sum_flips (l : List Int) (k ch : Nat) (h : AllB l) : ∀ i, i ≤ 16 → k + i ≤ 8 * l.length → sumL (flips l k ch i) = sumL l ^^^ stpN (8 * l.length - k) (accB ch i)
  | 0, _, _ => by
    have : ∀ n, stpN n 0#16 = 0#16 := fun n => by
      induction n with
      | zero => rfl
      | succ n ih => simp only [stpN]; rw [ih]; rfl
    simp [flips, accB, this]
  | i + 1, hi, hk => by
    have ih := sum_flips l k ch h i (by omega) (by omega)
    simp only [flips, accB]
    split
    · unfold sumL at ih ⊢
      have hu := unit_up ⟨i, by omega⟩
      simp only at hu
      rw [sum_flip1 _ _ _ (flips_all l k ch i h) (by rw [flips_length]; omega), ih, flips_length, stpN_xor, BitVec.xor_assoc]
      congr 2
      rw [← hu, ← stpN_add]
      congr 1
      omega
    · exact ih

theorem accB_bit (ch : Nat) : ∀ i, i ≤ 16 → ∀ j, j < 16 → (accB ch i).getLsbD (15 - j) = (decide (j < i) && decide (ch / 2 ^ j % 2 = 1))
  | 0, _, j, _ => by simp [accB]
  | i + 1, hi, j, hj => by
    have ih := accB_bit ch i (by omega) j hj
    simp only [accB]
    have hs : (1#16 <<< (15 - i)).getLsbD (15 - j) = decide (j = i) := by
      have : ∀ a b : Fin 16, (1#16 <<< (15 - a.val)).getLsbD (15 - b.val) = decide (b.val = a.val) := by decide +kernel
      exact this ⟨i, by omega⟩ ⟨j, hj⟩
    split
    · rename_i hb
      rw [BitVec.getLsbD_xor, ih, hs]
      by_cases hji : j = i
      · subst hji; simp [hb]
      · by_cases hlt : j < i
        · simp [hlt, hji, show j < i + 1 by omega]
        · simp [hlt, hji, show ¬ j < i + 1 by omega]
    · rename_i hb
      rw [ih]
      by_cases hji : j = i
      · subst hji; simp [hb]
      · by_cases hlt : j < i
        · simp [hlt, show j < i + 1 by omega]
        · simp [hlt, show ¬ j < i + 1 by omega]

theorem some_bit (ch : Nat) (h : ch < 65536) (h0 : ch ≠ 0) : ∃ j, j < 16 ∧ ch / 2 ^ j % 2 = 1 := by
  false_or_by_contra
  rename_i hc
  apply h0
  apply Nat.eq_of_testBit_eq
  intro j
  rw [Nat.zero_testBit, Nat.testBit_eq_decide_div_mod_eq]
  by_cases hj : j < 16
  · simp only [decide_eq_false_iff_not]; exact fun h1 => hc ⟨j, hj, h1⟩
  · have : ch < 2 ^ j := Nat.lt_of_lt_of_le (show ch < 2 ^ 16 from h) (Nat.pow_le_pow_right (by decide) (show 16 ≤ j by omega))
    rw [Nat.div_eq_of_lt this]; rfl

/-- A BURST IS SEEN. -/
theorem sum_sees (l : List Int) (k ch : Nat) (h : AllB l) (hch : ch < 65536) (h0 : ch ≠ 0) (hk : k + 16 ≤ 8 * l.length) : sumL (flips l k ch 16) ≠ sumL l := by
  intro he
  rw [sum_flips l k ch h 16 (Nat.le_refl _) hk] at he
  have h1 : stpN (8 * l.length - k) (accB ch 16) = 0#16 := by
    have := congrArg (fun v => sumL l ^^^ v) he
    simpa [← BitVec.xor_assoc] using this
  have h2 := stpN_zero _ _ h1
  obtain ⟨j, hj, hb⟩ := some_bit ch hch h0
  have h3 := accB_bit ch 16 (Nat.le_refl _) j hj
  rw [h2] at h3
  simp [hj, hb] at h3
end Go.Proofs.Ytedlfcmlchjjlaa
