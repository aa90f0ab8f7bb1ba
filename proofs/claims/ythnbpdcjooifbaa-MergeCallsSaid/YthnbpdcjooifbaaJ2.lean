/-    -/
import Derived.Lib.BitFns
import Derived.Test.YthnbpdcjooifbaaJ1
import Derived.Shelf.Strconv.Itoa0
import Derived.Test.YthnbpdcjooifbaaProg
namespace Go.Proofs.Ythnbpdcjooifbaa

/-- The bytes of x, the lowest first, the highest not 0: at most f of them. -/
def digF : Nat → Nat → List Int
  | 0, _ => []
  | f + 1, x => if x = 0 then [] else ((x % 256 : Nat) : Int) :: digF f (x / 256)

def dig (x : Nat) : List Int := digF 8 x

/-- A number's bytes. -/
def numB (x : Nat) : List Int := if x ≤ 247 then [(x : Int)] else ((247 + (dig x).length : Nat) : Int) :: dig x

theorem digF_zero (f : Nat) : digF f 0 = [] := by cases f <;> simp [digF]
theorem digF_pos (f x : Nat) (h : x ≠ 0) : digF (f + 1) x = ((x % 256 : Nat) : Int) :: digF f (x / 256) := by simp [digF, h]

theorem digF_allB : ∀ (f x : Nat), AllB (digF f x)
  | 0, _ => AllB.nil
  | f + 1, x => by
    unfold digF
    split
    · exact AllB.nil
    · exact AllB.cons (by omega) (by omega) (digF_allB f _)

theorem digF_length : ∀ (f x : Nat), (digF f x).length ≤ f
  | 0, _ => Nat.le_refl _
  | f + 1, x => by
    unfold digF
    split
    · simp
    · have := digF_length f (x / 256); simp; omega

theorem dig_allB (x : Nat) : AllB (dig x) := digF_allB 8 x
theorem dig_length (x : Nat) : (dig x).length ≤ 8 := digF_length 8 x
theorem numB_allB (x : Nat) : AllB (numB x) := by
  unfold numB
  split
  · exact AllB.one (by omega) (by omega)
  · have := dig_length x; exact AllB.cons (by omega) (by omega) (dig_allB x)
theorem numB_length (x : Nat) : 1 ≤ (numB x).length ∧ (numB x).length ≤ 9 := by
  unfold numB
  split
  · simp
  · have := dig_length x; simp; omega

/-- How many bytes: by the number of bits. -/
theorem digF_bits : ∀ (f x : Nat), f ≤ 8 → x < 256 ^ f → (digF f x).length = (Go.Lib.bitLen x + 7) / 8
  | 0, x, _, h => by
    have : x = 0 := by simpa using h
    subst this; rfl
  | f + 1, x, hf, h => by
    by_cases h0 : x = 0
    · subst h0; rw [digF_zero]; rfl
    · rw [digF_pos f x h0, List.length_cons]
      have hlt : x / 256 < 256 ^ f := by rw [Nat.pow_succ] at h; omega
      rw [digF_bits f (x / 256) (by omega) hlt]
      by_cases h1 : 256 ≤ x
      · have hb : x < 18446744073709551616 := by
          refine Nat.lt_of_lt_of_le h ?_
          exact Nat.le_trans (Nat.pow_le_pow_right (by decide) hf) (by decide)
        rw [Go.Lib.bitLen_shift8 x h1 hb]; omega
      · have h2 : x / 256 = 0 := by omega
        rw [h2]
        have h3 := Go.Lib.bitLen_le8 ⟨x, by omega⟩
        have h4 : 1 ≤ Go.Lib.bitLen x := by
          unfold Go.Lib.bitLen; simp [Go.Lib.bitLenAux, h0]
        have h5 : Go.Lib.bitLen 0 = 0 := rfl
        simp only [h5] at *; omega

theorem dig_bits (x : Nat) (h : x < 18446744073709551616) : (dig x).length = (Go.Lib.bitLen x + 7) / 8 := digF_bits 8 x (Nat.le_refl _) h

/-- What bytes, the lowest first, are as a number. -/
def leV : List Int → Nat
  | [] => 0
  | b :: l => b.toNat + 256 * leV l

theorem leV_digF : ∀ (f x : Nat), x < 256 ^ f → leV (digF f x) = x
  | 0, x, h => by have : x = 0 := by simpa using h
                  subst this; rfl
  | f + 1, x, h => by
    by_cases h0 : x = 0
    · subst h0; rw [digF_zero]; rfl
    · rw [digF_pos f x h0, leV, leV_digF f (x / 256) (by rw [Nat.pow_succ] at h; omega)]
      simp only [Int.toNat_natCast]; omega

theorem leV_dig (x : Nat) (h : x < 18446744073709551616) : leV (dig x) = x := leV_digF 8 x h

theorem leV_lt : ∀ (l : List Int), AllB l → leV l < 256 ^ l.length
  | [], _ => by simp [leV]
  | b :: l, h => by
    have h1 := h b (by simp)
    have h2 := leV_lt l (fun n hn => h n (by simp [hn]))
    rw [leV, List.length_cons, Nat.pow_succ]; omega

theorem leV_append : ∀ (l m : List Int), leV (l ++ m) = leV l + 256 ^ l.length * leV m
  | [], m => by simp [leV]
  | b :: l, m => by
    rw [List.cons_append, leV, leV_append l m, leV, List.length_cons, Nat.pow_succ, Nat.mul_add, ← Nat.mul_assoc, Nat.mul_comm 256 (256 ^ l.length), Nat.add_assoc]

theorem leV_snoc (l : List Int) (x : Int) : leV (l ++ [x]) = leV l + x.toNat * 256 ^ l.length := by
  rw [leV_append, leV, leV, Nat.mul_zero, Nat.add_zero, Nat.mul_comm]

/-- The bytes of a number whose highest is not 0 are its own. -/
theorem dig_leV : ∀ (f : Nat) (l : List Int), AllB l → l.length ≤ f → (l = [] ∨ l.getLastD 0 ≠ 0) → digF f (leV l) = l
  | _, [], _, _, _ => by rw [leV, digF_zero]
  | 0, b :: l, _, h, _ => by simp at h
  | f + 1, b :: l, hb, hl, hz => by
    have h1 := hb b (by simp)
    have hbl : AllB l := fun n hn => hb n (by simp [hn])
    have hz' : l = [] ∨ l.getLastD 0 ≠ 0 := by
      cases l with
      | nil => exact .inl rfl
      | cons c m => right; rcases hz with h | h
                    · cases h
                    · simpa using h
    have ih := dig_leV f l hbl (by simpa using hl) hz'
    have hne : leV (b :: l) ≠ 0 := by
      intro h0
      rw [leV] at h0
      have hb0 : b = 0 := by omega
      have hl0 : leV l = 0 := by omega
      rw [hl0, digF_zero] at ih
      subst ih
      rcases hz with h | h
      · cases h
      · simp [hb0] at h
    rw [digF_pos f _ hne, leV]
    have e1 : (b.toNat + 256 * leV l) % 256 = b.toNat := by omega
    have e2 : (b.toNat + 256 * leV l) / 256 = leV l := by omega
    rw [e1, e2, ih, Int.toNat_of_nonneg h1.1]

theorem digF_last : ∀ (f x : Nat), x ≠ 0 → x < 256 ^ f → (digF f x).getLastD 0 ≠ 0
  | 0, x, h0, h => by have : x = 0 := by simpa using h
                      exact absurd this h0
  | f + 1, x, h0, h => by
    rw [digF_pos f x h0]
    by_cases h1 : x / 256 = 0
    · rw [h1, digF_zero]; simp; omega
    · have := digF_last f (x / 256) h1 (by rw [Nat.pow_succ] at h; omega)
      cases hd : digF f (x / 256) with
      | nil => rw [hd] at this; simp at this
      | cons c m => rw [hd] at this; simpa using this

theorem dig_last (x : Nat) (h0 : x ≠ 0) (h : x < 18446744073709551616) : (dig x).getLastD 0 ≠ 0 := digF_last 8 x h0 h

theorem dig_ne_nil (x : Nat) (h : x ≠ 0) : dig x ≠ [] := by unfold dig; rw [digF_pos 7 x h]; simp

/-- A signed number as a number. -/
def foldZ (y : Int) : Nat := if 0 ≤ y then (2 * y).toNat else (-2 * y - 1).toNat
def unfoldN (n : Nat) : Int := if n % 2 = 0 then (n / 2 : Nat) else -((n / 2 : Nat) : Int) - 1
theorem unfold_fold (y : Int) : unfoldN (foldZ y) = y := by unfold unfoldN foldZ; split <;> split <;> omega
theorem fold_unfold (n : Nat) : foldZ (unfoldN n) = n := by unfold unfoldN foldZ; split <;> split <;> omega
theorem foldZ_lt (y : Int) (h0 : -9223372036854775808 ≤ y) (h1 : y < 9223372036854775808) : foldZ y < 18446744073709551616 := by unfold foldZ; split <;> omega

/-- What reading a number does to what is left of the bytes: the number, how many bytes went, the error. -/
def numRd (r : List Int) : Nat × Nat × Int :=
  match r with
  | [] => (0, 0, 5)
  | f :: t =>
    if f ≤ 247 then (f.toNat, 1, 0)
    else if t.length < (f - 247).toNat then (0, 1, 5)
    else if (t.take (f - 247).toNat).getLastD 0 = 0 ∨ leV (t.take (f - 247).toNat) ≤ 247 then (0, 1 + (f - 247).toNat, 4)
    else (leV (t.take (f - 247).toNat), 1 + (f - 247).toNat, 0)

theorem numRd_numB (x : Nat) (h : x < 18446744073709551616) (r : List Int) : numRd (numB x ++ r) = (x, (numB x).length, 0) := by
  unfold numB
  split
  · rename_i hx
    simp [numRd, show (x : Int) ≤ 247 by omega]
  · rename_i hx
    have hl := dig_length x
    have hne := dig_ne_nil x (by omega)
    have hpos : 0 < (dig x).length := List.length_pos_iff.2 hne
    have e : (((247 + (dig x).length : Nat) : Int) - 247).toNat = (dig x).length := by omega
    have h1 : ¬ (((247 + (dig x).length : Nat) : Int) ≤ 247) := by omega
    simp only [numRd, List.cons_append, h1, if_false, e]
    rw [if_neg (by simp), List.take_left', leV_dig x h, if_neg (by
      intro hc
      rcases hc with hc | hc
      · exact dig_last x (by omega) h hc
      · omega)]
    · simp; omega
    · rfl

/-- What is read as a number is just its bytes. -/
theorem numB_numRd (r : List Int) (hb : AllB r) (h : (numRd r).2.2 = 0) : numB (numRd r).1 = r.take (numRd r).2.1 ∧ (numRd r).2.1 ≤ r.length := by
  cases r with
  | nil => simp [numRd] at h
  | cons f t =>
    have hf := hb f (by simp)
    have ht : AllB t := fun n hn => hb n (by simp [hn])
    unfold numRd at h ⊢
    simp only at h ⊢
    split
    · rename_i h1
      have : f.toNat ≤ 247 := by omega
      simp [numB, this, Int.toNat_of_nonneg hf.1]
    · rename_i h1
      rw [if_neg h1] at h
      split
      · rename_i h2; rw [if_pos h2] at h; simp at h
      · rename_i h2
        rw [if_neg h2] at h
        split
        · rename_i h3; rw [if_pos h3] at h; simp at h
        · rename_i h3
          have h3' : ¬ (t.take (f - 247).toNat).getLastD 0 = 0 ∧ ¬ leV (t.take (f - 247).toNat) ≤ 247 := by
            constructor
            · exact fun hc => h3 (.inl hc)
            · exact fun hc => h3 (.inr hc)
          have hlen : (t.take (f - 247).toNat).length = (f - 247).toNat := by rw [List.length_take]; omega
          have hd : dig (leV (t.take (f - 247).toNat)) = t.take (f - 247).toNat := dig_leV 8 _ (ht.take _) (by omega) (.inr h3'.1)
          unfold numB
          rw [if_neg h3'.2, hd, hlen]
          refine ⟨?_, by simp; omega⟩
          rw [Nat.add_comm 1, List.take_succ_cons]
          congr 1
          omega

theorem numRd_le (r : List Int) (hb : AllB r) : (numRd r).1 < 18446744073709551616 := by
  cases r with
  | nil => simp [numRd]
  | cons f t =>
    have hf := hb f (by simp)
    have ht : AllB t := fun n hn => hb n (by simp [hn])
    unfold numRd
    simp only
    split
    · simp only; omega
    · split
      · simp
      · split
        · simp
        · have h1 := leV_lt _ (ht.take (f - 247).toNat)
          have h2 : (t.take (f - 247).toNat).length ≤ 8 := by rw [List.length_take]; omega
          exact Nat.lt_of_lt_of_le h1 (Nat.le_trans (Nat.pow_le_pow_right (by decide) h2) (by decide))

/-- A number whose last byte is missing is not read. -/
theorem numRd_short (x : Nat) (h : x < 18446744073709551616) (k : Nat) (hk : k < (numB x).length) : (numRd ((numB x).take k)).2.2 = 5 := by
  cases k with
  | zero => rfl
  | succ k =>
    unfold numB at hk ⊢
    split
    · rename_i hx; rw [if_pos hx] at hk; simp at hk
    · rename_i hx
      rw [if_neg hx] at hk
      have hl := dig_length x
      have e : (((247 + (dig x).length : Nat) : Int) - 247).toNat = (dig x).length := by omega
      have hpos : 0 < (dig x).length := List.length_pos_iff.2 (dig_ne_nil x (by omega))
      have h1 : ¬ (((247 + (dig x).length : Nat) : Int) ≤ 247) := by omega
      simp only [List.length_cons] at hk
      simp only [List.take_succ_cons, numRd, h1, if_false, e]
      rw [if_pos (by rw [List.length_take]; omega)]

end Go.Proofs.Ythnbpdcjooifbaa
namespace Go.Proofs.Ythnbpdcjooifbaa
open Go.Shelf
def len64_ren : Go.Shelf.Ren := ⟨fun | 129 => 90 | n => n, fun | 53 => 74 | 3 => 3 | 4 => 4 | 46 => 108 | 5 => 5 | 9 => 9 | n => n, fun | n => n⟩
theorem len64_lays : Go.Proofs.Lays.n129 Try.prog len64_ren := {
  mixed := by kernel_rfl
  f129 := Try.func90.trans (congrArg some (by kernel_rfl))
  t3 := Try.underlying3
  a3 := Try.isAgg3
  z3 := Try.sizeOf3
  v3 := Try.zeroValue3
  t4 := Try.underlying4
  a4 := Try.isAgg4
  z4 := Try.sizeOf4
  v4 := Try.zeroValue4
  t5 := Try.underlying5
  a5 := Try.isAgg5
  z5 := Try.sizeOf5
  v5 := Try.zeroValue5
  t9 := Try.underlying9
  a9 := Try.isAgg9
  z9 := Try.sizeOf9
  v9 := Try.zeroValue9
  t46 := Try.underlying108
  a46 := Try.isAgg108
  z46 := Try.sizeOf108
  v46 := Try.zeroValue108
  t53 := Try.underlying74
  a53 := Try.isAgg74
  z53 := Try.sizeOf74
  v53 := Try.zeroValue74 }
theorem len64_any (x : Int) (w : World) (h0 : 0 ≤ x) (h1 : x ≤ 18446744073709551615) :
    Calls Try.prog 90 #[.int .u64 x] w fun e w' => e = .returned (.int .i64 (Go.Lib.bitLen x.toNat)) ∧ w = w' := (Any.bits_Len64 len64_lays x w h0 h1).mono fun _ _ ⟨h, k⟩ => ⟨h, k.symm⟩
end Go.Proofs.Ythnbpdcjooifbaa
namespace Go.Proofs.Ythnbpdcjooifbaa
open Go.RowKit
set_option maxRecDepth 100000

set_option maxHeartbeats 400000 in
theorem numberBytes_small (x : Nat) (w : World) (h : x ≤ 247) :
    Calls Try.prog 79 #[.int .u64 x] w (Fresh w.heap.size w (numB x)) := by
  have hn : numB x = [(x : Int)] := by simp [numB, h]
  have HN := Lib.hid hn
  clear hn
  go_enter Try.func79, Try.ntmps79
  go_wp2_with fail
  go_ret
  rw [HN.out]
  refine ⟨_, 1, rfl, ?_, ((Below.refl _ _).alloc (Nat.le_refl _) _)⟩
  exact OB.lit1 w x (by omega) (by omega)

theorem wrap8 (y : Nat) : IntKind.u8.wrap (y : Int) = ((y % 256 : Nat) : Int) := by rw [IntKind.wrap_u8]; omega

set_option maxHeartbeats 1000000 in
theorem numberBytes_great (x : Nat) (w : World) (h : 247 < x) (hx : x < 18446744073709551616) :
    Calls Try.prog 79 #[.int .u64 x] w (Fresh w.heap.size w (numB x)) := by
  obtain ⟨i, hi, hz0, hz1, hz2⟩ := info_parts infoB
  have hb := dig_bits x hx
  have hl8 := dig_length x
  have hl0 : 0 < (dig x).length := List.length_pos_iff.2 (dig_ne_nil x (by omega))
  have hn : numB x = [((247 + (dig x).length : Nat) : Int)] ++ digF 8 x := by unfold numB; rw [if_neg (by omega)]; rfl
  have HN := Lib.hid hn
  have HB := Lib.hid hb
  have hbl : Go.Lib.bitLen x ≤ 64 := by omega
  clear hn hb
  go_enter Try.func79, Try.ntmps79
  go_wp2_with (first
    | (go_at_call 90; refine (len64_any _ _ (by omega) (by omega)).mono ?_; rintro e w' ⟨rfl, rfl⟩)
    | (at_make; refine wpList_make_own _ rfl _ _ 33 rfl w.heap.size 5 i (.int .u8 0) 1 Try.underlying33 hi hz0 hz1 _ _ _ (1 + (dig x).length) rfl rfl (by have := HB.out; omega) (by rw [hz2]; omega) (by unfold maxLen; omega) (Nat.le_refl _) ?_; intro w1 hown hgrow)
    | (at_builtin; refine wpList_append_rb _ rfl _ _ rfl w.heap.size _ _ _ _ [] rfl rfl (OB.alloc ⟨hown, AllB.nil⟩ _) _ _ _ [_] rfl rfl (RB.lit1 _ _ (by omega) (by omega)) (by simp) (by have := hgrow.size; simp; omega) ?_; intro A' c' w2 hob hbel hne))
  have hb2 : Below w.heap.size w w2 := (((Below.refl _ _).grown hgrow (Nat.le_refl _) (fun _ h => by cases h)).alloc hgrow.size _).trans hbel
  have hcnt : (247 + ((Go.Lib.bitLen x : Int) + 7) / 8) = ((247 + (dig x).length : Nat) : Int) := by have := HB.out; omega
  rw [hcnt] at hob
  clear hcnt hbel hown hgrow hne HB
  go_loopw [0, 4] (fun t v wr => ∃ (y f : Nat) (acc : List Int) (A : Option Addr) (c : Nat), t = .int .u64 y ∧ v = .slice A acc.length c ∧ y < 256 ^ f ∧ f ≤ 8 ∧ acc ++ digF f y = numB x ∧ OB wr w.heap.size A c acc ∧ Below w.heap.size w wr) (fun t _ _ => (intOf t).toNat)
  case atStart => exact ⟨x, 8, _, A', c', rfl, rfl, hx, Nat.le_refl _, HN.out.symm, hob, hb2⟩
  case round =>
    obtain ⟨y, f, acc, A, c, rfl, rfl, hy, hf, hacc, ho, hbl⟩ := hrel
    have hal : acc.length ≤ 9 := by have := (numB_length x).2; rw [← hacc, List.length_append] at this; omega
    by_cases h0 : y = 0
    · subst h0
      rw [digF_zero, List.append_nil] at hacc
      have HA := Lib.hid hacc
      clear hacc
      go_wp2_with fail
      go_ret
      rw [← HA.out]
      exact ⟨A, c, rfl, ho, hbl⟩
    · cases f with
      | zero => simp at hy; omega
      | succ f =>
        rw [digF_pos f y h0] at hacc
        have HA := Lib.hid hacc
        have hy' : y / 256 < 256 ^ f := by rw [Nat.pow_succ] at hy; omega
        have HY := Lib.hid hy'
        have hyb : y < 18446744073709551616 := Nat.lt_of_lt_of_le hy (Nat.le_trans (Nat.pow_le_pow_right (by decide) hf) (by decide))
        have hne : ((y : Int) != 0) = true := by rw [bne_iff_ne]; omega
        clear hacc hy hy'
        go_wp2_with (at_builtin; refine wpList_append_rb _ rfl _ _ rfl w.heap.size _ _ _ _ acc rfl rfl (ho.alloc _) _ _ _ [_] rfl rfl (RB.lit1 _ _ (by first | omega | (simp only [wrap8]; omega)) (by first | omega | (simp only [wrap8]; omega))) (by simp; omega) (by have := hbl.size; simp; omega) ?_; intro A' c' w2 hob hbel hne)
        go_roundw
        case rel =>
          have e : (y : Int) % 256 = ((y % 256 : Nat) : Int) := by omega
          rw [e] at hob
          have e2 : (y : Int) / 256 = ((y / 256 : Nat) : Int) := by omega
          refine ⟨y / 256, f, _, A', c', by rw [e2], by simp, HY.out, by omega, ?_, hob, hbl.trans (((Below.refl _ _).alloc hbl.size _).trans hbel)⟩
          rw [List.append_assoc]; exact HA.out
        case measure => simp [intOf]; omega

theorem numberBytes_any (x : Nat) (w : World) (hx : x < 18446744073709551616) :
    Calls Try.prog 79 #[.int .u64 x] w (Fresh w.heap.size w (numB x)) := by
  by_cases h : x ≤ 247
  · exact numberBytes_small x w h
  · exact numberBytes_great x w (by omega) hx

set_option maxHeartbeats 400000 in
theorem number_any (A : Option Addr) (n c : Nat) (l : List Int) (x : Nat) (w : World) (B : Nat) (hn : n = l.length) (h : RB w B A c l) (hB : B ≤ w.heap.size) (hlen : l.length ≤ 70368744177664) (hx : x < 18446744073709551616) :
    Calls Try.prog 55 #[.slice A n c, .int .u64 x] w (Fresh w.heap.size w (l ++ numB x)) := by
  subst hn
  have hl := (numB_length x).2
  go_enter Try.func55, Try.ntmps55
  go_wp2_with (first
    | (go_at_call 79; refine (numberBytes_any _ _ hx).mono ?_; rintro e w1 ⟨A1, c1, rfl, ho1, hb1⟩)
    | (go_at_call 78; refine (concat2 A A1 c c1 l (numB x) w1 ((h.more hB).belowH hb1) ho1.rb (by omega)).mono ?_; rintro e w2 ⟨A2, c2, rfl, ho2, hb2⟩))
  go_ret
  exact ⟨A2, c2, by simp, ho2.mono hb1.size, hb1.trans (hb2.mono hb1.size)⟩

theorem and1 (n : Int) (h0 : 0 ≤ n) (h1 : n < 18446744073709551616) : bits .and .u64 n 1 = n % 2 := by
  rw [u64_and n 1 h0 h1 (by omega) (by omega)]
  have : n.toNat &&& 1 = n.toNat % 2 := nat_mask1 _
  rw [show (1 : Int).toNat = 1 from rfl, this]; omega

theorem xor_all (n : Int) : (BitVec.ofInt 64 (-1) ^^^ BitVec.ofInt 64 n).toNat = 18446744073709551615 - (n % 18446744073709551616).toNat := by
  have h1 : BitVec.ofInt 64 (-1) = BitVec.allOnes 64 := by decide
  rw [h1, BitVec.allOnes_xor, BitVec.toNat_not, BitVec.toNat_ofInt]
  rfl

theorem i64_not (n : Int) (h0 : -9223372036854775808 ≤ n) (h1 : n < 9223372036854775808) : bits .xor .i64 (-1) n = -n - 1 := by
  show IntKind.i64.wrap ((BitVec.ofInt 64 (-1) ^^^ BitVec.ofInt 64 n).toNat : Int) = _
  rw [xor_all, IntKind.wrap_i64]; omega

theorem u64_not (n : Int) (h0 : 0 ≤ n) (h1 : n < 18446744073709551616) : bits .xor .u64 IntKind.u64.max n = 18446744073709551615 - n := by
  show IntKind.u64.wrap ((BitVec.ofInt 64 IntKind.u64.max ^^^ BitVec.ofInt 64 n).toNat : Int) = _
  have h2 : BitVec.ofInt 64 IntKind.u64.max = BitVec.ofInt 64 (-1) := by decide
  rw [h2, xor_all, IntKind.wrap_u64]; omega

/-- A slice of the call's own, and no error; nothing below B has turned. -/
def FreshOk (B : Nat) (w : World) (l : List Int) (e : Ending) (w' : World) : Prop :=
  ∃ A c, e = .returned (.tuple #[.slice A l.length c, .int .i64 0]) ∧ OB w' B A c l ∧ Below B w w'

set_option maxHeartbeats 400000 in
theorem block_any (A X : Option Addr) (n c k cx : Nat) (l m : List Int) (w : World) (B : Nat) (hn : n = l.length) (hk : k = m.length) (h : RB w B A c l) (hx : RB w B X cx m) (hB : B ≤ w.heap.size) (hlen : l.length ≤ 70368744177664) (hm : m.length ≤ 1048576) :
    Calls Try.prog 81 #[.slice A n c, .slice X k cx] w (FreshOk w.heap.size w (l ++ (numB m.length ++ m))) := by
  subst hn hk
  have hl := (numB_length m.length).2
  go_enter Try.func81, Try.ntmps81
  go_wp2_with (first
    | (go_at_call 79; refine (numberBytes_any _ _ (by omega)).mono ?_; rintro e w1 ⟨A1, c1, rfl, ho1, hb1⟩)
    | (go_at_call 78; refine (concat3 A A1 X c c1 cx l (numB m.length) m w1 ((h.more hB).belowH hb1) ho1.rb ((hx.more hB).belowH hb1) (by omega)).mono ?_; rintro e w2 ⟨A2, c2, rfl, ho2, hb2⟩))
  go_ret2
  exact ⟨A2, c2, by simp, ho2.mono hb1.size, hb1.trans (hb2.mono hb1.size)⟩

/-- The answer is a slice of the call's own from block B on. -/
def FreshFrom (B : Nat) (w : World) (l : List Int) (e : Ending) (w' : World) : Prop :=
  ∃ A c, e = .returned (.slice A l.length c) ∧ OB w' B A c l ∧ Below B w w'

set_option maxHeartbeats 1000000 in
theorem refNumber_small (A : Option Addr) (n c : Nat) (l : List Int) (x : Nat) (w : World) (B : Nat) (hn : n = l.length) (h : OB w B A c l) (hB : B ≤ w.heap.size) (hlen : l.length ≤ 70368744177664) (hx : x ≤ 247) :
    Calls Try.prog 57 #[.slice A n c, .int .u64 x] w (FreshFrom B w (l ++ numB x)) := by
  subst hn
  have hnb : numB x = [(x : Int)] := by simp [numB, hx]
  have HN := Lib.hid hnb
  clear hnb
  go_enter Try.func57, Try.ntmps57
  go_wp2_with (at_builtin; refine wpList_append_rb _ rfl _ _ rfl B _ _ _ _ l rfl rfl (h.alloc _) _ _ _ [_] rfl rfl (RB.lit1 _ _ (by omega) (by omega)) (by simp; omega) (by simp; omega) ?_; intro A' c' w2 hob hbel hne)
  go_ret
  rw [HN.out]
  exact ⟨A', c', by simp, hob, ((Below.refl _ _).alloc hB _).trans hbel⟩

set_option maxHeartbeats 1000000 in
theorem refNumber_great (A : Option Addr) (n c : Nat) (l : List Int) (x : Nat) (w : World) (B : Nat) (hn : n = l.length) (h : OB w B A c l) (hB : B ≤ w.heap.size) (hlen : l.length ≤ 70368744177664) (hx : 247 < x) (hx2 : x < 18446744073709551616) :
    Calls Try.prog 57 #[.slice A n c, .int .u64 x] w (FreshFrom B w (l ++ numB x)) := by
  subst hn
  have hl8 := dig_length x
  have hn : numB x = (247 + ((dig x).length : Int)) :: dig x := by unfold numB; rw [if_neg (by omega)]; congr 1
  have HN := Lib.hid hn
  have hlt : ∀ k, (Value.slice A l.length c).ownBlock = some k → k < w.heap.size := fun k hk => (h.own.lt k hk).2
  have HL := Lib.hid hlt
  clear hn hlt
  go_enter Try.func57, Try.ntmps57
  go_wp2_with fail
  go_loopw [5, 6] (fun v t wr => ∃ (y f : Nat) (acc : List Int) (A : Option Addr) (c : Nat), t = .int .u64 y ∧ v = .slice A acc.length c ∧ y < 256 ^ f ∧ f ≤ 8 ∧ acc ++ digF f y = dig x ∧ OB wr w.heap.size A c acc ∧ Below w.heap.size w wr) (fun _ t _ => (intOf t).toNat)
  case atStart => exact ⟨x, 8, [], none, 0, rfl, rfl, hx2, Nat.le_refl _, rfl, OB.nil _ _, Below.refl _ _⟩
  case round =>
    obtain ⟨y, f, acc, A1, c1, rfl, rfl, hy, hf, hacc, ho, hbl⟩ := hrel
    have hal : acc.length ≤ 8 := by rw [← hacc, List.length_append] at hl8; omega
    by_cases h0 : y = 0
    · subst h0
      rw [digF_zero, List.append_nil] at hacc
      subst hacc
      have hA := h.below hbl (Nat.le_refl _)
      go_wp2_with (first
        | (at_builtin; refine wpList_append_rbg _ rfl (.tmp 25) (.tmp 30) rfl B _ _ _ _ l rfl rfl (hA.alloc _) _ _ _ [_] rfl rfl (RB.lit1 _ _ (by omega) (by omega)) (by simp; omega) (by have := hbl.size; simp; omega) ?_; intro A' c' w2 hob hbel hgr)
        | (at_builtin; refine wpList_append_rb _ rfl (.tmp 31) (.tmp 32) rfl B _ _ _ _ _ rfl (by simp) hob _ _ _ (dig x) rfl rfl (((ho.alloc _).grown hgr HL.out).rb) (by simp; omega) (by have := hbl.size; have := hbel.size; simp at *; omega) ?_; intro A'' c'' w3 hob' hbel' hne'))
      go_ret
      rw [HN.out]
      rw [List.append_assoc] at hob'
      exact ⟨A'', c'', by simp, hob', (hbl.mono hB).trans ((((Below.refl _ _).alloc (by have := hbl.size; omega) _).trans hbel).trans hbel')⟩
    · cases f with
      | zero => simp at hy; omega
      | succ f =>
        rw [digF_pos f y h0] at hacc
        have HA := Lib.hid hacc
        have hy' : y / 256 < 256 ^ f := by rw [Nat.pow_succ] at hy; omega
        have HY := Lib.hid hy'
        have hyb : y < 18446744073709551616 := Nat.lt_of_lt_of_le hy (Nat.le_trans (Nat.pow_le_pow_right (by decide) hf) (by decide))
        have hpos : 0 < (y : Int) := by omega
        clear hacc hy hy'
        go_wp2_with (at_builtin; refine wpList_append_rb _ rfl _ _ rfl w.heap.size _ _ _ _ acc rfl rfl (ho.alloc _) _ _ _ [_] rfl rfl (RB.lit1 _ _ (by first | omega | (simp only [wrap8]; omega)) (by first | omega | (simp only [wrap8]; omega))) (by simp; omega) (by have := hbl.size; simp; omega) ?_; intro A' c' w2 hob hbel hne)
        go_roundw
        case rel =>
          have e : (y : Int) % 256 = ((y % 256 : Nat) : Int) := by omega
          rw [e] at hob
          have e2 : (y : Int) / 256 = ((y / 256 : Nat) : Int) := by omega
          refine ⟨y / 256, f, _, A', c', by rw [e2], by simp, HY.out, by omega, ?_, hob, hbl.trans (((Below.refl _ _).alloc hbl.size _).trans hbel)⟩
          rw [List.append_assoc]; exact HA.out
        case measure => simp [intOf]; omega

theorem refNumber_any (A : Option Addr) (n c : Nat) (l : List Int) (x : Nat) (w : World) (B : Nat) (hn : n = l.length) (h : OB w B A c l) (hB : B ≤ w.heap.size) (hlen : l.length ≤ 70368744177664) (hx : x < 18446744073709551616) :
    Calls Try.prog 57 #[.slice A n c, .int .u64 x] w (FreshFrom B w (l ++ numB x)) := by
  by_cases h1 : x ≤ 247
  · exact refNumber_small A n c l x w B hn h hB hlen h1
  · exact refNumber_great A n c l x w B hn h hB hlen (by omega) hx

set_option maxHeartbeats 1000000 in
theorem refBlock_any (A X : Option Addr) (n c k cx : Nat) (l m : List Int) (w : World) (B D : Nat) (hn : n = l.length) (hk : k = m.length) (h : OB w B A c l) (hx : RB w D X cx m) (hDB : D ≤ B) (hB : B ≤ w.heap.size) (hlen : l.length ≤ 70368744177664) (hm : m.length ≤ 1048576) :
    Calls Try.prog 59 #[.slice A n c, .slice X k cx] w (FreshOk B w (l ++ (numB m.length ++ m))) := by
  subst hn hk
  have hl := (numB_length m.length).2
  go_enter Try.func59, Try.ntmps59
  go_wp2_with (first
    | (go_at_call 57; refine (refNumber_any A _ c l _ _ B rfl h hB (by omega) (by omega)).mono ?_; rintro e w1 ⟨A1, c1, rfl, ho1, hb1⟩)
    | (at_builtin; refine wpList_append_rb _ rfl _ _ rfl B _ _ _ _ _ rfl (by simp) ho1 _ _ _ m rfl rfl (hx.below (hb1.mono hDB)) (by simp; omega) (by have := hb1.size; omega) ?_; intro A' c' w2 hob hbel hne))
  go_ret2
  rw [List.append_assoc] at hob
  exact ⟨A', c', by simp, hob, hb1.trans hbel⟩
end Go.Proofs.Ythnbpdcjooifbaa
