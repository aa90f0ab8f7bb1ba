/-      -/
import Derived.Test.YtgaihekapakoeaaGreatDoorJ2
import Derived.Test.YtgaihekapakoeaaGreatDoorJ6
set_option linter.unusedVariables false
set_option linter.unusedSimpArgs false
namespace Go.Proofs.YtgaihekapakoeaaGreatDoor
open Go.RowKit

end Go.Proofs.YtgaihekapakoeaaGreatDoor
namespace Go.Proofs.YtgaihekapakoeaaGreatDoor
open Go.RowKit

end Go.Proofs.YtgaihekapakoeaaGreatDoor
namespace Go.Proofs.YtgaihekapakoeaaGreatDoor
open Go.RowKit


set_option maxRecDepth 100000

def relR (o : Int) : Bool := decide (16 ≤ o) && (decide (o ≤ 56) && o % 8 == 0)
def byR (o : Int) : Bool := if o = 118 then false else ((o / 64 == 1 || o / 64 == 2) && o % 8 == 6) || ((o / 64 == 1 && o / 8 % 8 == 6) || (decide (52 ≤ o) && decide (o ≤ 54)))
def oneN (o : Int) : Bool := ((o / 64 == 0 || o / 64 == 3) && o % 8 == 6) || (relR o || (o == 211 || o == 219))
def twoN (o : Int) : Bool := (o / 64 == 0 && (o % 8 == 1 && o / 8 % 2 == 0)) || (o == 34 || (o == 42 || (o == 50 || (o == 58 || (o == 195 || (o == 205 || (o / 64 == 3 && (o % 8 == 2 || o % 8 == 4))))))))
def nR (o : Int) : Int := if oneN o = true then 1 else if twoN o = true then 2 else 0
def isR (s x o : Int) : Bool :=
 if o < 0 ∨ 255 < o ∨ x < 0 ∨ 2 < x then false
 else if s = 0 then o != 203 && (o != 237 && (!(o == 221 || o == 253) || x == 0)) else if s = 1 ∨ s = 2 then x == 0 else if s = 3 then decide (0 < x) else false
theorem fin9 {P : Int → Prop} (h : ∀ o : Fin 256, P o.val) {o : Int} (h0 : 0 ≤ o) (h1 : o < 256) : P o := by
 have := h ⟨o.toNat, by omega⟩
 simpa only [Int.toNat_of_nonneg h0] using this
theorem byR_eq {o : Int} (h0 : 0 ≤ o) (h1 : o < 256) : byR o = hlI o := fin9 (P := fun o => byR o = hlI o) (by decide +kernel) h0 h1
theorem nR_eq {o : Int} (h0 : 0 ≤ o) (h1 : o < 256) : nR o = immM o := fin9 (P := fun o => nR o = immM o) (by decide +kernel) h0 h1
theorem relR_eq {o : Int} (h0 : 0 ≤ o) (h1 : o < 256) : relR o = relI o := fin9 (P := fun o => relR o = relI o) (by decide +kernel) h0 h1
theorem isR_eq (s x o : Int) : isR s x o = isOneI s x o := by
 by_cases ho : 0 ≤ o ∧ o < 256
 ·by_cases hx : x = 0 ∨ x = 1 ∨ x = 2
  ·have hz : ¬(o < 0 ∨ 255 < o ∨ x < 0 ∨ 2 < x) := by omega
   have hs : s = 0 ∨ s = 1 ∨ s = 2 ∨ s = 3 ∨ (s ≠ 0 ∧ s ≠ 1 ∧ s ≠ 2 ∧ s ≠ 3) := by omega
   rcases hs with rfl | rfl | rfl | rfl | ⟨n0, n1, n2, n3⟩
   ·rcases hx with rfl | rfl | rfl
    ·exact fin9 (P := fun o => isR 0 0 o = isOneI 0 0 o) (by decide +kernel) ho.1 ho.2
    ·exact fin9 (P := fun o => isR 0 1 o = isOneI 0 1 o) (by decide +kernel) ho.1 ho.2
    ·exact fin9 (P := fun o => isR 0 2 o = isOneI 0 2 o) (by decide +kernel) ho.1 ho.2
   ·rcases hx with rfl | rfl | rfl
    ·exact fin9 (P := fun o => isR 1 0 o = isOneI 1 0 o) (by decide +kernel) ho.1 ho.2
    ·exact fin9 (P := fun o => isR 1 1 o = isOneI 1 1 o) (by decide +kernel) ho.1 ho.2
    ·exact fin9 (P := fun o => isR 1 2 o = isOneI 1 2 o) (by decide +kernel) ho.1 ho.2
   ·rcases hx with rfl | rfl | rfl
    ·exact fin9 (P := fun o => isR 2 0 o = isOneI 2 0 o) (by decide +kernel) ho.1 ho.2
    ·exact fin9 (P := fun o => isR 2 1 o = isOneI 2 1 o) (by decide +kernel) ho.1 ho.2
    ·exact fin9 (P := fun o => isR 2 2 o = isOneI 2 2 o) (by decide +kernel) ho.1 ho.2
   ·rcases hx with rfl | rfl | rfl
    ·exact fin9 (P := fun o => isR 3 0 o = isOneI 3 0 o) (by decide +kernel) ho.1 ho.2
    ·exact fin9 (P := fun o => isR 3 1 o = isOneI 3 1 o) (by decide +kernel) ho.1 ho.2
    ·exact fin9 (P := fun o => isR 3 2 o = isOneI 3 2 o) (by decide +kernel) ho.1 ho.2
   ·unfold isR isOneI
    rw [if_neg hz, if_neg n0, if_neg (by omega), if_neg n3, if_neg n0, if_neg (by omega), beq_eq_false_iff_ne.2 n3]
    simp
  ·have hz : o < 0 ∨ 255 < o ∨ x < 0 ∨ 2 < x := by omega
   have h1 : (x == 0) = false := beq_eq_false_iff_ne.2 (by omega)
   have h2 : (x == 1) = false := beq_eq_false_iff_ne.2 (by omega)
   have h3 : (x == 2) = false := beq_eq_false_iff_ne.2 (by omega)
   unfold isR isOneI
   rw [if_pos hz, if_neg (show ¬(x = 1 ∨ x = 2) by omega), h1, h2, h3]
   simp
 ·have hz : o < 0 ∨ 255 < o ∨ x < 0 ∨ 2 < x := by omega
  have hb : isByteI o = false := by unfold isByteI; simp; omega
  unfold isR isOneI
  rw [if_pos hz, hb]
  simp

theorem r9_mod (n : Int) (w : World) (h0 : 0 ≤ n) (h1 : n < 256) : Calls Tryz.prog 87 #[.int .i64 n, .int .i64 256] w fun e w' => e = .returned (.int .i64 n) ∧ w = w' := by
 have ht : n.tmod 256 = n := by rw [Int.tmod_eq_emod_of_nonneg h0]; omega
 have hn : ¬ n < 0 := by omega
 go_enter Tryz.func87, Tryz.ntmps87
 go_wp2
 go_ret
 exact ⟨rfl, rfl⟩
theorem r9_parts (o : Int) (w : World) (h0 : 0 ≤ o) (h1 : o < 256) : Calls Tryz.prog 49 #[.int .i64 o] w fun e w' =>
  e = .returned (.tuple #[.int .i64 (o / 64), .int .i64 (o / 8 % 8), .int .i64 (o % 8), .int .i64 (o / 8 % 8 / 2), .int .i64 (o / 8 % 2)]) ∧ w = w' := by
 have q1 : o.tdiv 8 = o / 8 := Int.tdiv_eq_ediv_of_nonneg h0
 have q2 : (o / 8).tmod 8 = o / 8 % 8 := Int.tmod_eq_emod_of_nonneg (by omega)
 have q3 : o.tdiv 64 = o / 64 := Int.tdiv_eq_ediv_of_nonneg h0
 have q4 : o.tmod 8 = o % 8 := Int.tmod_eq_emod_of_nonneg h0
 have q5 : (o / 8 % 8).tdiv 2 = o / 8 % 8 / 2 := Int.tdiv_eq_ediv_of_nonneg (by omega)
 have q6 : (o / 8 % 8).tmod 2 = o / 8 % 8 % 2 := Int.tmod_eq_emod_of_nonneg (by omega)
 go_enter Tryz.func49, Tryz.ntmps49
 go_wp2_with (go_at_call 87; (with_reducible refine (r9_mod _ _ h0 h1).mono ?_); rintro e w' ⟨rfl, rfl⟩)
 (try simp only [Exit.inBlock, Exit.then])
 refine bodyPost_ret (results_tmp5 rfl _ _ _) rfl ?_
 exact ⟨rfl, rfl⟩
theorem r9_prefix (o : Int) (w : World) : Calls Tryz.prog 65 #[.int .i64 o] w fun e w' => e = .returned (.bool (o == 221 || o == 253)) ∧ w = w' := by
 go_enter Tryz.func65, Tryz.ntmps65
 go_wp2
 all_goals
  go_ret
  exact ⟨ret_b (by simp_all), rfl⟩
theorem r9_rel (o : Int) (w : World) (h0 : 0 ≤ o) (h1 : o < 256) : Calls Tryz.prog 48 #[.int .i64 o] w fun e w' => e = .returned (.bool (relI o)) ∧ w = w' := by
 have q4 : o.tmod 8 = o % 8 := Int.tmod_eq_emod_of_nonneg h0
 rw [← relR_eq h0 h1]
 obtain ⟨z, hz⟩ : ∃ z, relR o = z := ⟨_, rfl⟩
 rw [hz]
 have HZ := z_ hz
 clear hz
 go_enter Tryz.func48, Tryz.ntmps48
 go_wp2
 all_goals
  go_ret
  exact ⟨ret_b (by rw [← HZ.out]; unfold relR; simp_all <;> omega), rfl⟩
theorem r9_by (o : Int) (w : World) (h0 : 0 ≤ o) (h1 : o < 256) : Calls Tryz.prog 86 #[.int .i64 o] w fun e w' => e = .returned (.bool (hlI o)) ∧ w = w' := by
 rw [← byR_eq h0 h1]
 have HP := fun w => r9_parts o w h0 h1
 obtain ⟨z, hz⟩ : ∃ z, byR o = z := ⟨_, rfl⟩
 rw [hz]
 unfold byR at hz
 generalize o / 64 = X at *
 generalize o / 8 % 8 = Y at *
 generalize o % 8 = Z at *
 have HZ := z_ hz
 have HP := z_ HP
 clear hz
 by_cases h118 : o = 118
 ·subst h118
  go_enter Tryz.func86, Tryz.ntmps86
  go_wp2_with (go_at_call 49; (with_reducible refine (HP.out _).mono ?_); rintro e w' ⟨rfl, rfl⟩)
  go_ret
  exact ⟨ret_b (by rw [← HZ.out]; rfl), rfl⟩
 ·have h2 : (o == 118) = false := beq_eq_false_iff_ne.2 h118
  go_enter Tryz.func86, Tryz.ntmps86
  go_wp2_with (go_at_call 49; (with_reducible refine (HP.out _).mono ?_); rintro e w' ⟨rfl, rfl⟩)
  all_goals
   go_ret
   exact ⟨ret_b (by rw [← HZ.out, if_neg h118]; grind), rfl⟩
theorem r9_is (s x o : Int) (w : World) : Calls Tryz.prog 45 #[.int .i64 s, .int .i64 x, .int .i64 o] w fun e w' => e = .returned (.bool (isOneI s x o)) ∧ w = w' := by
 rw [← isR_eq]
 obtain ⟨z, hz⟩ : ∃ z, isR s x o = z := ⟨_, rfl⟩
 rw [hz]
 unfold isR at hz
 by_cases hb : o < 0 ∨ 255 < o ∨ x < 0 ∨ 2 < x
 ·rw [if_pos hb] at hz
  have HZ := z_ hz
  clear hz
  rcases hb with h | h | h | h
  all_goals
   go_enter Tryz.func45, Tryz.ntmps45
   go_wp2_with fail
   all_goals first
    | omega
    | (go_ret; exact ⟨ret_b HZ.out, rfl⟩)
 ·rw [if_neg hb] at hz
  have a0 : ¬ o < 0 := by omega
  have a1 : ¬ 255 < o := by omega
  have a2 : ¬ x < 0 := by omega
  have a3 : ¬ 2 < x := by omega
  clear hb
  by_cases s0 : s = 0
  ·subst s0
   rw [if_pos rfl] at hz
   have HZ := z_ hz
   clear hz
   go_enter Tryz.func45, Tryz.ntmps45
   go_wp2_with (go_at_call 65; (with_reducible refine (r9_prefix _ _).mono ?_); rintro e w' ⟨rfl, rfl⟩)
   all_goals
    go_ret
    exact ⟨ret_b (by rw [← HZ.out]; grind), rfl⟩
  ·rw [if_neg s0] at hz
   by_cases s12 : s = 1 ∨ s = 2
   ·rw [if_pos s12] at hz
    have HZ := z_ hz
    clear hz s0
    rcases s12 with rfl | rfl
    all_goals
     go_enter Tryz.func45, Tryz.ntmps45
     go_wp2_with fail
     all_goals
      go_ret
      exact ⟨ret_b (by rw [← HZ.out] <;> simp_all), rfl⟩
   ·rw [if_neg s12] at hz
    by_cases s3 : s = 3
    ·subst s3
     rw [if_pos rfl] at hz
     have HZ := z_ hz
     clear hz s0 s12
     go_enter Tryz.func45, Tryz.ntmps45
     go_wp2_with fail
     all_goals
      go_ret
      exact ⟨ret_b (by rw [← HZ.out] <;> simp_all), rfl⟩
    ·rw [if_neg s3] at hz
     have e0 : (s == 0) = false := beq_eq_false_iff_ne.2 s0
     have e1 : (s == 1) = false := beq_eq_false_iff_ne.2 (fun h => s12 (.inl h))
     have e2 : (s == 2) = false := beq_eq_false_iff_ne.2 (fun h => s12 (.inr h))
     have e3 : (s == 3) = false := beq_eq_false_iff_ne.2 s3
     have HZ := z_ hz
     clear hz s0 s12 s3
     go_enter Tryz.func45, Tryz.ntmps45
     go_wp2_with fail
     go_ret
     exact ⟨ret_b HZ.out, rfl⟩
end Go.Proofs.YtgaihekapakoeaaGreatDoor
namespace Go.Proofs.YtgaihekapakoeaaGreatDoor
open Go.RowKit


set_option maxRecDepth 100000

set_option maxHeartbeats 4000000 in
theorem r9_needs (s x o : Int) (w : World) : Calls Tryz.prog 47 #[.int .i64 s, .int .i64 x, .int .i64 o] w fun e w' => e = .returned (.tuple #[.bool (needD s x o), .int .i64 (needN s x o)]) ∧ w = w' := by
 obtain ⟨d, hd⟩ : ∃ z, needD s x o = z := ⟨_, rfl⟩
 obtain ⟨n, hn⟩ : ∃ z, needN s x o = z := ⟨_, rfl⟩
 rw [hd, hn]
 unfold needD at hd
 unfold needN at hn
 have HO := z_ (fun w => r9_is s x o w)
 have hby := @isOneI_byte s x o
 have hcs := @one_cases s x o
 obtain ⟨b, hb⟩ : ∃ b, isOneI s x o = b := ⟨_, rfl⟩
 rw [hb] at hd hn HO hby hcs
 cases b with
 | false =>
  have HD := z_ hd
  have HN := z_ hn
  clear hd hn hby hb hcs
  go_enter Tryz.func47, Tryz.ntmps47
  go_wp2_with (go_at_call 45; (with_reducible refine (HO.out _).mono ?_); rintro e w' ⟨rfl, rfl⟩)
  go_ret2
  exact ⟨ret_bn HD.out HN.out, rfl⟩
 | true =>
  obtain ⟨o0, o1⟩ := hby rfl
  obtain ⟨hs, hx, -, -⟩ := hcs rfl
  have HP := fun w => r9_parts o w o0 o1
  have HB := z_ (fun w => r9_by o w o0 o1)
  have HR := z_ (fun w => r9_rel o w o0 o1)
  have hnR := nR_eq o0 o1
  unfold nR oneN twoN at hnR
  rw [relR_eq o0 o1] at hnR
  have hX2 : ∀ z, immX o = z → (if o / 64 = 1 ∧ o % 8 = 3 then (2 : Int) else 0) = z := fun z h => h
  generalize hlI o = u at *
  generalize relI o = rl at *
  rw [← hnR] at hn
  have hx0 : s ≠ 0 → s ≠ 3 → x = 0 := fun a c => one_x0 (by omega) hb
  have hx3 : s = 3 → x ≠ 0 := fun a => by
   subst a
   rintro rfl
   unfold isOneI at hb
   simp at hb
  clear hby hcs hb o0 o1
  rcases hs with rfl | rfl | rfl | rfl
  ·rw [if_pos rfl] at hd hn
   simp only [if_true] at hn
   generalize o / 64 = X at *
   generalize o / 8 % 8 = Y at *
   generalize o / 8 % 2 = Q at *
   generalize o % 8 = Z at *
   have HD := z_ hd
   have HN := z_ hn
   have HP := z_ HP
   clear hd hn hx0 hx3 hnR hX2
   rcases hx with rfl | rfl | rfl
   all_goals
    go_enter Tryz.func47, Tryz.ntmps47
    go_wp2_with (first
     | (go_at_call 45; (with_reducible refine (HO.out _).mono ?_); rintro e w' ⟨rfl, rfl⟩)
     | (go_at_call 49; (with_reducible refine (HP.out _).mono ?_); rintro e w' ⟨rfl, rfl⟩)
     | (go_at_call 48; (with_reducible refine (HR.out _).mono ?_); rintro e w' ⟨rfl, rfl⟩)
     | (go_at_call 86; (with_reducible refine (HB.out _).mono ?_); rintro e w' ⟨rfl, rfl⟩))
    all_goals
     go_ret2
     exact ⟨ret_bn (by rw [← HD.out]; grind) (by rw [← HN.out]; grind), rfl⟩
  ·obtain rfl := hx0 (by decide) (by decide)
   have HD := z_ (show false = d from hd)
   have HN := z_ (show 0 = n from hn)
   have HP := z_ HP
   clear hd hn hx0 hx3 hnR hX2
   go_enter Tryz.func47, Tryz.ntmps47
   go_wp2_with (first
    | (go_at_call 45; (with_reducible refine (HO.out _).mono ?_); rintro e w' ⟨rfl, rfl⟩)
    | (go_at_call 49; (with_reducible refine (HP.out _).mono ?_); rintro e w' ⟨rfl, rfl⟩))
   go_ret2
   exact ⟨ret_bn HD.out HN.out, rfl⟩
  ·obtain rfl := hx0 (by decide) (by decide)
   have hn2 := hX2 n hn
   have HD := z_ (show false = d from hd)
   generalize o / 64 = X at *
   generalize o % 8 = Z at *
   have HN := z_ hn2
   have HP := z_ HP
   clear hd hn hx0 hx3 hnR hX2 hn2
   go_enter Tryz.func47, Tryz.ntmps47
   go_wp2_with (first
    | (go_at_call 45; (with_reducible refine (HO.out _).mono ?_); rintro e w' ⟨rfl, rfl⟩)
    | (go_at_call 49; (with_reducible refine (HP.out _).mono ?_); rintro e w' ⟨rfl, rfl⟩))
   all_goals
    go_ret2
    exact ⟨ret_bn HD.out (by rw [← HN.out]; grind), rfl⟩
  ·have HD := z_ (show true = d from hd)
   have HN := z_ (show 0 = n from hn)
   have HP := z_ HP
   clear hd hn hx0 hx3 hnR hX2
   go_enter Tryz.func47, Tryz.ntmps47
   go_wp2_with (first
    | (go_at_call 45; (with_reducible refine (HO.out _).mono ?_); rintro e w' ⟨rfl, rfl⟩)
    | (go_at_call 49; (with_reducible refine (HP.out _).mono ?_); rintro e w' ⟨rfl, rfl⟩))
   go_ret2
   exact ⟨ret_bn HD.out HN.out, rfl⟩

theorem r9_length (s x o : Int) (hx : x = 0 ∨ x = 1 ∨ x = 2) (w : World) : Calls Tryz.prog 46 #[.int .i64 s, .int .i64 x, .int .i64 o] w fun e w' => e = .returned (.int .i64 (lenI s x o)) ∧ w = w' := by
 have HN := z_ (fun w => r9_needs s x o w)
 obtain ⟨z, hz⟩ : ∃ z, lenI s x o = z := ⟨_, rfl⟩
 rw [hz]
 unfold lenI at hz
 have hn := needN_in s x o
 obtain ⟨d, hd⟩ : ∃ d, needD s x o = d := ⟨_, rfl⟩
 rw [hd] at hz HN
 clear hd
 generalize needN s x o = b at *
 obtain ⟨n0, n1⟩ := hn
 by_cases hs : s = 0
 ·subst hs
  cases d
  all_goals
   rcases hx with rfl | rfl | rfl
   all_goals
    have HZ := z_ hz
    clear hz
    go_enter Tryz.func46, Tryz.ntmps46
    go_wp2_with (go_at_call 47; (with_reducible refine (HN.out _).mono ?_); rintro e w' ⟨rfl, rfl⟩)
    go_ret
    refine ⟨ret_n ?_, rfl⟩
    rw [← HZ.out]
    simp [num1]
    try omega
 ·have hse : (s != 0) = true := bne_iff_ne.2 hs
  have hse2 : (s == 0) = false := beq_eq_false_iff_ne.2 hs
  rw [hse] at hz
  clear hs
  cases d
  all_goals
   rcases hx with rfl | rfl | rfl
   all_goals
    have HZ := z_ hz
    clear hz
    go_enter Tryz.func46, Tryz.ntmps46
    go_wp2_with (go_at_call 47; (with_reducible refine (HN.out _).mono ?_); rintro e w' ⟨rfl, rfl⟩)
    go_ret
    refine ⟨ret_n ?_, rfl⟩
    rw [← HZ.out]
    simp [num1]
    try omega
end Go.Proofs.YtgaihekapakoeaaGreatDoor
namespace Go.Proofs.YtgaihekapakoeaaGreatDoor
open Go.RowKit


set_option maxRecDepth 100000

theorem r9_signed (c : Int) (w : World) (h0 : 0 ≤ c) (h1 : c < 256) : Calls Tryz.prog 66 #[.int .u8 c] w fun e w' => e = .returned (.int .i64 (IntKind.i8.wrap c)) ∧ w = w' := by
 rw [sgn_eq c h0 h1]
 unfold sgn
 by_cases h : c < 128
 ·have h2 : ¬ 128 ≤ c := by omega
  rw [if_pos h]
  go_enter Tryz.func66, Tryz.ntmps66
  go_wp2
  go_ret
  exact ⟨rfl, rfl⟩
 ·have h2 : 128 ≤ c := by omega
  rw [if_neg h]
  go_enter Tryz.func66, Tryz.ntmps66
  go_wp2
  go_ret
  exact ⟨rfl, rfl⟩

def highR (n : Int) : Int := if n = 0 then 0 else if n = 1 then 255 else 65535
def opsR (d : Bool) (n D M : Int) (j : Bool) : Bool :=
 (if d = true then decide (-128 ≤ D) && decide (D ≤ 127) else D == 0) && (if n = 1 ∧ j = true then decide (-128 ≤ M) && decide (M ≤ 127) else decide (0 ≤ M) && decide (M ≤ highR n))
theorem opsR_eq (i : In) : opsR (needD i.s i.x i.o) (needN i.s i.x i.o) i.d i.m (jumpI i.s i.o) = i.ops := by
 have hn := needN_in i.s i.x i.o
 have hj := @rel_one i.s i.x i.o
 unfold opsR In.ops highR fitsI
 generalize needN i.s i.x i.o = n at *
 generalize jumpI i.s i.o = j at *
 generalize needD i.s i.x i.o = d at *
 have hc : n = 0 ∨ n = 1 ∨ n = 2 := by omega
 cases d <;> cases j <;> rcases hc with rfl | rfl | rfl <;> simp [num1] <;> try grind

set_option maxHeartbeats 8000000 in
theorem r9_check (i : In) (hi : i.Wf) (w : World) : Calls Tryz.prog 22 #[i.val] w fun e w' => e = .returned (.int .i64 (if i.may = true then 0 else 2)) ∧ Below w.heap.size w w' := by
 obtain ⟨w1, hw1⟩ : ∃ w1, w.alloc (inO i) = w1 := ⟨_, rfl⟩
 have hL : InW w1 w.heap.size i := hw1 ▸ InW.laid w i
 have hb0 : Below w.heap.size w w1 := hw1 ▸ (Below.refl _ _).alloc (Nat.le_refl _) _
 have HI := z_ (fun w => r9_is i.s i.x i.o w)
 have HN := z_ (fun w => r9_needs i.s i.x i.o w)
 have HE := z_ (fun hx w => r9_length i.s i.x i.o hx w)
 have hcs := @one_cases i.s i.x i.o
 have hnn := needN_in i.s i.x i.o
 have hm : i.may = (isOneI i.s i.x i.o && (i.n == i.len && opsR (needD i.s i.x i.o) (needN i.s i.x i.o) i.d i.m (jumpI i.s i.o))) := by rw [opsR_eq]; rfl
 obtain ⟨r, hr⟩ : ∃ r : Int, (if i.may = true then 0 else 2) = r := ⟨_, rfl⟩
 rw [hr]
 rw [hm] at hr
 unfold In.len at hr
 have HL := z_ hL
 have HW := z_ hb0
 rw [in_val]
 unfold inO at hw1
 clear hm hb0 hL
 obtain ⟨s, hs⟩ : ∃ s, i.s = s := ⟨_, rfl⟩
 obtain ⟨x, hx⟩ : ∃ x, i.x = x := ⟨_, rfl⟩
 obtain ⟨o, ho⟩ : ∃ o, i.o = o := ⟨_, rfl⟩
 obtain ⟨D, hD⟩ : ∃ D, i.d = D := ⟨_, rfl⟩
 obtain ⟨Q, hM⟩ : ∃ Q, i.m = Q := ⟨_, rfl⟩
 obtain ⟨n, hn⟩ : ∃ n, i.n = n := ⟨_, rfl⟩
 have g0 : ∀ p : M.Of (M.Base w1), p.w.cell? ⟨w.heap.size, 0, none⟩ = some (.int .i64 s) := fun p => hs ▸ (HL.out.keep (p.ok.2.block _ HL.out.lt)).gs
 have g1 : ∀ p : M.Of (M.Base w1), p.w.cell? ⟨w.heap.size, 1, none⟩ = some (.int .i64 x) := fun p => hx ▸ (HL.out.keep (p.ok.2.block _ HL.out.lt)).gx
 have g2 : ∀ p : M.Of (M.Base w1), p.w.cell? ⟨w.heap.size, 2, none⟩ = some (.int .i64 o) := fun p => ho ▸ (HL.out.keep (p.ok.2.block _ HL.out.lt)).go
 have g5 : ∀ p : M.Of (M.Base w1), p.w.cell? ⟨w.heap.size, 5, none⟩ = some (.int .i64 n) := fun p => hn ▸ (HL.out.keep (p.ok.2.block _ HL.out.lt)).gn
 have HG := z_ (fun (wc : World) (hc : M.Base w1 wc) => (⟨hs ▸ (HL.out.keep (hc.2.block _ HL.out.lt)).gs, hx ▸ (HL.out.keep (hc.2.block _ HL.out.lt)).gx, ho ▸ (HL.out.keep (hc.2.block _ HL.out.lt)).go, hD ▸ (HL.out.keep (hc.2.block _ HL.out.lt)).gd, hM ▸ (HL.out.keep (hc.2.block _ HL.out.lt)).gm⟩ :
  wc.cell? ⟨w.heap.size, 0, none⟩ = some (.int .i64 s) ∧ wc.cell? ⟨w.heap.size, 1, none⟩ = some (.int .i64 x) ∧ wc.cell? ⟨w.heap.size, 2, none⟩ = some (.int .i64 o) ∧ wc.cell? ⟨w.heap.size, 3, none⟩ = some (.int .i64 D) ∧ wc.cell? ⟨w.heap.size, 4, none⟩ = some (.int .i64 Q)))
 rw [hs, hx, ho] at hr HI HN HE hcs hnn
 rw [hD, hM, hn] at hr
 clear hs hx ho hD hM hn
 obtain ⟨b, hb⟩ : ∃ b, isOneI s x o = b := ⟨_, rfl⟩
 rw [hb] at hr HI hcs
 clear hb
 cases b with
 | false =>
  rw [Bool.false_and, if_neg (by decide)] at hr
  have HR := z_ hr
  clear hr hcs
  go_enter Tryz.func22, Tryz.ntmps22
  go_upto_region 1 with fail
  refine M.rg ?_
  refine M.sg [0, 1, 2, 3, 4, 5] 14 ?_
  repeat (go_big_quiet_step (fail))
  refine wpQuiet_nil ?_
  refine M.cm 6 (.bool false) ?_ ?_
  ·intro wz sz
   unfold Oper.does
   go_simp
   exact (HI.out wz).mono fun e w' ⟨he, hw⟩ => ⟨_, he, rfl, hw ▸ Save.refl _ _⟩
  go_simp
  refine M.sg [7, 8, 9, 10, 11, 12, 13, 14, 15, 16, 17, 18, 19] 0 ?_
  repeat (go_big_quiet_step (fail))
  refine wpQuiet_nil ?_
  refine M.en ?_
  intro wc sc
  have hB := HW.out.trans (sc.2.mono HW.out.size)
  clear sc g0 g1 g2 g5
  go_wp2
  go_ret
  exact ⟨HR.out ▸ rfl, hB⟩
 | true =>
  rw [Bool.true_and] at hr
  obtain ⟨-, hx3, o0, o1⟩ := hcs rfl
  have HE2 := z_ (HE.out hx3)
  obtain ⟨L, hLn⟩ : ∃ L, lenI s x o = L := ⟨_, rfl⟩
  rw [hLn] at HE2 hr
  have HRl := z_ (fun w => r9_rel o w o0 o1)
  clear hLn HE hcs hx3 o0 o1
  by_cases hnl : n = L
  ·subst hnl
   rw [beq_self_eq_true, Bool.true_and] at hr
   obtain ⟨d, hd⟩ : ∃ d, needD s x o = d := ⟨_, rfl⟩
   obtain ⟨k, hk⟩ : ∃ k, needN s x o = k := ⟨_, rfl⟩
   rw [hd, hk] at hr HN
   rw [hk] at hnn
   unfold jumpI at hr
   obtain ⟨rl, hrl⟩ : ∃ rl, relI o = rl := ⟨_, rfl⟩
   rw [hrl] at hr HRl
   have HR := z_ hr
   clear hd hk hr hrl
   go_enter Tryz.func22, Tryz.ntmps22
   go_upto_region 1 with fail
   refine M.rg ?_
   refine M.sg [0, 1, 2, 3, 4, 5] 14 ?_
   repeat (go_big_quiet_step (fail))
   refine wpQuiet_nil ?_
   refine M.cm 6 (.bool true) ?_ ?_
   ·intro wz sz
    unfold Oper.does
    go_simp
    exact (HI.out wz).mono fun e w' ⟨he, hw⟩ => ⟨_, he, rfl, hw ▸ Save.refl _ _⟩
   go_simp
   refine M.sg [7, 8, 9, 10, 11, 12, 13, 14, 15, 16] 3 ?_
   repeat (go_big_quiet_step (fail))
   refine wpQuiet_nil ?_
   refine M.cm 17 (.int .i64 n) ?_ ?_
   ·intro wz sz
    unfold Oper.does
    go_simp
    exact (HE2.out wz).mono fun e w' ⟨he, hw⟩ => ⟨_, he, rfl, hw ▸ Save.refl _ _⟩
   go_simp
   refine M.sg [18, 19] 0 ?_
   repeat (go_big_quiet_step (fail))
   refine wpQuiet_nil ?_
   refine M.en ?_
   intro wc sc
   obtain ⟨k0, k1, k2, k3, k4⟩ := HG.out wc sc
   have hB := HW.out.trans (sc.2.mono HW.out.size)
   have HK := z_ (fun (w2 : World) (h2 : Below wc.heap.size wc w2) => HG.out w2 ⟨Nat.le_trans sc.1 h2.size, sc.2.trans (h2.mono sc.1)⟩)
   clear g0 g1 g2 g5
   have hD : (d = true ∧ D < -128) ∨ (d = true ∧ ¬ D < -128 ∧ 127 < D) ∨ (d = false ∧ (D != 0) = true) ∨ (d = true ∧ ¬ D < -128 ∧ ¬ 127 < D) ∨ (d = false ∧ (D != 0) = false) := by
    cases d with
    | true => simp; omega
    | false => simp; omega
   rcases hD with ⟨rfl, h1⟩ | ⟨rfl, h1, h2⟩ | ⟨rfl, h1⟩ | hD
   ·have hr2 : opsR true k D Q (rl && s == 0) = false := by unfold opsR; simp; omega
    have HR2 := z_ (show 2 = r by rw [← HR.out, hr2]; rfl)
    clear HR hr2
    go_wp2_with (go_at_call 47; (with_reducible refine (HN.out _).mono ?_); rintro e w' ⟨rfl, rfl⟩)
    go_ret
    exact ⟨HR2.out ▸ rfl, hB⟩
   ·have hr2 : opsR true k D Q (rl && s == 0) = false := by unfold opsR; simp; omega
    have HR2 := z_ (show 2 = r by rw [← HR.out, hr2]; rfl)
    clear HR hr2
    go_wp2_with (go_at_call 47; (with_reducible refine (HN.out _).mono ?_); rintro e w' ⟨rfl, rfl⟩)
    go_ret
    exact ⟨HR2.out ▸ rfl, hB⟩
   ·have hr2 : opsR false k D Q (rl && s == 0) = false := by unfold opsR; simp_all
    have HR2 := z_ (show 2 = r by rw [← HR.out, hr2]; rfl)
    clear HR hr2
    go_wp2_with (go_at_call 47; (with_reducible refine (HN.out _).mono ?_); rintro e w' ⟨rfl, rfl⟩)
    go_ret
    exact ⟨HR2.out ▸ rfl, hB⟩
   ·have hDok : (if d = true then decide (-128 ≤ D) && decide (D ≤ 127) else D == 0) = true := by
     rcases hD with ⟨rfl, h1, h2⟩ | ⟨rfl, h1⟩
     ·simp; omega
     ·simpa using h1
    have hr := HR.out
    unfold opsR at hr
    rw [hDok, Bool.true_and] at hr
    clear HR hDok
    have hMl : ∃ N : Nat, k = N ∧ N < 3 := ⟨k.toNat, by omega, by omega⟩
    have hkc : k = 0 ∨ k = 1 ∨ k = 2 := by omega
    have HD := z_ hD
    clear hD hnn hMl
    rcases HD.out with ⟨rfl, h1, h2⟩ | ⟨rfl, h1⟩
    all_goals
     clear HD
     rcases hkc with rfl | rfl | rfl
     ·go_upto_region 6 with (go_at_call 47; (with_reducible refine (HN.out _).mono ?_); rintro e w' ⟨rfl, rfl⟩)
      refine M.rg ?_
      refine M.sg [1, 4] 4 ?_
      repeat (go_big_quiet_step (fail))
      refine wpQuiet_nil ?_
      refine M.cl 0 ?_
      intro wz sz
      have hbz : Below wc.heap.size wc (wz.alloc (.cells #[.int .i64 0, .int .i64 255, .int .i64 65535] 3)) := sz.2.alloc sz.1 _
      obtain ⟨w3, hw3⟩ : ∃ w3, wz.alloc (.cells #[.int .i64 0, .int .i64 255, .int .i64 65535] 3) = w3 := ⟨_, rfl⟩
      have hc3 : w3.cell? ⟨wz.heap.size, 0, none⟩ = some (.int .i64 0) := by rw [← hw3, World.cell?_alloc_at _ _ _ _ rfl]; rfl
      have hl3 : wz.heap.size < w3.heap.size := by rw [← hw3]; simp
      rw [hw3] at hbz
      unfold Oper.does
      go_simp
      refine ⟨fun w' => M.Base wc w' ∧ w'.cell? ⟨wz.heap.size, 0, none⟩ = some (.int .i64 0) ∧ wz.heap.size < w'.heap.size, ⟨⟨Nat.le_trans sz.1 (by omega), hbz⟩, hc3, hl3⟩, ?_, fun _ h => h.1, ?_⟩
      ·rintro wa wb ⟨a1, a2, a3⟩ hs
       exact ⟨M.closed_base _ _ _ a1 hs, (World.cell?_of_block (hs.all.block _ a3)).trans a2, Nat.lt_of_lt_of_le a3 hs.size⟩
      clear sz hbz hc3 hl3 hw3
      refine M.sg [2] 2 ?_
      repeat (go_big_quiet_step (fail))
      refine wpQuiet_nil ?_
      refine M.cl 3 ?_
      rintro wy ⟨a1, a2, a3⟩
      unfold Oper.does
      go_simp
      refine ⟨M.Base wc, a1, M.closed_base _, fun _ h => h, ?_⟩
      clear a1 a2 a3
      refine M.sg [5] 0 ?_
      repeat (go_big_quiet_step (fail))
      refine wpQuiet_nil ?_
      refine M.en ?_
      intro wc2 sc2
      obtain ⟨j0, j1, j2, j3, j4⟩ := HK.out wc2 sc2.2
      have hB2 := hB.trans (sc2.2.mono hB.size)
      unfold highR at hr
      replace hr : (if (decide (0 ≤ Q) && decide (Q ≤ 0)) = true then (0 : Int) else 2) = r := by simpa using hr
      have hQ : Q < 0 ∨ (¬ Q < 0 ∧ 0 < Q) ∨ (¬ Q < 0 ∧ ¬ 0 < Q) := by omega
      rcases hQ with q1 | ⟨q1, q2⟩ | ⟨q1, q2⟩
      ·have HR3 := z_ (show (2 : Int) = r by rw [← hr, if_neg (by simp; omega)])
       clear hr sc2 k0 k1 k2 k3 k4
       go_wp2_with fail
       go_ret
       exact ⟨HR3.out ▸ rfl, hB2⟩
      ·have HR3 := z_ (show (2 : Int) = r by rw [← hr, if_neg (by simp; omega)])
       clear hr sc2 k0 k1 k2 k3 k4
       go_wp2_with fail
       go_ret
       exact ⟨HR3.out ▸ rfl, hB2⟩
      ·have HR3 := z_ (show (0 : Int) = r by rw [← hr, if_pos (by simp; omega)])
       clear hr sc2 k0 k1 k2 k3 k4
       go_wp2_with fail
       go_ret
       exact ⟨HR3.out ▸ rfl, hB2⟩
     ·go_upto_region 6 with (go_at_call 47; (with_reducible refine (HN.out _).mono ?_); rintro e w' ⟨rfl, rfl⟩)
      refine M.rg ?_
      refine M.sg [1, 4] 4 ?_
      repeat (go_big_quiet_step (fail))
      refine wpQuiet_nil ?_
      refine M.cl 0 ?_
      intro wz sz
      have hbz : Below wc.heap.size wc (wz.alloc (.cells #[.int .i64 0, .int .i64 255, .int .i64 65535] 3)) := sz.2.alloc sz.1 _
      obtain ⟨w3, hw3⟩ : ∃ w3, wz.alloc (.cells #[.int .i64 0, .int .i64 255, .int .i64 65535] 3) = w3 := ⟨_, rfl⟩
      have hc3 : w3.cell? ⟨wz.heap.size, 1, none⟩ = some (.int .i64 255) := by rw [← hw3, World.cell?_alloc_at _ _ _ _ rfl]; rfl
      have hl3 : wz.heap.size < w3.heap.size := by rw [← hw3]; simp
      rw [hw3] at hbz
      unfold Oper.does
      go_simp
      refine ⟨fun w' => M.Base wc w' ∧ w'.cell? ⟨wz.heap.size, 1, none⟩ = some (.int .i64 255) ∧ wz.heap.size < w'.heap.size, ⟨⟨Nat.le_trans sz.1 (by omega), hbz⟩, hc3, hl3⟩, ?_, fun _ h => h.1, ?_⟩
      ·rintro wa wb ⟨a1, a2, a3⟩ hs
       exact ⟨M.closed_base _ _ _ a1 hs, (World.cell?_of_block (hs.all.block _ a3)).trans a2, Nat.lt_of_lt_of_le a3 hs.size⟩
      clear sz hbz hc3 hl3 hw3
      refine M.sg [2] 2 ?_
      repeat (go_big_quiet_step (fail))
      refine wpQuiet_nil ?_
      refine M.cl 3 ?_
      rintro wy ⟨a1, a2, a3⟩
      unfold Oper.does
      go_simp
      refine ⟨M.Base wc, a1, M.closed_base _, fun _ h => h, ?_⟩
      clear a1 a2 a3
      refine M.sg [5] 0 ?_
      repeat (go_big_quiet_step (fail))
      refine wpQuiet_nil ?_
      refine M.en ?_
      intro wc2 sc2
      obtain ⟨j0, j1, j2, j3, j4⟩ := HK.out wc2 sc2.2
      have hB2 := hB.trans (sc2.2.mono hB.size)
      unfold highR at hr
      by_cases hs0 : s = 0
      ·subst hs0
       rw [beq_self_eq_true, Bool.and_true] at hr
       cases rl with
       | true =>
        replace hr : (if (decide (-128 ≤ Q) && decide (Q ≤ 127)) = true then (0 : Int) else 2) = r := by simpa using hr
        have hQ : Q < -128 ∨ (¬ Q < -128 ∧ 127 < Q) ∨ (¬ Q < -128 ∧ ¬ 127 < Q) := by omega
        rcases hQ with q1 | ⟨q1, q2⟩ | ⟨q1, q2⟩
        ·have HR3 := z_ (show (2 : Int) = r by rw [← hr, if_neg (by simp; omega)])
         clear hr sc2 k0 k1 k2 k3 k4
         go_wp2_with (go_at_call 48; (with_reducible refine (HRl.out _).mono ?_); rintro e w' ⟨rfl, rfl⟩)
         go_ret
         exact ⟨HR3.out ▸ rfl, hB2⟩
        ·have HR3 := z_ (show (2 : Int) = r by rw [← hr, if_neg (by simp; omega)])
         clear hr sc2 k0 k1 k2 k3 k4
         go_wp2_with (go_at_call 48; (with_reducible refine (HRl.out _).mono ?_); rintro e w' ⟨rfl, rfl⟩)
         go_ret
         exact ⟨HR3.out ▸ rfl, hB2⟩
        ·have HR3 := z_ (show (0 : Int) = r by rw [← hr, if_pos (by simp; omega)])
         clear hr sc2 k0 k1 k2 k3 k4
         go_wp2_with (go_at_call 48; (with_reducible refine (HRl.out _).mono ?_); rintro e w' ⟨rfl, rfl⟩)
         go_ret
         exact ⟨HR3.out ▸ rfl, hB2⟩
       | false =>
        replace hr : (if (decide (0 ≤ Q) && decide (Q ≤ 255)) = true then (0 : Int) else 2) = r := by simpa using hr
        have hQ : Q < 0 ∨ (¬ Q < 0 ∧ 255 < Q) ∨ (¬ Q < 0 ∧ ¬ 255 < Q) := by omega
        rcases hQ with q1 | ⟨q1, q2⟩ | ⟨q1, q2⟩
        ·have HR3 := z_ (show (2 : Int) = r by rw [← hr, if_neg (by simp; omega)])
         clear hr sc2 k0 k1 k2 k3 k4
         go_wp2_with (go_at_call 48; (with_reducible refine (HRl.out _).mono ?_); rintro e w' ⟨rfl, rfl⟩)
         go_ret
         exact ⟨HR3.out ▸ rfl, hB2⟩
        ·have HR3 := z_ (show (2 : Int) = r by rw [← hr, if_neg (by simp; omega)])
         clear hr sc2 k0 k1 k2 k3 k4
         go_wp2_with (go_at_call 48; (with_reducible refine (HRl.out _).mono ?_); rintro e w' ⟨rfl, rfl⟩)
         go_ret
         exact ⟨HR3.out ▸ rfl, hB2⟩
        ·have HR3 := z_ (show (0 : Int) = r by rw [← hr, if_pos (by simp; omega)])
         clear hr sc2 k0 k1 k2 k3 k4
         go_wp2_with (go_at_call 48; (with_reducible refine (HRl.out _).mono ?_); rintro e w' ⟨rfl, rfl⟩)
         go_ret
         exact ⟨HR3.out ▸ rfl, hB2⟩
      ·have hse : (s == 0) = false := beq_eq_false_iff_ne.2 hs0
       rw [hse, Bool.and_false] at hr
       clear hs0
       replace hr : (if (decide (0 ≤ Q) && decide (Q ≤ 255)) = true then (0 : Int) else 2) = r := by simpa using hr
       have hQ : Q < 0 ∨ (¬ Q < 0 ∧ 255 < Q) ∨ (¬ Q < 0 ∧ ¬ 255 < Q) := by omega
       rcases hQ with q1 | ⟨q1, q2⟩ | ⟨q1, q2⟩
       ·have HR3 := z_ (show (2 : Int) = r by rw [← hr, if_neg (by simp; omega)])
        clear hr sc2 k0 k1 k2 k3 k4
        go_wp2_with fail
        go_ret
        exact ⟨HR3.out ▸ rfl, hB2⟩
       ·have HR3 := z_ (show (2 : Int) = r by rw [← hr, if_neg (by simp; omega)])
        clear hr sc2 k0 k1 k2 k3 k4
        go_wp2_with fail
        go_ret
        exact ⟨HR3.out ▸ rfl, hB2⟩
       ·have HR3 := z_ (show (0 : Int) = r by rw [← hr, if_pos (by simp; omega)])
        clear hr sc2 k0 k1 k2 k3 k4
        go_wp2_with fail
        go_ret
        exact ⟨HR3.out ▸ rfl, hB2⟩
     ·go_upto_region 6 with (go_at_call 47; (with_reducible refine (HN.out _).mono ?_); rintro e w' ⟨rfl, rfl⟩)
      refine M.rg ?_
      refine M.sg [1, 4] 4 ?_
      repeat (go_big_quiet_step (fail))
      refine wpQuiet_nil ?_
      refine M.cl 0 ?_
      intro wz sz
      have hbz : Below wc.heap.size wc (wz.alloc (.cells #[.int .i64 0, .int .i64 255, .int .i64 65535] 3)) := sz.2.alloc sz.1 _
      obtain ⟨w3, hw3⟩ : ∃ w3, wz.alloc (.cells #[.int .i64 0, .int .i64 255, .int .i64 65535] 3) = w3 := ⟨_, rfl⟩
      have hc3 : w3.cell? ⟨wz.heap.size, 2, none⟩ = some (.int .i64 65535) := by rw [← hw3, World.cell?_alloc_at _ _ _ _ rfl]; rfl
      have hl3 : wz.heap.size < w3.heap.size := by rw [← hw3]; simp
      rw [hw3] at hbz
      unfold Oper.does
      go_simp
      refine ⟨fun w' => M.Base wc w' ∧ w'.cell? ⟨wz.heap.size, 2, none⟩ = some (.int .i64 65535) ∧ wz.heap.size < w'.heap.size, ⟨⟨Nat.le_trans sz.1 (by omega), hbz⟩, hc3, hl3⟩, ?_, fun _ h => h.1, ?_⟩
      ·rintro wa wb ⟨a1, a2, a3⟩ hs
       exact ⟨M.closed_base _ _ _ a1 hs, (World.cell?_of_block (hs.all.block _ a3)).trans a2, Nat.lt_of_lt_of_le a3 hs.size⟩
      clear sz hbz hc3 hl3 hw3
      refine M.sg [2] 2 ?_
      repeat (go_big_quiet_step (fail))
      refine wpQuiet_nil ?_
      refine M.cl 3 ?_
      rintro wy ⟨a1, a2, a3⟩
      unfold Oper.does
      go_simp
      refine ⟨M.Base wc, a1, M.closed_base _, fun _ h => h, ?_⟩
      clear a1 a2 a3
      refine M.sg [5] 0 ?_
      repeat (go_big_quiet_step (fail))
      refine wpQuiet_nil ?_
      refine M.en ?_
      intro wc2 sc2
      obtain ⟨j0, j1, j2, j3, j4⟩ := HK.out wc2 sc2.2
      have hB2 := hB.trans (sc2.2.mono hB.size)
      unfold highR at hr
      replace hr : (if (decide (0 ≤ Q) && decide (Q ≤ 65535)) = true then (0 : Int) else 2) = r := by simpa using hr
      have hQ : Q < 0 ∨ (¬ Q < 0 ∧ 65535 < Q) ∨ (¬ Q < 0 ∧ ¬ 65535 < Q) := by omega
      rcases hQ with q1 | ⟨q1, q2⟩ | ⟨q1, q2⟩
      ·have HR3 := z_ (show (2 : Int) = r by rw [← hr, if_neg (by simp; omega)])
       clear hr sc2 k0 k1 k2 k3 k4
       go_wp2_with fail
       go_ret
       exact ⟨HR3.out ▸ rfl, hB2⟩
      ·have HR3 := z_ (show (2 : Int) = r by rw [← hr, if_neg (by simp; omega)])
       clear hr sc2 k0 k1 k2 k3 k4
       go_wp2_with fail
       go_ret
       exact ⟨HR3.out ▸ rfl, hB2⟩
      ·have HR3 := z_ (show (0 : Int) = r by rw [← hr, if_pos (by simp; omega)])
       clear hr sc2 k0 k1 k2 k3 k4
       go_wp2_with fail
       go_ret
       exact ⟨HR3.out ▸ rfl, hB2⟩
  ·have hne : (n != L) = true := bne_iff_ne.2 hnl
   rw [beq_eq_false_iff_ne.2 hnl, Bool.false_and, if_neg (by decide)] at hr
   have HR := z_ hr
   clear hr hnl
   go_enter Tryz.func22, Tryz.ntmps22
   go_upto_region 1 with fail
   refine M.rg ?_
   refine M.sg [0, 1, 2, 3, 4, 5] 14 ?_
   repeat (go_big_quiet_step (fail))
   refine wpQuiet_nil ?_
   refine M.cm 6 (.bool true) ?_ ?_
   ·intro wz sz
    unfold Oper.does
    go_simp
    exact (HI.out wz).mono fun e w' ⟨he, hw⟩ => ⟨_, he, rfl, hw ▸ Save.refl _ _⟩
   go_simp
   refine M.sg [7, 8, 9, 10, 11, 12, 13, 14, 15, 16] 3 ?_
   repeat (go_big_quiet_step (fail))
   refine wpQuiet_nil ?_
   refine M.cm 17 (.int .i64 L) ?_ ?_
   ·intro wz sz
    unfold Oper.does
    go_simp
    exact (HE2.out wz).mono fun e w' ⟨he, hw⟩ => ⟨_, he, rfl, hw ▸ Save.refl _ _⟩
   go_simp
   refine M.sg [18, 19] 0 ?_
   repeat (go_big_quiet_step (fail))
   refine wpQuiet_nil ?_
   refine M.en ?_
   intro wc sc
   have hB := HW.out.trans (sc.2.mono HW.out.size)
   clear sc g0 g1 g2 g5
   go_wp2
   go_ret
   exact ⟨HR.out ▸ rfl, hB⟩
end Go.Proofs.YtgaihekapakoeaaGreatDoor
