
/- Layer 14 of the reference. -/
import Derived.Test.YtmgaibpdpcancaaDoorT3
namespace Go.Proofs.YtmgaibpdpcancaaDoor
open Go.RowKit
set_option linter.unusedSimpArgs false
set_option linter.unusedVariables false
set_option maxRecDepth 100000

theorem and16 (a b : Nat) (ha : a < 65536) (hb : b < 65536) : bits .and .u16 (a : Int) (b : Int) = ((a &&& b : Nat) : Int) := by
  show IntKind.u16.wrap ((BitVec.ofInt 16 (a : Int) &&& BitVec.ofInt 16 (b : Int)).toNat : Int) = _
  have e1 : (BitVec.ofInt 16 (a : Int)).toNat = a := by rw [BitVec.toNat_ofInt]; omega
  have e2 : (BitVec.ofInt 16 (b : Int)).toNat = b := by rw [BitVec.toNat_ofInt]; omega
  rw [BitVec.toNat_and, e1, e2]
  have h1 : a &&& b ≤ a := Nat.and_le_left
  have h2 : a &&& b < 65536 := by omega
  simp only [IntKind.wrap, IntKind.signed, IntKind.bits]
  have : ((a &&& b : Nat) : Int) % 65536 = ((a &&& b : Nat) : Int) := by omega
  simpa using this
theorem low_bit (p : Int) (h0 : 0 ≤ p) (h1 : p < 65536) : bits .and .u16 p 1 = p % 2 := by
  obtain ⟨n, rfl⟩ : ∃ n : Nat, p = n := ⟨p.toNat, by omega⟩
  have := and16 n 1 (by omega) (by decide)
  rw [show ((1 : Nat) : Int) = 1 from rfl] at this
  rw [this, Nat.and_one_is_mod]
  omega

/-- The reference's Is of a class that is not 8. -/
theorem ris_any (c p : Int) (w : World) (h0 : 0 ≤ p) (h1 : p < 65536) (h8 : c ≠ 8) : Calls Tryd.prog 19 #[.int .i64 c, .int .u16 p] w fun e w' => e = .returned (.bool (isI c p)) ∧ w = w' := by
  by_cases h : 1 ≤ c ∧ c ≤ 7
  · obtain ⟨z, hz⟩ : ∃ z, isI c p = z := ⟨_, rfl⟩
    have HZ := Lib.hid hz
    rw [hz]
    clear hz
    have hc : c = 1 ∨ c = 2 ∨ c = 3 ∨ c = 4 ∨ c = 5 ∨ c = 6 ∨ c = 7 := by omega
    clear h h8
    rcases hc with rfl | rfl | rfl | rfl | rfl | rfl | rfl
    · have hz : (p % 2 == 0) = z := by rw [← HZ.out, ← low_bit p h0 h1]; rfl
      clear HZ
      go_enter Tryd.func19, Tryd.ntmps19
      go_wp2
      go_ret
      exact ⟨by rw [← hz]; rfl, rfl⟩
    · go_enter Tryd.func19, Tryd.ntmps19
      go_wp2
      go_ret
      exact ⟨by rw [← HZ.out]; rfl, rfl⟩
    · go_enter Tryd.func19, Tryd.ntmps19
      go_wp2
      go_ret
      exact ⟨by rw [← HZ.out]; rfl, rfl⟩
    · go_enter Tryd.func19, Tryd.ntmps19
      go_wp2
      go_ret
      exact ⟨by rw [← HZ.out]; rfl, rfl⟩
    · go_enter Tryd.func19, Tryd.ntmps19
      go_wp2
      go_ret
      exact ⟨by rw [← HZ.out]; rfl, rfl⟩
    · go_enter Tryd.func19, Tryd.ntmps19
      go_wp2
      go_ret
      exact ⟨by rw [← HZ.out]; rfl, rfl⟩
    · go_enter Tryd.func19, Tryd.ntmps19
      go_wp2
      go_ret
      exact ⟨by rw [← HZ.out]; rfl, rfl⟩
  · have hz : isI c p = false := by unfold isI; rw [if_neg h8, if_neg h]
    rw [hz]
    have e1 : (c == 1) = false := by rw [beq_eq_false_iff_ne]; omega
    have e2 : (c == 2) = false := by rw [beq_eq_false_iff_ne]; omega
    have e3 : (c == 3) = false := by rw [beq_eq_false_iff_ne]; omega
    have e4 : (c == 4) = false := by rw [beq_eq_false_iff_ne]; omega
    have e5 : (c == 5) = false := by rw [beq_eq_false_iff_ne]; omega
    have e6 : (c == 6) = false := by rw [beq_eq_false_iff_ne]; omega
    have e7 : (c == 7) = false := by rw [beq_eq_false_iff_ne]; omega
    have e8 : (c == 8) = false := by rw [beq_eq_false_iff_ne]; omega
    clear hz h h8
    go_enter Tryd.func19, Tryd.ntmps19
    go_wp2
    go_ret
    exact ⟨rfl, rfl⟩

theorem rdI_says (p : Int) : rdI p = if hasC p 0 = true then 1 else if hasC p 3 = true then 4 else if hasC p 5 = true then 6 else if hasC p 6 = true then 7 else 8 := by
  unfold rdI
  simp only [rdN, rRd, List.getD_cons_zero, List.getD_cons_succ, Bool.true_and, Bool.false_and, Bool.false_eq_true, if_false]
  rfl
set_option maxHeartbeats 4000000 in
theorem rread_any (p : Int) (w : World) (h0 : 0 ≤ p) (h1 : p < 65536) : Calls Tryd.prog 17 #[.int .u16 p] w fun e w' => e = .returned (.int .i64 (rdI p)) ∧ Below w.heap.size w w' := by
  have I1 := Lib.hid (fun w => ris_any 1 p w h0 h1 (by decide))
  have I4 := Lib.hid (fun w => ris_any 4 p w h0 h1 (by decide))
  have I6 := Lib.hid (fun w => ris_any 6 p w h0 h1 (by decide))
  have I7 := Lib.hid (fun w => ris_any 7 p w h0 h1 (by decide))
  rw [show isI 1 p = hasC p 0 from rfl] at I1
  rw [show isI 4 p = hasC p 3 from rfl] at I4
  rw [show isI 6 p = hasC p 5 from rfl] at I6
  rw [show isI 7 p = hasC p 6 from rfl] at I7
  obtain ⟨r, hr⟩ : ∃ r, rdI p = r := ⟨_, rfl⟩
  have HR := Lib.hid ((rdI_says p).symm.trans hr)
  rw [hr]
  clear hr h0 h1
  have hb : Below w.heap.size w (w.alloc (.cells #[.int .i64 1, .int .i64 4, .int .i64 6, .int .i64 7] 3)) := (Below.refl _ _).alloc (Nat.le_refl _) _
  have HB := Lib.hid hb
  clear hb
  generalize hasC p 0 = b1 at *
  generalize hasC p 3 = b4 at *
  generalize hasC p 5 = b6 at *
  generalize hasC p 6 = b7 at *
  go_enter Tryd.func17, Tryd.ntmps17
  go_wp2_with fail
  go_loop [4] (fun i => ∃ k : Nat, i = .int .i64 k ∧ k ≤ 4 ∧ Hid ((0 < k → b1 = false) ∧ (1 < k → b4 = false) ∧ (2 < k → b6 = false) ∧ (3 < k → b7 = false))) (fun i => 4 - (intOf i).toNat)
  case atStart => exact ⟨0, rfl, by decide, Lib.hid ⟨by omega, by omega, by omega, by omega⟩⟩
  case round =>
    obtain ⟨k, rfl, hk, HS⟩ := hrel
    have hk2 : k = 0 ∨ k = 1 ∨ k = 2 ∨ k = 3 ∨ k = 4 := by omega
    clear hk
    rcases hk2 with rfl | rfl | rfl | rfl | rfl
    · cases b1 with
      | true =>
        go_wp2_with (go_at_call 19; (with_reducible refine (I1.out _).mono ?_); rintro e w' ⟨rfl, rfl⟩)
        go_ret
        exact ⟨p_ret (by rw [← HR.out]; rfl), HB.out⟩
      | false =>
        go_wp2_with (go_at_call 19; (with_reducible refine (I1.out _).mono ?_); rintro e w' ⟨rfl, rfl⟩)
        go_round
        case rel => exact ⟨1, by go_num, by omega, Lib.hid (by simp)⟩
        case measure => simp [intOf]
    · obtain ⟨s1, _, _, _⟩ := HS.out
      obtain rfl := s1 (by decide)
      cases b4 with
      | true =>
        go_wp2_with (go_at_call 19; (with_reducible refine (I4.out _).mono ?_); rintro e w' ⟨rfl, rfl⟩)
        go_ret
        exact ⟨p_ret (by rw [← HR.out]; rfl), HB.out⟩
      | false =>
        go_wp2_with (go_at_call 19; (with_reducible refine (I4.out _).mono ?_); rintro e w' ⟨rfl, rfl⟩)
        go_round
        case rel => exact ⟨2, by go_num, by omega, Lib.hid (by simp)⟩
        case measure => simp [intOf]
    · obtain ⟨s1, s2, _, _⟩ := HS.out
      obtain rfl := s1 (by decide)
      obtain rfl := s2 (by decide)
      cases b6 with
      | true =>
        go_wp2_with (go_at_call 19; (with_reducible refine (I6.out _).mono ?_); rintro e w' ⟨rfl, rfl⟩)
        go_ret
        exact ⟨p_ret (by rw [← HR.out]; rfl), HB.out⟩
      | false =>
        go_wp2_with (go_at_call 19; (with_reducible refine (I6.out _).mono ?_); rintro e w' ⟨rfl, rfl⟩)
        go_round
        case rel => exact ⟨3, by go_num, by omega, Lib.hid (by simp)⟩
        case measure => simp [intOf]
    · obtain ⟨s1, s2, s3, _⟩ := HS.out
      obtain rfl := s1 (by decide)
      obtain rfl := s2 (by decide)
      obtain rfl := s3 (by decide)
      cases b7 with
      | true =>
        go_wp2_with (go_at_call 19; (with_reducible refine (I7.out _).mono ?_); rintro e w' ⟨rfl, rfl⟩)
        go_ret
        exact ⟨p_ret (by rw [← HR.out]; rfl), HB.out⟩
      | false =>
        go_wp2_with (go_at_call 19; (with_reducible refine (I7.out _).mono ?_); rintro e w' ⟨rfl, rfl⟩)
        go_round
        case rel => exact ⟨4, by go_num, by omega, Lib.hid (by simp)⟩
        case measure => simp [intOf]
    · obtain ⟨s1, s2, s3, s4⟩ := HS.out
      obtain rfl := s1 (by decide)
      obtain rfl := s2 (by decide)
      obtain rfl := s3 (by decide)
      obtain rfl := s4 (by decide)
      go_wp2_with fail
      go_ret
      exact ⟨p_ret (by rw [← HR.out]; rfl), HB.out⟩
theorem ris_all (c p : Int) (w : World) (h0 : 0 ≤ p) (h1 : p < 65536) : Calls Tryd.prog 19 #[.int .i64 c, .int .u16 p] w fun e w' => e = .returned (.bool (isI c p)) ∧ Below w.heap.size w w' := by
  by_cases h8 : c = 8
  · subst h8
    have HR := Lib.hid (rread_any p w h0 h1)
    have hz : isI 8 p = (rdI p == 8) := rfl
    rw [hz]
    generalize rdI p = r at *
    clear hz
    go_enter Tryd.func19, Tryd.ntmps19
    go_wp2_with fail
    refine HR.out.mono ?_
    rintro e w1 ⟨rfl, hb⟩
    go_wp2_with fail
    go_ret
    exact ⟨rfl, hb⟩
  · refine (ris_any c p w h0 h1 h8).mono ?_
    rintro e w' ⟨rfl, rfl⟩
    exact ⟨rfl, Below.refl _ _⟩
end Go.Proofs.YtmgaibpdpcancaaDoor
