
/- PortUsuals. -/
import Derived.Test.YtmgaibpdpcancaaDoorT5
import Derived.Laws.BitsAllLaws
import Derived.OpenShut
namespace Go.Proofs.YtmgaibpdpcancaaDoor
open Go.RowKit
set_option linter.unusedSimpArgs false
set_option linter.unusedVariables false
set_option maxRecDepth 100000

theorem pick16 (a : Int) (w : World) (wa : (Lit.int .i64 a).wf = true) : Calls Tryd.prog 23 #[.int .i64 a, .int .i64 16] w fun e w' => (∃ k : Nat, e = .returned (.int .i64 k) ∧ k < 16) ∧ w = w' := by
  have ha := bounds_i64 wa
  have h1 : a.tmod 16 < 16 := Int.tmod_lt_of_pos a (by omega)
  have h2 : -16 < a.tmod 16 := Int.lt_tmod_of_pos a (by omega)
  have H1 := Lib.hid h1
  have H2 := Lib.hid h2
  clear h1 h2
  go_enter Tryd.func23, Tryd.ntmps23
  go_wp2
  all_goals
    go_ret
    have h1 := H1.out
    have h2 := H2.out
    first
      | (refine ⟨⟨(a.tmod 16).toNat, ?_, by omega⟩, rfl⟩
         show Ending.returned (Value.int .i64 (a.tmod 16)) = _
         rw [show ((a.tmod 16).toNat : Int) = a.tmod 16 by omega])
      | (refine ⟨⟨(a.tmod 16 + 16).toNat, ?_, by omega⟩, rfl⟩
         show Ending.returned (Value.int .i64 (wrap64 (a.tmod 16 + 16))) = _
         rw [show wrap64 (a.tmod 16 + 16) = a.tmod 16 + 16 by unfold wrap64; omega, show ((a.tmod 16 + 16).toNat : Int) = a.tmod 16 + 16 by omega])

theorem usual_of : ∀ i : Fin 7, clsL (hasC (usualI ((i.val + 1 : Nat) : Int))) 7 = [((i.val + 1 : Nat) : Int)] := by decide +kernel
theorem usual_none : clsL (hasC (usualI 8)) 7 = [] := by decide +kernel
/-- A port with a bit turned. -/
def turnI (p : Int) (b : Nat) : Int := bits .xor .u16 p (IntKind.u16.wrap (2 ^ b))
theorem pow_wrap (b : Nat) (hb : b < 16) : IntKind.u16.wrap (2 ^ b) = ((2 ^ b : Nat) : Int) := by
  have h2 : 2 ^ b < 65536 := Nat.pow_lt_pow_right (by decide) hb
  have h3 : (2 : Int) ^ b = ((2 ^ b : Nat) : Int) := (Int.natCast_pow 2 b).symm
  rw [IntKind.wrap_u16, h3]
  generalize 2 ^ b = m at *
  omega
theorem turn_nat (n b : Nat) (hn : n < 65536) (hb : b < 16) : turnI (n : Int) b = ((n ^^^ 2 ^ b : Nat) : Int) ∧ n ^^^ 2 ^ b < 65536 := by
  have h2 : 2 ^ b < 65536 := Nat.pow_lt_pow_right (by decide) hb
  refine ⟨?_, Nat.xor_lt_two_pow (n := 16) (by omega) (by omega)⟩
  unfold turnI
  rw [pow_wrap b hb]
  exact u16_xor_nat n (2 ^ b) hn h2
theorem turn_in (p : Int) (b : Nat) (h0 : 0 ≤ p) (h1 : p < 65536) (hb : b < 16) : 0 ≤ turnI p b ∧ turnI p b < 65536 := by
  obtain ⟨n, rfl⟩ : ∃ n : Nat, p = n := ⟨p.toNat, by omega⟩
  obtain ⟨e, h⟩ := turn_nat n b (by omega) hb
  rw [e]
  omega
theorem masks_clear : ∀ i : Fin 7, ∀ b : Fin 16, 1 ≤ i.val → b.val ≠ 1 → b.val < 12 → 2 ^ b.val &&& (rMask i.val).toNat = 0 := by decide +kernel
theorem mask_in : ∀ i : Fin 7, 0 ≤ rMask i.val ∧ rMask i.val < 65536 := by decide +kernel
theorem turn_same (p : Int) (i b : Nat) (h0 : 0 ≤ p) (h1 : p < 65536) (hi : 1 ≤ i) (hi7 : i < 7) (hb1 : b ≠ 1) (hb : b < 12) : hasC (turnI p b) i = hasC p i := by
  obtain ⟨n, rfl⟩ : ∃ n : Nat, p = n := ⟨p.toNat, by omega⟩
  obtain ⟨e, h⟩ := turn_nat n b (by omega) (by omega)
  obtain ⟨m0, m1⟩ := mask_in ⟨i, hi7⟩
  have hc := masks_clear ⟨i, hi7⟩ ⟨b, by omega⟩ hi hb1 hb
  obtain ⟨m, hm⟩ : ∃ m : Nat, rMask i = m := ⟨(rMask i).toNat, by simp only at m0; omega⟩
  unfold hasC
  simp only at m0 m1 hc
  rw [hm] at m0 m1 hc ⊢
  rw [e, u16_and_nat _ _ h (by omega), u16_and_nat _ _ (by omega) (by omega), Nat.and_xor_distrib_right, show 2 ^ b &&& m = 0 from hc, Nat.xor_zero]
theorem low_turn (p : Int) (b : Nat) (h0 : 0 ≤ p) (h1 : p < 65536) (hb : b < 16) : ((hasC p 0 != hasC (turnI p b) 0) == ((b : Int) == 0)) = true := by
  obtain ⟨n, rfl⟩ : ∃ n : Nat, p = n := ⟨p.toNat, by omega⟩
  obtain ⟨e, h⟩ := turn_nat n b (by omega) hb
  have e1 : hasC (n : Int) 0 = !n.testBit 0 := by
    have := u16_and_nat n 1 (by omega) (by decide)
    unfold hasC
    show (bits .and .u16 (n : Int) 1 == 0) = _
    rw [show (1 : Int) = ((1 : Nat) : Int) from rfl, this, Nat.and_one_is_mod, Nat.testBit_zero]
    rcases Nat.mod_two_eq_zero_or_one n with h2 | h2 <;> rw [h2] <;> rfl
  have e2 : hasC (turnI (n : Int) b) 0 = !(n ^^^ 2 ^ b).testBit 0 := by
    rw [e]
    generalize n ^^^ 2 ^ b = q at *
    have := u16_and_nat q 1 h (by decide)
    unfold hasC
    show (bits .and .u16 (q : Int) 1 == 0) = _
    rw [show (1 : Int) = ((1 : Nat) : Int) from rfl, this, Nat.and_one_is_mod, Nat.testBit_zero]
    rcases Nat.mod_two_eq_zero_or_one q with h2 | h2 <;> rw [h2] <;> rfl
  rw [e1, e2, Nat.testBit_xor]
  by_cases hb0 : b = 0
  · subst hb0
    cases n.testBit 0 <;> decide
  · have : (2 ^ b).testBit 0 = false := by
      rw [Nat.testBit_two_pow]
      simpa using hb0
    rw [this]
    have h3 : ((b : Int) == 0) = false := by rw [beq_eq_false_iff_ne]; omega
    rw [h3]
    cases n.testBit 0 <;> rfl

set_option maxHeartbeats 4000000 in
theorem usuals_none (w : World) (hV : PV w) (c : Int) (p : Int) (b : Int) (h : ¬ (1 ≤ c ∧ c ≤ 8)) : Calls Tryd.prog 6 #[.int .i64 c, .int .u16 p, .int .i64 b] w fun e w' => e = .returned (.bool true) ∧ Below w.heap.size w w' := by
  have H0 := Lib.hid (lives14 w hV.rv)
  have U := Lib.hid (fun w hV => pusual_any c w hV)
  have Nm := Lib.hid (fun w hV => pname_any c w hV)
  have C := Lib.hid (fun w => pchip_any c w)
  have S := Lib.hid (fun w hV => is_any c p w hV)
  rw [show usualI c = 0 by unfold usualI; rw [if_neg h]] at U
  rw [show nameI c = ⟨#[]⟩ by unfold nameI; rw [if_neg h]] at Nm
  rw [show chipI c = 0 by unfold chipI; rw [if_neg h]] at C
  rw [show isI c p = false by unfold isI; rw [if_neg (by omega), if_neg (by omega)]] at S
  have HV := Lib.hid hV
  clear hV
  have e8 : (c == 8) = false := by rw [beq_eq_false_iff_ne]; omega
  by_cases h1 : c < 1
  · have n1 : ¬ 1 ≤ c := by omega
    clear h
    go_enter Tryd.func6, Tryd.ntmps6
    go_wp2_with fail
    refine H0.out.mono ?_
    rintro e w1 ⟨rfl, hb⟩
    have HB := Lib.hid hb
    clear hb
    go_wp2_with fail
    refine (U.out _ (HV.out.on HB.out)).mono ?_
    rintro e w' ⟨rfl, rfl⟩
    go_wp2_with fail
    refine (Nm.out _ (HV.out.on HB.out)).mono ?_
    rintro e w' ⟨rfl, rfl⟩
    go_wp2_with fail
    refine (C.out _).mono ?_
    rintro e w' ⟨rfl, rfl⟩
    go_wp2_with fail
    refine (S.out _ (HV.out.on HB.out).rv).mono ?_
    rintro e w2 ⟨rfl, hb2⟩
    have HB2 := Lib.hid (HB.out.trans (hb2.mono HB.out.size))
    clear hb2
    go_wp2_with fail
    go_ret
    exact ⟨rfl, HB2.out⟩
  · have n1 : 1 ≤ c := by omega
    have n2 : ¬ c ≤ 7 := by omega
    have n3 : 8 < c := by omega
    clear h
    go_enter Tryd.func6, Tryd.ntmps6
    go_wp2_with fail
    refine H0.out.mono ?_
    rintro e w1 ⟨rfl, hb⟩
    have HB := Lib.hid hb
    clear hb
    go_wp2_with fail
    refine (U.out _ (HV.out.on HB.out)).mono ?_
    rintro e w' ⟨rfl, rfl⟩
    go_wp2_with fail
    refine (Nm.out _ (HV.out.on HB.out)).mono ?_
    rintro e w' ⟨rfl, rfl⟩
    go_wp2_with fail
    refine (C.out _).mono ?_
    rintro e w' ⟨rfl, rfl⟩
    go_wp2_with fail
    refine (S.out _ (HV.out.on HB.out).rv).mono ?_
    rintro e w2 ⟨rfl, hb2⟩
    have HB2 := Lib.hid (HB.out.trans (hb2.mono HB.out.size))
    clear hb2
    go_wp2_with fail
    go_ret
    exact ⟨rfl, HB2.out⟩

set_option maxHeartbeats 4000000 in
theorem usuals_8 (w : World) (hV : PV w) (p : Int) (b : Int) (wb : (Lit.int .i64 b).wf = true) (p0 : 0 ≤ p) (p1 : p < 65536) : Calls Tryd.prog 6 #[.int .i64 8, .int .u16 p, .int .i64 b] w fun e w' => e = .returned (.bool true) ∧ Below w.heap.size w w' := by
  have H0 := Lib.hid (lives14 w hV.rv)
  have U := Lib.hid (fun w hV => pusual_any 8 w hV)
  have O := Lib.hid (fun w hV => of_any (usualI 8) w hV)
  rw [usual_none] at O
  have HV := Lib.hid hV
  have PK := Lib.hid (fun w => pick16 b w wb)
  clear hV wb
  generalize usualI 8 = u at *
  go_enter Tryd.func6, Tryd.ntmps6
  go_wp2_with fail
  refine H0.out.mono ?_
  rintro e w1 ⟨rfl, hb⟩
  have HB := Lib.hid hb
  clear hb
  go_wp2_with fail
  refine (U.out _ (HV.out.on HB.out)).mono ?_
  rintro e w' ⟨rfl, rfl⟩
  go_wp2_with fail
  refine (O.out _ (HV.out.on HB.out).rv).mono ?_
  rintro e w2 ⟨⟨A, c, rfl, hA⟩, hb2⟩
  have HB2 := Lib.hid (HB.out.trans (hb2.mono HB.out.size))
  clear hA hb2
  go_wp2_with fail
  refine (PK.out _).mono ?_
  rintro e w' ⟨⟨k, rfl, hk⟩, rfl⟩
  go_wp2_with fail
  go_ret
  exact ⟨rfl, HB2.out⟩

set_option maxHeartbeats 4000000 in
theorem usuals_1 (w : World) (hV : PV w) (p : Int) (b : Int) (wb : (Lit.int .i64 b).wf = true) (p0 : 0 ≤ p) (p1 : p < 65536) : Calls Tryd.prog 6 #[.int .i64 1, .int .u16 p, .int .i64 b] w fun e w' => e = .returned (.bool true) ∧ Below w.heap.size w w' := by
  have H0 := Lib.hid (lives14 w hV.rv)
  have U := Lib.hid (fun w hV => pusual_any 1 w hV)
  have O := Lib.hid (fun w hV => of_any (usualI 1) w hV)
  rw [show clsL (hasC (usualI 1)) 7 = [1] from usual_of 0] at O
  have HV := Lib.hid hV
  have PK := Lib.hid (fun w => pick16 b w wb)
  have S1 := Lib.hid (fun w hV => is_any 1 p w hV)
  have S2 := Lib.hid (fun k w hV => is_any 1 (turnI p k) w hV)
  have HL := Lib.hid (fun k (hk : k < 16) => low_turn p k p0 p1 hk)
  have HTI := Lib.hid (fun k (hk : k < 16) => turn_in p k p0 p1 hk)
  clear hV wb
  generalize usualI 1 = u at *
  go_enter Tryd.func6, Tryd.ntmps6
  go_wp2_with fail
  refine H0.out.mono ?_
  rintro e w1 ⟨rfl, hb⟩
  have HB := Lib.hid hb
  clear hb
  go_wp2_with fail
  refine (U.out _ (HV.out.on HB.out)).mono ?_
  rintro e w' ⟨rfl, rfl⟩
  go_wp2_with fail
  refine (O.out _ (HV.out.on HB.out).rv).mono ?_
  rintro e w2 ⟨⟨A, c, rfl, hA⟩, hb2⟩
  have HB2 := Lib.hid (HB.out.trans (hb2.mono HB.out.size))
  have HA := Lib.hid hA
  clear hA hb2
  go_wp2_with fail
  refine (ints_lit A c _ _ _ [1] [1] w2 _ _ _ rfl rfl rfl rfl HA.out ⟨by decide, by decide⟩).mono ?_
  rintro e w3 ⟨rfl, hb3⟩
  rw [show decide (([1] : List Int) = [1]) = true by decide]
  have HB3 := Lib.hid (HB2.out.trans (hb3.mono HB2.out.size))
  clear hb3
  go_wp2_with fail
  refine (PK.out _).mono ?_
  rintro e w' ⟨⟨k, rfl, hk⟩, rfl⟩
  go_wp2_with fail
  refine (S1.out _ (HV.out.on HB3.out).rv).mono ?_
  rintro e w4 ⟨rfl, hb4⟩
  have HB4 := Lib.hid (HB3.out.trans (hb4.mono HB3.out.size))
  clear hb4
  go_wp2_with fail
  refine (S2.out k _ (HV.out.on HB4.out).rv).mono ?_
  rintro e w5 ⟨rfl, hb5⟩
  have HB5 := Lib.hid (HB4.out.trans (hb5.mono HB4.out.size))
  clear hb5
  obtain ⟨z1, hz1⟩ : ∃ z, isI 1 p = z := ⟨_, rfl⟩
  obtain ⟨z2, hz2⟩ : ∃ z, isI 1 (turnI p k) = z := ⟨_, rfl⟩
  have HZ : Hid (((z1 != z2) == ((k : Int) == 0)) = true) := Lib.hid (by rw [← hz1, ← hz2]; exact HL.out k hk)
  rw [hz1, hz2]
  clear hz1 hz2
  go_wp2_with fail
  go_ret
  exact ⟨by rw [← HZ.out]; rfl, HB5.out⟩

set_option maxHeartbeats 8000000 in
theorem usuals_c (w : World) (hV : PV w) (i : Nat) (i1 : 1 ≤ i) (i7 : i < 7) (p : Int) (b : Int) (wb : (Lit.int .i64 b).wf = true) (p0 : 0 ≤ p) (p1 : p < 65536) (c : Int) (hci : c = ((i + 1 : Nat) : Int)) : Calls Tryd.prog 6 #[.int .i64 c, .int .u16 p, .int .i64 b] w fun e w' => e = .returned (.bool true) ∧ Below w.heap.size w w' := by
  have H0 := Lib.hid (lives14 w hV.rv)
  have U := Lib.hid (fun w hV => pusual_any c w hV)
  have O := Lib.hid (fun w hV => of_any (usualI c) w hV)
  rw [show clsL (hasC (usualI c)) 7 = [c] from hci ▸ usual_of ⟨i, i7⟩] at O
  have HV := Lib.hid hV
  have PK := Lib.hid (fun w => pick16 b w wb)
  have S1 := Lib.hid (fun w hV => is_any c p w hV)
  have S2 := Lib.hid (fun k w hV => is_any c (turnI p k) w hV)
  have his : ∀ q, isI c q = hasC q i := fun q => by
    unfold isI
    rw [if_neg (by omega), if_pos (by omega), show c.toNat - 1 = i by omega]
  have HS := Lib.hid (fun k (hk : k < 16) (k1 : k ≠ 1) (k12 : k < 12) => (his (turnI p k)).trans ((turn_same p i k p0 p1 i1 i7 k1 k12).trans (his p).symm))
  have c2 : 2 ≤ c := by omega
  have c7 : c ≤ 7 := by omega
  have n1 : ¬ c < 1 := by omega
  have n8 : ¬ 8 < c := by omega
  have g1 : 1 ≤ c := by omega
  have e1 : (c == 1) = false := by rw [beq_eq_false_iff_ne]; omega
  have e8 : (c == 8) = false := by rw [beq_eq_false_iff_ne]; omega
  clear hV wb hci his i1 i7 i p0 p1
  generalize usualI c = u at *
  go_enter Tryd.func6, Tryd.ntmps6
  go_wp2_with fail
  refine H0.out.mono ?_
  rintro e w1 ⟨rfl, hb⟩
  have HB := Lib.hid hb
  clear hb
  go_wp2_with fail
  refine (U.out _ (HV.out.on HB.out)).mono ?_
  rintro e w' ⟨rfl, rfl⟩
  go_wp2_with fail
  refine (O.out _ (HV.out.on HB.out).rv).mono ?_
  rintro e w2 ⟨⟨A, cc, rfl, hA⟩, hb2⟩
  have HB2 := Lib.hid (HB.out.trans (hb2.mono HB.out.size))
  have HA := Lib.hid hA
  clear hA hb2
  go_wp2_with fail
  refine (ints_lit A cc _ _ _ [c] [c] w2 _ _ _ rfl rfl rfl rfl HA.out ⟨by simp, by simp⟩).mono ?_
  rintro e w3 ⟨rfl, hb3⟩
  rw [show decide (([c] : List Int) = [c]) = true by simp]
  have HB3 := Lib.hid (HB2.out.trans (hb3.mono HB2.out.size))
  clear hb3
  go_wp2_with fail
  refine (PK.out _).mono ?_
  rintro e w' ⟨⟨k, rfl, hk⟩, rfl⟩
  by_cases k1 : k = 1
  · subst k1
    go_wp2_with fail
    go_ret
    exact ⟨rfl, HB3.out⟩
  · have ek : ((k : Int) == 1) = false := by rw [beq_eq_false_iff_ne]; omega
    by_cases k12 : k < 12
    · have nk : ¬ (12 : Int) ≤ k := by omega
      have HE := Lib.hid (HS.out k hk k1 k12)
      clear k1 k12 HS
      go_wp2_with fail
      refine (S1.out _ (HV.out.on HB3.out).rv).mono ?_
      rintro e w4 ⟨rfl, hb4⟩
      have HB4 := Lib.hid (HB3.out.trans (hb4.mono HB3.out.size))
      clear hb4
      go_wp2_with fail
      refine (S2.out k _ (HV.out.on HB4.out).rv).mono ?_
      rintro e w5 ⟨rfl, hb5⟩
      have HB5 := Lib.hid (HB4.out.trans (hb5.mono HB4.out.size))
      clear hb5
      rw [HE.out]
      obtain ⟨z1, hz1⟩ : ∃ z, isI c p = z := ⟨_, rfl⟩
      rw [hz1]
      clear hz1 HE
      go_wp2_with fail
      go_ret
      exact ⟨by simp, HB5.out⟩
    · have nk : (12 : Int) ≤ k := by omega
      clear k1 k12
      go_wp2_with fail
      go_ret
      exact ⟨rfl, HB3.out⟩

theorem walk_PortUsuals (w : World) (hV : PV w) (c : Int) (wc : (Lit.int .i64 c).wf = true) (p : Int) (wp : (Lit.int .u16 p).wf = true) (b : Int) (wb : (Lit.int .i64 b).wf = true) : Calls Tryd.prog 6 #[.int .i64 c, .int .u16 p, .int .i64 b] w fun e w' => e = .returned (.bool true) ∧ Below w.heap.size w w' := by
  have hp := bounds_u16 wp
  by_cases h : 1 ≤ c ∧ c ≤ 8
  · by_cases h1 : c = 1
    · subst h1
      exact usuals_1 w hV p b wb hp.1 (by omega)
    · by_cases h8 : c = 8
      · subst h8
        exact usuals_8 w hV p b wb hp.1 (by omega)
      · exact usuals_c w hV (c.toNat - 1) (by omega) (by omega) p b wb hp.1 (by omega) c (by omega)
  · exact usuals_none w hV c p b h
end Go.Proofs.YtmgaibpdpcancaaDoor
