
/- lives, walked. -/
import Derived.Test.YtflbedomkeophaaSM
namespace Go.Proofs.Ytflbedomkeophaa
open Go.RowKit
set_option linter.unusedSimpArgs false
set_option linter.unusedVariables false
set_option maxRecDepth 100000

theorem ex_byte {w : World} {P : Nat → Prop} {x : Mo} {sr cs g : Nat} (h : MB w P x sr cs) (hA : x.A = 0) (hB : x.B = 0) (hL : x.L = newL [ptE g]) :
    Calls Try.prog 14 #[ptrV x.m, .int .u16 16484] w fun e w' => e = .returned (.int .u8 1) ∧ w = w' := by
  have h1 := byte_mem w P x sr cs h 16484 (by decide) (by decide)
  rw [hA, hB, hL, show slB 0 0 ((16484 : Int) / 16384).toNat = 5 from rfl, show ((16484 : Int) % 16384).toNat = 100 from rfl, ptE_at] at h1
  exact h1
theorem ex_put0 {w : World} {P : Nat → Prop} {x : Mo} {sr cs : Nat} (h : MB w P x sr cs) (hA : x.A = 0) (hB : x.B = 0) :
    Calls Try.prog 15 #[ptrV x.m, .int .u16 0, .int .u8 7] w fun e w' => e = .returned (.bool false) ∧ MB w' P x sr cs ∧ w.grownBy w' (some (x.gs 8)) := by
  have h1 := put_mem w P x sr cs h 0 7 (by decide) (by decide) (by decide)
  rw [hA, hB, show slB 0 0 ((0 : Int) / 16384).toNat = 8 by decide +kernel] at h1
  exact h1.mono fun e w' h2 => ⟨h2.1, h2.2.1, h2.2.2⟩
theorem ex_put1 {w : World} {P : Nat → Prop} {x : Mo} {sr cs : Nat} (h : MB w P x sr cs) (hA : x.A = 0) (hB : x.B = 0) :
    Calls Try.prog 15 #[ptrV x.m, .int .u16 49152, .int .u8 9] w fun e w' => e = .returned (.bool true) ∧ MB w' P (x.put 0 0 9) sr cs ∧ w.grownBy w' (some (x.gs 0)) := by
  have h1 := put_mem w P x sr cs h 49152 9 (by decide) (by decide) (by decide)
  rw [hA, hB, show slB 0 0 ((49152 : Int) / 16384).toNat = 0 from rfl, show ((49152 : Int) % 16384).toNat = 0 from rfl] at h1
  exact h1.mono fun e w' h2 => ⟨h2.1, h2.2.1, h2.2.2⟩
theorem ex_in {w : World} {P : Nat → Prop} {x : Mo} {sr cs : Nat} (h : MB w P (x.put 0 0 9) sr cs) (hl : (x.L 0).length = 16384) :
    Calls Try.prog 16 #[ptrV x.m, .int .i64 0, .int .i64 0] w fun e w' => e = .returned (.int .u8 9) ∧ w = w' := by
  have h1 := in_mem w P (x.put 0 0 9) _ h.toMC 0 0 (by decide) (by decide)
  have h2 : ((x.put 0 0 9).L 0).getD 0 0 = 9 := by
    show ((x.L 0).set 0 9).getD 0 0 = 9
    rw [List.getD_eq_getElem?_getD, List.getElem?_set_self (by omega)]
    rfl
  rw [h2] at h1
  exact h1

set_option maxHeartbeats 4000000 in
theorem lives13 (w : World) : Calls Try.prog 10 #[] w fun e w' => e = .returned (.bool true) ∧ Below w.heap.size w w' := by
  obtain ⟨W, hW⟩ : ∃ W, (w.alloc (.cells #[.int .u8 1, .int .u8 2] 5)).alloc (.cells #[.int .i64 5, .int .i64 100, .slice (some ⟨w.heap.size, 0, none⟩) 2 2] 29) = W := ⟨_, rfl⟩
  have HN := Lib.hid (new_example w W hW.symm)
  have hbW : Below w.heap.size w W := by rw [← hW]; exact ((Below.refl _ _).alloc (Nat.le_refl _) _).alloc (by simp) _
  have HBW := Lib.hid hbW
  clear hbW
  have q1 := fun w => eq4 8 5 2 7 w
  have q2 := fun w => eq4 11 5 2 0 w
  have q3 := fun w => eq4 4 7 6 3 w
  go_enter Try.func10, Try.ntmps10
  go_upto_region 2 with (go_at_call 7; (with_reducible refine HN.out.mono ?_); rintro e w1 ⟨x, sr, cs, rfl, hm, hA, hB, hL, hb1⟩)
  have HM := Lib.hid hm
  have HL := Lib.hid hL
  have HA := Lib.hid hA
  have HB := Lib.hid hB
  have HB1 := Lib.hid hb1
  clear hm hL hA hB hb1 HN hW
  go_wp2_with (first
    | (go_at_call 21; first | ((with_reducible refine (slots_7 _).mono ?_); rintro e w2 ⟨rfl, hb2⟩) | ((with_reducible refine (slots_16 _).mono ?_); rintro e w3 ⟨rfl, hb3⟩) | ((with_reducible refine (slots_b7 _).mono ?_); rintro e w4 ⟨rfl, hb4⟩; have HM4 := Lib.hid (((HM.out.below hb2).below hb3).below hb4); have HB4 := Lib.hid (gw_trans (gw_trans (gw_below hb2 none) (gw_below hb3 none)) (gw_below hb4 none))))
    | (go_at_call 14; (with_reducible refine (ex_byte HM4.out HA.out HB.out HL.out).mono ?_); rintro e w' ⟨rfl, rfl⟩)
    | (go_at_call 15; first | ((with_reducible refine (ex_put0 HM4.out HA.out HB.out).mono ?_); rintro e w5 ⟨rfl, hm5, hb5⟩; have HM5 := Lib.hid hm5; clear hm5) | ((with_reducible refine (ex_put1 HM5.out HA.out HB.out).mono ?_); rintro e w6 ⟨rfl, hm6, hb6⟩; have HM6 := Lib.hid hm6; clear hm6))
    | (go_at_call 16; (with_reducible refine (ex_in HM6.out (HM5.out.len 0 (by decide))).mono ?_); rintro e w' ⟨rfl, rfl⟩))
  go_ret
  have hp8 := HM5.out.pg 8 (by decide)
  have hp0 := HM5.out.pg 0 (by decide)
  have hs := HBW.out.size
  have hb1 := HBW.out.trans (HB1.out.mono hs)
  have hb4 := hb1.grown HB4.out hb1.size (fun k e => by cases e)
  have hb5' := hb4.grown hb5 hb4.size (fun k e => by obtain rfl := Option.some.inj e; omega)
  have hb6' := hb5'.grown hb6 hb5'.size (fun k e => by obtain rfl := Option.some.inj e; omega)
  exact ⟨rfl, hb6'⟩
end Go.Proofs.Ytflbedomkeophaa
