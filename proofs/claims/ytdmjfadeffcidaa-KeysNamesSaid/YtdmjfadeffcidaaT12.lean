
/- KeysNames. -/
import Derived.Test.YtdmjfadeffcidaaT7
import Derived.Test.YtdmjfadeffcidaaT11
namespace Go.Proofs.Ytdmjfadeffcidaa
open Go.RowKit
set_option linter.unusedSimpArgs false
set_option linter.unusedVariables false
set_option maxRecDepth 100000

theorem press_13 : errL (pressL 5 9 [1, 3]) = 0 := by decide +kernel
theorem press_1 : errL (pressL 9 5 [1]) = 2 := by decide +kernel
theorem read_none : readE [] = 4 := by decide +kernel
theorem until_20 : untilN firstL 20 = 2 := by decide +kernel
theorem ear_99 : earAt firstL 99 = false := by decide +kernel
theorem one_int (W : World) (x : Int) : NsAt (W.alloc (.cells #[.int .i64 x] 3)) (W.heap.size + 1) (some ⟨W.heap.size, 0, none⟩) [x] := by
  refine ⟨fun _ => ⟨_, 0, rfl, by simp, fun i hi => ?_⟩⟩
  have h2 : i = 0 := by simp at hi; omega
  subst h2
  rw [World.cell?_alloc_at _ _ _ _ rfl]; rfl

set_option maxHeartbeats 2000000 in
theorem walk_KeysNames (w : World) : Calls Try.prog 3 #[] w fun e w' => e = .returned (.bool true) ∧ Below w.heap.size w w' := by
  have HL := Lib.hid (fun w => lives17_any w)
  have HF := Lib.hid (fun w => first_any w)
  have hp1 := press_any (w.alloc (.cells #[.int .i64 1, .int .i64 3] 3)) (some ⟨w.heap.size, 0, none⟩) 2 [1, 3] 5 9 ((two_ints w 1 3).more (by simp)) (by decide)
  have hp2 := fun (w : World) => press_any (w.alloc (.cells #[.int .i64 1] 3)) (some ⟨w.heap.size, 0, none⟩) 1 [1] 9 5 ((one_int w 1).more (by simp)) (by decide)
  rw [press_13] at hp1
  simp only [press_1] at hp2
  have HP1 := Lib.hid hp1
  have HP2 := Lib.hid hp2
  have hrd := fun (w : World) => readT_any w none 0 0 [] rfl (by decide) 0 (RB.nil w 0) (Nat.zero_le _)
  simp only [read_none] at hrd
  have HRd := Lib.hid hrd
  have HU := Lib.hid (fun (w1 : World) (A : Option Addr) (hl : TsAt w1 w1.heap.size A firstL) => (by
    have := until_any w1 A 3 firstL 20 hl ⟨by decide, by decide⟩
    rw [until_20] at this
    exact this : Calls Try.prog 12 #[.slice A 3 3, .int .i64 20] w1 fun e w' => e = .returned (.int .i64 2) ∧ Below w1.heap.size w1 w'))
  have HE := Lib.hid (fun (w1 : World) (A : Option Addr) (hl : TsAt w1 w1.heap.size A firstL) => (by
    have := earAt_any w1 A 3 firstL 99 hl ⟨by decide, by decide⟩
    rw [ear_99] at this
    exact this : Calls Try.prog 14 #[.slice A 3 3, .int .i64 99] w1 fun e w' => e = .returned (.bool false) ∧ Below w1.heap.size w1 w'))
  clear hp1 hp2 hrd
  go_enter Try.func3, Try.ntmps3
  go_wp2_with fail
  refine HP1.out.mono ?_
  rintro e w1 ⟨⟨v1, rfl, ho⟩, hb⟩
  have HB1 := Lib.hid (((Below.refl _ w).alloc (Nat.le_refl _) (.cells #[.int .i64 1, .int .i64 3] 3)).trans (hb.mono (by simp)))
  rw [if_pos rfl] at ho
  obtain ⟨A1, c1, rfl, -, -, -⟩ := ho.shape0
  have hl4 : (pressL 5 9 [1, 3]).length = 4 := by decide
  rw [hl4]
  clear hb ho hl4 HP1
  go_wp2_with fail
  refine (HP2.out w1).mono ?_
  rintro e w2 ⟨⟨v2, rfl, -⟩, hb⟩
  have HB2 := Lib.hid ((HB1.out.alloc HB1.out.size (.cells #[.int .i64 1] 3)).trans (hb.mono (by have := HB1.out.size; simp; omega)))
  clear hb HB1 HP2
  go_wp2_with fail
  refine (HRd.out w2).mono ?_
  rintro e w3 ⟨⟨v3, rfl, -⟩, hb⟩
  have HB3 := Lib.hid (HB2.out.trans (hb.mono HB2.out.size))
  clear hb HB2 HRd
  go_wp2_with fail
  refine (HL.out w3).mono ?_
  rintro e w4 ⟨rfl, hb⟩
  have HB4 := Lib.hid (HB3.out.trans (hb.mono HB3.out.size))
  clear hb HB3 HL
  go_wp2_with fail
  refine (HF.out w4).mono ?_
  rintro e w5 ⟨rfl, hl, hb⟩
  have HB5 := Lib.hid (HB4.out.trans (hb.mono HB4.out.size))
  have HU5 := Lib.hid (HU.out w5 _ hl)
  clear hb HB4 hl HU
  go_wp2_with fail
  refine HU5.out.mono ?_
  rintro e w6 ⟨rfl, hb⟩
  have HB6 := Lib.hid (HB5.out.trans (hb.mono HB5.out.size))
  clear hb HB5 HU5
  go_wp2_with fail
  refine (HF.out w6).mono ?_
  rintro e w7 ⟨rfl, hl, hb⟩
  have HB7 := Lib.hid (HB6.out.trans (hb.mono HB6.out.size))
  have HE7 := Lib.hid (HE.out w7 _ hl)
  clear hb HB6 hl HE
  go_wp2_with fail
  refine HE7.out.mono ?_
  rintro e w8 ⟨rfl, hb⟩
  have HB8 := Lib.hid (HB7.out.trans (hb.mono HB7.out.size))
  clear hb HB7 HE7
  go_wp2_with fail
  go_ret
  exact ⟨rfl, HB8.out⟩
end Go.Proofs.Ytdmjfadeffcidaa
