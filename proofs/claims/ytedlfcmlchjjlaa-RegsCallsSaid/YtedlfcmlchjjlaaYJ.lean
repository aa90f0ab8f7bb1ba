
/- Registers: the chapter's examples. -/
import Derived.Test.YtedlfcmlchjjlaaYI
namespace Go.Proofs.Ytedlfcmlchjjlaa
open Go.RowKit
set_option linter.unusedSimpArgs false
set_option linter.unusedVariables false
set_option maxRecDepth 100000

theorem resetR_ok : resetR.Ok := by
  constructor <;> first | (unfold isB; decide) | (unfold isW; decide) | rfl
theorem reset_text : strOfNums (textB resetR) = { data := #[80, 67, 61, 48, 48, 48, 48, 32, 83, 80, 61, 102, 102, 102, 102, 32, 65, 70, 61, 102, 102, 102, 102, 32, 66, 67, 61, 48, 48, 48, 48, 32, 68, 69, 61, 48, 48, 48, 48, 32, 72, 76, 61, 48, 48, 48, 48, 32, 73, 88, 61, 48, 48, 48, 48, 32, 73, 89, 61, 48, 48, 48, 48] } := by decide +kernel
theorem c8_text_reset (w : World) : Calls Try.prog 29 #[resetR.val] w fun e w' => e = .returned (.string { data := #[80, 67, 61, 48, 48, 48, 48, 32, 83, 80, 61, 102, 102, 102, 102, 32, 65, 70, 61, 102, 102, 102, 102, 32, 66, 67, 61, 48, 48, 48, 48, 32, 68, 69, 61, 48, 48, 48, 48, 32, 72, 76, 61, 48, 48, 48, 48, 32, 73, 88, 61, 48, 48, 48, 48, 32, 73, 89, 61, 48, 48, 48, 48] }) ∧ Below w.heap.size w w' :=
  reset_text ▸ c8_text resetR resetR_ok w
theorem c8_cond_1 (w : World) : Calls Try.prog 23 #[.int .u8 64, .int .i64 1] w fun e w' => e = .returned (.bool true) ∧ Below w.heap.size w w' :=
  (show condR 64 1 = true by decide +kernel) ▸ c8_cond 64 1 w rfl
theorem c8_cond_0 (w : World) : Calls Try.prog 23 #[.int .u8 64, .int .i64 0] w fun e w' => e = .returned (.bool false) ∧ Below w.heap.size w w' :=
  (show condR 64 0 = false by decide +kernel) ▸ c8_cond 64 0 w rfl
def livesR : Rg := { resetR with IX := 4608 }
theorem c8_put_lives (w : World) : Calls Try.prog 17 #[resetR.val, .int .i64 1, .int .i64 4, .int .u8 18] w fun e w' => e = .returned livesR.val ∧ Below w.heap.size w w' :=
  (show putR resetR 1 4 18 = livesR from rfl) ▸ c8_put resetR resetR_ok 1 4 18 (by unfold isB; omega) w rfl rfl

set_option maxHeartbeats 2000000 in
theorem lives8_any (w : World) : Calls Try.prog 7 #[] w fun e w' => e = .returned (.bool true) ∧ Below w.heap.size w w' := by
  have CR := Lib.hid (fun w => c8_reset w)
  have CP := Lib.hid (fun w => c8_put_lives w)
  have C1 := Lib.hid (fun w => c8_cond_1 w)
  have C0 := Lib.hid (fun w => c8_cond_0 w)
  have CT := Lib.hid (fun w => c8_text_reset w)
  obtain ⟨R, hR⟩ : ∃ R, resetR.val = R := ⟨_, rfl⟩
  rw [hR] at CR CP CT
  go_enter Try.func7, Try.ntmps7
  go_wp2_with fail
  refine (CR.out _).mono ?_
  rintro e w1 ⟨rfl, hb1⟩
  go_wp2_with fail
  refine (CP.out _).mono ?_
  rintro e w2 ⟨rfl, hb2⟩
  have hB2 := hb1.trans (hb2.mono hb1.size)
  clear hb1 hb2
  obtain ⟨b, hb⟩ : ∃ b, w2.heap.size = b := ⟨_, rfl⟩
  obtain ⟨w3, hw3⟩ : ∃ w3, w2.alloc (rgO zeroR) = w3 := ⟨_, rfl⟩
  have hZ3 : RowW w3 b zeroR.cells := by rw [← hw3, ← hb]; exact RgW.laid w2 zeroR
  have hB3 : Below w.heap.size w w3 := hw3 ▸ hB2.alloc hB2.size _
  have hbw : w.heap.size ≤ b := hb ▸ hB2.size
  unfold rgO zeroR at hw3
  have hlv : livesR.val = .agg livesR.cells := rfl
  rw [hlv]
  have hR4 := setRow_heap w3 b _ livesR.cells _ _ hZ3
  have x0 : (w3.setRow b livesR.cells).cell? ⟨b, 10, none⟩ = some (.int .u16 4608) := (cell_of_row _ _ _ _ _ _ hR4).trans rfl
  have x1 : (w3.setRow b livesR.cells).cell? ⟨b, 6, none⟩ = some (.int .u8 0) := (cell_of_row _ _ _ _ _ _ hR4).trans rfl
  have hB4 := below_setRow hB3 hbw livesR.cells
  go_wp2_with (refine wpList_store_row rfl 24 _ _ rfl b _ rfl rfl _ _ hZ3 rg_info rfl (rg_one livesR) ?_)
  clear x0 x1
  refine (C1.out _).mono ?_
  rintro e w5 ⟨rfl, hb⟩
  have hB5 := hB4.trans (hb.mono hB4.size)
  clear hb hB4
  go_wp2_with fail
  refine (C0.out _).mono ?_
  rintro e w6 ⟨rfl, hb⟩
  have hB6 := hB5.trans (hb.mono hB5.size)
  clear hb hB5
  go_wp2_with fail
  refine (CR.out _).mono ?_
  rintro e w7 ⟨rfl, hb⟩
  have hB7 := hB6.trans (hb.mono hB6.size)
  clear hb hB6
  go_wp2_with fail
  refine (CT.out _).mono ?_
  rintro e w8 ⟨rfl, hb⟩
  have hB8 := hB7.trans (hb.mono hB7.size)
  clear hb hB7
  go_wp2_with fail
  go_ret
  exact ⟨rfl, hB8⟩

end Go.Proofs.Ytedlfcmlchjjlaa
