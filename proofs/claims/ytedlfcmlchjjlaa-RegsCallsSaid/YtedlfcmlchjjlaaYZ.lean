
/- Registers, the document's own: Text. -/
import Derived.Test.YtedlfcmlchjjlaaYY
namespace Go.Proofs.Ytedlfcmlchjjlaa
open Go.RowKit
set_option linter.unusedSimpArgs false
set_option linter.unusedVariables false
set_option maxRecDepth 100000

theorem add_nums (a b : List Int) (h : a.length + b.length ≤ 2000) (w : World) : (Op.stringOp .add (strOfNums a) (strOfNums b)).run Try.prog w = .ok (.string (strOfNums (a ++ b))) w := by
  rw [run_string_add_sum (P := Try.prog) (w := w) _ _ (by rw [strOfNums_size, strOfNums_size]; omega), str_app]
theorem four_len (v : Int) : (fourB v).length = 4 := rfl
theorem r8_text_no (r : Rg) (hm : ¬ r.May) (w : World) : Calls Try.prog 30 #[r.val] w fun e w' => e = .returned (.string { data := #[] }) ∧ Below w.heap.size w w' := by
  have HC := Lib.hid (fun w => r8_check r w)
  rw [if_neg hm] at HC
  have HR := Lib.hid (RgW.laid w r)
  have hb0 : Below w.heap.size w (w.alloc (rgO r)) := (Below.refl _ _).alloc (Nat.le_refl _) _
  rw [rg_val r]
  go_enter Try.func30, Try.ntmps30
  go_wp2_with (refine wpList_load_row rfl 24 _ rfl w.heap.size rfl _ _ (0, 0) _ HR.out Try.underlying24 rfl rg_info ?_)
  refine (HC.out _).mono ?_
  rintro e w3 ⟨rfl, hb⟩
  go_wp2_with fail
  go_ret
  exact ⟨rfl, hb0.trans (hb.mono hb0.size)⟩

theorem text_eq (r : Rg) (hm : r.May) : ((((((((((((((([80, 67, 61] ++ fourB (r.PC)) ++ [32, 83, 80, 61]) ++ fourB (r.SP)) ++ [32, 65, 70, 61]) ++ fourB (r.A * 256 + r.F)) ++ [32, 66, 67, 61]) ++ fourB (r.B * 256 + r.C)) ++ [32, 68, 69, 61]) ++ fourB (r.D * 256 + r.E)) ++ [32, 72, 76, 61]) ++ fourB (r.H * 256 + r.L)) ++ [32, 73, 88, 61]) ++ fourB (r.IX)) ++ [32, 73, 89, 61]) ++ fourB (r.IY)) = textB r := by
  unfold textB tl tellB
  rw [if_pos hm]
  simp

set_option maxHeartbeats 8000000 in
theorem r8_text_may (r : Rg) (hr : r.Ok) (hm : r.May) (w : World) : Calls Try.prog 30 #[r.val] w fun e w' => e = .returned (.string (strOfNums (textB r))) ∧ Below w.heap.size w w' := by
  have HC := Lib.hid (fun w => r8_check r w)
  rw [if_pos hm] at HC
  have HR := Lib.hid (RgW.laid w r)
  have hb0 : Below w.heap.size w (w.alloc (rgO r)) := (Below.refl _ _).alloc (Nat.le_refl _) _
  have HE := Lib.hid (congrArg strOfNums (text_eq r hm))
  have hw : ∀ a b : Int, isB a → isB b → isW (a * 256 + b) := fun a b ha hb => by unfold isB at ha hb; unfold isW; omega
  have hf0 := fun w => r8_four (r.PC) (hr.PC) w
  have hf1 := fun w => r8_four (r.SP) (hr.SP) w
  have hf2 := fun w => r8_four (r.A * 256 + r.F) (hw _ _ hr.A hr.F) w
  have hf3 := fun w => r8_four (r.B * 256 + r.C) (hw _ _ hr.B hr.C) w
  have hf4 := fun w => r8_four (r.D * 256 + r.E) (hw _ _ hr.D hr.E) w
  have hf5 := fun w => r8_four (r.H * 256 + r.L) (hw _ _ hr.H hr.L) w
  have hf6 := fun w => r8_four (r.IX) (hr.IX) w
  have hf7 := fun w => r8_four (r.IY) (hr.IY) w
  have hp2 : ∀ w, Calls Try.prog 20 #[.agg r.cells, .int .i64 0, .int .i64 3, .bool true] w fun e w' => e = .returned (.int .u16 (r.A * 256 + r.F)) ∧ Below w.heap.size w w' := fun w => r8_pair_c r hr 0 3 true w rfl rfl
  have hp3 : ∀ w, Calls Try.prog 20 #[.agg r.cells, .int .i64 0, .int .i64 0, .bool false] w fun e w' => e = .returned (.int .u16 (r.B * 256 + r.C)) ∧ Below w.heap.size w w' := fun w => r8_pair_c r hr 0 0 false w rfl rfl
  have hp4 : ∀ w, Calls Try.prog 20 #[.agg r.cells, .int .i64 0, .int .i64 1, .bool false] w fun e w' => e = .returned (.int .u16 (r.D * 256 + r.E)) ∧ Below w.heap.size w w' := fun w => r8_pair_c r hr 0 1 false w rfl rfl
  have hp5 : ∀ w, Calls Try.prog 20 #[.agg r.cells, .int .i64 0, .int .i64 2, .bool false] w fun e w' => e = .returned (.int .u16 (r.H * 256 + r.L)) ∧ Below w.heap.size w w' := fun w => r8_pair_c r hr 0 2 false w rfl rfl
  have ha0 : ∀ w, (Op.stringOp .add { data := #[80, 67, 61] } (strOfNums (fourB (r.PC)))).run Try.prog w = .ok (.string (strOfNums ([80, 67, 61] ++ fourB (r.PC)))) w := fun w => add_nums [80, 67, 61] (fourB (r.PC)) (by rw [four_len]; decide) w
  have ha1 : ∀ w, (Op.stringOp .add (strOfNums ([80, 67, 61] ++ fourB (r.PC))) { data := #[32, 83, 80, 61] }).run Try.prog w = .ok (.string (strOfNums (([80, 67, 61] ++ fourB (r.PC)) ++ [32, 83, 80, 61]))) w := fun w => add_nums ([80, 67, 61] ++ fourB (r.PC)) [32, 83, 80, 61] (by simp [four_len]) w
  have ha2 : ∀ w, (Op.stringOp .add (strOfNums (([80, 67, 61] ++ fourB (r.PC)) ++ [32, 83, 80, 61])) (strOfNums (fourB (r.SP)))).run Try.prog w = .ok (.string (strOfNums ((([80, 67, 61] ++ fourB (r.PC)) ++ [32, 83, 80, 61]) ++ fourB (r.SP)))) w := fun w => add_nums (([80, 67, 61] ++ fourB (r.PC)) ++ [32, 83, 80, 61]) (fourB (r.SP)) (by simp [four_len]) w
  have ha3 : ∀ w, (Op.stringOp .add (strOfNums ((([80, 67, 61] ++ fourB (r.PC)) ++ [32, 83, 80, 61]) ++ fourB (r.SP))) { data := #[32, 65, 70, 61] }).run Try.prog w = .ok (.string (strOfNums (((([80, 67, 61] ++ fourB (r.PC)) ++ [32, 83, 80, 61]) ++ fourB (r.SP)) ++ [32, 65, 70, 61]))) w := fun w => add_nums ((([80, 67, 61] ++ fourB (r.PC)) ++ [32, 83, 80, 61]) ++ fourB (r.SP)) [32, 65, 70, 61] (by simp [four_len]) w
  have ha4 : ∀ w, (Op.stringOp .add (strOfNums (((([80, 67, 61] ++ fourB (r.PC)) ++ [32, 83, 80, 61]) ++ fourB (r.SP)) ++ [32, 65, 70, 61])) (strOfNums (fourB (r.A * 256 + r.F)))).run Try.prog w = .ok (.string (strOfNums ((((([80, 67, 61] ++ fourB (r.PC)) ++ [32, 83, 80, 61]) ++ fourB (r.SP)) ++ [32, 65, 70, 61]) ++ fourB (r.A * 256 + r.F)))) w := fun w => add_nums (((([80, 67, 61] ++ fourB (r.PC)) ++ [32, 83, 80, 61]) ++ fourB (r.SP)) ++ [32, 65, 70, 61]) (fourB (r.A * 256 + r.F)) (by simp [four_len]) w
  have ha5 : ∀ w, (Op.stringOp .add (strOfNums ((((([80, 67, 61] ++ fourB (r.PC)) ++ [32, 83, 80, 61]) ++ fourB (r.SP)) ++ [32, 65, 70, 61]) ++ fourB (r.A * 256 + r.F))) { data := #[32, 66, 67, 61] }).run Try.prog w = .ok (.string (strOfNums (((((([80, 67, 61] ++ fourB (r.PC)) ++ [32, 83, 80, 61]) ++ fourB (r.SP)) ++ [32, 65, 70, 61]) ++ fourB (r.A * 256 + r.F)) ++ [32, 66, 67, 61]))) w := fun w => add_nums ((((([80, 67, 61] ++ fourB (r.PC)) ++ [32, 83, 80, 61]) ++ fourB (r.SP)) ++ [32, 65, 70, 61]) ++ fourB (r.A * 256 + r.F)) [32, 66, 67, 61] (by simp [four_len]) w
  have ha6 : ∀ w, (Op.stringOp .add (strOfNums (((((([80, 67, 61] ++ fourB (r.PC)) ++ [32, 83, 80, 61]) ++ fourB (r.SP)) ++ [32, 65, 70, 61]) ++ fourB (r.A * 256 + r.F)) ++ [32, 66, 67, 61])) (strOfNums (fourB (r.B * 256 + r.C)))).run Try.prog w = .ok (.string (strOfNums ((((((([80, 67, 61] ++ fourB (r.PC)) ++ [32, 83, 80, 61]) ++ fourB (r.SP)) ++ [32, 65, 70, 61]) ++ fourB (r.A * 256 + r.F)) ++ [32, 66, 67, 61]) ++ fourB (r.B * 256 + r.C)))) w := fun w => add_nums (((((([80, 67, 61] ++ fourB (r.PC)) ++ [32, 83, 80, 61]) ++ fourB (r.SP)) ++ [32, 65, 70, 61]) ++ fourB (r.A * 256 + r.F)) ++ [32, 66, 67, 61]) (fourB (r.B * 256 + r.C)) (by simp [four_len]) w
  have ha7 : ∀ w, (Op.stringOp .add (strOfNums ((((((([80, 67, 61] ++ fourB (r.PC)) ++ [32, 83, 80, 61]) ++ fourB (r.SP)) ++ [32, 65, 70, 61]) ++ fourB (r.A * 256 + r.F)) ++ [32, 66, 67, 61]) ++ fourB (r.B * 256 + r.C))) { data := #[32, 68, 69, 61] }).run Try.prog w = .ok (.string (strOfNums (((((((([80, 67, 61] ++ fourB (r.PC)) ++ [32, 83, 80, 61]) ++ fourB (r.SP)) ++ [32, 65, 70, 61]) ++ fourB (r.A * 256 + r.F)) ++ [32, 66, 67, 61]) ++ fourB (r.B * 256 + r.C)) ++ [32, 68, 69, 61]))) w := fun w => add_nums ((((((([80, 67, 61] ++ fourB (r.PC)) ++ [32, 83, 80, 61]) ++ fourB (r.SP)) ++ [32, 65, 70, 61]) ++ fourB (r.A * 256 + r.F)) ++ [32, 66, 67, 61]) ++ fourB (r.B * 256 + r.C)) [32, 68, 69, 61] (by simp [four_len]) w
  have ha8 : ∀ w, (Op.stringOp .add (strOfNums (((((((([80, 67, 61] ++ fourB (r.PC)) ++ [32, 83, 80, 61]) ++ fourB (r.SP)) ++ [32, 65, 70, 61]) ++ fourB (r.A * 256 + r.F)) ++ [32, 66, 67, 61]) ++ fourB (r.B * 256 + r.C)) ++ [32, 68, 69, 61])) (strOfNums (fourB (r.D * 256 + r.E)))).run Try.prog w = .ok (.string (strOfNums ((((((((([80, 67, 61] ++ fourB (r.PC)) ++ [32, 83, 80, 61]) ++ fourB (r.SP)) ++ [32, 65, 70, 61]) ++ fourB (r.A * 256 + r.F)) ++ [32, 66, 67, 61]) ++ fourB (r.B * 256 + r.C)) ++ [32, 68, 69, 61]) ++ fourB (r.D * 256 + r.E)))) w := fun w => add_nums (((((((([80, 67, 61] ++ fourB (r.PC)) ++ [32, 83, 80, 61]) ++ fourB (r.SP)) ++ [32, 65, 70, 61]) ++ fourB (r.A * 256 + r.F)) ++ [32, 66, 67, 61]) ++ fourB (r.B * 256 + r.C)) ++ [32, 68, 69, 61]) (fourB (r.D * 256 + r.E)) (by simp [four_len]) w
  have ha9 : ∀ w, (Op.stringOp .add (strOfNums ((((((((([80, 67, 61] ++ fourB (r.PC)) ++ [32, 83, 80, 61]) ++ fourB (r.SP)) ++ [32, 65, 70, 61]) ++ fourB (r.A * 256 + r.F)) ++ [32, 66, 67, 61]) ++ fourB (r.B * 256 + r.C)) ++ [32, 68, 69, 61]) ++ fourB (r.D * 256 + r.E))) { data := #[32, 72, 76, 61] }).run Try.prog w = .ok (.string (strOfNums (((((((((([80, 67, 61] ++ fourB (r.PC)) ++ [32, 83, 80, 61]) ++ fourB (r.SP)) ++ [32, 65, 70, 61]) ++ fourB (r.A * 256 + r.F)) ++ [32, 66, 67, 61]) ++ fourB (r.B * 256 + r.C)) ++ [32, 68, 69, 61]) ++ fourB (r.D * 256 + r.E)) ++ [32, 72, 76, 61]))) w := fun w => add_nums ((((((((([80, 67, 61] ++ fourB (r.PC)) ++ [32, 83, 80, 61]) ++ fourB (r.SP)) ++ [32, 65, 70, 61]) ++ fourB (r.A * 256 + r.F)) ++ [32, 66, 67, 61]) ++ fourB (r.B * 256 + r.C)) ++ [32, 68, 69, 61]) ++ fourB (r.D * 256 + r.E)) [32, 72, 76, 61] (by simp [four_len]) w
  have ha10 : ∀ w, (Op.stringOp .add (strOfNums (((((((((([80, 67, 61] ++ fourB (r.PC)) ++ [32, 83, 80, 61]) ++ fourB (r.SP)) ++ [32, 65, 70, 61]) ++ fourB (r.A * 256 + r.F)) ++ [32, 66, 67, 61]) ++ fourB (r.B * 256 + r.C)) ++ [32, 68, 69, 61]) ++ fourB (r.D * 256 + r.E)) ++ [32, 72, 76, 61])) (strOfNums (fourB (r.H * 256 + r.L)))).run Try.prog w = .ok (.string (strOfNums ((((((((((([80, 67, 61] ++ fourB (r.PC)) ++ [32, 83, 80, 61]) ++ fourB (r.SP)) ++ [32, 65, 70, 61]) ++ fourB (r.A * 256 + r.F)) ++ [32, 66, 67, 61]) ++ fourB (r.B * 256 + r.C)) ++ [32, 68, 69, 61]) ++ fourB (r.D * 256 + r.E)) ++ [32, 72, 76, 61]) ++ fourB (r.H * 256 + r.L)))) w := fun w => add_nums (((((((((([80, 67, 61] ++ fourB (r.PC)) ++ [32, 83, 80, 61]) ++ fourB (r.SP)) ++ [32, 65, 70, 61]) ++ fourB (r.A * 256 + r.F)) ++ [32, 66, 67, 61]) ++ fourB (r.B * 256 + r.C)) ++ [32, 68, 69, 61]) ++ fourB (r.D * 256 + r.E)) ++ [32, 72, 76, 61]) (fourB (r.H * 256 + r.L)) (by simp [four_len]) w
  have ha11 : ∀ w, (Op.stringOp .add (strOfNums ((((((((((([80, 67, 61] ++ fourB (r.PC)) ++ [32, 83, 80, 61]) ++ fourB (r.SP)) ++ [32, 65, 70, 61]) ++ fourB (r.A * 256 + r.F)) ++ [32, 66, 67, 61]) ++ fourB (r.B * 256 + r.C)) ++ [32, 68, 69, 61]) ++ fourB (r.D * 256 + r.E)) ++ [32, 72, 76, 61]) ++ fourB (r.H * 256 + r.L))) { data := #[32, 73, 88, 61] }).run Try.prog w = .ok (.string (strOfNums (((((((((((([80, 67, 61] ++ fourB (r.PC)) ++ [32, 83, 80, 61]) ++ fourB (r.SP)) ++ [32, 65, 70, 61]) ++ fourB (r.A * 256 + r.F)) ++ [32, 66, 67, 61]) ++ fourB (r.B * 256 + r.C)) ++ [32, 68, 69, 61]) ++ fourB (r.D * 256 + r.E)) ++ [32, 72, 76, 61]) ++ fourB (r.H * 256 + r.L)) ++ [32, 73, 88, 61]))) w := fun w => add_nums ((((((((((([80, 67, 61] ++ fourB (r.PC)) ++ [32, 83, 80, 61]) ++ fourB (r.SP)) ++ [32, 65, 70, 61]) ++ fourB (r.A * 256 + r.F)) ++ [32, 66, 67, 61]) ++ fourB (r.B * 256 + r.C)) ++ [32, 68, 69, 61]) ++ fourB (r.D * 256 + r.E)) ++ [32, 72, 76, 61]) ++ fourB (r.H * 256 + r.L)) [32, 73, 88, 61] (by simp [four_len]) w
  have ha12 : ∀ w, (Op.stringOp .add (strOfNums (((((((((((([80, 67, 61] ++ fourB (r.PC)) ++ [32, 83, 80, 61]) ++ fourB (r.SP)) ++ [32, 65, 70, 61]) ++ fourB (r.A * 256 + r.F)) ++ [32, 66, 67, 61]) ++ fourB (r.B * 256 + r.C)) ++ [32, 68, 69, 61]) ++ fourB (r.D * 256 + r.E)) ++ [32, 72, 76, 61]) ++ fourB (r.H * 256 + r.L)) ++ [32, 73, 88, 61])) (strOfNums (fourB (r.IX)))).run Try.prog w = .ok (.string (strOfNums ((((((((((((([80, 67, 61] ++ fourB (r.PC)) ++ [32, 83, 80, 61]) ++ fourB (r.SP)) ++ [32, 65, 70, 61]) ++ fourB (r.A * 256 + r.F)) ++ [32, 66, 67, 61]) ++ fourB (r.B * 256 + r.C)) ++ [32, 68, 69, 61]) ++ fourB (r.D * 256 + r.E)) ++ [32, 72, 76, 61]) ++ fourB (r.H * 256 + r.L)) ++ [32, 73, 88, 61]) ++ fourB (r.IX)))) w := fun w => add_nums (((((((((((([80, 67, 61] ++ fourB (r.PC)) ++ [32, 83, 80, 61]) ++ fourB (r.SP)) ++ [32, 65, 70, 61]) ++ fourB (r.A * 256 + r.F)) ++ [32, 66, 67, 61]) ++ fourB (r.B * 256 + r.C)) ++ [32, 68, 69, 61]) ++ fourB (r.D * 256 + r.E)) ++ [32, 72, 76, 61]) ++ fourB (r.H * 256 + r.L)) ++ [32, 73, 88, 61]) (fourB (r.IX)) (by simp [four_len]) w
  have ha13 : ∀ w, (Op.stringOp .add (strOfNums ((((((((((((([80, 67, 61] ++ fourB (r.PC)) ++ [32, 83, 80, 61]) ++ fourB (r.SP)) ++ [32, 65, 70, 61]) ++ fourB (r.A * 256 + r.F)) ++ [32, 66, 67, 61]) ++ fourB (r.B * 256 + r.C)) ++ [32, 68, 69, 61]) ++ fourB (r.D * 256 + r.E)) ++ [32, 72, 76, 61]) ++ fourB (r.H * 256 + r.L)) ++ [32, 73, 88, 61]) ++ fourB (r.IX))) { data := #[32, 73, 89, 61] }).run Try.prog w = .ok (.string (strOfNums (((((((((((((([80, 67, 61] ++ fourB (r.PC)) ++ [32, 83, 80, 61]) ++ fourB (r.SP)) ++ [32, 65, 70, 61]) ++ fourB (r.A * 256 + r.F)) ++ [32, 66, 67, 61]) ++ fourB (r.B * 256 + r.C)) ++ [32, 68, 69, 61]) ++ fourB (r.D * 256 + r.E)) ++ [32, 72, 76, 61]) ++ fourB (r.H * 256 + r.L)) ++ [32, 73, 88, 61]) ++ fourB (r.IX)) ++ [32, 73, 89, 61]))) w := fun w => add_nums ((((((((((((([80, 67, 61] ++ fourB (r.PC)) ++ [32, 83, 80, 61]) ++ fourB (r.SP)) ++ [32, 65, 70, 61]) ++ fourB (r.A * 256 + r.F)) ++ [32, 66, 67, 61]) ++ fourB (r.B * 256 + r.C)) ++ [32, 68, 69, 61]) ++ fourB (r.D * 256 + r.E)) ++ [32, 72, 76, 61]) ++ fourB (r.H * 256 + r.L)) ++ [32, 73, 88, 61]) ++ fourB (r.IX)) [32, 73, 89, 61] (by simp [four_len]) w
  have ha14 : ∀ w, (Op.stringOp .add (strOfNums (((((((((((((([80, 67, 61] ++ fourB (r.PC)) ++ [32, 83, 80, 61]) ++ fourB (r.SP)) ++ [32, 65, 70, 61]) ++ fourB (r.A * 256 + r.F)) ++ [32, 66, 67, 61]) ++ fourB (r.B * 256 + r.C)) ++ [32, 68, 69, 61]) ++ fourB (r.D * 256 + r.E)) ++ [32, 72, 76, 61]) ++ fourB (r.H * 256 + r.L)) ++ [32, 73, 88, 61]) ++ fourB (r.IX)) ++ [32, 73, 89, 61])) (strOfNums (fourB (r.IY)))).run Try.prog w = .ok (.string (strOfNums ((((((((((((((([80, 67, 61] ++ fourB (r.PC)) ++ [32, 83, 80, 61]) ++ fourB (r.SP)) ++ [32, 65, 70, 61]) ++ fourB (r.A * 256 + r.F)) ++ [32, 66, 67, 61]) ++ fourB (r.B * 256 + r.C)) ++ [32, 68, 69, 61]) ++ fourB (r.D * 256 + r.E)) ++ [32, 72, 76, 61]) ++ fourB (r.H * 256 + r.L)) ++ [32, 73, 88, 61]) ++ fourB (r.IX)) ++ [32, 73, 89, 61]) ++ fourB (r.IY)))) w := fun w => add_nums (((((((((((((([80, 67, 61] ++ fourB (r.PC)) ++ [32, 83, 80, 61]) ++ fourB (r.SP)) ++ [32, 65, 70, 61]) ++ fourB (r.A * 256 + r.F)) ++ [32, 66, 67, 61]) ++ fourB (r.B * 256 + r.C)) ++ [32, 68, 69, 61]) ++ fourB (r.D * 256 + r.E)) ++ [32, 72, 76, 61]) ++ fourB (r.H * 256 + r.L)) ++ [32, 73, 88, 61]) ++ fourB (r.IX)) ++ [32, 73, 89, 61]) (fourB (r.IY)) (by simp [four_len]) w
  generalize strOfNums (fourB (r.PC)) = F0 at hf0 ha0
  generalize strOfNums (fourB (r.SP)) = F1 at hf1 ha2
  generalize strOfNums (fourB (r.A * 256 + r.F)) = F2 at hf2 ha4
  generalize strOfNums (fourB (r.B * 256 + r.C)) = F3 at hf3 ha6
  generalize strOfNums (fourB (r.D * 256 + r.E)) = F4 at hf4 ha8
  generalize strOfNums (fourB (r.H * 256 + r.L)) = F5 at hf5 ha10
  generalize strOfNums (fourB (r.IX)) = F6 at hf6 ha12
  generalize strOfNums (fourB (r.IY)) = F7 at hf7 ha14
  generalize strOfNums ([80, 67, 61] ++ fourB (r.PC)) = T0 at ha0 ha1
  generalize strOfNums (([80, 67, 61] ++ fourB (r.PC)) ++ [32, 83, 80, 61]) = T1 at ha1 ha2
  generalize strOfNums ((([80, 67, 61] ++ fourB (r.PC)) ++ [32, 83, 80, 61]) ++ fourB (r.SP)) = T2 at ha2 ha3
  generalize strOfNums (((([80, 67, 61] ++ fourB (r.PC)) ++ [32, 83, 80, 61]) ++ fourB (r.SP)) ++ [32, 65, 70, 61]) = T3 at ha3 ha4
  generalize strOfNums ((((([80, 67, 61] ++ fourB (r.PC)) ++ [32, 83, 80, 61]) ++ fourB (r.SP)) ++ [32, 65, 70, 61]) ++ fourB (r.A * 256 + r.F)) = T4 at ha4 ha5
  generalize strOfNums (((((([80, 67, 61] ++ fourB (r.PC)) ++ [32, 83, 80, 61]) ++ fourB (r.SP)) ++ [32, 65, 70, 61]) ++ fourB (r.A * 256 + r.F)) ++ [32, 66, 67, 61]) = T5 at ha5 ha6
  generalize strOfNums ((((((([80, 67, 61] ++ fourB (r.PC)) ++ [32, 83, 80, 61]) ++ fourB (r.SP)) ++ [32, 65, 70, 61]) ++ fourB (r.A * 256 + r.F)) ++ [32, 66, 67, 61]) ++ fourB (r.B * 256 + r.C)) = T6 at ha6 ha7
  generalize strOfNums (((((((([80, 67, 61] ++ fourB (r.PC)) ++ [32, 83, 80, 61]) ++ fourB (r.SP)) ++ [32, 65, 70, 61]) ++ fourB (r.A * 256 + r.F)) ++ [32, 66, 67, 61]) ++ fourB (r.B * 256 + r.C)) ++ [32, 68, 69, 61]) = T7 at ha7 ha8
  generalize strOfNums ((((((((([80, 67, 61] ++ fourB (r.PC)) ++ [32, 83, 80, 61]) ++ fourB (r.SP)) ++ [32, 65, 70, 61]) ++ fourB (r.A * 256 + r.F)) ++ [32, 66, 67, 61]) ++ fourB (r.B * 256 + r.C)) ++ [32, 68, 69, 61]) ++ fourB (r.D * 256 + r.E)) = T8 at ha8 ha9
  generalize strOfNums (((((((((([80, 67, 61] ++ fourB (r.PC)) ++ [32, 83, 80, 61]) ++ fourB (r.SP)) ++ [32, 65, 70, 61]) ++ fourB (r.A * 256 + r.F)) ++ [32, 66, 67, 61]) ++ fourB (r.B * 256 + r.C)) ++ [32, 68, 69, 61]) ++ fourB (r.D * 256 + r.E)) ++ [32, 72, 76, 61]) = T9 at ha9 ha10
  generalize strOfNums ((((((((((([80, 67, 61] ++ fourB (r.PC)) ++ [32, 83, 80, 61]) ++ fourB (r.SP)) ++ [32, 65, 70, 61]) ++ fourB (r.A * 256 + r.F)) ++ [32, 66, 67, 61]) ++ fourB (r.B * 256 + r.C)) ++ [32, 68, 69, 61]) ++ fourB (r.D * 256 + r.E)) ++ [32, 72, 76, 61]) ++ fourB (r.H * 256 + r.L)) = T10 at ha10 ha11
  generalize strOfNums (((((((((((([80, 67, 61] ++ fourB (r.PC)) ++ [32, 83, 80, 61]) ++ fourB (r.SP)) ++ [32, 65, 70, 61]) ++ fourB (r.A * 256 + r.F)) ++ [32, 66, 67, 61]) ++ fourB (r.B * 256 + r.C)) ++ [32, 68, 69, 61]) ++ fourB (r.D * 256 + r.E)) ++ [32, 72, 76, 61]) ++ fourB (r.H * 256 + r.L)) ++ [32, 73, 88, 61]) = T11 at ha11 ha12
  generalize strOfNums ((((((((((((([80, 67, 61] ++ fourB (r.PC)) ++ [32, 83, 80, 61]) ++ fourB (r.SP)) ++ [32, 65, 70, 61]) ++ fourB (r.A * 256 + r.F)) ++ [32, 66, 67, 61]) ++ fourB (r.B * 256 + r.C)) ++ [32, 68, 69, 61]) ++ fourB (r.D * 256 + r.E)) ++ [32, 72, 76, 61]) ++ fourB (r.H * 256 + r.L)) ++ [32, 73, 88, 61]) ++ fourB (r.IX)) = T12 at ha12 ha13
  generalize strOfNums (((((((((((((([80, 67, 61] ++ fourB (r.PC)) ++ [32, 83, 80, 61]) ++ fourB (r.SP)) ++ [32, 65, 70, 61]) ++ fourB (r.A * 256 + r.F)) ++ [32, 66, 67, 61]) ++ fourB (r.B * 256 + r.C)) ++ [32, 68, 69, 61]) ++ fourB (r.D * 256 + r.E)) ++ [32, 72, 76, 61]) ++ fourB (r.H * 256 + r.L)) ++ [32, 73, 88, 61]) ++ fourB (r.IX)) ++ [32, 73, 89, 61]) = T13 at ha13 ha14
  generalize strOfNums ((((((((((((((([80, 67, 61] ++ fourB (r.PC)) ++ [32, 83, 80, 61]) ++ fourB (r.SP)) ++ [32, 65, 70, 61]) ++ fourB (r.A * 256 + r.F)) ++ [32, 66, 67, 61]) ++ fourB (r.B * 256 + r.C)) ++ [32, 68, 69, 61]) ++ fourB (r.D * 256 + r.E)) ++ [32, 72, 76, 61]) ++ fourB (r.H * 256 + r.L)) ++ [32, 73, 88, 61]) ++ fourB (r.IX)) ++ [32, 73, 89, 61]) ++ fourB (r.IY)) = T14 at ha14 HE
  obtain ⟨Z, hZ⟩ : ∃ Z, strOfNums (textB r) = Z := ⟨_, rfl⟩
  rw [hZ] at HE ⊢
  have HF0 := Lib.hid hf0
  have HF1 := Lib.hid hf1
  have HF2 := Lib.hid hf2
  have HF3 := Lib.hid hf3
  have HF4 := Lib.hid hf4
  have HF5 := Lib.hid hf5
  have HF6 := Lib.hid hf6
  have HF7 := Lib.hid hf7
  have HP2 := Lib.hid hp2
  have HP3 := Lib.hid hp3
  have HP4 := Lib.hid hp4
  have HP5 := Lib.hid hp5
  generalize r.A * 256 + r.F = V2 at HF2 HP2
  generalize r.B * 256 + r.C = V3 at HF3 HP3
  generalize r.D * 256 + r.E = V4 at HF4 HP4
  generalize r.H * 256 + r.L = V5 at HF5 HP5
  clear hf0 hf1 hf2 hf3 hf4 hf5 hf6 hf7 hp2 hp3 hp4 hp5 hw hZ
  rw [rg_val r]
  go_enter Try.func30, Try.ntmps30
  go_wp2_with (refine wpList_load_row rfl 24 _ rfl w.heap.size rfl _ _ (0, 0) _ HR.out Try.underlying24 rfl rg_info ?_)
  refine (HC.out _).mono ?_
  rintro e w3 ⟨rfl, hb⟩
  have HR3 := Lib.hid (HR.out.below hb HR.out.lt)
  have hB3 := hb0.trans (hb.mono hb0.size)
  clear hb hb0 HR HC
  have hlt := HR3.out.lt
  have zPC := fun p : M.Of (M.Base w3) => (HR3.out.below p.ok.2 hlt).gPC
  have zSP := fun p : M.Of (M.Base w3) => (HR3.out.below p.ok.2 hlt).gSP
  have zIX := fun p : M.Of (M.Base w3) => (HR3.out.below p.ok.2 hlt).gIX
  have zIY := fun p : M.Of (M.Base w3) => (HR3.out.below p.ok.2 hlt).gIY
  go_upto_region 3 with fail
  refine M.region_ (by kernel_rfl) ?_
  refine M.seg_ [0, 1, 5, 6, 30, 31, 35, 36] 32 _ _ (M.Base.refl _) (by kernel_rfl) (by kernel_rfl) (by kernel_rfl) (by simp only [pickOps, mask, plain, List.getElem?_toArray, List.getElem?_cons_zero, List.getElem?_cons_succ, if_true, Bool.false_eq_true, if_false]; rfl) ?_
  repeat (go_big_quiet_step (fail))
  refine wpQuiet_nil ?_
  clear zPC zSP zIX zIY
  refine M.calm_ (i := 2) (.string F0) rfl (by kernel_rfl) (by kernel_rfl) (by kernel_rfl) (by kernel_rfl) ?_ ?_
  · intro wz sz
    unfold Oper.does
    go_simp
    exact (HF0.out wz).mono fun e w' ⟨he, hw⟩ => ⟨_, he, rfl, hw ▸ Save.refl _ _⟩
  go_simp
  refine M.calm_ (i := 7) (.string F1) rfl (by kernel_rfl) (by kernel_rfl) (by kernel_rfl) (by kernel_rfl) ?_ ?_
  · intro wz sz
    unfold Oper.does
    go_simp
    exact (HF1.out wz).mono fun e w' ⟨he, hw⟩ => ⟨_, he, rfl, hw ▸ Save.refl _ _⟩
  go_simp
  refine M.calm_ (i := 10) (.agg r.cells) rfl (by kernel_rfl) (by kernel_rfl) (by kernel_rfl) (by kernel_rfl) ?_ ?_
  · intro wz sz
    exact does_load_row 24 _ rfl _ rfl _ _ (0, 0) _ (HR3.out.below sz.2 hlt) Try.underlying24 rfl rg_info ⟨rfl, Save.refl _ _⟩
  go_simp
  refine M.calm_ (i := 11) (.int .u16 V2) rfl (by kernel_rfl) (by kernel_rfl) (by kernel_rfl) (by kernel_rfl) ?_ ?_
  · intro wz sz
    unfold Oper.does
    go_simp
    exact (HP2.out wz).mono fun e w' ⟨he, hw⟩ => ⟨_, he, rfl, Save.of_below hw⟩
  go_simp
  refine M.calm_ (i := 12) (.string F2) rfl (by kernel_rfl) (by kernel_rfl) (by kernel_rfl) (by kernel_rfl) ?_ ?_
  · intro wz sz
    unfold Oper.does
    go_simp
    exact (HF2.out wz).mono fun e w' ⟨he, hw⟩ => ⟨_, he, rfl, hw ▸ Save.refl _ _⟩
  go_simp
  refine M.calm_ (i := 15) (.agg r.cells) rfl (by kernel_rfl) (by kernel_rfl) (by kernel_rfl) (by kernel_rfl) ?_ ?_
  · intro wz sz
    exact does_load_row 24 _ rfl _ rfl _ _ (0, 0) _ (HR3.out.below sz.2 hlt) Try.underlying24 rfl rg_info ⟨rfl, Save.refl _ _⟩
  go_simp
  refine M.calm_ (i := 16) (.int .u16 V3) rfl (by kernel_rfl) (by kernel_rfl) (by kernel_rfl) (by kernel_rfl) ?_ ?_
  · intro wz sz
    unfold Oper.does
    go_simp
    exact (HP3.out wz).mono fun e w' ⟨he, hw⟩ => ⟨_, he, rfl, Save.of_below hw⟩
  go_simp
  refine M.calm_ (i := 17) (.string F3) rfl (by kernel_rfl) (by kernel_rfl) (by kernel_rfl) (by kernel_rfl) ?_ ?_
  · intro wz sz
    unfold Oper.does
    go_simp
    exact (HF3.out wz).mono fun e w' ⟨he, hw⟩ => ⟨_, he, rfl, hw ▸ Save.refl _ _⟩
  go_simp
  refine M.calm_ (i := 20) (.agg r.cells) rfl (by kernel_rfl) (by kernel_rfl) (by kernel_rfl) (by kernel_rfl) ?_ ?_
  · intro wz sz
    exact does_load_row 24 _ rfl _ rfl _ _ (0, 0) _ (HR3.out.below sz.2 hlt) Try.underlying24 rfl rg_info ⟨rfl, Save.refl _ _⟩
  go_simp
  refine M.calm_ (i := 21) (.int .u16 V4) rfl (by kernel_rfl) (by kernel_rfl) (by kernel_rfl) (by kernel_rfl) ?_ ?_
  · intro wz sz
    unfold Oper.does
    go_simp
    exact (HP4.out wz).mono fun e w' ⟨he, hw⟩ => ⟨_, he, rfl, Save.of_below hw⟩
  go_simp
  refine M.calm_ (i := 22) (.string F4) rfl (by kernel_rfl) (by kernel_rfl) (by kernel_rfl) (by kernel_rfl) ?_ ?_
  · intro wz sz
    unfold Oper.does
    go_simp
    exact (HF4.out wz).mono fun e w' ⟨he, hw⟩ => ⟨_, he, rfl, hw ▸ Save.refl _ _⟩
  go_simp
  refine M.calm_ (i := 25) (.agg r.cells) rfl (by kernel_rfl) (by kernel_rfl) (by kernel_rfl) (by kernel_rfl) ?_ ?_
  · intro wz sz
    exact does_load_row 24 _ rfl _ rfl _ _ (0, 0) _ (HR3.out.below sz.2 hlt) Try.underlying24 rfl rg_info ⟨rfl, Save.refl _ _⟩
  go_simp
  refine M.calm_ (i := 26) (.int .u16 V5) rfl (by kernel_rfl) (by kernel_rfl) (by kernel_rfl) (by kernel_rfl) ?_ ?_
  · intro wz sz
    unfold Oper.does
    go_simp
    exact (HP5.out wz).mono fun e w' ⟨he, hw⟩ => ⟨_, he, rfl, Save.of_below hw⟩
  go_simp
  refine M.calm_ (i := 27) (.string F5) rfl (by kernel_rfl) (by kernel_rfl) (by kernel_rfl) (by kernel_rfl) ?_ ?_
  · intro wz sz
    unfold Oper.does
    go_simp
    exact (HF5.out wz).mono fun e w' ⟨he, hw⟩ => ⟨_, he, rfl, hw ▸ Save.refl _ _⟩
  go_simp
  refine M.calm_ (i := 32) (.string F6) rfl (by kernel_rfl) (by kernel_rfl) (by kernel_rfl) (by kernel_rfl) ?_ ?_
  · intro wz sz
    unfold Oper.does
    go_simp
    exact (HF6.out wz).mono fun e w' ⟨he, hw⟩ => ⟨_, he, rfl, hw ▸ Save.refl _ _⟩
  go_simp
  refine M.calm_ (i := 37) (.string F7) rfl (by kernel_rfl) (by kernel_rfl) (by kernel_rfl) (by kernel_rfl) ?_ ?_
  · intro wz sz
    unfold Oper.does
    go_simp
    exact (HF7.out wz).mono fun e w' ⟨he, hw⟩ => ⟨_, he, rfl, hw ▸ Save.refl _ _⟩
  go_simp
  refine M.seg_ [3, 4, 8, 9, 13, 14, 18, 19, 23, 24, 28, 29, 33, 34, 38, 39] 0 _ _ (M.Base.refl _) (by kernel_rfl) (by kernel_rfl) (by kernel_rfl) (by simp only [pickOps, mask, plain, List.getElem?_toArray, List.getElem?_cons_zero, List.getElem?_cons_succ, if_true, Bool.false_eq_true, if_false]; rfl) ?_
  repeat (go_big_quiet_step (fail))
  refine wpQuiet_nil ?_
  refine M.end_ (by kernel_rfl) ?_
  intro wc sc
  have hBc := hB3.trans (sc.2.mono hB3.size)
  go_wp2
  go_ret
  exact ⟨by rw [← HE.out]; rfl, hBc⟩
theorem r8_text (r : Rg) (hr : r.Ok) (w : World) : Calls Try.prog 30 #[r.val] w fun e w' => e = .returned (.string (strOfNums (textB r))) ∧ Below w.heap.size w w' := by
  by_cases hm : r.May
  · exact r8_text_may r hr hm w
  · have e : strOfNums (textB r) = { data := #[] } := by unfold textB; rw [if_neg hm]; rfl
    rw [e]; exact r8_text_no r hm w
end Go.Proofs.Ytedlfcmlchjjlaa
