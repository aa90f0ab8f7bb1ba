
/- The operators by their numbers. -/
import Derived.Test.YtkmgdpbknmoliaaU3
import Derived.Laws.EntriesVeiled
namespace Go.Proofs.Ytkmgdpbknmoliaa
open Go.RowKit
set_option linter.unusedSimpArgs false

theorem a5_o1 (a b f : Int) (w : World) (a0 : 0 ≤ a) (a1 : a < 256) (b0 : 0 ≤ b) (b1 : b < 256) : Calls Try.prog 46 #[.int .u8 a, .int .u8 b, .int .u8 f] w fun e w' => e = .returned (.tuple #[.int .u8 (doR 0 a b f), .int .u8 (doF 0 a b f)]) ∧ w = w' := by
  go_enter Try.func46, Try.ntmps46
  go_wp2_with (go_at_call 9; (with_reducible refine (a5_add _ _ _ _ a0 a1 b0 b1).mono ?_); rintro e w' ⟨rfl, rfl⟩)
  go_ret2
  exact ⟨rfl, rfl⟩
theorem a5_o2 (a b f : Int) (w : World) (a0 : 0 ≤ a) (a1 : a < 256) (b0 : 0 ≤ b) (b1 : b < 256) : Calls Try.prog 47 #[.int .u8 a, .int .u8 b, .int .u8 f] w fun e w' => e = .returned (.tuple #[.int .u8 (doR 1 a b f), .int .u8 (doF 1 a b f)]) ∧ w = w' := by
  go_enter Try.func47, Try.ntmps47
  go_wp2_with (go_at_call 9; (with_reducible refine (a5_add _ _ _ _ a0 a1 b0 b1).mono ?_); rintro e w' ⟨rfl, rfl⟩)
  go_ret2
  exact ⟨rfl, rfl⟩
theorem a5_o3 (a b f : Int) (w : World) (a0 : 0 ≤ a) (a1 : a < 256) (b0 : 0 ≤ b) (b1 : b < 256) : Calls Try.prog 48 #[.int .u8 a, .int .u8 b, .int .u8 f] w fun e w' => e = .returned (.tuple #[.int .u8 (doR 2 a b f), .int .u8 (doF 2 a b f)]) ∧ w = w' := by
  go_enter Try.func48, Try.ntmps48
  go_wp2_with (go_at_call 15; (with_reducible refine (a5_sub _ _ _ _ a0 a1 b0 b1).mono ?_); rintro e w' ⟨rfl, rfl⟩)
  go_ret2
  exact ⟨rfl, rfl⟩
theorem a5_o4 (a b f : Int) (w : World) (a0 : 0 ≤ a) (a1 : a < 256) (b0 : 0 ≤ b) (b1 : b < 256) : Calls Try.prog 49 #[.int .u8 a, .int .u8 b, .int .u8 f] w fun e w' => e = .returned (.tuple #[.int .u8 (doR 3 a b f), .int .u8 (doF 3 a b f)]) ∧ w = w' := by
  go_enter Try.func49, Try.ntmps49
  go_wp2_with (go_at_call 15; (with_reducible refine (a5_sub _ _ _ _ a0 a1 b0 b1).mono ?_); rintro e w' ⟨rfl, rfl⟩)
  go_ret2
  exact ⟨rfl, rfl⟩
theorem a5_o5 (a b f : Int) (w : World) (a0 : 0 ≤ a) (a1 : a < 256) (b0 : 0 ≤ b) (b1 : b < 256) : Calls Try.prog 50 #[.int .u8 a, .int .u8 b, .int .u8 f] w fun e w' => e = .returned (.tuple #[.int .u8 (doR 4 a b f), .int .u8 (doF 4 a b f)]) ∧ w = w' := by
  go_enter Try.func50, Try.ntmps50
  go_wp2_with (go_at_call 10; (with_reducible refine (a5_and _ _ _ a0 a1 b0 b1).mono ?_); rintro e w' ⟨rfl, rfl⟩)
  go_ret2
  exact ⟨rfl, rfl⟩
theorem a5_o6 (a b f : Int) (w : World) (a0 : 0 ≤ a) (a1 : a < 256) (b0 : 0 ≤ b) (b1 : b < 256) : Calls Try.prog 51 #[.int .u8 a, .int .u8 b, .int .u8 f] w fun e w' => e = .returned (.tuple #[.int .u8 (doR 5 a b f), .int .u8 (doF 5 a b f)]) ∧ w = w' := by
  go_enter Try.func51, Try.ntmps51
  go_wp2_with (go_at_call 29; (with_reducible refine (a5_xor _ _ _ a0 a1 b0 b1).mono ?_); rintro e w' ⟨rfl, rfl⟩)
  go_ret2
  exact ⟨rfl, rfl⟩
theorem a5_o7 (a b f : Int) (w : World) (a0 : 0 ≤ a) (a1 : a < 256) (b0 : 0 ≤ b) (b1 : b < 256) : Calls Try.prog 52 #[.int .u8 a, .int .u8 b, .int .u8 f] w fun e w' => e = .returned (.tuple #[.int .u8 (doR 6 a b f), .int .u8 (doF 6 a b f)]) ∧ w = w' := by
  go_enter Try.func52, Try.ntmps52
  go_wp2_with (go_at_call 27; (with_reducible refine (a5_or _ _ _ a0 a1 b0 b1).mono ?_); rintro e w' ⟨rfl, rfl⟩)
  go_ret2
  exact ⟨rfl, rfl⟩
theorem a5_o8 (a b f : Int) (w : World) (a0 : 0 ≤ a) (a1 : a < 256) (b0 : 0 ≤ b) (b1 : b < 256) : Calls Try.prog 53 #[.int .u8 a, .int .u8 b, .int .u8 f] w fun e w' => e = .returned (.tuple #[.int .u8 (doR 7 a b f), .int .u8 (doF 7 a b f)]) ∧ w = w' := by
  go_enter Try.func53, Try.ntmps53
  go_wp2_with (go_at_call 17; (with_reducible refine (a5_cp _ _ _ a0 a1 b0 b1).mono ?_); rintro e w' ⟨rfl, rfl⟩)
  go_ret2
  exact ⟨rfl, rfl⟩

def oper (n : Nat) : Value := .func (.func n) #[] #[]
def opers : Array Value := #[.func (.func 46) #[] #[], .func (.func 47) #[] #[], .func (.func 48) #[] #[], .func (.func 49) #[] #[], .func (.func 50) #[] #[], .func (.func 51) #[] #[], .func (.func 52) #[] #[], .func (.func 53) #[] #[]]
theorem a5_operators (w : World) : Calls Try.prog 43 #[] w fun e w' => e = .returned (.agg opers) ∧ Below w.heap.size w w' := by
  go_enter Try.func43, Try.ntmps43
  go_wp2
  exact bodyPost_ret (v := .agg opers) (by simp [results, Try.results43, opers, go_sem]) rfl ⟨rfl, (Below.refl _ _).alloc (Nat.le_refl _) _⟩

theorem and7_all : ∀ n : Nat, n < 8 → ∀ x : BitVec 64, (x &&& 7#64).toNat = x.toNat % 8 := by
  intro n _ x
  rw [BitVec.toNat_and]
  exact Nat.and_two_pow_sub_one_eq_mod x.toNat 3
theorem and7 (op : Int) : bits .and .i64 op 7 = op % 8 := by
  show IntKind.i64.wrap ((BitVec.ofInt 64 op &&& BitVec.ofInt 64 7).toNat : Int) = _
  rw [show BitVec.ofInt 64 7 = 7#64 from rfl, and7_all 0 (by decide), BitVec.toNat_ofInt, IntKind.wrap_i64]
  have : (op % (2 ^ 64 : Nat)).toNat = op % 18446744073709551616 := by omega
  omega

theorem a5_index (k : Nat) (hk : k < 8) (w : World) : (Instr.index 47 (.agg opers) (.int .i64 k)).run Try.prog w = .ok (opers.getD k undef) w := by
  obtain rfl | rfl | rfl | rfl | rfl | rfl | rfl | rfl : k = 0 ∨ k = 1 ∨ k = 2 ∨ k = 3 ∨ k = 4 ∨ k = 5 ∨ k = 6 ∨ k = 7 := by omega
  all_goals kernel_rfl
theorem a5_do_0 (op a b f : Int) (w : World) (a0 : 0 ≤ a) (a1 : a < 256) (b0 : 0 ≤ b) (b1 : b < 256) (h7 : bits .and .i64 op 7 = ((0 : Nat) : Int)) :
    Calls Try.prog 23 #[.int .i64 op, .int .u8 a, .int .u8 b, .int .u8 f] w fun e w' =>
    e = .returned (.tuple #[.int .u8 (doR 0 a b f), .int .u8 (doF 0 a b f)]) ∧ Below w.heap.size w w' := by
  have hi : ∀ w, (Instr.index 47 (.agg opers) (.int .i64 0)).run Try.prog w = .ok (.func (.func 46) #[] #[]) w := a5_index 0 (by decide)
  go_enter Try.func23, Try.ntmps23
  go_wp2_with fail
  refine (a5_operators _).mono ?_
  rintro e w1 ⟨rfl, hb⟩
  go_wp2_with fail
  refine (a5_o1 a b f _ a0 a1 b0 b1).mono ?_
  rintro e w2 ⟨rfl, rfl⟩
  go_wp2_with fail
  go_ret2
  exact ⟨rfl, hb⟩
theorem a5_do_1 (op a b f : Int) (w : World) (a0 : 0 ≤ a) (a1 : a < 256) (b0 : 0 ≤ b) (b1 : b < 256) (h7 : bits .and .i64 op 7 = ((1 : Nat) : Int)) :
    Calls Try.prog 23 #[.int .i64 op, .int .u8 a, .int .u8 b, .int .u8 f] w fun e w' =>
    e = .returned (.tuple #[.int .u8 (doR 1 a b f), .int .u8 (doF 1 a b f)]) ∧ Below w.heap.size w w' := by
  have hi : ∀ w, (Instr.index 47 (.agg opers) (.int .i64 1)).run Try.prog w = .ok (.func (.func 47) #[] #[]) w := a5_index 1 (by decide)
  go_enter Try.func23, Try.ntmps23
  go_wp2_with fail
  refine (a5_operators _).mono ?_
  rintro e w1 ⟨rfl, hb⟩
  go_wp2_with fail
  refine (a5_o2 a b f _ a0 a1 b0 b1).mono ?_
  rintro e w2 ⟨rfl, rfl⟩
  go_wp2_with fail
  go_ret2
  exact ⟨rfl, hb⟩
theorem a5_do_2 (op a b f : Int) (w : World) (a0 : 0 ≤ a) (a1 : a < 256) (b0 : 0 ≤ b) (b1 : b < 256) (h7 : bits .and .i64 op 7 = ((2 : Nat) : Int)) :
    Calls Try.prog 23 #[.int .i64 op, .int .u8 a, .int .u8 b, .int .u8 f] w fun e w' =>
    e = .returned (.tuple #[.int .u8 (doR 2 a b f), .int .u8 (doF 2 a b f)]) ∧ Below w.heap.size w w' := by
  have hi : ∀ w, (Instr.index 47 (.agg opers) (.int .i64 2)).run Try.prog w = .ok (.func (.func 48) #[] #[]) w := a5_index 2 (by decide)
  go_enter Try.func23, Try.ntmps23
  go_wp2_with fail
  refine (a5_operators _).mono ?_
  rintro e w1 ⟨rfl, hb⟩
  go_wp2_with fail
  refine (a5_o3 a b f _ a0 a1 b0 b1).mono ?_
  rintro e w2 ⟨rfl, rfl⟩
  go_wp2_with fail
  go_ret2
  exact ⟨rfl, hb⟩
theorem a5_do_3 (op a b f : Int) (w : World) (a0 : 0 ≤ a) (a1 : a < 256) (b0 : 0 ≤ b) (b1 : b < 256) (h7 : bits .and .i64 op 7 = ((3 : Nat) : Int)) :
    Calls Try.prog 23 #[.int .i64 op, .int .u8 a, .int .u8 b, .int .u8 f] w fun e w' =>
    e = .returned (.tuple #[.int .u8 (doR 3 a b f), .int .u8 (doF 3 a b f)]) ∧ Below w.heap.size w w' := by
  have hi : ∀ w, (Instr.index 47 (.agg opers) (.int .i64 3)).run Try.prog w = .ok (.func (.func 49) #[] #[]) w := a5_index 3 (by decide)
  go_enter Try.func23, Try.ntmps23
  go_wp2_with fail
  refine (a5_operators _).mono ?_
  rintro e w1 ⟨rfl, hb⟩
  go_wp2_with fail
  refine (a5_o4 a b f _ a0 a1 b0 b1).mono ?_
  rintro e w2 ⟨rfl, rfl⟩
  go_wp2_with fail
  go_ret2
  exact ⟨rfl, hb⟩
theorem a5_do_4 (op a b f : Int) (w : World) (a0 : 0 ≤ a) (a1 : a < 256) (b0 : 0 ≤ b) (b1 : b < 256) (h7 : bits .and .i64 op 7 = ((4 : Nat) : Int)) :
    Calls Try.prog 23 #[.int .i64 op, .int .u8 a, .int .u8 b, .int .u8 f] w fun e w' =>
    e = .returned (.tuple #[.int .u8 (doR 4 a b f), .int .u8 (doF 4 a b f)]) ∧ Below w.heap.size w w' := by
  have hi : ∀ w, (Instr.index 47 (.agg opers) (.int .i64 4)).run Try.prog w = .ok (.func (.func 50) #[] #[]) w := a5_index 4 (by decide)
  go_enter Try.func23, Try.ntmps23
  go_wp2_with fail
  refine (a5_operators _).mono ?_
  rintro e w1 ⟨rfl, hb⟩
  go_wp2_with fail
  refine (a5_o5 a b f _ a0 a1 b0 b1).mono ?_
  rintro e w2 ⟨rfl, rfl⟩
  go_wp2_with fail
  go_ret2
  exact ⟨rfl, hb⟩
theorem a5_do_5 (op a b f : Int) (w : World) (a0 : 0 ≤ a) (a1 : a < 256) (b0 : 0 ≤ b) (b1 : b < 256) (h7 : bits .and .i64 op 7 = ((5 : Nat) : Int)) :
    Calls Try.prog 23 #[.int .i64 op, .int .u8 a, .int .u8 b, .int .u8 f] w fun e w' =>
    e = .returned (.tuple #[.int .u8 (doR 5 a b f), .int .u8 (doF 5 a b f)]) ∧ Below w.heap.size w w' := by
  have hi : ∀ w, (Instr.index 47 (.agg opers) (.int .i64 5)).run Try.prog w = .ok (.func (.func 51) #[] #[]) w := a5_index 5 (by decide)
  go_enter Try.func23, Try.ntmps23
  go_wp2_with fail
  refine (a5_operators _).mono ?_
  rintro e w1 ⟨rfl, hb⟩
  go_wp2_with fail
  refine (a5_o6 a b f _ a0 a1 b0 b1).mono ?_
  rintro e w2 ⟨rfl, rfl⟩
  go_wp2_with fail
  go_ret2
  exact ⟨rfl, hb⟩
theorem a5_do_6 (op a b f : Int) (w : World) (a0 : 0 ≤ a) (a1 : a < 256) (b0 : 0 ≤ b) (b1 : b < 256) (h7 : bits .and .i64 op 7 = ((6 : Nat) : Int)) :
    Calls Try.prog 23 #[.int .i64 op, .int .u8 a, .int .u8 b, .int .u8 f] w fun e w' =>
    e = .returned (.tuple #[.int .u8 (doR 6 a b f), .int .u8 (doF 6 a b f)]) ∧ Below w.heap.size w w' := by
  have hi : ∀ w, (Instr.index 47 (.agg opers) (.int .i64 6)).run Try.prog w = .ok (.func (.func 52) #[] #[]) w := a5_index 6 (by decide)
  go_enter Try.func23, Try.ntmps23
  go_wp2_with fail
  refine (a5_operators _).mono ?_
  rintro e w1 ⟨rfl, hb⟩
  go_wp2_with fail
  refine (a5_o7 a b f _ a0 a1 b0 b1).mono ?_
  rintro e w2 ⟨rfl, rfl⟩
  go_wp2_with fail
  go_ret2
  exact ⟨rfl, hb⟩
theorem a5_do_7 (op a b f : Int) (w : World) (a0 : 0 ≤ a) (a1 : a < 256) (b0 : 0 ≤ b) (b1 : b < 256) (h7 : bits .and .i64 op 7 = ((7 : Nat) : Int)) :
    Calls Try.prog 23 #[.int .i64 op, .int .u8 a, .int .u8 b, .int .u8 f] w fun e w' =>
    e = .returned (.tuple #[.int .u8 (doR 7 a b f), .int .u8 (doF 7 a b f)]) ∧ Below w.heap.size w w' := by
  have hi : ∀ w, (Instr.index 47 (.agg opers) (.int .i64 7)).run Try.prog w = .ok (.func (.func 53) #[] #[]) w := a5_index 7 (by decide)
  go_enter Try.func23, Try.ntmps23
  go_wp2_with fail
  refine (a5_operators _).mono ?_
  rintro e w1 ⟨rfl, hb⟩
  go_wp2_with fail
  refine (a5_o8 a b f _ a0 a1 b0 b1).mono ?_
  rintro e w2 ⟨rfl, rfl⟩
  go_wp2_with fail
  go_ret2
  exact ⟨rfl, hb⟩
theorem a5_do (op a b f : Int) (w : World) (a0 : 0 ≤ a) (a1 : a < 256) (b0 : 0 ≤ b) (b1 : b < 256) : Calls Try.prog 23 #[.int .i64 op, .int .u8 a, .int .u8 b, .int .u8 f] w fun e w' =>
    e = .returned (.tuple #[.int .u8 (doR (op % 8).toNat a b f), .int .u8 (doF (op % 8).toNat a b f)]) ∧ Below w.heap.size w w' := by
  have h7 := and7 op
  obtain ⟨k, hk⟩ : ∃ k : Nat, op % 8 = k := ⟨(op % 8).toNat, by omega⟩
  rw [hk] at h7 ⊢
  rw [Int.toNat_natCast]
  have hk8 : k < 8 := by omega
  clear hk
  obtain rfl | rfl | rfl | rfl | rfl | rfl | rfl | rfl : k = 0 ∨ k = 1 ∨ k = 2 ∨ k = 3 ∨ k = 4 ∨ k = 5 ∨ k = 6 ∨ k = 7 := by omega
  · exact a5_do_0 op a b f w a0 a1 b0 b1 h7
  · exact a5_do_1 op a b f w a0 a1 b0 b1 h7
  · exact a5_do_2 op a b f w a0 a1 b0 b1 h7
  · exact a5_do_3 op a b f w a0 a1 b0 b1 h7
  · exact a5_do_4 op a b f w a0 a1 b0 b1 h7
  · exact a5_do_5 op a b f w a0 a1 b0 b1 h7
  · exact a5_do_6 op a b f w a0 a1 b0 b1 h7
  · exact a5_do_7 op a b f w a0 a1 b0 b1 h7
end Go.Proofs.Ytkmgdpbknmoliaa
