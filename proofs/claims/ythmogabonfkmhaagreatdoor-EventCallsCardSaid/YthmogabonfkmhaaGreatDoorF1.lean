
/- Events: what they are, what may be (pure); what Chip and Check answer. -/
import Derived.Test.YthmogabonfkmhaaGreatDoorT
import Derived.Test.YthmogabonfkmhaaGreatDoorQ
namespace Go.Proofs.YthmogabonfkmhaaGreatDoor
open Go.RowKit
set_option linter.unusedSimpArgs false

/-- An event's numbers. -/
structure Ev where
  time : Int
  chip : Int
  seq : Int
  kind : Int
  a : Int
  b : Int

def Ev.val (x : Ev) : Value := .agg #[.int .i64 x.time, .int .i64 x.chip, .int .i64 x.seq, .int .i64 x.kind, .int .i64 x.a, .int .i64 x.b]

def chipOf (k : Int) : Int := if 1 ≤ k ∧ k ≤ 6 then 1 else if 7 ≤ k ∧ k ≤ 10 then 2 else if k = 11 then 3 else if k = 12 then 4 else 0

def Ev.May (x : Ev) : Prop := chipOf x.kind ≠ 0 ∧ x.chip = chipOf x.kind ∧ 0 ≤ x.time ∧ x.time ≤ 1099511627776 ∧ 0 ≤ x.seq ∧ x.seq ≤ 4294967296 ∧ 0 ≤ x.a ∧ x.a ≤ 1048576 ∧ 0 ≤ x.b ∧ x.b ≤ 255

instance (x : Ev) : Decidable x.May := inferInstanceAs (Decidable (_ ∧ _))

theorem ret_i64 {a b : Int} (h : a = b) : Ending.returned (.int .i64 a) = .returned (.int .i64 b) := by rw [h]

set_option maxHeartbeats 800000 in
theorem chip_any (k : Int) (w : World) : Calls Tryz.prog 12 #[.int .i64 k] w fun e w' => e = .returned (.int .i64 (chipOf k)) ∧ w = w' := by
  go_enter Tryz.func12, Tryz.ntmps12
  go_wp2
  all_goals
    go_ret
    exact ⟨ret_i64 (by unfold chipOf; simp only [beq_iff_eq, beq_eq_false_iff_ne, ne_eq, Bool.not_eq_true, Bool.or_eq_true, Bool.or_eq_false_iff] at *; (repeat' split) <;> omega), rfl⟩

/-- What Check answers of x. -/
def ChecksAs (x : Ev) (B : Nat) (w : World) (e : Ending) (w' : World) : Prop := ((e = .returned (.int .i64 0) ∧ x.May) ∨ (e = .returned (.int .i64 2) ∧ ¬ x.May)) ∧ Below B w w'

theorem chipOf_bd (k : Int) : 0 ≤ chipOf k ∧ chipOf k ≤ 4 := by unfold chipOf; (repeat' split) <;> omega

set_option maxHeartbeats 1600000 in
theorem echeck_any (w : World) (x : Ev) : Calls Tryz.prog 16 #[x.val] w (ChecksAs x w.heap.size w) := by
  obtain ⟨t, c, s, k, a, b⟩ := x
  have hb := chipOf_bd k
  unfold Ev.val
  go_enter Tryz.func16, Tryz.ntmps16
  go_wp2_with (go_at_call 12; refine (chip_any _ _).mono ?_; rintro e w' ⟨rfl, rfl⟩)
  all_goals
    go_ret
    refine ⟨?_, (Below.refl _ _).alloc (Nat.le_refl _) _⟩
    simp only [beq_iff_eq, beq_eq_false_iff_ne, ne_eq, bne_iff_ne, bne_eq_false_iff_eq, decide_eq_true_eq, decide_eq_false_iff_not, Bool.not_eq_true, Bool.or_eq_true, Bool.or_eq_false_iff] at *
    first
      | (refine Or.inl ⟨rfl, ?_⟩; simp only [Ev.May]; omega)
      | (refine Or.inr ⟨rfl, ?_⟩; simp only [Ev.May]; omega)
end Go.Proofs.YthmogabonfkmhaaGreatDoor
