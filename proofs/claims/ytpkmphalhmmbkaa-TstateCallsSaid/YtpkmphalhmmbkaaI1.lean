
/- What the code answers is what the reference answers: one value for both, in every world. -/
import Derived.Test.YtpkmphalhmmbkaaH9
namespace Go.Proofs.Ytpkmphalhmmbkaa
open Go.RowKit
set_option linter.unusedSimpArgs false
set_option linter.unusedVariables false
set_option maxRecDepth 100000

/-- A call that answers v, in every world, and writes nothing below. -/
def Says (f : FuncId) (args : Array Value) (v : Value) : Prop := ∀ w : World, Calls Try.prog f args w fun e w' => e = .returned v ∧ Below w.heap.size w w'

theorem both_spot (s : Scr) (t : Int) : ∃ a b c e : Int, Says 11 #[s.val, .int .i64 t] (.tuple #[spotV a b c, .int .i64 e]) ∧ Says 12 #[s.val, .int .i64 t] (.tuple #[spotV a b c, .int .i64 e]) := by
  by_cases h : s.May ∧ 0 ≤ t ∧ t ≤ 1099511627776
  · exact ⟨_, _, _, _, fun w => (spot_any w s t).mono fun e w' hh => ⟨hh.1.1 h, hh.2⟩, fun w => (rspot_any w s t).mono fun e w' hh => ⟨hh.1.1 h, hh.2⟩⟩
  · exact ⟨_, _, _, _, fun w => (spot_any w s t).mono fun e w' hh => ⟨hh.1.2 h, hh.2⟩, fun w => (rspot_any w s t).mono fun e w' hh => ⟨hh.1.2 h, hh.2⟩⟩

theorem both_time (s : Scr) (f l c : Int) : ∃ a e : Int, Says 13 #[s.val, spotV f l c] (.tuple #[.int .i64 a, .int .i64 e]) ∧ Says 14 #[s.val, spotV f l c] (.tuple #[.int .i64 a, .int .i64 e]) := by
  by_cases h : timeOk s f l c
  · exact ⟨_, _, fun w => (time_any w s f l c).mono fun e w' hh => ⟨hh.1.1 h, hh.2⟩, fun w => (rtime_any w s f l c).mono fun e w' hh => ⟨hh.1.1 h, hh.2⟩⟩
  · exact ⟨_, _, fun w => (time_any w s f l c).mono fun e w' hh => ⟨hh.1.2 h, hh.2⟩, fun w => (rtime_any w s f l c).mono fun e w' hh => ⟨hh.1.2 h, hh.2⟩⟩

theorem both_next (s : Scr) (t : Int) : ∃ (a : Int) (r : Bool), Says 15 #[s.val, .int .i64 t] (.tuple #[.int .i64 a, .bool r]) ∧ Says 16 #[s.val, .int .i64 t] (.tuple #[.int .i64 a, .bool r]) :=
  ⟨_, _, fun w => next_any w s t, fun w => rnext_any w s t⟩

theorem both_check (s : Scr) : ∃ a : Int, Says 22 #[s.val] (.int .i64 a) ∧ Says 23 #[s.val] (.int .i64 a) := by
  by_cases h : s.May
  · refine ⟨0, fun w => (check_any w s).mono ?_, rcheck_yes s h⟩
    rintro e w' ⟨⟨h1, _⟩ | ⟨_, h1⟩, hb⟩
    · exact ⟨h1, hb⟩
    · exact absurd h h1
  · refine ⟨2, fun w => (check_any w s).mono ?_, rcheck_no s h⟩
    rintro e w' ⟨⟨_, h1⟩ | ⟨h1, _⟩, hb⟩
    · exact absurd h1 h
    · exact ⟨h1, hb⟩

theorem both_length (s : Scr) : Says 24 #[s.val] (.int .i64 s.len) ∧ Says 25 #[s.val] (.int .i64 s.len) := ⟨fun w => length_any w s, fun w => rlen_any w s⟩

theorem tells_says {f : FuncId} {args : Array Value} {p : Prop} (h : ∀ w : World, Calls Try.prog f args w fun e w' => Tells e p ∧ Below w.heap.size w w') (r : Bool) (hr : r = true ↔ p) : Says f args (.bool r) := by
  intro w
  refine (h w).mono ?_
  rintro e w' ⟨⟨q, rfl, hq⟩, hb⟩
  obtain rfl : q = r := by
    cases q <;> cases r <;> simp_all
  exact ⟨rfl, hb⟩

theorem both_pulse (s : Scr) (t : Int) : ∃ r : Bool, Says 26 #[s.val, .int .i64 t] (.bool r) ∧ Says 27 #[s.val, .int .i64 t] (.bool r) := by
  by_cases h : s.May ∧ 0 ≤ t ∧ t ≤ 1099511627776 ∧ t % s.len < s.pulse
  · exact ⟨true, tells_says (fun w => pulse_any w s t) true ⟨fun _ => h, fun _ => rfl⟩, tells_says (fun w => rpulse_any w s t) true ⟨fun _ => h, fun _ => rfl⟩⟩
  · exact ⟨false, tells_says (fun w => pulse_any w s t) false ⟨fun hh => absurd hh Bool.false_ne_true, fun hh => absurd hh h⟩, tells_says (fun w => rpulse_any w s t) false ⟨fun hh => absurd hh Bool.false_ne_true, fun hh => absurd hh h⟩⟩

theorem both_pulses (s : Scr) (x y : Int) : ∃ a : Int, Says 28 #[s.val, .int .i64 x, .int .i64 y] (.int .i64 a) ∧ Says 29 #[s.val, .int .i64 x, .int .i64 y] (.int .i64 a) := by
  by_cases h : s.May ∧ x < y
  · exact ⟨_, fun w => (pulses_any w s x y).mono fun e w' hh => ⟨hh.1.1 h, hh.2⟩, fun w => (rpulses_any w s x y).mono fun e w' hh => ⟨hh.1.1 h, hh.2⟩⟩
  · exact ⟨_, fun w => (pulses_any w s x y).mono fun e w' hh => ⟨hh.1.2 h, hh.2⟩, fun w => (rpulses_any w s x y).mono fun e w' hh => ⟨hh.1.2 h, hh.2⟩⟩
end Go.Proofs.Ytpkmphalhmmbkaa
