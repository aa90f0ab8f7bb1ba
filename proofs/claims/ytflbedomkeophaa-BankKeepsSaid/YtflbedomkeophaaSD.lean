
/- Package bank: Told, CheckPatch. -/
import Derived.Test.YtflbedomkeophaaSC
import Derived.Test.YtflbedomkeophaaW
namespace Go.Proofs.Ytflbedomkeophaa
open Go.RowKit
set_option linter.unusedSimpArgs false
set_option linter.unusedVariables false
set_option maxRecDepth 100000

def tA (A v : Int) (more : Bool) : Int := if bitP A 32 = true then 0 else if more = true then A else v
def tB (A B v : Int) (more : Bool) : Int := if bitP A 32 = true then 0 else if more = true then v else B
def tE (A : Int) : Int := if bitP A 32 = true then 10 else 0
theorem infoPg : (Try.prog.info? 34).map (·.size) = some 2 := by kernel_rfl

set_option maxHeartbeats 1000000 in
theorem b_told (A B v : Int) (more : Bool) (w : World) : Calls Try.prog 23 #[pgV A B, .bool more, .int .u8 v] w fun e w' => e = .returned (.tuple #[pgV (tA A v more) (tB A B v more), .int .i64 (tE A)]) ∧ Below w.heap.size w w' := by
  unfold pgV tA tB tE bitP
  cases h : (bits .and .u8 A 32 != 0) <;> cases more
  all_goals
    go_enter Try.func23, Try.ntmps23
    go_wp2
    (try simp only [Exit.inBlock, Exit.then])
    refine bodyPost_ret (s_results_row_tmp rfl _ _ _ _ _ (0, 0) _ _ rfl rfl (heap_alloc2_new _ _ _) Try.underlying34 rfl infoPg) rfl ⟨rfl, ((Below.refl _ _).alloc (Nat.le_refl _) _).alloc (by simp) _⟩

/-- What CheckPatch answers. -/
def chkP (b a : Int) (n : Nat) : Int := if isBankP b = false then 2 else if a < 0 ∨ 16384 - (n : Int) < a then 2 else 0
set_option maxHeartbeats 1000000 in
theorem b_check (b a : Int) (A : Option Addr) (n c : Nat) (w : World) (ha : (Lit.int .i64 a).wf = true) (hn : n ≤ 140737488355328) :
    Calls Try.prog 24 #[.agg #[.int .i64 b, .int .i64 a, .slice A n c]] w fun e w' => e = .returned (.int .i64 (chkP b a n)) ∧ Below w.heap.size w w' := by
  have hb := bounds_i64 ha
  have HB := Lib.hid (b_isbank b ·)
  unfold chkP
  obtain ⟨q, hq⟩ : ∃ q, isBankP b = q := ⟨_, rfl⟩
  rw [hq] at HB
  rw [hq]
  clear hq ha
  cases q with
  | false =>
    go_enter Try.func24, Try.ntmps24
    go_wp2_with (go_at_call 30; (with_reducible refine (HB.out _).mono ?_); rintro e w' ⟨rfl, rfl⟩)
    go_ret
    exact ⟨rfl, ((Below.refl _ _).alloc (Nat.le_refl _) _)⟩
  | true =>
    rw [if_neg (by decide)]
    by_cases h0 : a < 0
    · rw [if_pos (.inl h0)]
      go_enter Try.func24, Try.ntmps24
      go_wp2_with (go_at_call 30; (with_reducible refine (HB.out _).mono ?_); rintro e w' ⟨rfl, rfl⟩)
      go_ret
      exact ⟨rfl, ((Below.refl _ _).alloc (Nat.le_refl _) _)⟩
    · by_cases h1 : 16384 - (n : Int) < a
      · rw [if_pos (.inr h1)]
        go_enter Try.func24, Try.ntmps24
        go_wp2_with (go_at_call 30; (with_reducible refine (HB.out _).mono ?_); rintro e w' ⟨rfl, rfl⟩)
        go_ret
        exact ⟨rfl, ((Below.refl _ _).alloc (Nat.le_refl _) _)⟩
      · rw [if_neg (by omega)]
        go_enter Try.func24, Try.ntmps24
        go_wp2_with (go_at_call 30; (with_reducible refine (HB.out _).mono ?_); rintro e w' ⟨rfl, rfl⟩)
        go_ret
        exact ⟨rfl, ((Below.refl _ _).alloc (Nat.le_refl _) _)⟩
end Go.Proofs.Ytflbedomkeophaa
