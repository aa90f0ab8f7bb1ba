
/- Screens, what the packages above tstate want of them: bounds, the reference's Classic, boxed screens, Check one way each. -/
import Derived.Test.YtljgpaiojeffcaaH6
namespace Go.Proofs.Ytljgpaiojeffcaa
open Go.RowKit
set_option linter.unusedSimpArgs false
set_option linter.unusedVariables false
set_option maxRecDepth 100000

/-- The bounds of a screen that may be. -/
structure Bnd (s : Scr) : Prop where
  lines : 1 ≤ s.lines ∧ s.lines ≤ 400
  columns : 8 ≤ s.columns ∧ s.columns ≤ 400
  cols4 : s.columns % 4 = 0
  rows : 0 ≤ s.rows ∧ s.rows ≤ 192 ∧ s.rows % 8 = 0
  top : 0 ≤ s.top ∧ s.top ≤ s.lines - s.rows
  wide : 0 ≤ s.wide ∧ s.wide ≤ 32 ∧ s.wide % 2 = 0
  left : 1 ≤ s.left ∧ s.left ≤ s.columns - 4 * s.wide
theorem Scr.May.bnd {s : Scr} (h : s.May) : Bnd s :=
  ⟨h 0 (by omega), h 1 (by omega), h 2 (by omega), h 3 (by omega), h 4 (by omega), h 5 (by omega), h 6 (by omega)⟩
theorem spot_in {s : Scr} (hm : s.May) {t : Int} (h0 : 0 ≤ t) : (0 ≤ t % s.len / s.columns ∧ t % s.len / s.columns < s.lines) ∧ 0 ≤ t % s.len % s.columns ∧ t % s.len % s.columns < s.columns := by
  obtain ⟨hl, hl0, hl1⟩ := Scr.len_may hm
  have hC := hm.bnd.columns
  have hr0 : 0 ≤ t % s.len := Int.emod_nonneg t (by omega)
  have hr1 : t % s.len < s.len := Int.emod_lt_of_pos t (by omega)
  refine ⟨⟨Int.ediv_nonneg hr0 (by omega), ?_⟩, Int.emod_nonneg _ (by omega), Int.emod_lt_of_pos _ (by omega)⟩
  exact Int.ediv_lt_of_lt_mul (by omega) (by rw [← hl]; exact hr1)

theorem rclassic (w : World) : Calls Try.prog 7 #[] w fun e w' => e = .returned classicV ∧ Below w.heap.size w w' := by
  go_enter Try.func7, Try.ntmps7
  go_wp2_with fail
  (try simp only [Exit.inBlock, Exit.then])
  refine bodyPost_ret (v := classicV) ?_ rfl ⟨rfl, (Below.refl _ _).alloc (Nat.le_refl _) _⟩
  simp [results, go_sem]

/-- Behind an alloc and a call that lays memory. -/
theorem behind {w w1 w2 : World} {o : Obj} (hB : Below w.heap.size w w1) (hb : Below (w1.alloc o).heap.size (w1.alloc o) w2) : Below w.heap.size w w2 ∧ w1.heap.size < w2.heap.size := by
  have := hb.size
  simp at this
  exact ⟨(hB.alloc hB.size o).trans (hb.mono (by have := hB.size; simp; omega)), by omega⟩
theorem SB.behind {w1 w2 : World} {o : Obj} {b : Nat} {s : Scr} (h : SB w1 b s) (hlt : b < w1.heap.size) (hb : Below (w1.alloc o).heap.size (w1.alloc o) w2) : SB w2 b s :=
  (h.below ((Below.refl _ _).alloc (Nat.le_refl _) o) hlt).below hb (by simp; omega)
theorem SB.boxed {w w2 : World} {s : Scr} (hb : Below (w.alloc (scO s)).heap.size (w.alloc (scO s)) w2) : Below w.heap.size w w2 ∧ SB w2 w.heap.size s ∧ w.heap.size < w2.heap.size := by
  have := hb.size
  simp at this
  exact ⟨((Below.refl _ _).alloc (Nat.le_refl _) _).trans (hb.mono (by simp)), SB.laid s (hb.mono (by simp)), by omega⟩

theorem check_yes (s : Scr) (hm : s.May) (w : World) : Calls Try.prog 18 #[s.val] w fun e w' => e = .returned (.int .i64 0) ∧ Below w.heap.size w w' := by
  refine (check_any w s).mono ?_
  rintro e w' ⟨h, hb⟩
  rcases h with ⟨h, _⟩ | ⟨_, h⟩
  · exact ⟨h, hb⟩
  · exact absurd hm h
theorem check_no (s : Scr) (hm : ¬ s.May) (w : World) : Calls Try.prog 18 #[s.val] w fun e w' => e = .returned (.int .i64 2) ∧ Below w.heap.size w w' := by
  refine (check_any w s).mono ?_
  rintro e w' ⟨h, hb⟩
  rcases h with ⟨_, h⟩ | ⟨h, _⟩
  · exact absurd h hm
  · exact ⟨h, hb⟩

end Go.Proofs.Ytljgpaiojeffcaa
