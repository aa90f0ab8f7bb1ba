
/- The reference's May, Length, Pulse, below, Pulses. -/
import Derived.Test.YtljgpaiojeffcaaH1
import Derived.Test.YtljgpaiojeffcaaK
import Derived.Test.YtljgpaiojeffcaaQ3
namespace Go.Proofs.Ytljgpaiojeffcaa
open Go.RowKit
set_option linter.unusedSimpArgs false
set_option linter.unusedVariables false
set_option maxRecDepth 100000

theorem rcheck_any (w : World) (s : Scr) : Calls Try.prog 12 #[s.val] w (ChecksScr s w.heap.size w) := by
  by_cases h : 1 ≤ s.lines ∧ s.lines ≤ 400 ∧ 8 ≤ s.columns ∧ s.columns ≤ 400
  · exact rcheck_in w s h
  · exact rcheck_out w s h
theorem rcheck_yes (s : Scr) (hm : s.May) (w : World) : Calls Try.prog 12 #[s.val] w fun e w' => e = .returned (.int .i64 0) ∧ Below w.heap.size w w' := by
  refine (rcheck_any w s).mono ?_
  rintro e w' ⟨h, hb⟩
  rcases h with ⟨h, _⟩ | ⟨_, h⟩
  · exact ⟨h, hb⟩
  · exact absurd hm h
theorem rcheck_no (s : Scr) (hm : ¬ s.May) (w : World) : Calls Try.prog 12 #[s.val] w fun e w' => e = .returned (.int .i64 2) ∧ Below w.heap.size w w' := by
  refine (rcheck_any w s).mono ?_
  rintro e w' ⟨h, hb⟩
  rcases h with ⟨_, h⟩ | ⟨h, _⟩
  · exact absurd h hm
  · exact ⟨h, hb⟩

theorem SB.of {b : World} {n : Nat} {s : Scr} (h : SB b n s) (hn : n < b.heap.size) (p : M.Of (M.Base b)) : SB p.w n s := h.below p.ok.2 hn
abbrev scO (s : Scr) : Obj := .cells #[.int .i64 s.lines, .int .i64 s.columns, .int .i64 s.top, .int .i64 s.rows, .int .i64 s.left, .int .i64 s.wide, .int .i64 s.pulse] 23
theorem SB.now (w : World) (s : Scr) : SB (w.alloc (scO s)) w.heap.size s := by
  constructor <;> (rw [World.cell?_alloc_at _ _ _ _ rfl]; rfl)

theorem rmay_any (t : Int) (w : World) : Calls Try.prog 23 #[.int .i64 t] w fun e w' => e = .returned (.bool (decide (0 ≤ t ∧ t ≤ 1099511627776))) ∧ w = w' := by
  by_cases h0 : 0 ≤ t
  · by_cases h1 : t ≤ 1099511627776
    · go_enter Try.func23, Try.ntmps23
      go_wp2
      go_ret
      exact ⟨by simp [h0, h1], rfl⟩
    · have h2 : 1099511627776 < t := by omega
      go_enter Try.func23, Try.ntmps23
      go_wp2
      go_ret
      exact ⟨by simp [h0, h1], rfl⟩
  · have h2 : t < 0 := by omega
    go_enter Try.func23, Try.ntmps23
    go_wp2
    go_ret
    exact ⟨by simp; omega, rfl⟩

theorem rlen_any (w : World) (s : Scr) : Calls Try.prog 15 #[s.val] w fun e w' => e = .returned (.int .i64 s.len) ∧ Below w.heap.size w w' := by
  unfold Scr.val
  go_enter Try.func15, Try.ntmps15
  go_wp2_with fail
  refine (rcheck_any _ s).mono ?_
  rintro e w2 ⟨h, hb⟩
  have hB : Below w.heap.size w w2 := ((Below.refl _ _).alloc (Nat.le_refl _) _).trans (hb.mono (by simp))
  have hS : SB w2 w.heap.size s := by
    constructor <;> (rw [hb.cell (by simp), World.cell?_alloc_at _ _ _ _ rfl]; rfl)
  obtain ⟨c0, c1, c2, c3, c4, c5, c6⟩ := hS
  clear hb
  rcases h with ⟨rfl, hm⟩ | ⟨rfl, hm⟩
  · obtain ⟨hl, hl0, hl1⟩ := Scr.len_may hm
    have hlo : 0 ≤ s.lines * s.columns := by omega
    have hlh : s.lines * s.columns ≤ 160000 := by omega
    have HL := Lib.hid hl
    clear hl
    go_wp2_with fail
    go_ret
    rw [HL.out]
    exact ⟨rfl, hB⟩
  · have hl := Scr.len_not hm
    go_wp2_with fail
    go_ret
    rw [hl]
    exact ⟨rfl, hB⟩
end Go.Proofs.Ytljgpaiojeffcaa
