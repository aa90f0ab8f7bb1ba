
/- What a screen's calls answer: Classic, Length, times, pulses, spots. -/
import Derived.Test.YtljgpaiojeffcaaU
import Derived.BigQuiet
import Derived.Test.YtljgpaiojeffcaaQ
import Derived.Deep.DeepCutAuto
namespace Go.Proofs.Ytljgpaiojeffcaa
open Go.RowKit

open Classical in
/-- A frame's T-states; 0 of a screen that may not be. -/
noncomputable def Scr.len (s : Scr) : Int := if s.May then s.lines * s.columns else 0
theorem Scr.len_may {s : Scr} (h : s.May) : s.len = s.lines * s.columns ∧ 8 ≤ s.len ∧ s.len ≤ 160000 := by
  have h0 := h 0 (by omega)
  have h1 := h 1 (by omega)
  simp only [Scr.asks] at h0 h1
  have e : s.len = s.lines * s.columns := by unfold Scr.len; rw [if_pos h]
  have h2 := Int.mul_le_mul h0.2 h1.2 (by omega) (by omega)
  have h3 := Int.mul_le_mul h0.1 h1.1 (by omega) (by omega)
  exact ⟨e, by omega, by omega⟩
theorem Scr.len_not {s : Scr} (h : ¬ s.May) : s.len = 0 := by unfold Scr.len; rw [if_neg h]

set_option maxHeartbeats 1000000 in
theorem length_any (w : World) (s : Scr) : Calls Try.prog 37 #[s.val] w fun e w' => e = .returned (.int .i64 s.len) ∧ Below w.heap.size w w' := by
  unfold Scr.val
  go_enter Try.func37, Try.ntmps37
  go_wp2_with fail
  refine (check_any _ s).mono ?_
  rintro e w2 ⟨h, hb⟩
  have hB : Below w.heap.size w w2 := ((Below.refl _ _).alloc (Nat.le_refl _) _).trans (hb.mono (by simp))
  have hS : SB w2 w.heap.size s := by
    constructor <;> (rw [hb.cell (by simp), World.cell?_alloc_at _ _ _ _ rfl]; rfl)
  obtain ⟨c0, c1, c2, c3, c4, c5, c6⟩ := hS
  clear hb
  rcases h with ⟨rfl, hm⟩ | ⟨rfl, hm⟩
  · obtain ⟨hl, hl0, hl1⟩ := Scr.len_may hm
    have hlo : 0 ≤ s.lines * s.columns := by omega
    have hlh : s.lines * s.columns ≤ 160000 := by omega
    have HL := Lib.hid hl
    clear hl
    go_wp2_with fail
    go_ret
    rw [HL.out]
    exact ⟨rfl, hB⟩
  · have hl := Scr.len_not hm
    go_wp2_with fail
    go_ret
    rw [hl]
    exact ⟨rfl, hB⟩

theorem isTime_any (t : Int) (w : World) : Calls Try.prog 38 #[.int .i64 t] w fun e w' => Tells e (0 ≤ t ∧ t ≤ 1099511627776) ∧ w = w' := by
  go_enter Try.func38, Try.ntmps38
  go_wp2_with fail
  all_goals go_ret
  all_goals exact ⟨⟨_, rfl, by first | (simp; done) | (simp; omega)⟩, rfl⟩

end Go.Proofs.Ytljgpaiojeffcaa
