
/- Screens' times: pulsesBelow, Pulses, Next, Spot. -/
import Derived.Test.YtljgpaiojeffcaaH
namespace Go.Proofs.Ytljgpaiojeffcaa
open Go.RowKit

/-- What lies in the stretch of times. -/
def clampT (t : Int) : Int := min (max t 0) 1099511627777
/-- The pulses below a time. -/
def pulsesB (L p t : Int) : Int := clampT t / L * p + min (clampT t % L) p

theorem clampT_bd (t : Int) : 0 ≤ clampT t ∧ clampT t ≤ 1099511627777 := by unfold clampT; omega

theorem pulsesB_bd (L p t : Int) (hL0 : 8 ≤ L) (hp0 : 1 ≤ p) (hp1 : p ≤ 64) : 0 ≤ pulsesB L p t ∧ pulsesB L p t ≤ 70368744177792 := by
  have hu := clampT_bd t
  unfold pulsesB
  have hq0 : 0 ≤ clampT t / L := Int.ediv_nonneg hu.1 (by omega)
  have hq1 : clampT t / L ≤ 1099511627777 := Int.le_trans (Int.ediv_le_self L hu.1) hu.2
  have hm0 : 0 ≤ clampT t / L * p := Int.mul_nonneg hq0 (by omega)
  have hm1 : clampT t / L * p ≤ 70368744177728 := Int.le_trans (Int.mul_le_mul hq1 hp1 (by omega) (by omega)) (by decide)
  have hr0 : 0 ≤ clampT t % L := Int.emod_nonneg _ (by omega)
  omega

theorem Scr.pulse_may {s : Scr} (h : s.May) : 1 ≤ s.pulse ∧ s.pulse ≤ 64 := h 7 (by omega)

/-- A screen that was just laid, in every world behind. -/
theorem SB.laid {w w' : World} (s : Scr) (h : Below (w.heap.size + 1) (w.alloc (.cells #[.int .i64 s.lines, .int .i64 s.columns, .int .i64 s.top, .int .i64 s.rows, .int .i64 s.left, .int .i64 s.wide, .int .i64 s.pulse] 23)) w') : SB w' w.heap.size s := by
  constructor <;> (rw [h.cell (by simp), World.cell?_alloc_at _ _ _ _ rfl]; rfl)

end Go.Proofs.Ytljgpaiojeffcaa
