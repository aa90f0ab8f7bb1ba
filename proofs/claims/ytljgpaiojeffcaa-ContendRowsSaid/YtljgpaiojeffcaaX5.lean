
/- The walks of law 2's examples: lives, TstateNames. -/
import Derived.Test.YtljgpaiojeffcaaK
namespace Go.Proofs.Ytljgpaiojeffcaa
open Go.RowKit

def classicS : Scr := ⟨311, 228, 63, 192, 14, 32, 36⟩
theorem may_classic : classicS.May := by
  intro k hk
  match k, hk with
  | 0, _ | 1, _ | 2, _ | 3, _ | 4, _ | 5, _ | 6, _ | 7, _ | 8, _ => simp [classicS, Scr.asks]
theorem len_classic : classicS.len = 70908 := by rw [(Scr.len_may may_classic).1]; rfl
def zeroS : Scr := ⟨0, 0, 0, 0, 0, 0, 0⟩
theorem may_zero : ¬ zeroS.May := fun h => by have := h 0 (by omega); simp [zeroS, Scr.asks] at this

abbrev classicV : Value := .agg #[.int .i64 311, .int .i64 228, .int .i64 63, .int .i64 192, .int .i64 14, .int .i64 32, .int .i64 36]

theorem spot_1 (w : World) : Calls Try.prog 21 #[classicV, .int .i64 70908] w fun e w' => e = .returned (.tuple #[.agg #[.int .i64 1, .int .i64 0, .int .i64 0], .int .i64 0]) ∧ Below w.heap.size w w' := by
  refine (spot_any w classicS 70908).mono ?_
  rintro e w' ⟨⟨h, _⟩, hb⟩
  have := h ⟨may_classic, by omega, by omega⟩
  rw [len_classic] at this
  exact ⟨this, hb⟩
theorem spot_2 (w : World) : Calls Try.prog 21 #[classicV, .int .i64 14364] w fun e w' => e = .returned (.tuple #[.agg #[.int .i64 0, .int .i64 63, .int .i64 0], .int .i64 0]) ∧ Below w.heap.size w w' := by
  refine (spot_any w classicS 14364).mono ?_
  rintro e w' ⟨⟨h, _⟩, hb⟩
  have := h ⟨may_classic, by omega, by omega⟩
  rw [len_classic] at this
  exact ⟨this, hb⟩
theorem length_c (w : World) : Calls Try.prog 37 #[classicV] w fun e w' => e = .returned (.int .i64 70908) ∧ Below w.heap.size w w' := by
  refine (length_any w classicS).mono ?_
  rintro e w' ⟨h, hb⟩
  rw [len_classic] at h
  exact ⟨h, hb⟩
theorem check_c (w : World) : Calls Try.prog 18 #[classicV] w fun e w' => e = .returned (.int .i64 0) ∧ Below w.heap.size w w' := by
  refine (check_any w classicS).mono ?_
  rintro e w' ⟨h, hb⟩
  rcases h with ⟨h, _⟩ | ⟨_, h⟩
  · exact ⟨h, hb⟩
  · exact absurd may_classic h
theorem check_z (w : World) : Calls Try.prog 18 #[.agg #[.int .i64 0, .int .i64 0, .int .i64 0, .int .i64 0, .int .i64 0, .int .i64 0, .int .i64 0]] w fun e w' => e = .returned (.int .i64 2) ∧ Below w.heap.size w w' := by
  refine (check_any w zeroS).mono ?_
  rintro e w' ⟨h, hb⟩
  rcases h with ⟨_, h⟩ | ⟨h, _⟩
  · exact absurd h may_zero
  · exact ⟨h, hb⟩

/-- A spot in memory. -/
structure SP (w : World) (b : Nat) (f l c : Int) : Prop where
  d0 : w.cell? ⟨b, 0, none⟩ = some (.int .i64 f)
  d1 : w.cell? ⟨b, 1, none⟩ = some (.int .i64 l)
  d2 : w.cell? ⟨b, 2, none⟩ = some (.int .i64 c)
theorem SP.below {w w' : World} {b B : Nat} {f l c : Int} (h : SP w b f l c) (hb : Below B w w') (hB : b < B) : SP w' b f l c :=
  ⟨(hb.cell hB).trans h.d0, (hb.cell hB).trans h.d1, (hb.cell hB).trans h.d2⟩
theorem SP.laid {w w' : World} (f l c : Int) (h : Below (w.heap.size + 1) (w.alloc (.cells #[.int .i64 f, .int .i64 l, .int .i64 c] 45)) w') : SP w' w.heap.size f l c := by
  constructor <;> (rw [h.cell (by simp), World.cell?_alloc_at _ _ _ _ rfl]; rfl)

/-- The classic screen in memory. -/
structure SC (w : World) (b : Nat) : Prop where
  c0 : w.cell? ⟨b, 0, none⟩ = some (.int .i64 311)
  c1 : w.cell? ⟨b, 1, none⟩ = some (.int .i64 228)
  c2 : w.cell? ⟨b, 2, none⟩ = some (.int .i64 63)
  c3 : w.cell? ⟨b, 3, none⟩ = some (.int .i64 192)
  c4 : w.cell? ⟨b, 4, none⟩ = some (.int .i64 14)
  c5 : w.cell? ⟨b, 5, none⟩ = some (.int .i64 32)
  c6 : w.cell? ⟨b, 6, none⟩ = some (.int .i64 36)
theorem SC.of {w : World} {b : Nat} (h : SB w b classicS) : SC w b := ⟨h.c0, h.c1, h.c2, h.c3, h.c4, h.c5, h.c6⟩

end Go.Proofs.Ytljgpaiojeffcaa
