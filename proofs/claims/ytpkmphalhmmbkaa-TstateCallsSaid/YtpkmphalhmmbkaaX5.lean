
/- The walks of law 2's examples: lives, TstateNames. -/
import Derived.Test.YtpkmphalhmmbkaaK
namespace Go.Proofs.Ytpkmphalhmmbkaa
open Go.RowKit

def classicS : Scr := ⟨311, 228, 63, 192, 14, 32, 36⟩
theorem may_classic : classicS.May := by
  intro k hk
  match k, hk with
  | 0, _ | 1, _ | 2, _ | 3, _ | 4, _ | 5, _ | 6, _ | 7, _ | 8, _ => simp [classicS, Scr.asks]
theorem len_classic : classicS.len = 70908 := by rw [(Scr.len_may may_classic).1]; rfl
def zeroS : Scr := ⟨0, 0, 0, 0, 0, 0, 0⟩
theorem may_zero : ¬ zeroS.May := fun h => by have := h 0 (by omega); simp [zeroS, Scr.asks] at this

abbrev classicV : Value := .agg #[.int .i64 311, .int .i64 228, .int .i64 63, .int .i64 192, .int .i64 14, .int .i64 32, .int .i64 36]

theorem classic_lit (w : World) : Calls Try.prog 58 #[] w fun e w' => e = .returned classicV ∧ Below w.heap.size w w' := classic_any w
theorem spot_1 (w : World) : Calls Try.prog 11 #[classicV, .int .i64 70908] w fun e w' => e = .returned (.tuple #[.agg #[.int .i64 1, .int .i64 0, .int .i64 0], .int .i64 0]) ∧ Below w.heap.size w w' := by
  refine (spot_any w classicS 70908).mono ?_
  rintro e w' ⟨⟨h, _⟩, hb⟩
  have := h ⟨may_classic, by omega, by omega⟩
  rw [len_classic] at this
  exact ⟨this, hb⟩
theorem spot_2 (w : World) : Calls Try.prog 11 #[classicV, .int .i64 14364] w fun e w' => e = .returned (.tuple #[.agg #[.int .i64 0, .int .i64 63, .int .i64 0], .int .i64 0]) ∧ Below w.heap.size w w' := by
  refine (spot_any w classicS 14364).mono ?_
  rintro e w' ⟨⟨h, _⟩, hb⟩
  have := h ⟨may_classic, by omega, by omega⟩
  rw [len_classic] at this
  exact ⟨this, hb⟩
theorem length_c (w : World) : Calls Try.prog 24 #[classicV] w fun e w' => e = .returned (.int .i64 70908) ∧ Below w.heap.size w w' := by
  refine (length_any w classicS).mono ?_
  rintro e w' ⟨h, hb⟩
  rw [len_classic] at h
  exact ⟨h, hb⟩
theorem pulse_c (t : Int) (r : Bool) (hr : r = true ↔ (0 ≤ t ∧ t ≤ 1099511627776 ∧ t % 70908 < 36)) (w : World) : Calls Try.prog 26 #[classicV, .int .i64 t] w fun e w' => e = .returned (.bool r) ∧ Below w.heap.size w w' := by
  refine (pulse_any w classicS t).mono ?_
  rintro e w' ⟨⟨q, h, hq⟩, hb⟩
  rw [len_classic] at hq
  have : q = r := by
    rw [Bool.eq_iff_iff, hq, hr]
    exact ⟨fun h => h.2, fun h => ⟨may_classic, h⟩⟩
  rw [this] at h
  exact ⟨h, hb⟩
theorem pulses_c (x y : Int) (n : Int) (hxy : x < y) (hn : pulsesB 70908 36 y - pulsesB 70908 36 x = n) (w : World) : Calls Try.prog 28 #[classicV, .int .i64 x, .int .i64 y] w fun e w' => e = .returned (.int .i64 n) ∧ Below w.heap.size w w' := by
  refine (pulses_any w classicS x y).mono ?_
  rintro e w' ⟨⟨h, _⟩, hb⟩
  have := h ⟨may_classic, hxy⟩
  rw [len_classic] at this
  rw [← hn]
  exact ⟨this, hb⟩
theorem next_c (w : World) : Calls Try.prog 15 #[classicV, .int .i64 0] w fun e w' => e = .returned (.tuple #[.int .i64 70908, .bool true]) ∧ Below w.heap.size w w' := by
  refine (next_any w classicS 0).mono ?_
  rintro e w' ⟨h, hb⟩
  rw [len_classic] at h
  exact ⟨h, hb⟩
theorem check_c (w : World) : Calls Try.prog 22 #[classicV] w fun e w' => e = .returned (.int .i64 0) ∧ Below w.heap.size w w' := by
  refine (check_any w classicS).mono ?_
  rintro e w' ⟨h, hb⟩
  rcases h with ⟨h, _⟩ | ⟨_, h⟩
  · exact ⟨h, hb⟩
  · exact absurd may_classic h
theorem check_z (w : World) : Calls Try.prog 22 #[.agg #[.int .i64 0, .int .i64 0, .int .i64 0, .int .i64 0, .int .i64 0, .int .i64 0, .int .i64 0]] w fun e w' => e = .returned (.int .i64 2) ∧ Below w.heap.size w w' := by
  refine (check_any w zeroS).mono ?_
  rintro e w' ⟨h, hb⟩
  rcases h with ⟨_, h⟩ | ⟨h, _⟩
  · exact absurd h may_zero
  · exact ⟨h, hb⟩

/-- A spot in memory. -/
structure SP (w : World) (b : Nat) (f l c : Int) : Prop where
  d0 : w.cell? ⟨b, 0, none⟩ = some (.int .i64 f)
  d1 : w.cell? ⟨b, 1, none⟩ = some (.int .i64 l)
  d2 : w.cell? ⟨b, 2, none⟩ = some (.int .i64 c)
theorem SP.below {w w' : World} {b B : Nat} {f l c : Int} (h : SP w b f l c) (hb : Below B w w') (hB : b < B) : SP w' b f l c :=
  ⟨(hb.cell hB).trans h.d0, (hb.cell hB).trans h.d1, (hb.cell hB).trans h.d2⟩
theorem SP.laid {w w' : World} (f l c : Int) (h : Below (w.heap.size + 1) (w.alloc (.cells #[.int .i64 f, .int .i64 l, .int .i64 c] 25)) w') : SP w' w.heap.size f l c := by
  constructor <;> (rw [h.cell (by simp), World.cell?_alloc_at _ _ _ _ rfl]; rfl)

/-- The classic screen in memory. -/
structure SC (w : World) (b : Nat) : Prop where
  c0 : w.cell? ⟨b, 0, none⟩ = some (.int .i64 311)
  c1 : w.cell? ⟨b, 1, none⟩ = some (.int .i64 228)
  c2 : w.cell? ⟨b, 2, none⟩ = some (.int .i64 63)
  c3 : w.cell? ⟨b, 3, none⟩ = some (.int .i64 192)
  c4 : w.cell? ⟨b, 4, none⟩ = some (.int .i64 14)
  c5 : w.cell? ⟨b, 5, none⟩ = some (.int .i64 32)
  c6 : w.cell? ⟨b, 6, none⟩ = some (.int .i64 36)
theorem SC.of {w : World} {b : Nat} (h : SB w b classicS) : SC w b := ⟨h.c0, h.c1, h.c2, h.c3, h.c4, h.c5, h.c6⟩

set_option maxHeartbeats 2000000 in
set_option maxRecDepth 100000 in
theorem lives2_any (w : World) : Calls Try.prog 10 #[] w fun e w' => e = .returned (.bool true) ∧ Below w.heap.size w w' := by
  go_enter Try.func10, Try.ntmps10
  go_wp2_with fail
  refine (classic_lit _).mono ?_
  rintro e w1 ⟨rfl, hB1⟩
  go_wp2_with fail
  refine (spot_1 _).mono ?_
  rintro e w2 ⟨rfl, hb⟩
  have hz := hb.size
  simp at hz
  have hS2 : SB w2 w1.heap.size classicS := SB.laid classicS (hb.mono (by simp))
  have hB2 : Below w.heap.size w w2 := (hB1.alloc hB1.size _).trans (hb.mono (by have := hB1.size; simp; omega))
  have hw1 : w1.heap.size < w2.heap.size := by omega
  clear hb hz
  obtain ⟨c0, c1, c2, c3, c4, c5, c6⟩ := SC.of hS2
  go_wp2_with fail
  clear c0 c1 c2 c3 c4 c5 c6
  refine (spot_2 _).mono ?_
  rintro e w3 ⟨rfl, hb⟩
  have hz := hb.size
  simp at hz
  have hS3 : SB w3 w1.heap.size classicS := (hS2.below ((Below.refl _ _).alloc (Nat.le_refl _) _) hw1).below hb (by simp; omega)
  have hP3 : SP w3 w2.heap.size 1 0 0 := SP.laid 1 0 0 (hb.mono (by simp))
  have hB3 : Below w.heap.size w w3 := (hB2.alloc hB2.size _).trans (hb.mono (by have := hB2.size; simp; omega))
  have hw2 : w2.heap.size < w3.heap.size := by omega
  have hw13 : w1.heap.size < w3.heap.size := by omega
  clear hb hz hS2
  obtain ⟨c0, c1, c2, c3, c4, c5, c6⟩ := SC.of hS3
  go_wp2_with fail
  clear c0 c1 c2 c3 c4 c5 c6
  refine (length_c _).mono ?_
  rintro e w4 ⟨rfl, hb⟩
  have hz := hb.size
  simp at hz
  have hS4 : SB w4 w1.heap.size classicS := (hS3.below ((Below.refl _ _).alloc (Nat.le_refl _) _) (by omega)).below hb (by simp; omega)
  have hP4 : SP w4 w2.heap.size 1 0 0 := (hP3.below ((Below.refl _ _).alloc (Nat.le_refl _) _) hw2).below hb (by simp; omega)
  have hR4 : SP w4 w3.heap.size 0 63 0 := SP.laid 0 63 0 (hb.mono (by simp))
  have hB4 : Below w.heap.size w w4 := (hB3.alloc hB3.size _).trans (hb.mono (by have := hB3.size; simp; omega))
  have hw3 : w3.heap.size < w4.heap.size := by omega
  have hw14 : w1.heap.size < w4.heap.size := by omega
  clear hb hz hS3 hP3
  obtain ⟨c0, c1, c2, c3, c4, c5, c6⟩ := SC.of hS4
  obtain ⟨d0, d1, d2⟩ := hP4
  obtain ⟨f0, f1, f2⟩ := hR4
  go_wp2_with fail
  clear c0 c1 c2 c3 c4 c5 c6 d0 d1 d2 f0 f1 f2
  refine (pulse_c 35 true (by simp) _).mono ?_
  rintro e w5 ⟨rfl, hb⟩
  have hS5 := hS4.below hb (by omega)
  have hB5 := hB4.trans (hb.mono hB4.size)
  have hw5 : w1.heap.size < w5.heap.size := by have := hb.size; omega
  clear hb
  obtain ⟨c0, c1, c2, c3, c4, c5, c6⟩ := SC.of hS5
  go_wp2_with fail
  clear c0 c1 c2 c3 c4 c5 c6
  refine (pulse_c 36 false (by simp) _).mono ?_
  rintro e w6 ⟨rfl, hb⟩
  have hS6 := hS5.below hb hw5
  have hB6 := hB5.trans (hb.mono hB5.size)
  have hw6 : w1.heap.size < w6.heap.size := by have := hb.size; omega
  clear hb
  obtain ⟨c0, c1, c2, c3, c4, c5, c6⟩ := SC.of hS6
  go_wp2_with fail
  clear c0 c1 c2 c3 c4 c5 c6
  refine (pulses_c 30 70910 8 (by decide) (by decide +kernel) _).mono ?_
  rintro e w7 ⟨rfl, hb⟩
  have hB7 := hB6.trans (hb.mono hB6.size)
  go_wp2_with fail
  go_ret
  exact ⟨rfl, hB7⟩

end Go.Proofs.Ytpkmphalhmmbkaa
