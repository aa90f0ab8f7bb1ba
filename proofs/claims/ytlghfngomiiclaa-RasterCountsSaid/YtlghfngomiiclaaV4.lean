
/- Package raster: At. -/
import Derived.Test.YtlghfngomiiclaaV3
namespace Go.Proofs.Ytlghfngomiiclaa
open Go.RowKit
set_option linter.unusedSimpArgs false
set_option linter.unusedVariables false
set_option maxRecDepth 100000

/-- Is a spot the picture's? -/
def InP (s : Scr) (l c : Int) : Prop := (0 ≤ l - s.top ∧ l - s.top < s.rows) ∧ 0 ≤ c - s.left ∧ c - s.left < 4 * s.wide
instance (s : Scr) (l c : Int) : Decidable (InP s l c) := by unfold InP; infer_instance
/-- What is done at a spot, at a time. -/
def spotB (s : Scr) (l c : Int) : Int × Int × Int := if InP s l c then picB (l - s.top) (c - s.left) else borB l c
noncomputable def beamB (s : Scr) (t : Int) : Int × Int × Int := spotB s (t % s.len / s.columns) (t % s.len % s.columns)

/-- The bounds of a screen that may be. -/
structure Bnd (s : Scr) : Prop where
  lines : 1 ≤ s.lines ∧ s.lines ≤ 400
  columns : 8 ≤ s.columns ∧ s.columns ≤ 400
  cols4 : s.columns % 4 = 0
  rows : 0 ≤ s.rows ∧ s.rows ≤ 192 ∧ s.rows % 8 = 0
  top : 0 ≤ s.top ∧ s.top ≤ s.lines - s.rows
  wide : 0 ≤ s.wide ∧ s.wide ≤ 32 ∧ s.wide % 2 = 0
  left : 1 ≤ s.left ∧ s.left ≤ s.columns - 4 * s.wide
theorem Scr.May.bnd {s : Scr} (h : s.May) : Bnd s :=
  ⟨h 0 (by omega), h 1 (by omega), h 2 (by omega), h 3 (by omega), h 4 (by omega), h 5 (by omega), h 6 (by omega)⟩
theorem spot_in {s : Scr} (hm : s.May) {t : Int} (h0 : 0 ≤ t) : (0 ≤ t % s.len / s.columns ∧ t % s.len / s.columns < s.lines) ∧ 0 ≤ t % s.len % s.columns ∧ t % s.len % s.columns < s.columns := by
  obtain ⟨hl, hl0, hl1⟩ := Scr.len_may hm
  have hC := hm.bnd.columns
  have hr0 : 0 ≤ t % s.len := Int.emod_nonneg t (by omega)
  have hr1 : t % s.len < s.len := Int.emod_lt_of_pos t (by omega)
  refine ⟨⟨Int.ediv_nonneg hr0 (by omega), ?_⟩, Int.emod_nonneg _ (by omega), Int.emod_lt_of_pos _ (by omega)⟩
  exact Int.ediv_lt_of_lt_mul (by omega) (by rw [← hl]; exact hr1)

theorem at_new (w : World) (s : Scr) (b : World) (hb : Below ((w.alloc (scO s)).alloc (bmO 0 0 0)).heap.size ((w.alloc (scO s)).alloc (bmO 0 0 0)) b) :
    Below w.heap.size w b ∧ SB b w.heap.size s ∧ BW b (w.heap.size + 1) 0 0 0 := by
  have hb1 := hb.size
  simp at hb1
  refine ⟨(((Below.refl _ _).alloc (Nat.le_refl _) _).alloc (by simp) _).trans (hb.mono (by simp; omega)), SB.laid s ((((Below.refl _ _).alloc (by simp) _)).trans (hb.mono (by simp))), ?_⟩
  have := BW.now (w.alloc (scO s)) 0 0 0
  simp only [World.size_alloc] at this
  exact this.below hb (by simp)

theorem at_next {w w2 w4 : World} {o : Obj} {d x y : Int} (hB : Below w.heap.size w w2) (hP : BW w2 (w.heap.size + 1) d x y) (hb : Below (w2.alloc o).drew.heap.size (w2.alloc o).drew w4) : Below w.heap.size w w4 ∧ BW w4 (w.heap.size + 1) d x y := by
  have hlt := hP.lt
  have hb' : Below (w2.alloc o).heap.size (w2.alloc o) w4 := ⟨hb.os, hb.tape, hb.output, hb.size, hb.block⟩
  exact ⟨(hB.alloc hB.size o).trans (hb'.mono (by simp; omega)), (hP.alloc o).below hb' (by simp; omega)⟩

set_option maxHeartbeats 2000000 in
theorem at_pic (w : World) (s : Scr) (t l c q : Int) (hb : Bnd s) (hl0 : 0 ≤ l) (hl1 : l < s.lines) (hc0 : 0 ≤ c) (hc1 : c < s.columns)
    (hsp : ∀ w, Calls Try.prog 22 #[s.val, .int .i64 t] w fun e w' => e = .returned (.tuple #[.agg #[.int .i64 q, .int .i64 l, .int .i64 c], .int .i64 0]) ∧ Below w.heap.size w w') (hy : 0 ≤ l - s.top ∧ l - s.top < s.rows) (hx : 0 ≤ c - s.left ∧ c - s.left < 4 * s.wide) :
    Calls Try.prog 10 #[s.val, .int .i64 t] w fun e w' => e = .returned (.tuple #[bmV (picB (l - s.top) (c - s.left)).1 (picB (l - s.top) (c - s.left)).2.1 (picB (l - s.top) (c - s.left)).2.2, .int .i64 0]) ∧ Below w.heap.size w w' := by
  obtain ⟨⟨_, bl⟩, ⟨_, bc⟩, _, ⟨r0, r1, _⟩, ⟨p0, p1⟩, ⟨w0, w1, _⟩, ⟨f0, f1⟩⟩ := hb
  unfold Scr.val
  go_enter Try.func10, Try.ntmps10
  go_wp2_with fail
  refine (hsp _).mono ?_
  rintro e w2 ⟨he, hb⟩
  subst he
  obtain ⟨hB, hS, hP⟩ := at_new w s w2 hb
  clear hb hsp
  have hs2 := hP.lt
  have hs3 : w.heap.size < w2.heap.size := by omega
  have d0 := hP.c0
  have d1 := hP.c1
  have d2 := hP.c2
  have g0 := hP.free 0
  have g1 := hP.free 1
  have g2 := hP.free 2
  obtain ⟨c0, c1, c2, c3, c4, c5, c6⟩ := hS
  go_upto_region 4 with fail
  go_region
  go_wp2_with fail
  refine (within_any _ _ _).mono ?_
  rintro e w3 ⟨rfl, rfl⟩
  rw [decide_eq_true hy]
  go_wp2_with fail
  refine (within_any _ _ _).mono ?_
  rintro e w3 ⟨rfl, rfl⟩
  rw [decide_eq_true hx]
  go_wp2_with fail
  clear c0 c1 c2 c3 c4 c5 c6 d0 d1 d2 g0 g1 g2
  refine (picture_any _ _ _ hx.1 (by omega)).mono ?_
  rintro e w4 ⟨rfl, hb⟩
  obtain ⟨hB, hP⟩ := at_next hB hP hb
  have d0 := hP.c0
  have d1 := hP.c1
  have d2 := hP.c2
  have g0 := hP.free 0
  have g1 := hP.free 1
  have g2 := hP.free 2
  go_wp2_with fail
  (try simp only [Exit.inBlock, Exit.then])
  exact bodyPost_ret (v := .tuple #[bmV (picB (l - s.top) (c - s.left)).1 (picB (l - s.top) (c - s.left)).2.1 (picB (l - s.top) (c - s.left)).2.2, .int .i64 0]) (results_bme rfl _ _ _ _ _ _ _ rfl rfl (putBm_bw hP _ _ _)) rfl ⟨rfl, hB.trans (putBm_below _ _ _ _ _ (by omega))⟩

set_option maxHeartbeats 2000000 in
theorem at_bor1 (w : World) (s : Scr) (t l c q : Int) (hb : Bnd s) (hl0 : 0 ≤ l) (hl1 : l < s.lines) (hc0 : 0 ≤ c) (hc1 : c < s.columns)
    (hsp : ∀ w, Calls Try.prog 22 #[s.val, .int .i64 t] w fun e w' => e = .returned (.tuple #[.agg #[.int .i64 q, .int .i64 l, .int .i64 c], .int .i64 0]) ∧ Below w.heap.size w w') (hy : ¬ (0 ≤ l - s.top ∧ l - s.top < s.rows)) :
    Calls Try.prog 10 #[s.val, .int .i64 t] w fun e w' => e = .returned (.tuple #[bmV (borB l c).1 (borB l c).2.1 (borB l c).2.2, .int .i64 0]) ∧ Below w.heap.size w w' := by
  obtain ⟨⟨_, bl⟩, ⟨_, bc⟩, _, ⟨r0, r1, _⟩, ⟨p0, p1⟩, ⟨w0, w1, _⟩, ⟨f0, f1⟩⟩ := hb
  unfold Scr.val
  go_enter Try.func10, Try.ntmps10
  go_wp2_with fail
  refine (hsp _).mono ?_
  rintro e w2 ⟨he, hb⟩
  subst he
  obtain ⟨hB, hS, hP⟩ := at_new w s w2 hb
  clear hb hsp
  have hs2 := hP.lt
  have hs3 : w.heap.size < w2.heap.size := by omega
  have d0 := hP.c0
  have d1 := hP.c1
  have d2 := hP.c2
  have g0 := hP.free 0
  have g1 := hP.free 1
  have g2 := hP.free 2
  obtain ⟨c0, c1, c2, c3, c4, c5, c6⟩ := hS
  go_upto_region 4 with fail
  go_region
  go_wp2_with fail
  refine (within_any _ _ _).mono ?_
  rintro e w3 ⟨rfl, rfl⟩
  rw [decide_eq_false hy]
  go_wp2_with fail
  clear c0 c1 c2 c3 c4 c5 c6 d0 d1 d2 g0 g1 g2
  refine (border_any _ _ _ _ hc0).mono ?_
  rintro e w4 ⟨rfl, hb⟩
  obtain ⟨hB, hP⟩ := at_next hB hP hb
  have d0 := hP.c0
  have d1 := hP.c1
  have d2 := hP.c2
  have g0 := hP.free 0
  have g1 := hP.free 1
  have g2 := hP.free 2
  go_wp2_with fail
  (try simp only [Exit.inBlock, Exit.then])
  exact bodyPost_ret (v := .tuple #[bmV (borB l c).1 (borB l c).2.1 (borB l c).2.2, .int .i64 0]) (results_bme rfl _ _ _ _ _ _ _ rfl rfl (putBm_bw hP _ _ _)) rfl ⟨rfl, hB.trans (putBm_below _ _ _ _ _ (by omega))⟩

set_option maxHeartbeats 2000000 in
theorem at_bor2 (w : World) (s : Scr) (t l c q : Int) (hb : Bnd s) (hl0 : 0 ≤ l) (hl1 : l < s.lines) (hc0 : 0 ≤ c) (hc1 : c < s.columns)
    (hsp : ∀ w, Calls Try.prog 22 #[s.val, .int .i64 t] w fun e w' => e = .returned (.tuple #[.agg #[.int .i64 q, .int .i64 l, .int .i64 c], .int .i64 0]) ∧ Below w.heap.size w w') (hy : 0 ≤ l - s.top ∧ l - s.top < s.rows) (hx : ¬ (0 ≤ c - s.left ∧ c - s.left < 4 * s.wide)) :
    Calls Try.prog 10 #[s.val, .int .i64 t] w fun e w' => e = .returned (.tuple #[bmV (borB l c).1 (borB l c).2.1 (borB l c).2.2, .int .i64 0]) ∧ Below w.heap.size w w' := by
  obtain ⟨⟨_, bl⟩, ⟨_, bc⟩, _, ⟨r0, r1, _⟩, ⟨p0, p1⟩, ⟨w0, w1, _⟩, ⟨f0, f1⟩⟩ := hb
  unfold Scr.val
  go_enter Try.func10, Try.ntmps10
  go_wp2_with fail
  refine (hsp _).mono ?_
  rintro e w2 ⟨he, hb⟩
  subst he
  obtain ⟨hB, hS, hP⟩ := at_new w s w2 hb
  clear hb hsp
  have hs2 := hP.lt
  have hs3 : w.heap.size < w2.heap.size := by omega
  have d0 := hP.c0
  have d1 := hP.c1
  have d2 := hP.c2
  have g0 := hP.free 0
  have g1 := hP.free 1
  have g2 := hP.free 2
  obtain ⟨c0, c1, c2, c3, c4, c5, c6⟩ := hS
  go_upto_region 4 with fail
  go_region
  go_wp2_with fail
  refine (within_any _ _ _).mono ?_
  rintro e w3 ⟨rfl, rfl⟩
  rw [decide_eq_true hy]
  go_wp2_with fail
  refine (within_any _ _ _).mono ?_
  rintro e w3 ⟨rfl, rfl⟩
  rw [decide_eq_false hx]
  go_wp2_with fail
  clear c0 c1 c2 c3 c4 c5 c6 d0 d1 d2 g0 g1 g2
  refine (border_any _ _ _ _ hc0).mono ?_
  rintro e w4 ⟨rfl, hb⟩
  obtain ⟨hB, hP⟩ := at_next hB hP hb
  have d0 := hP.c0
  have d1 := hP.c1
  have d2 := hP.c2
  have g0 := hP.free 0
  have g1 := hP.free 1
  have g2 := hP.free 2
  go_wp2_with fail
  (try simp only [Exit.inBlock, Exit.then])
  exact bodyPost_ret (v := .tuple #[bmV (borB l c).1 (borB l c).2.1 (borB l c).2.2, .int .i64 0]) (results_bme rfl _ _ _ _ _ _ _ rfl rfl (putBm_bw hP _ _ _)) rfl ⟨rfl, hB.trans (putBm_below _ _ _ _ _ (by omega))⟩

set_option maxHeartbeats 1000000 in
theorem at_yes (w : World) (s : Scr) (t : Int) (hm : s.May) (ht0 : 0 ≤ t) (ht1 : t ≤ 1099511627776) : Calls Try.prog 10 #[s.val, .int .i64 t] w fun e w' => e = .returned (.tuple #[bmV (beamB s t).1 (beamB s t).2.1 (beamB s t).2.2, .int .i64 0]) ∧ Below w.heap.size w w' := by
  obtain ⟨⟨hl0, hl1⟩, hc0, hc1⟩ := spot_in hm ht0
  have hsp : ∀ w, Calls Try.prog 22 #[s.val, .int .i64 t] w fun e w' => e = .returned (.tuple #[.agg #[.int .i64 (t / s.len), .int .i64 (t % s.len / s.columns), .int .i64 (t % s.len % s.columns)], .int .i64 0]) ∧ Below w.heap.size w w' := fun w => by
    refine (spot_any w s t).mono ?_
    rintro e w' ⟨⟨h, _⟩, hb⟩
    exact ⟨h ⟨hm, ht0, ht1⟩, hb⟩
  unfold beamB spotB
  by_cases hy : 0 ≤ t % s.len / s.columns - s.top ∧ t % s.len / s.columns - s.top < s.rows
  · by_cases hx : 0 ≤ t % s.len % s.columns - s.left ∧ t % s.len % s.columns - s.left < 4 * s.wide
    · rw [if_pos (show InP s _ _ from ⟨hy, hx⟩)]
      exact at_pic w s t _ _ _ hm.bnd hl0 hl1 hc0 hc1 hsp hy hx
    · rw [if_neg (show ¬ InP s _ _ from fun h => hx h.2)]
      exact at_bor2 w s t _ _ _ hm.bnd hl0 hl1 hc0 hc1 hsp hy hx
  · rw [if_neg (show ¬ InP s _ _ from fun h => hy h.1)]
    exact at_bor1 w s t _ _ _ hm.bnd hl0 hl1 hc0 hc1 hsp hy

set_option maxHeartbeats 1000000 in
theorem at_no (w : World) (s : Scr) (t : Int) (hn : ¬ (s.May ∧ 0 ≤ t ∧ t ≤ 1099511627776)) : Calls Try.prog 10 #[s.val, .int .i64 t] w fun e w' => e = .returned (.tuple #[bmV 0 0 0, .int .i64 2]) ∧ Below w.heap.size w w' := by
  have hsp := spot_any (s := s) (t := t)
  unfold Scr.val
  go_enter Try.func10, Try.ntmps10
  go_wp2_with fail
  refine (hsp _).mono ?_
  rintro e w2 ⟨⟨_, he⟩, hb⟩
  have he := he hn
  subst he
  obtain ⟨hB, hS, hP⟩ := at_new w s w2 hb
  clear hb hsp
  unfold spotV
  have hs2 := hP.lt
  have hs3 : w.heap.size < w2.heap.size := by omega
  have d0 := hP.c0
  have d1 := hP.c1
  have d2 := hP.c2
  have g0 := hP.free 0
  have g1 := hP.free 1
  have g2 := hP.free 2
  go_wp2_with fail
  (try simp only [Exit.inBlock, Exit.then])
  exact bodyPost_ret (v := .tuple #[bmV 0 0 0, .int .i64 2]) (results_bme rfl _ _ _ _ _ _ _ rfl rfl ((putBm_bw hP 0 0 0).alloc _)) rfl ⟨rfl, (hB.trans (putBm_below _ _ 0 0 0 (by omega))).alloc (by simp; omega) _⟩
end Go.Proofs.Ytlghfngomiiclaa
