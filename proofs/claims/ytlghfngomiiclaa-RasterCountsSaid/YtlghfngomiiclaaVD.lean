
/- The reference's At. -/
import Derived.Test.YtlghfngomiiclaaV7
namespace Go.Proofs.Ytlghfngomiiclaa
open Go.RowKit
set_option linter.unusedSimpArgs false
set_option linter.unusedVariables false
set_option maxRecDepth 100000

theorem below_drew {B : Nat} {w w' : World} (h : Below B w w') : Below B w w'.drew := h.drew
set_option maxHeartbeats 4000000 in
theorem rat_pic (w : World) (s : Scr) (t l c q : Int) (hb : Bnd s) (hl0 : 0 ≤ l) (hl1 : l < s.lines) (hc0 : 0 ≤ c) (hc1 : c < s.columns)
    (hsp : ∀ w, Calls Try.prog 40 #[s.val, .int .i64 t] w fun e w' => e = .returned (.tuple #[.agg #[.int .i64 q, .int .i64 l, .int .i64 c], .int .i64 0]) ∧ Below w.heap.size w w') (hy : 0 ≤ l - s.top ∧ l - s.top < s.rows) (hx : 0 ≤ c - s.left ∧ c - s.left < 4 * s.wide) :
    Calls Try.prog 27 #[s.val, .int .i64 t] w fun e w' => e = .returned (.tuple #[bmV (picB (l - s.top) (c - s.left)).1 (picB (l - s.top) (c - s.left)).2.1 (picB (l - s.top) (c - s.left)).2.2, .int .i64 0]) ∧ Below w.heap.size w w' := by
  obtain ⟨⟨_, bl⟩, ⟨_, bc⟩, _, ⟨r0, r1, _⟩, ⟨p0, p1⟩, ⟨w0, w1, _⟩, ⟨f0, f1⟩⟩ := hb
  obtain ⟨y0, y1⟩ := hy
  obtain ⟨x0, x1⟩ := hx
  rcases mod_ways (c - s.left) with h | h | h | h | h
  · rw [picB_0 h]
    unfold Scr.val
    go_enter Try.func27, Try.ntmps27
    go_wp2_with fail
    refine (hsp _).mono ?_
    rintro e w2 ⟨he, hb⟩
    subst he
    obtain ⟨hB, hS, hP⟩ := at_new w s w2 hb
    clear hb hsp
    have hs2 := hP.lt
    have hs3 : w.heap.size < w2.heap.size := by omega
    have d0 := hP.c0
    have d1 := hP.c1
    have d2 := hP.c2
    have g0 := hP.free 0
    have g1 := hP.free 1
    have g2 := hP.free 2
    obtain ⟨c0, c1, c2, c3, c4, c5, c6⟩ := hS
    go_upto_region 4 with fail
    go_region
    go_wp2_with fail
    (try simp only [Exit.inBlock, Exit.then])
    exact bodyPost_ret (v := .tuple #[bmV 1 ((c - s.left) / 8 * 2) (l - s.top), .int .i64 0]) (results_bme rfl _ _ _ _ _ _ _ rfl rfl (((putBm_bw hP 1 ((c - s.left) / 8 * 2) (l - s.top)).alloc _).drew)) rfl ⟨rfl, (((hB.trans (putBm_below _ _ 1 ((c - s.left) / 8 * 2) (l - s.top) (by omega)))).alloc (by have := hB.size; simp; omega) _).drew⟩
  · rw [picB_1 h]
    unfold Scr.val
    go_enter Try.func27, Try.ntmps27
    go_wp2_with fail
    refine (hsp _).mono ?_
    rintro e w2 ⟨he, hb⟩
    subst he
    obtain ⟨hB, hS, hP⟩ := at_new w s w2 hb
    clear hb hsp
    have hs2 := hP.lt
    have hs3 : w.heap.size < w2.heap.size := by omega
    have d0 := hP.c0
    have d1 := hP.c1
    have d2 := hP.c2
    have g0 := hP.free 0
    have g1 := hP.free 1
    have g2 := hP.free 2
    obtain ⟨c0, c1, c2, c3, c4, c5, c6⟩ := hS
    go_upto_region 4 with fail
    go_region
    go_wp2_with fail
    (try simp only [Exit.inBlock, Exit.then])
    exact bodyPost_ret (v := .tuple #[bmV 2 ((c - s.left) / 8 * 2) (l - s.top), .int .i64 0]) (results_bme rfl _ _ _ _ _ _ _ rfl rfl (((putBm_bw hP 2 ((c - s.left) / 8 * 2) (l - s.top)).alloc _).drew)) rfl ⟨rfl, (((hB.trans (putBm_below _ _ 2 ((c - s.left) / 8 * 2) (l - s.top) (by omega)))).alloc (by have := hB.size; simp; omega) _).drew⟩
  · rw [picB_2 h]
    unfold Scr.val
    go_enter Try.func27, Try.ntmps27
    go_wp2_with fail
    refine (hsp _).mono ?_
    rintro e w2 ⟨he, hb⟩
    subst he
    obtain ⟨hB, hS, hP⟩ := at_new w s w2 hb
    clear hb hsp
    have hs2 := hP.lt
    have hs3 : w.heap.size < w2.heap.size := by omega
    have d0 := hP.c0
    have d1 := hP.c1
    have d2 := hP.c2
    have g0 := hP.free 0
    have g1 := hP.free 1
    have g2 := hP.free 2
    obtain ⟨c0, c1, c2, c3, c4, c5, c6⟩ := hS
    go_upto_region 4 with fail
    go_region
    go_wp2_with fail
    (try simp only [Exit.inBlock, Exit.then])
    exact bodyPost_ret (v := .tuple #[bmV 1 ((c - s.left) / 8 * 2 + 1) (l - s.top), .int .i64 0]) (results_bme rfl _ _ _ _ _ _ _ rfl rfl (((putBm_bw hP 1 ((c - s.left) / 8 * 2 + 1) (l - s.top)).alloc _).drew)) rfl ⟨rfl, (((hB.trans (putBm_below _ _ 1 ((c - s.left) / 8 * 2 + 1) (l - s.top) (by omega)))).alloc (by have := hB.size; simp; omega) _).drew⟩
  · rw [picB_3 h]
    unfold Scr.val
    go_enter Try.func27, Try.ntmps27
    go_wp2_with fail
    refine (hsp _).mono ?_
    rintro e w2 ⟨he, hb⟩
    subst he
    obtain ⟨hB, hS, hP⟩ := at_new w s w2 hb
    clear hb hsp
    have hs2 := hP.lt
    have hs3 : w.heap.size < w2.heap.size := by omega
    have d0 := hP.c0
    have d1 := hP.c1
    have d2 := hP.c2
    have g0 := hP.free 0
    have g1 := hP.free 1
    have g2 := hP.free 2
    obtain ⟨c0, c1, c2, c3, c4, c5, c6⟩ := hS
    go_upto_region 4 with fail
    go_region
    go_wp2_with fail
    (try simp only [Exit.inBlock, Exit.then])
    exact bodyPost_ret (v := .tuple #[bmV 2 ((c - s.left) / 8 * 2 + 1) (l - s.top), .int .i64 0]) (results_bme rfl _ _ _ _ _ _ _ rfl rfl (((putBm_bw hP 2 ((c - s.left) / 8 * 2 + 1) (l - s.top)).alloc _).drew)) rfl ⟨rfl, (((hB.trans (putBm_below _ _ 2 ((c - s.left) / 8 * 2 + 1) (l - s.top) (by omega)))).alloc (by have := hB.size; simp; omega) _).drew⟩
  · rw [picB_4 h]
    unfold Scr.val
    go_enter Try.func27, Try.ntmps27
    go_wp2_with fail
    refine (hsp _).mono ?_
    rintro e w2 ⟨he, hb⟩
    subst he
    obtain ⟨hB, hS, hP⟩ := at_new w s w2 hb
    clear hb hsp
    have hs2 := hP.lt
    have hs3 : w.heap.size < w2.heap.size := by omega
    have d0 := hP.c0
    have d1 := hP.c1
    have d2 := hP.c2
    have g0 := hP.free 0
    have g1 := hP.free 1
    have g2 := hP.free 2
    obtain ⟨c0, c1, c2, c3, c4, c5, c6⟩ := hS
    go_upto_region 4 with fail
    go_region
    go_wp2_with fail
    (try simp only [Exit.inBlock, Exit.then])
    exact bodyPost_ret (v := .tuple #[bmV 0 0 0, .int .i64 0]) (results_bme rfl _ _ _ _ _ _ _ rfl rfl (((putBm_bw hP 0 0 0).alloc _).drew)) rfl ⟨rfl, (((hB.trans (putBm_below _ _ 0 0 0 (by omega)))).alloc (by have := hB.size; simp; omega) _).drew⟩

set_option maxHeartbeats 8000000 in
theorem rat_bor (w : World) (s : Scr) (t l c q : Int) (hb : Bnd s) (hl0 : 0 ≤ l) (hl1 : l < s.lines) (hc0 : 0 ≤ c) (hc1 : c < s.columns)
    (hsp : ∀ w, Calls Try.prog 40 #[s.val, .int .i64 t] w fun e w' => e = .returned (.tuple #[.agg #[.int .i64 q, .int .i64 l, .int .i64 c], .int .i64 0]) ∧ Below w.heap.size w w') (hn : ¬ InP s l c) :
    Calls Try.prog 27 #[s.val, .int .i64 t] w fun e w' => e = .returned (.tuple #[bmV (borB l c).1 (borB l c).2.1 (borB l c).2.2, .int .i64 0]) ∧ Below w.heap.size w w' := by
  obtain ⟨⟨_, bl⟩, ⟨_, bc⟩, _, ⟨r0, r1, _⟩, ⟨p0, p1⟩, ⟨w0, w1, _⟩, ⟨f0, f1⟩⟩ := hb
  have hways : l - s.top < 0 ∨ (0 ≤ l - s.top ∧ s.rows ≤ l - s.top) ∨ (0 ≤ l - s.top ∧ l - s.top < s.rows ∧ c - s.left < 0) ∨ (0 ≤ l - s.top ∧ l - s.top < s.rows ∧ 0 ≤ c - s.left ∧ 4 * s.wide ≤ c - s.left) := by
    unfold InP at hn
    omega
  clear hn
  unfold borB
  by_cases hc : c % 8 = 0
  · rw [if_pos hc]
    rcases hways with h | ⟨h, h'⟩ | ⟨h, h', h2⟩ | ⟨h, h', h2, h3⟩
    all_goals
      unfold Scr.val
      go_enter Try.func27, Try.ntmps27
      go_wp2_with fail
      refine (hsp _).mono ?_
      rintro e w2 ⟨he, hb⟩
      subst he
      obtain ⟨hB, hS, hP⟩ := at_new w s w2 hb
      clear hb hsp
      have hs2 := hP.lt
      have hs3 : w.heap.size < w2.heap.size := by omega
      have d0 := hP.c0
      have d1 := hP.c1
      have d2 := hP.c2
      have g0 := hP.free 0
      have g1 := hP.free 1
      have g2 := hP.free 2
      obtain ⟨c0, c1, c2, c3, c4, c5, c6⟩ := hS
      go_upto_region 4 with fail
      go_region
      go_wp2_with fail
      (try simp only [Exit.inBlock, Exit.then])
      exact bodyPost_ret (v := .tuple #[bmV 3 c l, .int .i64 0]) (results_bme rfl _ _ _ _ _ _ _ rfl rfl (((putBm_bw hP 3 c l).alloc _).drew)) rfl ⟨rfl, (((hB.trans (putBm_below _ _ 3 c l (by omega)))).alloc (by have := hB.size; simp; omega) _).drew⟩
  · rw [if_neg hc]
    have hcb : (c % 8 == 0) = false := by simpa using hc
    rcases hways with h | ⟨h, h'⟩ | ⟨h, h', h2⟩ | ⟨h, h', h2, h3⟩
    all_goals
      unfold Scr.val
      go_enter Try.func27, Try.ntmps27
      go_wp2_with fail
      refine (hsp _).mono ?_
      rintro e w2 ⟨he, hb⟩
      subst he
      obtain ⟨hB, hS, hP⟩ := at_new w s w2 hb
      clear hb hsp
      have hs2 := hP.lt
      have hs3 : w.heap.size < w2.heap.size := by omega
      have d0 := hP.c0
      have d1 := hP.c1
      have d2 := hP.c2
      have g0 := hP.free 0
      have g1 := hP.free 1
      have g2 := hP.free 2
      obtain ⟨c0, c1, c2, c3, c4, c5, c6⟩ := hS
      go_upto_region 4 with fail
      go_region
      go_wp2_with fail
      (try simp only [Exit.inBlock, Exit.then])
      exact bodyPost_ret (v := .tuple #[bmV 0 0 0, .int .i64 0]) (results_bme rfl _ _ _ _ _ _ _ rfl rfl (((putBm_bw hP 0 0 0).alloc _).drew)) rfl ⟨rfl, (((hB.trans (putBm_below _ _ 0 0 0 (by omega)))).alloc (by have := hB.size; simp; omega) _).drew⟩

theorem rat_yes (w : World) (s : Scr) (t : Int) (hm : s.May) (ht0 : 0 ≤ t) (ht1 : t ≤ 1099511627776) : Calls Try.prog 27 #[s.val, .int .i64 t] w fun e w' => e = .returned (.tuple #[bmV (beamB s t).1 (beamB s t).2.1 (beamB s t).2.2, .int .i64 0]) ∧ Below w.heap.size w w' := by
  obtain ⟨⟨hl0, hl1⟩, hc0, hc1⟩ := spot_in hm ht0
  have hsp : ∀ w, Calls Try.prog 40 #[s.val, .int .i64 t] w fun e w' => e = .returned (.tuple #[.agg #[.int .i64 (t / s.len), .int .i64 (t % s.len / s.columns), .int .i64 (t % s.len % s.columns)], .int .i64 0]) ∧ Below w.heap.size w w' := fun w => by
    refine (rspot_any w s t).mono ?_
    rintro e w' ⟨⟨h, _⟩, hb⟩
    exact ⟨h ⟨hm, ht0, ht1⟩, hb⟩
  unfold beamB spotB
  by_cases hi : InP s (t % s.len / s.columns) (t % s.len % s.columns)
  · rw [if_pos hi]
    exact rat_pic w s t _ _ _ hm.bnd hl0 hl1 hc0 hc1 hsp hi.1 hi.2
  · rw [if_neg hi]
    exact rat_bor w s t _ _ _ hm.bnd hl0 hl1 hc0 hc1 hsp hi
end Go.Proofs.Ytlghfngomiiclaa
