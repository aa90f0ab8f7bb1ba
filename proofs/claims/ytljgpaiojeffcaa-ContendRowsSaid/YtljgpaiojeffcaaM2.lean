
/- Package contend: outside, Wait, behindWait. -/
import Derived.Test.YtljgpaiojeffcaaM1
import Derived.Test.YtljgpaiojeffcaaQ3
namespace Go.Proofs.Ytljgpaiojeffcaa
open Go.RowKit
set_option linter.unusedSimpArgs false
set_option linter.unusedVariables false
set_option maxRecDepth 100000

/-- How far a number is from those from 0 on and below an end. -/
def outI (n e : Int) : Int := if n < 0 then -n else if n < e then 0 else n - (e - 1)
theorem outI_in {n e : Int} (h0 : 0 ≤ n) (h1 : n < e) : outI n e = 0 := by unfold outI; rw [if_neg (by omega), if_pos h1]
theorem outI_out {n e : Int} (h : ¬ (0 ≤ n ∧ n < e)) : 1 ≤ outI n e := by unfold outI; split <;> (try split) <;> omega
theorem outI_le {n e : Int} (h0 : -100000 ≤ n ∧ n ≤ 100000) (h1 : 0 ≤ e ∧ e ≤ 100000) : 0 ≤ outI n e ∧ outI n e ≤ 300000 := by unfold outI; split <;> (try split) <;> omega

theorem outside_any (n e : Int) (w : World) (h0 : -100000 ≤ n ∧ n ≤ 100000) (h1 : 0 ≤ e ∧ e ≤ 100000) : Calls Try.prog 22 #[.int .i64 n, .int .i64 e] w fun r w' => r = .returned (.int .i64 (outI n e)) ∧ w = w' := by
  obtain ⟨h00, h01⟩ := h0
  obtain ⟨h10, h11⟩ := h1
  unfold outI
  rcases Int.lt_or_le n 0 with g0 | g0
  · rw [if_pos g0]
    go_enter Try.func22, Try.ntmps22
    go_wp2
    all_goals go_ret
    all_goals refine ⟨congrArg (fun x => Ending.returned (.int .i64 x)) ?_, rfl⟩
    all_goals omega
  · rw [if_neg (show ¬ n < 0 by omega)]
    rcases Int.lt_or_le n e with g1 | g1
    · rw [if_pos g1]
      go_enter Try.func22, Try.ntmps22
      go_wp2
      all_goals go_ret
      all_goals refine ⟨congrArg (fun x => Ending.returned (.int .i64 x)) ?_, rfl⟩
      all_goals omega
    · rw [if_neg (show ¬ n < e by omega)]
      go_enter Try.func22, Try.ntmps22
      go_wp2
      all_goals go_ret
      all_goals refine ⟨congrArg (fun x => Ending.returned (.int .i64 x)) ?_, rfl⟩
      all_goals omega

/-- The least of three, and the greater of two, as Go answers them. -/
def min3 (x y z : Int) : Int := if z < (if y < x then y else x) then z else (if y < x then y else x)
def max2 (x y : Int) : Int := if y > x then y else x
theorem wait_val (s : Scr) (l c : Int) (hb : Bnd s) (r : Int) (hr : 0 ≤ c - (s.left - 1) → r = (c - (s.left - 1)) % 8) (hr0 : -8 < r) (hr1 : r < 8) :
    max2 0 (min3 (6 - r) (6 - 6 * outI (l - s.top) s.rows) (6 - 6 * outI (c - (s.left - 1)) (4 * s.wide))) = wAt s l c := by
  obtain ⟨r0, r1, _⟩ := hb.rows
  obtain ⟨w0, w1, _⟩ := hb.wide
  have ho1 := outI_out (n := l - s.top) (e := s.rows)
  have ho2 := outI_out (n := c - (s.left - 1)) (e := 4 * s.wide)
  unfold wAt
  by_cases hp : InW16 s l (c - (s.left - 1))
  · rw [if_pos hp]
    obtain ⟨⟨p0, p1⟩, q0, q1⟩ := hp
    rw [outI_in (by omega) (by omega), outI_in q0 q1, hr q0]
    unfold waitC max2 min3
    (repeat' split) <;> omega
  · rw [if_neg hp]
    have h : 1 ≤ outI (l - s.top) s.rows ∨ 1 ≤ outI (c - (s.left - 1)) (4 * s.wide) := by
      by_cases hl : 0 ≤ l - s.top ∧ l - s.top < s.rows
      · exact .inr (ho2 fun h => hp ⟨⟨by omega, by omega⟩, h⟩)
      · exact .inl (ho1 hl)
    generalize outI (l - s.top) s.rows = o1 at *
    generalize outI (c - (s.left - 1)) (4 * s.wide) = o2 at *
    unfold max2 min3
    (repeat' split) <;> omega

set_option maxHeartbeats 2000000 in
theorem wait_yes (w : World) (s : Scr) (t : Int) (hm : s.May) (ht0 : 0 ≤ t) (ht1 : t ≤ 1099511627776) : Calls Try.prog 16 #[s.val, .int .i64 t] w fun e w' => e = .returned (.int .i64 (wF s t)) ∧ Below w.heap.size w w' := by
  obtain ⟨⟨hl0, hl1⟩, hc0, hc1⟩ := spot_in hm ht0
  have hsp : ∀ w, Calls Try.prog 21 #[s.val, .int .i64 t] w fun e w' => e = .returned (.tuple #[.agg #[.int .i64 (t / s.len), .int .i64 (t % s.len / s.columns), .int .i64 (t % s.len % s.columns)], .int .i64 0]) ∧ Below w.heap.size w w' := fun w => by
    refine (spot_any w s t).mono ?_
    rintro e w' ⟨⟨h, _⟩, hb⟩
    exact ⟨h ⟨hm, ht0, ht1⟩, hb⟩
  unfold wF
  generalize t % s.len / s.columns = l at *
  generalize t % s.len % s.columns = c at *
  generalize t / s.len = q at *
  have hval := wait_val s l c hm.bnd ((c - (s.left - 1)).tmod 8) (fun h => Int.tmod_eq_emod_of_nonneg h) (Int.lt_tmod_of_pos _ (by omega)) (Int.tmod_lt_of_pos _ (by omega))
  obtain ⟨⟨_, bl⟩, ⟨_, bc⟩, _, ⟨r0, r1, _⟩, ⟨p0, p1⟩, ⟨w0, w1, _⟩, ⟨f0, f1⟩⟩ := hm.bnd
  have HO1 := Lib.hid (fun w => outside_any (l - s.top) s.rows w (by omega) (by omega))
  have HO2 := Lib.hid (fun w => outside_any (c - (s.left - 1)) (4 * s.wide) w (by omega) (by omega))
  obtain ⟨b10, b11⟩ := outI_le (n := l - s.top) (e := s.rows) (by omega) (by omega)
  obtain ⟨b20, b21⟩ := outI_le (n := c - (s.left - 1)) (e := 4 * s.wide) (by omega) (by omega)
  have b30 : -8 < (c - (s.left - 1)).tmod 8 := Int.lt_tmod_of_pos _ (by omega)
  have b31 : (c - (s.left - 1)).tmod 8 < 8 := Int.tmod_lt_of_pos _ (by omega)
  have HV := Lib.hid hval
  generalize outI (l - s.top) s.rows = o1 at *
  generalize outI (c - (s.left - 1)) (4 * s.wide) = o2 at *
  generalize wAt s l c = wv at *
  clear hval
  unfold Scr.val
  go_enter Try.func16, Try.ntmps16
  go_wp2_with fail
  refine (hsp _).mono ?_
  rintro e w2 ⟨rfl, hb⟩
  obtain ⟨hB, hS, hlt⟩ := SB.boxed hb
  clear hb hsp
  obtain ⟨c0, c1, c2, c3, c4, c5, c6⟩ := hS
  go_upto_region 4 with fail
  go_region
  go_upto_region 5 with fail
  have hS : SB w2 w.heap.size s := ⟨c0, c1, c2, c3, c4, c5, c6⟩
  have hbx : Below w2.heap.size w2 (w2.alloc (.cells #[.int .i64 q, .int .i64 l, .int .i64 c] 45)).drew := ((Below.refl _ _).alloc (Nat.le_refl _) _).drew
  generalize (w2.alloc (.cells #[.int .i64 q, .int .i64 l, .int .i64 c] 45)).drew = wx at *
  have hS := hS.below hbx hlt
  have hB := hB.trans (hbx.mono hB.size)
  have hlx : w.heap.size < wx.heap.size := by have := hbx.size; omega
  clear c0 c1 c2 c3 c4 c5 c6 hbx
  have c3 := fun p : M.Of (M.Base wx) => (hS.below p.ok.2 hlx).c3
  have c5 := fun p : M.Of (M.Base wx) => (hS.below p.ok.2 hlx).c5
  clear hS
  refine M.region_ (by kernel_rfl) ?_
  refine M.seg_ [0, 1, 2, 3, 4, 5] 13 _ _ (M.Base.refl _) (by kernel_rfl) (by kernel_rfl) (by kernel_rfl) (by simp only [pickOps, mask, plain, List.getElem?_toArray, List.getElem?_cons_zero, List.getElem?_cons_succ, if_true, Bool.false_eq_true, if_false]; rfl) ?_
  repeat (go_big_quiet_step (fail))
  refine wpQuiet_nil ?_
  refine M.calm_ (i := 6) (.int .i64 o1) rfl (by kernel_rfl) (by kernel_rfl) (by kernel_rfl) (by kernel_rfl) ?_ ?_
  · intro wz sz
    unfold Oper.does
    go_simp
    exact (HO1.out wz).mono fun e w' ⟨he, hw⟩ => ⟨_, he, rfl, hw ▸ Save.refl _ _⟩
  go_simp
  refine M.seg_ [7, 8, 9, 10, 11, 12] 6 _ _ (M.Base.refl _) (by kernel_rfl) (by kernel_rfl) (by kernel_rfl) (by simp only [pickOps, mask, plain, List.getElem?_toArray, List.getElem?_cons_zero, List.getElem?_cons_succ, if_true, Bool.false_eq_true, if_false]; rfl) ?_
  repeat (go_big_quiet_step (fail))
  refine wpQuiet_nil ?_
  refine M.calm_ (i := 13) (.int .i64 o2) rfl (by kernel_rfl) (by kernel_rfl) (by kernel_rfl) (by kernel_rfl) ?_ ?_
  · intro wz sz
    unfold Oper.does
    go_simp
    exact (HO2.out wz).mono fun e w' ⟨he, hw⟩ => ⟨_, he, rfl, hw ▸ Save.refl _ _⟩
  go_simp
  refine M.seg_ [14, 15] 3 _ _ (M.Base.refl _) (by kernel_rfl) (by kernel_rfl) (by kernel_rfl) (by simp only [pickOps, mask, plain, List.getElem?_toArray, List.getElem?_cons_zero, List.getElem?_cons_succ, if_true, Bool.false_eq_true, if_false]; rfl) ?_
  repeat (go_big_quiet_step (fail))
  refine wpQuiet_nil ?_
  refine M.calm_ (i := 16) (.int .i64 (min3 (6 - (c - (s.left - 1)).tmod 8) (6 - 6 * o1) (6 - 6 * o2))) rfl (by kernel_rfl) (by kernel_rfl) (by kernel_rfl) (by kernel_rfl) ?_ ?_
  · intro wz sz
    unfold Oper.does
    go_simp
    exact ⟨by unfold min3; (repeat' split) <;> omega, Save.refl _ _⟩
  rw [show (min3 (6 - (c - (s.left - 1)).tmod 8) (6 - 6 * o1) (6 - 6 * o2)) = min3 (6 - (c - (s.left - 1)).tmod 8) (6 - 6 * o1) (6 - 6 * o2) from rfl]
  obtain ⟨m3, hm3⟩ : ∃ m3, min3 (6 - (c - (s.left - 1)).tmod 8) (6 - 6 * o1) (6 - 6 * o2) = m3 := ⟨_, rfl⟩
  rw [hm3] at HV ⊢
  clear hm3
  go_simp
  refine M.calm_ (i := 17) (.int .i64 wv) rfl (by kernel_rfl) (by kernel_rfl) (by kernel_rfl) (by kernel_rfl) ?_ ?_
  · intro wz sz
    unfold Oper.does
    go_simp
    rw [← HV.out]
    exact ⟨by unfold max2; (repeat' split) <;> omega, Save.refl _ _⟩
  go_simp
  refine M.seg_ [18] 0 _ _ (M.Base.refl _) (by kernel_rfl) (by kernel_rfl) (by kernel_rfl) (by simp only [pickOps, mask, plain, List.getElem?_toArray, List.getElem?_cons_zero, List.getElem?_cons_succ, if_true, Bool.false_eq_true, if_false]; rfl) ?_
  repeat (go_big_quiet_step (fail))
  refine wpQuiet_nil ?_
  refine M.end_ (by kernel_rfl) ?_
  intro wc sc
  go_wp2_with fail
  go_ret
  exact ⟨rfl, hB.trans (sc.2.mono hB.size)⟩

theorem wait_no (w : World) (s : Scr) (t : Int) (hn : ¬ (s.May ∧ 0 ≤ t ∧ t ≤ 1099511627776)) : Calls Try.prog 16 #[s.val, .int .i64 t] w fun e w' => e = .returned (.int .i64 0) ∧ Below w.heap.size w w' := by
  have hsp := fun w => spot_any w s t
  unfold Scr.val at *
  go_enter Try.func16, Try.ntmps16
  go_wp2_with fail
  refine (hsp _).mono ?_
  rintro e w2 ⟨⟨_, he⟩, hb⟩
  have he := he hn
  subst he
  obtain ⟨hB, hS, hlt⟩ := SB.boxed (s := s) hb
  clear hb hsp
  unfold spotV
  go_wp2_with fail
  go_ret
  exact ⟨rfl, hB.alloc hB.size _⟩

open Classical in
/-- The wait at a time, 0 of what may not be. -/
noncomputable def wN (s : Scr) (t : Int) : Int := if s.May ∧ 0 ≤ t ∧ t ≤ 1099511627776 then wF s t else 0
theorem wait_any (w : World) (s : Scr) (t : Int) : Calls Try.prog 16 #[s.val, .int .i64 t] w fun e w' => e = .returned (.int .i64 (wN s t)) ∧ Below w.heap.size w w' := by
  unfold wN
  by_cases h : s.May ∧ 0 ≤ t ∧ t ≤ 1099511627776
  · rw [if_pos h]
    exact wait_yes w s t h.1 h.2.1 h.2.2
  · rw [if_neg h]
    exact wait_no w s t h
theorem wN_yes {s : Scr} {t : Int} (hm : s.May) (h0 : 0 ≤ t) (h1 : t ≤ 1099511627776) : wN s t = wF s t := if_pos ⟨hm, h0, h1⟩

theorem behindWait_any (w : World) (s : Scr) (t : Int) (hm : s.May) (ht0 : 0 ≤ t) (ht1 : t ≤ 1099511627776) : Calls Try.prog 36 #[s.val, .int .i64 t] w fun e w' => e = .returned (.int .i64 (gF s t)) ∧ Below w.heap.size w w' := by
  have hw := fun w => wait_yes w s t hm ht0 ht1
  obtain ⟨h0, h1⟩ := wF_le s t
  unfold gF
  generalize wF s t = n at *
  unfold Scr.val at *
  go_enter Try.func36, Try.ntmps36
  go_wp2_with fail
  refine (hw _).mono ?_
  rintro e w2 ⟨rfl, hb⟩
  obtain ⟨hB, hS, hlt⟩ := SB.boxed (s := s) hb
  clear hb hw
  go_wp2_with fail
  go_ret
  exact ⟨rfl, hB⟩
end Go.Proofs.Ytljgpaiojeffcaa
