
/- Package contend: ContendWaits. -/
import Derived.Test.YtljgpaiojeffcaaM7
namespace Go.Proofs.Ytljgpaiojeffcaa
open Go.RowKit
set_option linter.unusedSimpArgs false
set_option linter.unusedVariables false
set_option maxRecDepth 100000

/-- A screen whose picture has no bytes. -/
def Scr.bare (s : Scr) : Scr := ⟨s.lines, s.columns, s.top, s.rows, s.left, 0, s.pulse⟩
theorem Scr.May.bare {s : Scr} (h : s.May) : s.bare.May := by
  have hb := h.bnd
  obtain ⟨b1, b2⟩ := hb.left
  obtain ⟨b3, b4⟩ := hb.wide
  intro k hk
  rcases (show k = 0 ∨ k = 1 ∨ k = 2 ∨ k = 3 ∨ k = 4 ∨ k = 5 ∨ k = 6 ∨ k = 7 ∨ k = 8 by omega) with rfl | rfl | rfl | rfl | rfl | rfl | rfl | rfl | rfl
  · exact h 0 (by omega)
  · exact h 1 (by omega)
  · exact h 2 (by omega)
  · exact h 3 (by omega)
  · exact h 4 (by omega)
  · exact (show (0 : Int) ≤ 0 ∧ (0 : Int) ≤ 32 ∧ (0 : Int) % 2 = 0 by decide)
  · exact ⟨b1, show s.left ≤ s.columns - 4 * 0 by omega⟩
  · exact h 7 (by omega)
  · exact h 8 (by omega)
theorem wN_bare (s : Scr) (t : Int) : wN s.bare t = 0 := by
  unfold wN
  split
  · exact wF_bare rfl t
  · rfl
theorem mostI_bare (s : Scr) (q : Rq) : mostI s.bare q = 0 := if_pos (.inr (Int.le_refl _))
theorem wN_behind {s : Scr} {t : Int} (hm : s.May) (h0 : 0 ≤ t) (h1 : t ≤ 1099511627776) : wN s (t + wF s t) = 0 := by
  unfold wN
  split
  · exact wF_behind hm h0
  · rfl
theorem wN_no {s : Scr} {t : Int} (h : ¬ (s.May ∧ 0 ≤ t ∧ t ≤ 1099511627776)) : wN s t = 0 := if_neg h

theorem SB.laid2 (w1 w2 : World) (o : Obj) (s : Scr) (hb : Below ((w1.alloc o).alloc (scO s)).heap.size ((w1.alloc o).alloc (scO s)) w2) : SB w2 (w1.heap.size + 1) s := by
  have h := SB.laid (w := w1.alloc o) s (hb.mono (by simp))
  simpa only [World.size_alloc] using h

set_option maxHeartbeats 2000000 in
theorem waits_no (w : World) (s : Scr) (q : Rq) (slow : Bool) (t : Int) (h : ¬ (s.May ∧ 0 ≤ t ∧ t ≤ 1099511627776)) : Calls Try.prog 5 #[s.val, .int .i64 t, q.val, .bool slow] w fun e w' => e = .returned (.bool true) ∧ Below w.heap.size w w' := by
  have HX := Lib.hid (fun w2 hb => Kp.mk0 (w := w) (w2 := w2) (s := s) (q := q) hb)
  have HW := Lib.hid (fun w => wait_no w s t h)
  have HS := Lib.hid (fun w => rspot_any w s t)
  have HN := Lib.hid h
  obtain ⟨k, ad, v, ts⟩ := q
  clear h
  unfold Scr.val Rq.val spotV at *
  simp only at *
  go_enter Try.func5, Try.ntmps5
  go_wp2_with fail
  refine (lives16_any _).mono ?_
  rintro e w2 ⟨rfl, hb⟩
  have hK := HX.out w2 hb
  clear hb HX
  obtain ⟨c0, c1, c2, c3, c4, c5, c6⟩ := hK.scr
  go_wp2_with fail
  refine (HW.out _).mono ?_
  rintro e w3 ⟨rfl, hb⟩
  have hK3 := hK.next hb
  clear hb hK c0 c1 c2 c3 c4 c5 c6
  obtain ⟨c0, c1, c2, c3, c4, c5, c6⟩ := hK3.scr
  go_wp2_with fail
  refine (HS.out _).mono ?_
  rintro e w4 ⟨⟨_, he⟩, hb⟩
  have he := he HN.out
  subst he
  have hK4 := hK3.next hb
  clear hb hK3 c0 c1 c2 c3 c4 c5 c6
  have hB := hK4.below
  go_wp2_with fail
  go_ret
  exact ⟨rfl, hB.alloc hB.size _⟩

set_option maxHeartbeats 4000000 in
theorem waits_w_yes (w : World) (s : Scr) (q : Rq) (bq : q.wf) (slow : Bool) (t : Int) (hm : s.May) (h0 : 0 ≤ t) (h1 : t ≤ 1099511627776) (hw : 0 < wF s t) (hr : ReqOk s.bare q t) : Calls Try.prog 5 #[s.val, .int .i64 t, q.val, .bool slow] w fun e w' => e = .returned (.bool true) ∧ Below w.heap.size w w' := by
  have HX := Lib.hid (fun w2 hb => Kp.mk0 (w := w) (w2 := w2) (s := s) (q := q) hb)
  have HW := Lib.hid (fun w => wait_yes w s t hm h0 h1)
  have HS : Hid (∀ w, Calls Try.prog 17 #[s.val, .int .i64 t] w fun e w' => e = .returned (.tuple #[.agg #[.int .i64 (t / s.len), .int .i64 (t % s.len / s.columns), .int .i64 (t % s.len % s.columns)], .int .i64 0]) ∧ Below w.heap.size w w') := Lib.hid fun w => by
    refine (rspot_any w s t).mono ?_
    rintro e w' ⟨⟨h, _⟩, hb⟩
    exact ⟨h ⟨hm, h0, h1⟩, hb⟩
  have hle := wF_le s t
  have HV := Lib.hid (fun w => wait_any w s (t + wF s t))
  rw [wN_behind hm h0 h1] at HV
  obtain ⟨hi, -, -⟩ := wF_pos hw
  obtain ⟨⟨hi0, hi1⟩, hi2, hi3⟩ := hi
  have hb := hm.bnd
  obtain ⟨b0, b1⟩ := hb.lines
  obtain ⟨b2, b3⟩ := hb.top
  obtain ⟨b4, b5, -⟩ := hb.rows
  have hwd : (s.wide == 0) = false := by simp; omega
  have HR := Lib.hid (fun w => request_yes w s.bare q slow t bq hr)
  have HV2 := Lib.hid (fun w => wait_any w s.bare t)
  rw [wN_bare] at HV2
  have HM := Lib.hid (fun w => most_any s.bare q w)
  rw [mostI_bare] at HM
  have hrb := req_bare (s := s.bare) rfl q hr.2.1 slow t
  have hts := hr.2.1.ts
  generalize reqAt s.bare q slow t = a at *
  generalize reqEnd s.bare q slow t = b at *
  clear hr hm bq
  generalize wF s t = n at *
  generalize t % s.len / s.columns = l at *
  generalize t % s.len % s.columns = c at *
  generalize t / s.len = f at *
  obtain ⟨k, ad, v, ts⟩ := q
  unfold Scr.val Rq.val at *
  unfold Scr.bare at *
  simp only at *
  go_enter Try.func5, Try.ntmps5
  go_wp2_with fail
  refine (lives16_any _).mono ?_
  rintro e w2 ⟨rfl, hb⟩
  have hK := HX.out w2 hb
  clear hb HX
  obtain ⟨c0, c1, c2, c3, c4, c5, c6⟩ := hK.scr
  go_wp2_with fail
  refine (HW.out _).mono ?_
  rintro e w3 ⟨rfl, hb⟩
  have hK3 := hK.next hb
  clear hb hK HW c0 c1 c2 c3 c4 c5 c6
  obtain ⟨c0, c1, c2, c3, c4, c5, c6⟩ := hK3.scr
  have n0 : ¬ n < 0 := by omega
  have n6 : ¬ 6 < n := by omega
  have nn : (n != 0) = true := by simp; omega
  go_wp2_with fail
  refine (HV.out _).mono ?_
  rintro e w4 ⟨rfl, hb⟩
  have hK3 := hK3.next hb
  clear hb HV c0 c1 c2 c3 c4 c5 c6
  obtain ⟨c0, c1, c2, c3, c4, c5, c6⟩ := hK3.scr
  go_wp2_with fail
  refine (HS.out _).mono ?_
  rintro e w5 ⟨rfl, hb⟩
  have hK5 := hK3.next hb
  clear hb HS c0 c1 c2 c3 c4 c5 c6 hK3
  obtain ⟨c0, c1, c2, c3, c4, c5, c6⟩ := hK5.scr
  obtain ⟨d0, d1, d2, d3⟩ := hK5.req
  simp only [Nat.zero_add] at d0 d1 d2 d3
  have hl5 := hK5.lt
  have hl6 : w.heap.size < w5.heap.size := by omega
  have g0 : ¬ l < s.top := by omega
  have g1 : ¬ s.top + s.rows ≤ l := by omega
  go_wp2_with fail
  refine (HR.out _).mono ?_
  rintro e w6 ⟨rfl, hb⟩
  have hb5 : Below w5.heap.size w5 w6 := (((Below.refl _ _).alloc (Nat.le_refl _) _).alloc (by simp) _).trans (hb.mono (by simp; omega))
  have hK6 := hK5.next hb5
  have hS6 := SB.laid2 w5 w6 _ ⟨s.lines, s.columns, s.top, s.rows, s.left, 0, s.pulse⟩ hb
  have hl7 : w5.heap.size + 1 < w6.heap.size := by have := hb.size; simp at this; omega
  clear hb hb5 HR c0 c1 c2 c3 c4 c5 c6 d0 d1 d2 d3 hl5 hl6
  obtain ⟨c0, c1, c2, c3, c4, c5, c6⟩ := hS6
  go_wp2_with fail
  refine (HV2.out _).mono ?_
  rintro e w7 ⟨rfl, hb⟩
  have hK7 := hK6.next hb
  have hS7 := (SB.mk (s := ⟨s.lines, s.columns, s.top, s.rows, s.left, 0, s.pulse⟩) c0 c1 c2 c3 c4 c5 c6).below hb (by omega)
  clear hb HV2 c0 c1 c2 c3 c4 c5 c6 hK6 hl7
  obtain ⟨c0, c1, c2, c3, c4, c5, c6⟩ := hS7
  obtain ⟨d0, d1, d2, d3⟩ := hK7.req
  simp only [Nat.zero_add] at d0 d1 d2 d3
  go_wp2_with fail
  refine (HM.out _).mono ?_
  rintro e w8 ⟨rfl, hb⟩
  have hK8 := hK7.next hb
  have hB := hK8.below
  clear hb HM c0 c1 c2 c3 c4 c5 c6 d0 d1 d2 d3 hK7
  obtain ⟨d0, d1, d2, d3⟩ := hK8.req
  simp only [Nat.zero_add] at d0 d1 d2 d3
  obtain ⟨r0, r1, r2⟩ := hrb
  subst r0
  go_wp2_with fail
  go_ret
  exact ⟨rfl, hB⟩

set_option maxHeartbeats 4000000 in
theorem waits_w_no (w : World) (s : Scr) (q : Rq) (bq : q.wf) (slow : Bool) (t : Int) (hm : s.May) (h0 : 0 ≤ t) (h1 : t ≤ 1099511627776) (hw : 0 < wF s t) (hr : ¬ ReqOk s.bare q t) : Calls Try.prog 5 #[s.val, .int .i64 t, q.val, .bool slow] w fun e w' => e = .returned (.bool true) ∧ Below w.heap.size w w' := by
  have HX := Lib.hid (fun w2 hb => Kp.mk0 (w := w) (w2 := w2) (s := s) (q := q) hb)
  have HW := Lib.hid (fun w => wait_yes w s t hm h0 h1)
  have HS : Hid (∀ w, Calls Try.prog 17 #[s.val, .int .i64 t] w fun e w' => e = .returned (.tuple #[.agg #[.int .i64 (t / s.len), .int .i64 (t % s.len / s.columns), .int .i64 (t % s.len % s.columns)], .int .i64 0]) ∧ Below w.heap.size w w') := Lib.hid fun w => by
    refine (rspot_any w s t).mono ?_
    rintro e w' ⟨⟨h, _⟩, hb⟩
    exact ⟨h ⟨hm, h0, h1⟩, hb⟩
  have hle := wF_le s t
  have HV := Lib.hid (fun w => wait_any w s (t + wF s t))
  rw [wN_behind hm h0 h1] at HV
  obtain ⟨hi, -, -⟩ := wF_pos hw
  obtain ⟨⟨hi0, hi1⟩, hi2, hi3⟩ := hi
  have hb := hm.bnd
  obtain ⟨b0, b1⟩ := hb.lines
  obtain ⟨b2, b3⟩ := hb.top
  obtain ⟨b4, b5, -⟩ := hb.rows
  have hwd : (s.wide == 0) = false := by simp; omega
  have HR := Lib.hid (fun w => request_no w s.bare q slow t hr)
  clear hr hm bq
  generalize wF s t = n at *
  generalize t % s.len / s.columns = l at *
  generalize t % s.len % s.columns = c at *
  generalize t / s.len = f at *
  obtain ⟨k, ad, v, ts⟩ := q
  unfold Scr.val Rq.val at *
  unfold Scr.bare at *
  simp only at *
  go_enter Try.func5, Try.ntmps5
  go_wp2_with fail
  refine (lives16_any _).mono ?_
  rintro e w2 ⟨rfl, hb⟩
  have hK := HX.out w2 hb
  clear hb HX
  obtain ⟨c0, c1, c2, c3, c4, c5, c6⟩ := hK.scr
  go_wp2_with fail
  refine (HW.out _).mono ?_
  rintro e w3 ⟨rfl, hb⟩
  have hK3 := hK.next hb
  clear hb hK HW c0 c1 c2 c3 c4 c5 c6
  obtain ⟨c0, c1, c2, c3, c4, c5, c6⟩ := hK3.scr
  have n0 : ¬ n < 0 := by omega
  have n6 : ¬ 6 < n := by omega
  have nn : (n != 0) = true := by simp; omega
  go_wp2_with fail
  refine (HV.out _).mono ?_
  rintro e w4 ⟨rfl, hb⟩
  have hK3 := hK3.next hb
  clear hb HV c0 c1 c2 c3 c4 c5 c6
  obtain ⟨c0, c1, c2, c3, c4, c5, c6⟩ := hK3.scr
  go_wp2_with fail
  refine (HS.out _).mono ?_
  rintro e w5 ⟨rfl, hb⟩
  have hK5 := hK3.next hb
  clear hb HS c0 c1 c2 c3 c4 c5 c6 hK3
  obtain ⟨c0, c1, c2, c3, c4, c5, c6⟩ := hK5.scr
  obtain ⟨d0, d1, d2, d3⟩ := hK5.req
  simp only [Nat.zero_add] at d0 d1 d2 d3
  have hl5 := hK5.lt
  have hl6 : w.heap.size < w5.heap.size := by omega
  have g0 : ¬ l < s.top := by omega
  have g1 : ¬ s.top + s.rows ≤ l := by omega
  go_wp2_with fail
  refine (HR.out _).mono ?_
  rintro e w6 ⟨rfl, hb⟩
  have hb5 : Below w5.heap.size w5 w6 := (((Below.refl _ _).alloc (Nat.le_refl _) _).alloc (by simp) _).trans (hb.mono (by simp; omega))
  have hK6 := hK5.next hb5
  have hS6 := SB.laid2 w5 w6 _ ⟨s.lines, s.columns, s.top, s.rows, s.left, 0, s.pulse⟩ hb
  have hl7 : w5.heap.size + 1 < w6.heap.size := by have := hb.size; simp at this; omega
  clear hb hb5 HR c0 c1 c2 c3 c4 c5 c6 d0 d1 d2 d3 hl5 hl6
  have hB := hK6.below
  clear hK6 hS6 hl7
  go_wp2_with fail
  go_ret
  exact ⟨rfl, hB⟩

set_option maxHeartbeats 4000000 in
theorem waits_z_yes (w : World) (s : Scr) (q : Rq) (bq : q.wf) (slow : Bool) (t : Int) (hm : s.May) (h0 : 0 ≤ t) (h1 : t ≤ 1099511627776) (hw : wF s t = 0) (hr : ReqOk s.bare q t) : Calls Try.prog 5 #[s.val, .int .i64 t, q.val, .bool slow] w fun e w' => e = .returned (.bool true) ∧ Below w.heap.size w w' := by
  have HX := Lib.hid (fun w2 hb => Kp.mk0 (w := w) (w2 := w2) (s := s) (q := q) hb)
  have HW := Lib.hid (fun w => wait_yes w s t hm h0 h1)
  have HS : Hid (∀ w, Calls Try.prog 17 #[s.val, .int .i64 t] w fun e w' => e = .returned (.tuple #[.agg #[.int .i64 (t / s.len), .int .i64 (t % s.len / s.columns), .int .i64 (t % s.len % s.columns)], .int .i64 0]) ∧ Below w.heap.size w w') := Lib.hid fun w => by
    refine (rspot_any w s t).mono ?_
    rintro e w' ⟨⟨h, _⟩, hb⟩
    exact ⟨h ⟨hm, h0, h1⟩, hb⟩
  have hle := wF_le s t
  have HR := Lib.hid (fun w => request_yes w s.bare q slow t bq hr)
  have HV2 := Lib.hid (fun w => wait_any w s.bare t)
  rw [wN_bare] at HV2
  have HM := Lib.hid (fun w => most_any s.bare q w)
  rw [mostI_bare] at HM
  have hrb := req_bare (s := s.bare) rfl q hr.2.1 slow t
  have hts := hr.2.1.ts
  generalize reqAt s.bare q slow t = a at *
  generalize reqEnd s.bare q slow t = b at *
  clear hr hm bq
  generalize wF s t = n at *
  generalize t % s.len / s.columns = l at *
  generalize t % s.len % s.columns = c at *
  generalize t / s.len = f at *
  obtain ⟨k, ad, v, ts⟩ := q
  unfold Scr.val Rq.val at *
  unfold Scr.bare at *
  simp only at *
  subst hw
  go_enter Try.func5, Try.ntmps5
  go_wp2_with fail
  refine (lives16_any _).mono ?_
  rintro e w2 ⟨rfl, hb⟩
  have hK := HX.out w2 hb
  clear hb HX
  obtain ⟨c0, c1, c2, c3, c4, c5, c6⟩ := hK.scr
  go_wp2_with fail
  refine (HW.out _).mono ?_
  rintro e w3 ⟨rfl, hb⟩
  have hK3 := hK.next hb
  clear hb hK HW c0 c1 c2 c3 c4 c5 c6
  obtain ⟨c0, c1, c2, c3, c4, c5, c6⟩ := hK3.scr
  go_wp2_with fail
  refine (HS.out _).mono ?_
  rintro e w5 ⟨rfl, hb⟩
  have hK5 := hK3.next hb
  clear hb HS c0 c1 c2 c3 c4 c5 c6 hK3
  obtain ⟨c0, c1, c2, c3, c4, c5, c6⟩ := hK5.scr
  obtain ⟨d0, d1, d2, d3⟩ := hK5.req
  simp only [Nat.zero_add] at d0 d1 d2 d3
  have hl5 := hK5.lt
  have hl6 : w.heap.size < w5.heap.size := by omega
  go_wp2_with fail
  all_goals (
    refine (HR.out _).mono ?_
    rintro e w6 ⟨rfl, hb⟩
    have hb5 : Below w5.heap.size w5 w6 := (((Below.refl _ _).alloc (Nat.le_refl _) _).alloc (by simp) _).trans (hb.mono (by simp; omega))
    have hK6 := hK5.next hb5
    have hS6 := SB.laid2 w5 w6 _ ⟨s.lines, s.columns, s.top, s.rows, s.left, 0, s.pulse⟩ hb
    have hl7 : w5.heap.size + 1 < w6.heap.size := by have := hb.size; simp at this; omega
    clear hb hb5 HR c0 c1 c2 c3 c4 c5 c6 d0 d1 d2 d3 hl5 hl6
    obtain ⟨c0, c1, c2, c3, c4, c5, c6⟩ := hS6
    go_wp2_with fail
    refine (HV2.out _).mono ?_
    rintro e w7 ⟨rfl, hb⟩
    have hK7 := hK6.next hb
    have hS7 := (SB.mk (s := ⟨s.lines, s.columns, s.top, s.rows, s.left, 0, s.pulse⟩) c0 c1 c2 c3 c4 c5 c6).below hb (by omega)
    clear hb HV2 c0 c1 c2 c3 c4 c5 c6 hK6 hl7
    obtain ⟨c0, c1, c2, c3, c4, c5, c6⟩ := hS7
    obtain ⟨d0, d1, d2, d3⟩ := hK7.req
    simp only [Nat.zero_add] at d0 d1 d2 d3
    go_wp2_with fail
    refine (HM.out _).mono ?_
    rintro e w8 ⟨rfl, hb⟩
    have hK8 := hK7.next hb
    have hB := hK8.below
    clear hb HM c0 c1 c2 c3 c4 c5 c6 d0 d1 d2 d3 hK7
    obtain ⟨d0, d1, d2, d3⟩ := hK8.req
    simp only [Nat.zero_add] at d0 d1 d2 d3
    obtain ⟨r0, r1, r2⟩ := hrb
    subst r0
    go_wp2_with fail
    go_ret
    exact ⟨rfl, hB⟩)

set_option maxHeartbeats 4000000 in
theorem waits_z_no (w : World) (s : Scr) (q : Rq) (bq : q.wf) (slow : Bool) (t : Int) (hm : s.May) (h0 : 0 ≤ t) (h1 : t ≤ 1099511627776) (hw : wF s t = 0) (hr : ¬ ReqOk s.bare q t) : Calls Try.prog 5 #[s.val, .int .i64 t, q.val, .bool slow] w fun e w' => e = .returned (.bool true) ∧ Below w.heap.size w w' := by
  have HX := Lib.hid (fun w2 hb => Kp.mk0 (w := w) (w2 := w2) (s := s) (q := q) hb)
  have HW := Lib.hid (fun w => wait_yes w s t hm h0 h1)
  have HS : Hid (∀ w, Calls Try.prog 17 #[s.val, .int .i64 t] w fun e w' => e = .returned (.tuple #[.agg #[.int .i64 (t / s.len), .int .i64 (t % s.len / s.columns), .int .i64 (t % s.len % s.columns)], .int .i64 0]) ∧ Below w.heap.size w w') := Lib.hid fun w => by
    refine (rspot_any w s t).mono ?_
    rintro e w' ⟨⟨h, _⟩, hb⟩
    exact ⟨h ⟨hm, h0, h1⟩, hb⟩
  have hle := wF_le s t
  have HR := Lib.hid (fun w => request_no w s.bare q slow t hr)
  clear hr hm bq
  generalize wF s t = n at *
  generalize t % s.len / s.columns = l at *
  generalize t % s.len % s.columns = c at *
  generalize t / s.len = f at *
  obtain ⟨k, ad, v, ts⟩ := q
  unfold Scr.val Rq.val at *
  unfold Scr.bare at *
  simp only at *
  subst hw
  go_enter Try.func5, Try.ntmps5
  go_wp2_with fail
  refine (lives16_any _).mono ?_
  rintro e w2 ⟨rfl, hb⟩
  have hK := HX.out w2 hb
  clear hb HX
  obtain ⟨c0, c1, c2, c3, c4, c5, c6⟩ := hK.scr
  go_wp2_with fail
  refine (HW.out _).mono ?_
  rintro e w3 ⟨rfl, hb⟩
  have hK3 := hK.next hb
  clear hb hK HW c0 c1 c2 c3 c4 c5 c6
  obtain ⟨c0, c1, c2, c3, c4, c5, c6⟩ := hK3.scr
  go_wp2_with fail
  refine (HS.out _).mono ?_
  rintro e w5 ⟨rfl, hb⟩
  have hK5 := hK3.next hb
  clear hb HS c0 c1 c2 c3 c4 c5 c6 hK3
  obtain ⟨c0, c1, c2, c3, c4, c5, c6⟩ := hK5.scr
  obtain ⟨d0, d1, d2, d3⟩ := hK5.req
  simp only [Nat.zero_add] at d0 d1 d2 d3
  have hl5 := hK5.lt
  have hl6 : w.heap.size < w5.heap.size := by omega
  go_wp2_with fail
  all_goals (
    refine (HR.out _).mono ?_
    rintro e w6 ⟨rfl, hb⟩
    have hb5 : Below w5.heap.size w5 w6 := (((Below.refl _ _).alloc (Nat.le_refl _) _).alloc (by simp) _).trans (hb.mono (by simp; omega))
    have hK6 := hK5.next hb5
    have hS6 := SB.laid2 w5 w6 _ ⟨s.lines, s.columns, s.top, s.rows, s.left, 0, s.pulse⟩ hb
    have hl7 : w5.heap.size + 1 < w6.heap.size := by have := hb.size; simp at this; omega
    clear hb hb5 HR c0 c1 c2 c3 c4 c5 c6 d0 d1 d2 d3 hl5 hl6
    have hB := hK6.below
    clear hK6 hS6 hl7
    go_wp2_with fail
    go_ret
    exact ⟨rfl, hB⟩)

theorem walk_ContendWaits (w : World) (s : Scr) (bs : s.wf) (t : Int) (wt : (Lit.int .i64 t).wf = true) (q : Rq) (bq : q.wf) (slow : Bool) : Calls Try.prog 5 #[s.val, .int .i64 t, q.val, .bool slow] w fun e w' => e = .returned (.bool true) ∧ Below w.heap.size w w' := by
  by_cases h : s.May ∧ 0 ≤ t ∧ t ≤ 1099511627776
  · obtain ⟨hm, h0, h1⟩ := h
    have hle := wF_le s t
    by_cases hr : ReqOk s.bare q t
    · by_cases hw : wF s t = 0
      · exact waits_z_yes w s q bq slow t hm h0 h1 hw hr
      · exact waits_w_yes w s q bq slow t hm h0 h1 (by omega) hr
    · by_cases hw : wF s t = 0
      · exact waits_z_no w s q bq slow t hm h0 h1 hw hr
      · exact waits_w_no w s q bq slow t hm h0 h1 (by omega) hr
  · exact waits_no w s q slow t h
end Go.Proofs.Ytljgpaiojeffcaa
