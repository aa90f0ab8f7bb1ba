
/- Package contend: happens, Request, Slow. -/
import Derived.Test.YtljgpaiojeffcaaM4
import Derived.Laws.BitsAllLaws
namespace Go.Proofs.Ytljgpaiojeffcaa
open Go.RowKit
set_option linter.unusedSimpArgs false
set_option linter.unusedVariables false
set_option maxRecDepth 100000

theorem two_boxes {w w2 : World} {s : Scr} {q : Rq} (hb : Below ((w.alloc (scO s)).alloc (rqO q)).heap.size ((w.alloc (scO s)).alloc (rqO q)) w2) :
    Below w.heap.size w w2 ∧ SB w2 w.heap.size s ∧ QB w2 (w.heap.size + 1) 0 q ∧ w.heap.size + 1 < w2.heap.size := by
  have h1 := hb.size
  simp at h1
  have h2 := QB.boxed hb
  simp only [World.size_alloc] at h2
  refine ⟨(((Below.refl _ _).alloc (Nat.le_refl _) _).alloc (by simp) _).trans (hb.mono (by simp; omega)), SB.laid s (((Below.refl _ _).alloc (by simp) _).trans (hb.mono (by simp))), h2.2.1, by omega⟩

theorem and16_1 (a : Int) (h0 : 0 ≤ a) (h1 : a < 65536) : bits .and .u16 a 1 = a % 2 := by
  rw [u16_and a 1 h0 h1 (by decide) (by decide)]
  show ((a.toNat &&& 1 : Nat) : Int) = a % 2
  rw [Nat.and_one_is_mod]
  omega

set_option maxHeartbeats 1000000 in
theorem happens_any (w : World) (s : Scr) (q : Rq) (slow : Bool) (t : Int) (hm : s.May) (hq : q.May) (hw : q.wf) (h0 : 0 ≤ t) (h1 : t ≤ 1099511626776) : Calls Try.prog 20 #[s.val, q.val, .bool slow, .int .i64 t] w fun e w' => e = .returned (.tuple #[.int .i64 (reqAt s q slow t), .int .i64 (reqEnd s q slow t)]) ∧ Below w.heap.size w w' := by
  have HP := Lib.hid (fun odd w => portHappens_any w s odd slow t hm h0 h1)
  have HG := Lib.hid (fun w => behindWait_any w s t hm h0 (by omega))
  have hts := hq.ts
  have hg := gF_le s t
  obtain ⟨a0, a1⟩ := hw.addr
  have HX := Lib.hid (fun w2 hb => two_boxes (w := w) (w2 := w2) (s := s) (q := q) hb)
  have hB0 : Below w.heap.size w ((w.alloc (scO s)).alloc (rqO q)) := ((Below.refl _ _).alloc (Nat.le_refl _) _).alloc (by simp) _
  unfold reqAt reqEnd
  by_cases hp : q.port
  · rw [if_pos hp, if_pos hp]
    have HP := Lib.hid (HP.out q.odd)
    have hodd : (bits .and .u16 q.addr 1 == 1) = q.odd := by
      unfold Rq.odd
      rw [and16_1 q.addr a0 a1]
      exact Bool.eq_iff_iff.2 (by simp)
    have hodd2 : (q.addr % 2 == 1) = q.odd := by
      rw [← hodd, and16_1 q.addr a0 a1]
    generalize q.odd = o at *
    generalize portT s o slow t = f at *
    unfold Rq.port at hp
    obtain ⟨k, a, v, ts⟩ := q
    clear hq hw HG
    unfold Scr.val Rq.val at *
    simp only at *
    rcases hp with rfl | rfl
    all_goals (
      go_enter Try.func20, Try.ntmps20
      go_wp2_with fail
      refine (HP.out _).mono ?_
      rintro e w2 ⟨rfl, hb⟩
      have hB := (HX.out w2 hb).1
      clear hb HX
      go_wp2_with fail
      go_ret2
      exact ⟨rfl, hB⟩)
  · rw [if_neg hp, if_neg hp]
    clear HP
    by_cases hs : q.waits slow = true
    · rw [hs, stF_yes]
      generalize gF s t = g at *
      unfold Rq.waits Rq.port at *
      obtain ⟨k, a, v, ts⟩ := q
      clear hq hw
      unfold Scr.val Rq.val at *
      simp only at *
      cases slow with
      | false => simp at hs
      | true =>
        have k6 : ¬ k = 6 := by simpa using hs
        have k4 : ¬ k = 4 := by omega
        have k5 : ¬ k = 5 := by omega
        have k4b : (k == 4) = false := by simpa using k4
        have k5b : (k == 5) = false := by simpa using k5
        have k6n : (k != 6) = true := by simpa using k6
        clear hs hp
        go_enter Try.func20, Try.ntmps20
        go_wp2_with fail
        refine (HG.out _).mono ?_
        rintro e w2 ⟨rfl, hb⟩
        obtain ⟨hB, _, hQ, hlt⟩ := HX.out w2 hb
        obtain ⟨c0, c1, c2, c3⟩ := hQ
        simp only [Nat.zero_add] at c0 c1 c2 c3
        clear hb HX
        go_upto_region 5 with fail
        go_region
        go_wp2_with fail
        go_ret2
        exact ⟨rfl, hB.drew⟩
    · have hs' : q.waits slow = false := by simpa using hs
      rw [hs', stF_no]
      have hcell : QB ((w.alloc (scO s)).alloc (rqO q)) (w.heap.size + 1) 0 q := by
        have := QB.now (w.alloc (scO s)) q
        simpa only [World.size_alloc] using this
      unfold Rq.waits Rq.port at *
      obtain ⟨k, a, v, ts⟩ := q
      clear hq hw HG hs
      unfold Scr.val Rq.val at *
      simp only at *
      have k4 : ¬ k = 4 := by omega
      have k5 : ¬ k = 5 := by omega
      have k4b : (k == 4) = false := by simpa using k4
      have k5b : (k == 5) = false := by simpa using k5
      cases slow with
      | false =>
        clear hp hs' HX hcell
        go_enter Try.func20, Try.ntmps20
        go_upto_region 5 with fail
        go_region
        go_wp2_with fail
        go_ret2
        exact ⟨rfl, hB0.drew⟩
      | true =>
        obtain rfl : k = 6 := by simpa using hs'
        clear hp hs' HX hcell
        go_enter Try.func20, Try.ntmps20
        go_upto_region 5 with fail
        go_region
        go_wp2_with fail
        go_ret2
        exact ⟨rfl, hB0.drew⟩

/-- May a request be asked for at a time? -/
def ReqOk (s : Scr) (q : Rq) (t : Int) : Prop := s.May ∧ q.May ∧ 0 ≤ t ∧ t ≤ 1099511626776
theorem request_yes (w : World) (s : Scr) (q : Rq) (slow : Bool) (t : Int) (hw : q.wf) (h : ReqOk s q t) : Calls Try.prog 8 #[s.val, q.val, .bool slow, .int .i64 t] w fun e w' => e = .returned (.tuple #[.int .i64 (reqAt s q slow t), .int .i64 (reqEnd s q slow t), .int .i64 0]) ∧ Below w.heap.size w w' := by
  obtain ⟨hm, hq, h0, h1⟩ := h
  have HC := Lib.hid (fun w => check_yes s hm w)
  have HQ := Lib.hid (fun w => stepcheck_any q w)
  rw [show q.err = 0 from if_pos hq] at HQ
  have HH := Lib.hid (fun w => happens_any w s q slow t hm hq hw h0 h1)
  have HX := Lib.hid (fun w2 hb => two_boxes (w := w) (w2 := w2) (s := s) (q := q) hb)
  generalize reqAt s q slow t = a at *
  generalize reqEnd s q slow t = b at *
  obtain ⟨k, ad, v, ts⟩ := q
  clear hq hw hm
  unfold Scr.val Rq.val at *
  simp only at *
  go_enter Try.func8, Try.ntmps8
  go_wp2_with fail
  refine (HC.out _).mono ?_
  rintro e w2 ⟨rfl, hb⟩
  obtain ⟨hB, hS, hQ, hlt⟩ := HX.out w2 hb
  clear hb HX HC
  have hS2 := hS
  have hQ2 := hQ
  obtain ⟨c0, c1, c2, c3, c4, c5, c6⟩ := hS2
  obtain ⟨d0, d1, d2, d3⟩ := hQ2
  simp only [Nat.zero_add] at d0 d1 d2 d3
  go_wp2_with fail
  clear c0 c1 c2 c3 c4 c5 c6 d0 d1 d2 d3
  refine (HQ.out _).mono ?_
  rintro e w3 ⟨rfl, hb⟩
  have hS := hS.below hb (by omega)
  have hQ := hQ.below hb hlt
  have hB := hB.trans (hb.mono hB.size)
  clear hb HQ hlt
  obtain ⟨c0, c1, c2, c3, c4, c5, c6⟩ := hS
  obtain ⟨d0, d1, d2, d3⟩ := hQ
  simp only [Nat.zero_add] at d0 d1 d2 d3
  have t0 : (t < 0) = False := by simp; omega
  have t1 : (1099511626776 < t) = False := by simp; omega
  go_wp2_with fail
  clear c0 c1 c2 c3 c4 c5 c6 d0 d1 d2 d3
  refine (HH.out _).mono ?_
  rintro e w4 ⟨rfl, hb⟩
  have hB := hB.trans (hb.mono hB.size)
  clear hb HH
  go_wp2_with fail
  go_ret3
  exact ⟨rfl, hB⟩

theorem request_no (w : World) (s : Scr) (q : Rq) (slow : Bool) (t : Int) (h : ¬ ReqOk s q t) : Calls Try.prog 8 #[s.val, q.val, .bool slow, .int .i64 t] w fun e w' => e = .returned (.tuple #[.int .i64 0, .int .i64 0, .int .i64 2]) ∧ Below w.heap.size w w' := by
  have HX := Lib.hid (fun w2 hb => two_boxes (w := w) (w2 := w2) (s := s) (q := q) hb)
  by_cases hm : s.May
  · have HC := Lib.hid (fun w => check_yes s hm w)
    have HQ := Lib.hid (fun w => stepcheck_any q w)
    by_cases hq : q.May
    · rw [show q.err = 0 from if_pos hq] at HQ
      have ht : ¬ (0 ≤ t ∧ t ≤ 1099511626776) := fun ht => h ⟨hm, hq, ht⟩
      obtain ⟨k, ad, v, ts⟩ := q
      clear hq hm h
      unfold Scr.val Rq.val at *
      simp only at *
      go_enter Try.func8, Try.ntmps8
      go_wp2_with fail
      refine (HC.out _).mono ?_
      rintro e w2 ⟨rfl, hb⟩
      obtain ⟨hB, hS, hQ, hlt⟩ := HX.out w2 hb
      clear hb HX HC hS
      obtain ⟨d0, d1, d2, d3⟩ := hQ
      simp only [Nat.zero_add] at d0 d1 d2 d3
      go_wp2_with fail
      clear d0 d1 d2 d3
      refine (HQ.out _).mono ?_
      rintro e w3 ⟨rfl, hb⟩
      have hB := hB.trans (hb.mono hB.size)
      clear hb HQ hlt
      rcases Int.lt_or_le t 0 with h0 | h0
      · go_wp2_with fail
        go_ret3
        exact ⟨rfl, hB⟩
      · have h1 : 1099511626776 < t := by omega
        go_wp2_with fail
        go_ret3
        exact ⟨rfl, hB⟩
    · rw [show q.err = 2 from if_neg hq] at HQ
      obtain ⟨k, ad, v, ts⟩ := q
      clear hq hm h
      unfold Scr.val Rq.val at *
      simp only at *
      go_enter Try.func8, Try.ntmps8
      go_wp2_with fail
      refine (HC.out _).mono ?_
      rintro e w2 ⟨rfl, hb⟩
      obtain ⟨hB, hS, hQ, hlt⟩ := HX.out w2 hb
      clear hb HX HC hS
      obtain ⟨d0, d1, d2, d3⟩ := hQ
      simp only [Nat.zero_add] at d0 d1 d2 d3
      go_wp2_with fail
      clear d0 d1 d2 d3
      refine (HQ.out _).mono ?_
      rintro e w3 ⟨rfl, hb⟩
      have hB := hB.trans (hb.mono hB.size)
      clear hb HQ hlt
      go_wp2_with fail
      go_ret3
      exact ⟨rfl, hB⟩
  · have HC := Lib.hid (fun w => check_no s hm w)
    obtain ⟨k, ad, v, ts⟩ := q
    clear hm h
    unfold Scr.val Rq.val at *
    simp only at *
    go_enter Try.func8, Try.ntmps8
    go_wp2_with fail
    refine (HC.out _).mono ?_
    rintro e w2 ⟨rfl, hb⟩
    have hB := (HX.out w2 hb).1
    clear hb HX HC
    go_wp2_with fail
    go_ret3
    exact ⟨rfl, hB⟩
end Go.Proofs.Ytljgpaiojeffcaa
