
/- The walk of EventOrders. -/
import Derived.Test.YtpkmphalhmmbkaaDoorF8
import Derived.Test.YtpkmphalhmmbkaaDoorG2
import Derived.Test.YtpkmphalhmmbkaaDoorG4
namespace Go.Proofs.YtpkmphalhmmbkaaDoor
open Go.RowKit
set_option linter.unusedSimpArgs false
set_option linter.unusedVariables false
set_option maxRecDepth 100000

/-- What a base class keeps of an event. -/
theorem EW.of {b : World} {n : Nat} {x : Ev} (h : EW b n x) (p : M.Of (M.Base b)) : EV p.w n x := (h.below p.ok.2 h.lt).ev

theorem ev_ext {x y : Ev} (h0 : x.time = y.time) (h1 : x.chip = y.chip) (h2 : x.seq = y.seq) (h3 : x.kind = y.kind) (h4 : x.a = y.a) (h5 : x.b = y.b) : x = y := by
  obtain ⟨a, b, c, d, e, f⟩ := x
  obtain ⟨a', b', c', d', e', f'⟩ := y
  simp only at h0 h1 h2 h3 h4 h5
  subst h0 h1 h2 h3 h4 h5
  rfl
theorem ret_b {v : Bool} (h : v = true) : Ending.returned (.bool v) = .returned (.bool true) := by rw [h]

set_option maxHeartbeats 6400000 in
theorem walk_EventOrders (w : World) (hV : Vars w) (a : Ev) (_ : a.wf) (b : Ev) (_ : b.wf) (c : Ev) (_ : c.wf) : Calls Tryd.prog 5 #[a.val, b.val, c.val] w fun e w' => e = .returned (.bool true) ∧ Below w.heap.size w w' := by
  have hA0 := ((EW.laid w a).more (evO b)).more (evO c)
  have hB0 := (EW.laid (w.alloc (evO a)) b).more (evO c)
  have hC0 := EW.laid ((w.alloc (evO a)).alloc (evO b)) c
  rw [show (w.alloc (evO a)).heap.size = w.heap.size + 1 by simp] at hB0
  rw [show ((w.alloc (evO a)).alloc (evO b)).heap.size = w.heap.size + 2 by simp] at hC0
  have hBw : Below w.heap.size w (((w.alloc (evO a)).alloc (evO b)).alloc (evO c)) := (((Below.refl _ _).alloc (Nat.le_refl _) _).alloc (by simp) _).alloc (by simp; omega) _
  have hL := Lib.hid (lives3_any _ (hV.on hBw))
  have hsz : (((w.alloc (evO a)).alloc (evO b)).alloc (evO c)).heap.size = w.heap.size + 3 := by simp
  have OX := Lib.hid (fun w => order_any w a b)
  have OY := Lib.hid (fun w => order_any w b c)
  have OZ := Lib.hid (fun w => order_any w a c)
  have OR := Lib.hid (fun w => order_any w b a)
  obtain ⟨x, hx⟩ : ∃ x, ordE a b = x := ⟨_, rfl⟩
  obtain ⟨y, hy⟩ : ∃ x, ordE b c = x := ⟨_, rfl⟩
  obtain ⟨z, hz⟩ : ∃ x, ordE a c = x := ⟨_, rfl⟩
  have hr := ord_turn a b
  rw [hx] at hr
  rw [hx] at OX
  rw [hy] at OY
  rw [hz] at OZ
  rw [hr] at OR
  have key := ord_key a b c
  rw [hx, hy, hz] at key
  have h0 := ord_zero a b
  rw [hx] at h0
  have hT := ord_time a b
  rw [hx] at hT
  have hC := ord_chip a b
  rw [hx] at hC
  have H0 := Lib.hid h0
  have HT := Lib.hid hT
  have HC := Lib.hid hC
  have KEY := Lib.hid key
  clear hx hy hz hr h0 hT hC key
  unfold Ev.val
  go_enter Tryd.func5, Tryd.ntmps5
  go_wp2_with fail
  refine hL.out.mono ?_
  rintro e w1 ⟨rfl, hb⟩
  have hA1 := hA0.below hb (by rw [hsz]; omega)
  have hB1 := hB0.below hb (by rw [hsz]; omega)
  have hC1 := hC0.below hb (by rw [hsz]; omega)
  have hBw1 : Below w.heap.size w w1 := hBw.trans (hb.mono (by rw [hsz]; omega))
  clear hA0 hB0 hC0 hBw hb hsz hL
  have a0 := fun p => (hA1.of p).c0
  have a1 := fun p => (hA1.of p).c1
  have a2 := fun p => (hA1.of p).c2
  have a3 := fun p => (hA1.of p).c3
  have a4 := fun p => (hA1.of p).c4
  have a5 := fun p => (hA1.of p).c5
  have b0 := fun p => (hB1.of p).c0
  have b1 := fun p => (hB1.of p).c1
  have b2 := fun p => (hB1.of p).c2
  have b3 := fun p => (hB1.of p).c3
  have b4 := fun p => (hB1.of p).c4
  have b5 := fun p => (hB1.of p).c5
  have c0 := fun p => (hC1.of p).c0
  have c1 := fun p => (hC1.of p).c1
  have c2 := fun p => (hC1.of p).c2
  have c3 := fun p => (hC1.of p).c3
  have c4 := fun p => (hC1.of p).c4
  have c5 := fun p => (hC1.of p).c5
  go_upto_region 3 with fail
  refine M.region_ (by kernel_rfl) ?_
  refine M.seg_ [0, 1, 3, 4, 6, 7] 6 _ _ (M.Base.refl _) (by kernel_rfl) (by kernel_rfl) (by kernel_rfl) (by simp only [pickOps, mask, plain, List.getElem?_toArray, List.getElem?_cons_zero, List.getElem?_cons_succ, if_true]; rfl) ?_
  repeat (go_big_quiet_step (fail))
  refine wpQuiet_nil ?_
  clear a0 a1 a2 a3 a4 a5 b0 b1 b2 b3 b4 b5 c0 c1 c2 c3 c4 c5
  refine M.calm_ (i := 2) (.int .i64 x) rfl (by kernel_rfl) (by kernel_rfl) (by kernel_rfl) (by kernel_rfl) ?_ ?_
  · intro wz sz
    unfold Oper.does
    go_simp
    exact (OX.out wz).mono fun e w' ⟨he, hw⟩ => ⟨_, he, rfl, Save.of_below hw⟩
  refine M.calm_ (i := 5) (.int .i64 y) rfl (by kernel_rfl) (by kernel_rfl) (by kernel_rfl) (by kernel_rfl) ?_ ?_
  · intro wz sz
    unfold Oper.does
    go_simp
    exact (OY.out wz).mono fun e w' ⟨he, hw⟩ => ⟨_, he, rfl, Save.of_below hw⟩
  refine M.calm_ (i := 8) (.int .i64 z) rfl (by kernel_rfl) (by kernel_rfl) (by kernel_rfl) (by kernel_rfl) ?_ ?_
  · intro wz sz
    unfold Oper.does
    go_simp
    exact (OZ.out wz).mono fun e w' ⟨he, hw⟩ => ⟨_, he, rfl, Save.of_below hw⟩
  go_simp
  refine M.seg_ [9, 10, 11] 0 _ _ (M.Base.refl _) (by kernel_rfl) (by kernel_rfl) (by kernel_rfl) (by simp only [pickOps, mask, plain, List.getElem?_toArray, List.getElem?_cons_zero, List.getElem?_cons_succ, if_true]; rfl) ?_
  repeat (go_big_quiet_step (fail))
  refine wpQuiet_nil ?_
  refine M.end_ (by kernel_rfl) ?_
  intro wc sc
  have hA2 := hA1.below sc.2 hA1.lt
  have hB2 := hB1.below sc.2 hB1.lt
  have hBw2 := hBw1.trans (sc.2.mono hBw1.size)
  clear hA1 hB1 hC1 hBw1 sc OX OY OZ
  obtain ⟨a0, a1, a2, a3, a4, a5⟩ := hA2.ev
  obtain ⟨b0, b1, b2, b3, b4, b5⟩ := hB2.ev
  go_wp2_with fail
  clear a0 a1 a2 a3 a4 a5 b0 b1 b2 b3 b4 b5
  refine (OR.out wc).mono ?_
  rintro e w3 ⟨rfl, hb⟩
  have hA3 := hA2.below hb hA2.lt
  have hB3 := hB2.below hb hB2.lt
  have hBw3 := hBw2.trans (hb.mono hBw2.size)
  clear hb hA2 hB2 hBw2 OR
  obtain ⟨a0, a1, a2, a3, a4, a5⟩ := hA3.ev
  obtain ⟨b0, b1, b2, b3, b4, b5⟩ := hB3.ev
  have key := KEY.out
  clear KEY
  rcases key with rfl | ⟨rfl, rfl⟩ | ⟨rfl, rfl, rfl⟩ | ⟨rfl, rfl, rfl⟩ | ⟨rfl, rfl⟩ | ⟨rfl, rfl, rfl⟩ | ⟨rfl, rfl, rfl⟩
  · have HN : Hid (a ≠ b) := Lib.hid (fun h => absurd (H0.out.2 h) (by decide))
    clear H0
    go_wp2_with fail
    all_goals first
      | exact absurd (ev_ext ‹_› ‹_› ‹_› ‹_› ‹_› ‹_›) HN.out
      | (go_ret; exact ⟨rfl, hBw3⟩)
      | (have h1 := HT.out ‹¬ a.time = b.time›; go_ret; exact ⟨ret_b (by simp; omega), hBw3⟩)
      | (have h1 := HC.out ‹a.time = b.time› ‹¬ a.chip = b.chip›; go_ret; exact ⟨ret_b (by simp; omega), hBw3⟩)
  · have hab : a = b := H0.out.1 rfl
    subst hab
    clear H0 HT HC
    go_wp2_with fail
    all_goals
      go_ret
      exact ⟨rfl, hBw3⟩
  · have hab : a = b := H0.out.1 rfl
    subst hab
    clear H0 HT HC
    go_wp2_with fail
    all_goals
      go_ret
      exact ⟨rfl, hBw3⟩
  · have hab : a = b := H0.out.1 rfl
    subst hab
    clear H0 HT HC
    go_wp2_with fail
    all_goals
      go_ret
      exact ⟨rfl, hBw3⟩
  · have HN : Hid (a ≠ b) := Lib.hid (fun h => absurd (H0.out.2 h) (by decide))
    clear H0
    go_wp2_with fail
    all_goals first
      | exact absurd (ev_ext ‹_› ‹_› ‹_› ‹_› ‹_› ‹_›) HN.out
      | (go_ret; exact ⟨rfl, hBw3⟩)
      | (have h1 := HT.out ‹¬ a.time = b.time›; go_ret; exact ⟨ret_b (by simp; omega), hBw3⟩)
      | (have h1 := HC.out ‹a.time = b.time› ‹¬ a.chip = b.chip›; go_ret; exact ⟨ret_b (by simp; omega), hBw3⟩)
  · have HN : Hid (a ≠ b) := Lib.hid (fun h => absurd (H0.out.2 h) (by decide))
    clear H0
    go_wp2_with fail
    all_goals first
      | exact absurd (ev_ext ‹_› ‹_› ‹_› ‹_› ‹_› ‹_›) HN.out
      | (go_ret; exact ⟨rfl, hBw3⟩)
      | (have h1 := HT.out ‹¬ a.time = b.time›; go_ret; exact ⟨ret_b (by simp; omega), hBw3⟩)
      | (have h1 := HC.out ‹a.time = b.time› ‹¬ a.chip = b.chip›; go_ret; exact ⟨ret_b (by simp; omega), hBw3⟩)
  · have HN : Hid (a ≠ b) := Lib.hid (fun h => absurd (H0.out.2 h) (by decide))
    clear H0
    go_wp2_with fail
    all_goals first
      | exact absurd (ev_ext ‹_› ‹_› ‹_› ‹_› ‹_› ‹_›) HN.out
      | (go_ret; exact ⟨rfl, hBw3⟩)
      | (have h1 := HT.out ‹¬ a.time = b.time›; go_ret; exact ⟨ret_b (by simp; omega), hBw3⟩)
      | (have h1 := HC.out ‹a.time = b.time› ‹¬ a.chip = b.chip›; go_ret; exact ⟨ret_b (by simp; omega), hBw3⟩)
end Go.Proofs.YtpkmphalhmmbkaaDoor
