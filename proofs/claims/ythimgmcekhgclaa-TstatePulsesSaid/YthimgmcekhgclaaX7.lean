/- The walk of TstatePulses. -/
import Derived.Test.YthimgmcekhgclaaZ
import Derived.Test.YthimgmcekhgclaaO
namespace Go.Proofs.Ythimgmcekhgclaa
open Go.RowKit

/-- Pick: in reach, whatever comes in. -/
theorem pick_in (n m : Int) (w : World) (_ : -9223372036854775808 ≤ n) (_ : n < 9223372036854775808) (hm0 : 0 < m) (hm1 : m < 1000000000) :
    Calls Try.prog 32 #[.int .i64 n, .int .i64 m] w fun e w' => (∃ r : Nat, (r : Int) < m ∧ e = .returned (.int .i64 r)) ∧ w = w' := by
  have hr0 := Int.tmod_lt_of_pos n hm0
  have hr1 : -m < n.tmod m := by
    have := Int.tmod_lt_of_pos (-n) hm0
    rw [Int.neg_tmod] at this; omega
  go_enter Try.func32, Try.ntmps32
  by_cases hneg : n.tmod m < 0
  · go_wp2_with fail
    go_ret
    exact ⟨⟨(n.tmod m + m).toNat, by omega, by rw [Int.toNat_of_nonneg (by omega)]; rfl⟩, rfl⟩
  · go_wp2_with fail
    go_ret
    exact ⟨⟨(n.tmod m).toNat, by omega, by rw [Int.toNat_of_nonneg (by omega)]; rfl⟩, rfl⟩

set_option maxHeartbeats 2000000 in
set_option maxRecDepth 100000 in
theorem pulses_not (w : World) (s : Scr) (x y z n : Int) (hm : ¬ s.May ∨ x < 0 ∨ y < x ∨ z < y ∨ 1099511627776 < z) : Calls Try.prog 12 #[s.val, .int .i64 x, .int .i64 y, .int .i64 z, .int .i64 n] w fun e w' => e = .returned (.bool true) ∧ Below w.heap.size w w' := by
  have hval : s.val = .agg #[.int .i64 s.lines, .int .i64 s.columns, .int .i64 s.top, .int .i64 s.rows, .int .i64 s.left, .int .i64 s.wide, .int .i64 s.pulse] := rfl
  rw [hval]
  have HV := Lib.hid hval
  clear hval
  go_enter Try.func12, Try.ntmps12
  go_wp2_with fail
  refine (lives2_any _).mono ?_
  rintro e w2 ⟨rfl, hb⟩
  have hS2 : SB w2 w.heap.size s := SB.laid s (hb.mono (by simp))
  have hB2 : Below w.heap.size w w2 := ((Below.refl _ _).alloc (Nat.le_refl _) _).trans (hb.mono (by simp))
  have hw2 : w.heap.size < w2.heap.size := by have := hb.size; simp at this; omega
  clear hb
  obtain ⟨c0, c1, c2, c3, c4, c5, c6⟩ := hS2
  have hS2 : SB w2 w.heap.size s := ⟨c0, c1, c2, c3, c4, c5, c6⟩
  go_wp2_with fail
  clear c0 c1 c2 c3 c4 c5 c6
  rw [← HV.out]
  refine (check_any _ s).mono ?_
  rintro e w3 ⟨h, hb⟩
  have hB3 := hB2.trans (hb.mono hB2.size)
  clear hb hS2
  rcases h with ⟨rfl, hmay⟩ | ⟨rfl, _⟩
  · have hm := hm.resolve_left (fun h => h hmay)
    by_cases h1 : x < 0
    · go_wp2_with fail
      go_ret
      exact ⟨rfl, hB3⟩
    · by_cases h2 : y < x
      · go_wp2_with fail
        go_ret
        exact ⟨rfl, hB3⟩
      · by_cases h3 : z < y
        · go_wp2_with fail
          go_ret
          exact ⟨rfl, hB3⟩
        · have h4 : 1099511627776 < z := by omega
          go_wp2_with fail
          go_ret
          exact ⟨rfl, hB3⟩
  · go_wp2_with fail
    go_ret
    exact ⟨rfl, hB3⟩

theorem Scr.pulse_len {s : Scr} (h : s.May) : s.pulse ≤ s.len := by
  have h8 := h 8 (by omega)
  rw [(Scr.len_may h).1]
  exact h8

set_option maxHeartbeats 8000000 in
set_option maxRecDepth 100000 in
theorem pulses_may (w : World) (s : Scr) (x y z n : Int) (hm : s.May) (hx : 0 ≤ x) (hy : x ≤ y) (hz : y ≤ z) (hzm : z ≤ 1099511627776) (hn : (Lit.int .i64 n).wf = true) : Calls Try.prog 12 #[s.val, .int .i64 x, .int .i64 y, .int .i64 z, .int .i64 n] w fun e w' => e = .returned (.bool true) ∧ Below w.heap.size w w' := by
  have hval : s.val = .agg #[.int .i64 s.lines, .int .i64 s.columns, .int .i64 s.top, .int .i64 s.rows, .int .i64 s.left, .int .i64 s.wide, .int .i64 s.pulse] := rfl
  obtain ⟨hl, hl0, hl1⟩ := Scr.len_may hm
  have hpl := Scr.pulse_len hm
  have hpm := Scr.pulse_may hm
  have hC := hm 1 (by omega)
  simp only [Scr.asks] at hC
  obtain ⟨n0, n1⟩ := bounds_i64 hn
  rw [hval]
  have HV := Lib.hid hval
  clear hval hl
  go_enter Try.func12, Try.ntmps12
  go_wp2_with fail
  refine (lives2_any _).mono ?_
  rintro e w2 ⟨rfl, hb⟩
  have hS2 : SB w2 w.heap.size s := SB.laid s (hb.mono (by simp))
  have hB2 : Below w.heap.size w w2 := ((Below.refl _ _).alloc (Nat.le_refl _) _).trans (hb.mono (by simp))
  have hw2 : w.heap.size < w2.heap.size := by have := hb.size; simp at this; omega
  clear hb
  obtain ⟨c0, c1, c2, c3, c4, c5, c6⟩ := hS2
  have hS2 : SB w2 w.heap.size s := ⟨c0, c1, c2, c3, c4, c5, c6⟩
  go_wp2_with fail
  clear c0 c1 c2 c3 c4 c5 c6
  rw [← HV.out]
  refine (check_any _ s).mono ?_
  rintro e w3 ⟨h, hb⟩
  obtain rfl : e = .returned (.int .i64 0) := by
    rcases h with ⟨h, _⟩ | ⟨_, h⟩
    · exact h
    · exact absurd hm h
  clear h
  have hS3 := hS2.below hb hw2
  have hB3 := hB2.trans (hb.mono hB2.size)
  have hw3 : w.heap.size < w3.heap.size := by have := hb.size; omega
  clear hb hS2
  go_upto_region 5 with fail
  have hs : ∀ p : Later (fun _ => False) w3, SB p.w w.heap.size s := fun p => hS3.below p.ok.all hw3
  have c0 := fun p => (hs p).c0
  have c1 := fun p => (hs p).c1
  have c2 := fun p => (hs p).c2
  have c3 := fun p => (hs p).c3
  have c4 := fun p => (hs p).c4
  have c5 := fun p => (hs p).c5
  have c6 := fun p => (hs p).c6
  clear hs
  refine region_ (fun _ => False) (by kernel_rfl) ?_
  refine seg_ [0, 1, 2, 4, 5, 6, 9, 10, 11] 5 _ (by kernel_rfl) (by kernel_rfl) (by kernel_rfl) (by simp only [pickOps, mask, plain, List.getElem?_toArray, List.getElem?_cons_zero, List.getElem?_cons_succ, if_true]; rfl) ?_
  repeat (go_big_quiet_step (fail))
  refine wpQuiet_nil ?_
  clear c0 c1 c2 c3 c4 c5 c6
  have hbx := pulsesB_bd s.len s.pulse x hl0 hpm.1 hpm.2
  have hby := pulsesB_bd s.len s.pulse y hl0 hpm.1 hpm.2
  have hbz := pulsesB_bd s.len s.pulse z hl0 hpm.1 hpm.2
  rw [← HV.out]
  refine call_ (i := 3) rfl (by kernel_rfl) (by kernel_rfl) ?_
  intro wx hx'
  have hBx := hB3.trans (hx'.all.mono hB3.size)
  unfold Oper.does
  go_simp
  refine (pulses_le wx s x y hm hy).mono ?_
  rintro e w4 ⟨rfl, hb⟩
  refine ⟨_, rfl, same_ hx' (Save.of_below hb) ?_⟩
  have hS4 := (hS3.below hx'.all hw3).below hb (by have := hx'.size; omega)
  have hB4 := hBx.trans (hb.mono hBx.size)
  have hw4 : w.heap.size < w4.heap.size := by have := hb.size; have := hx'.size; omega
  clear hb hS3
  refine call_ (i := 7) rfl (by kernel_rfl) (by kernel_rfl) ?_
  intro wy hy'
  have hBy := hB4.trans (hy'.all.mono hB4.size)
  unfold Oper.does
  go_simp
  refine (pulses_le wy s y z hm hz).mono ?_
  rintro e w5 ⟨rfl, hb⟩
  refine ⟨_, rfl, same_ hy' (Save.of_below hb) ?_⟩
  have hS5 := (hS4.below hy'.all hw4).below hb (by have := hy'.size; omega)
  have hB5 := hBy.trans (hb.mono hBy.size)
  have hw5 : w.heap.size < w5.heap.size := by have := hb.size; have := hy'.size; omega
  clear hb hS4
  obtain ⟨px, hpx⟩ : ∃ v, pulsesB s.len s.pulse x = v := ⟨_, rfl⟩
  obtain ⟨py, hpy⟩ : ∃ v, pulsesB s.len s.pulse y = v := ⟨_, rfl⟩
  obtain ⟨pz, hpz⟩ : ∃ v, pulsesB s.len s.pulse z = v := ⟨_, rfl⟩
  rw [hpx] at hbx
  rw [hpy] at hby
  rw [hpz] at hbz
  simp only [hpx, hpy, hpz]
  have HPX := Lib.hid hpx
  have HPZ := Lib.hid hpz
  clear hpx hpy hpz
  have hne : (py - px + (pz - py) != pz - px) = false := by simp; omega
  refine seg_ [8] 2 _ (by kernel_rfl) (by kernel_rfl) (by kernel_rfl) (by simp only [pickOps, mask, plain, List.getElem?_toArray, List.getElem?_cons_zero, List.getElem?_cons_succ, if_true]; rfl) ?_
  repeat (go_big_quiet_step (fail))
  refine wpQuiet_nil ?_
  refine call_ (i := 12) rfl (by kernel_rfl) (by kernel_rfl) ?_
  intro wz hz'
  have hBz := hB5.trans (hz'.all.mono hB5.size)
  unfold Oper.does
  go_simp
  refine (pulses_le wz s x z hm (by omega)).mono ?_
  rintro e w6 ⟨he, hb⟩
  rw [HPX.out, HPZ.out] at he
  subst he
  refine ⟨_, rfl, same_ hz' (Save.of_below hb) ?_⟩
  have hS6 := (hS5.below hz'.all hw5).below hb (by have := hz'.size; omega)
  have hB6 := hBz.trans (hb.mono hBz.size)
  have hw6 : w.heap.size < w6.heap.size := by have := hb.size; have := hz'.size; omega
  clear hb hS5
  refine seg_ [13] 0 _ (by kernel_rfl) (by kernel_rfl) (by kernel_rfl) (by simp only [pickOps, mask, plain, List.getElem?_toArray, List.getElem?_cons_zero, List.getElem?_cons_succ, if_true]; rfl) ?_
  repeat (go_big_quiet_step (fail))
  refine wpQuiet_nil ?_
  refine end_ (by kernel_rfl) ?_
  intro w7 hE
  have hS7 := hS6.below hE.all hw6
  have hB7 := hB6.trans (hE.all.mono hB6.size)
  have hw7 : w.heap.size < w7.heap.size := by have := hE.size; omega
  clear hE hS6 hBx hBy hBz hx' hy' hz' hne
  go_wp2_with fail
  refine (pick_in n 500 _ n0 (by omega) (by omega) (by omega)).mono ?_
  rintro e w8 ⟨⟨k, hk, rfl⟩, rfl⟩
  go_wp2_with fail
  go_loopw [12, 13] (fun sm i wr => ∃ j : Nat, j ≤ k ∧ i = .int .i64 j ∧ sm = .int .i64 (pulsesD s.len s.pulse x j) ∧ SB wr w.heap.size s ∧ Below w.heap.size w wr ∧ w.heap.size < wr.heap.size) (fun _ i _ => k - (intOf i).toNat)
  case atStart => exact ⟨0, by omega, rfl, by rw [pulsesD_zero], hS7, hB7, hw7⟩
  case round =>
    obtain ⟨j, hj, rfl, rfl, hS, hB, hw⟩ := hrel
    clear hS7 hB7 hw7
    have hd := pulsesD_bd s.len s.pulse x hl0 hpm.1 hpl hx j
    by_cases hlt : j < k
    · have HS := Lib.hid (pulsesD_succ s.len s.pulse x j hl0 hpm.1 hpl hx)
      obtain ⟨c0, c1, c2, c3, c4, c5, c6⟩ := hS
      have hS : SB wr w.heap.size s := ⟨c0, c1, c2, c3, c4, c5, c6⟩
      go_wp2_with fail
      clear c0 c1 c2 c3 c4 c5 c6
      rw [← HV.out]
      refine (pulse_any _ s (x + j)).mono ?_
      rintro e wq ⟨⟨r, rfl, hr⟩, hb⟩
      have hSq := hS.below hb hw
      have hBq := hB.trans (hb.mono hB.size)
      have hwq : w.heap.size < wq.heap.size := by have := hb.size; omega
      clear hb hS hB
      cases r with
      | true =>
        have HT := Lib.hid (hr.1 rfl)
        clear hr
        go_wp2_with fail
        go_roundw
        case rel => exact ⟨j + 1, by omega, by go_num, by rw [HS.out, if_pos ⟨HT.out.2.2.1, HT.out.2.2.2⟩], hSq, hBq, hwq⟩
        case measure => simp [intOf]; omega
      | false =>
        have HT := Lib.hid (show ¬ (x + j ≤ 1099511627776 ∧ (x + j) % s.len < s.pulse) from fun h => Bool.false_ne_true (hr.2 ⟨hm, by omega, h⟩))
        clear hr
        go_wp2_with fail
        go_roundw
        case rel => exact ⟨j + 1, by omega, by go_num, by rw [HS.out, if_neg HT.out, Int.add_zero], hSq, hBq, hwq⟩
        case measure => simp [intOf]; omega
    · obtain rfl : j = k := by omega
      obtain ⟨c0, c1, c2, c3, c4, c5, c6⟩ := hS
      have hS : SB wr w.heap.size s := ⟨c0, c1, c2, c3, c4, c5, c6⟩
      go_wp2_with fail
      clear c0 c1 c2 c3 c4 c5 c6
      rw [← HV.out]
      obtain ⟨a0, a1, a2, a3⟩ := nextOf_any hl0 hx
      refine (next_any _ s x).mono ?_
      rintro e w8 ⟨he, hb⟩
      obtain ⟨a, ha⟩ : ∃ v, (nextOf s.len x).1 = v := ⟨_, rfl⟩
      obtain ⟨is, hi⟩ : ∃ v, (nextOf s.len x).2 = v := ⟨_, rfl⟩
      rw [ha, hi] at he
      rw [ha] at a0 a1 a2 a3
      rw [hi] at a3
      clear ha hi
      subst he
      have hS8 := hS.below hb hw
      have hB8 := hB.trans (hb.mono hB.size)
      have hw8 : w.heap.size < w8.heap.size := by have := hb.size; omega
      clear hb hS hB
      obtain ⟨c0, c1, c2, c3, c4, c5, c6⟩ := hS8
      have hS8 : SB w8 w.heap.size s := ⟨c0, c1, c2, c3, c4, c5, c6⟩
      have A2 := Lib.hid a2
      have A3 := Lib.hid a3
      clear a2 a3
      go_wp2_with fail
      clear c0 c1 c2 c3 c4 c5 c6
      rw [← HV.out]
      refine (spot_any w8 s a).mono ?_
      rintro e w9 ⟨⟨he, _⟩, hb⟩
      have he := he ⟨hm, by omega, by omega⟩
      rw [A2.out, Int.zero_ediv, Int.zero_emod] at he
      obtain ⟨q, hq⟩ : ∃ v, a / s.len = v := ⟨_, rfl⟩
      rw [hq] at he
      clear hq
      unfold spotV at he
      subst he
      have hS9 := hS8.below hb hw8
      have hB9 := hB8.trans (hb.mono hB8.size)
      have hw9 : w.heap.size < w9.heap.size := by have := hb.size; omega
      clear hb hS8 hB8
      obtain ⟨c0, c1, c2, c3, c4, c5, c6⟩ := hS9
      have hS9 : SB w9 w.heap.size s := ⟨c0, c1, c2, c3, c4, c5, c6⟩
      go_wp2_with fail
      clear c0 c1 c2 c3 c4 c5 c6
      rw [← HV.out]
      refine (pulses_le _ s x (x + j) hm (by omega)).mono ?_
      rintro e w10 ⟨he, hb⟩
      have he : e = .returned (.int .i64 (pulsesD s.len s.pulse x j)) := he
      subst he
      have hz10 := hb.size
      simp at hz10
      have hS10 : SB w10 w.heap.size s := (hS9.below ((Below.refl _ _).alloc (Nat.le_refl _) _) hw9).below hb (by simp; omega)
      have hP10 : SP w10 w9.heap.size q 0 0 := SP.laid q 0 0 (hb.mono (by simp))
      have hB10 : Below w.heap.size w w10 := (hB9.alloc hB9.size _).trans (hb.mono (by have := hB9.size; simp; omega))
      have hw10 : w9.heap.size < w10.heap.size := by omega
      clear hb hz10 hS9 hB9
      have heq : (pulsesD s.len s.pulse x j == pulsesD s.len s.pulse x j) = true := by simp
      cases is with
      | false =>
        go_wp2_with fail
        go_ret
        exact ⟨rfl, hB10⟩
      | true =>
        obtain ⟨b1, b2⟩ := A3.out rfl
        have b3 : decide (a - x ≤ s.len) = true := by simpa using b2
        obtain ⟨c0, c1, c2, c3, c4, c5, c6⟩ := hS10
        go_wp2_with fail
        clear c0 c1 c2 c3 c4 c5 c6
        rw [← HV.out]
        refine (length_any _ s).mono ?_
        rintro e w11 ⟨rfl, hb⟩
        have hP11 := hP10.below hb hw10
        have hB11 := hB10.trans (hb.mono hB10.size)
        clear hb hP10 hB10
        obtain ⟨d0, d1, d2⟩ := hP11
        go_wp2_with fail
        go_ret
        exact ⟨rfl, hB11⟩

theorem walk_TstatePulses (w : World) (s : Scr) (_ : s.wf) (x : Int) (_ : (Lit.int .i64 x).wf = true) (y : Int) (_ : (Lit.int .i64 y).wf = true) (z : Int) (_ : (Lit.int .i64 z).wf = true) (n : Int) (hn : (Lit.int .i64 n).wf = true) : Calls Try.prog 12 #[s.val, .int .i64 x, .int .i64 y, .int .i64 z, .int .i64 n] w fun e w' => e = .returned (.bool true) ∧ Below w.heap.size w w' := by
  by_cases h : ¬ s.May ∨ x < 0 ∨ y < x ∨ z < y ∨ 1099511627776 < z
  · exact pulses_not w s x y z n h
  · have hm : s.May := Classical.byContradiction fun h' => h (.inl h')
    exact pulses_may w s x y z n hm (by omega) (by omega) (by omega) (by omega) hn
end Go.Proofs.Ythimgmcekhgclaa
