/- The walk of TstateFits. -/
import Derived.Test.YtbjhdmhligjplaaX5
import Derived.Test.YtbjhdmhligjplaaO
namespace Go.Proofs.Ytbjhdmhligjplaa
open Go.RowKit

set_option maxHeartbeats 2000000 in
set_option maxRecDepth 100000 in
theorem fits_not (w : World) (s : Scr) (t : Int) (hm : ¬ s.May) : Calls Try.prog 13 #[s.val, .int .i64 t] w fun e w' => e = .returned (.bool true) ∧ Below w.heap.size w w' := by
  have hval : s.val = .agg #[.int .i64 s.lines, .int .i64 s.columns, .int .i64 s.top, .int .i64 s.rows, .int .i64 s.left, .int .i64 s.wide, .int .i64 s.pulse] := rfl
  rw [hval]
  have HV := Lib.hid hval
  clear hval
  go_enter Try.func13, Try.ntmps13
  go_wp2_with fail
  refine (lives2_any _).mono ?_
  rintro e w2 ⟨rfl, hb⟩
  have hS2 : SB w2 w.heap.size s := SB.laid s (hb.mono (by simp))
  have hB2 : Below w.heap.size w w2 := ((Below.refl _ _).alloc (Nat.le_refl _) _).trans (hb.mono (by simp))
  have hw2 : w.heap.size < w2.heap.size := by have := hb.size; simp at this; omega
  clear hb
  obtain ⟨c0, c1, c2, c3, c4, c5, c6⟩ := hS2
  have hS2 : SB w2 w.heap.size s := ⟨c0, c1, c2, c3, c4, c5, c6⟩
  go_wp2_with fail
  clear c0 c1 c2 c3 c4 c5 c6
  rw [← HV.out]
  refine (check_any _ s).mono ?_
  rintro e w3 ⟨h, hb⟩
  obtain rfl : e = .returned (.int .i64 2) := by
    rcases h with ⟨_, h⟩ | ⟨h, _⟩
    · exact absurd h hm
    · exact h
  clear h
  have hS3 := hS2.below hb hw2
  have hB3 := hB2.trans (hb.mono hB2.size)
  have hw3 : w.heap.size < w3.heap.size := by have := hb.size; omega
  clear hb hS2
  obtain ⟨c0, c1, c2, c3, c4, c5, c6⟩ := hS3
  have hS3 : SB w3 w.heap.size s := ⟨c0, c1, c2, c3, c4, c5, c6⟩
  go_wp2_with fail
  clear c0 c1 c2 c3 c4 c5 c6
  rw [← HV.out]
  refine (length_any _ s).mono ?_
  rintro e w4 ⟨rfl, hb⟩
  rw [Scr.len_not hm]
  have hS4 := hS3.below hb hw3
  have hB4 := hB3.trans (hb.mono hB3.size)
  clear hb hS3
  obtain ⟨c0, c1, c2, c3, c4, c5, c6⟩ := hS4
  go_wp2_with fail
  clear c0 c1 c2 c3 c4 c5 c6
  rw [← HV.out]
  refine (pulse_any _ s t).mono ?_
  rintro e w5 ⟨⟨r, rfl, hr⟩, hb⟩
  obtain rfl : r = false := by
    cases r with
    | false => rfl
    | true => exact absurd (hr.1 rfl).1 hm
  clear hr
  have hB5 := hB4.trans (hb.mono hB4.size)
  go_wp2_with fail
  go_ret
  exact ⟨rfl, hB5⟩

set_option maxHeartbeats 4000000 in
set_option maxRecDepth 100000 in
theorem fits_may (w : World) (s : Scr) (t : Int) (hm : s.May) : Calls Try.prog 13 #[s.val, .int .i64 t] w fun e w' => e = .returned (.bool true) ∧ Below w.heap.size w w' := by
  have hval : s.val = .agg #[.int .i64 s.lines, .int .i64 s.columns, .int .i64 s.top, .int .i64 s.rows, .int .i64 s.left, .int .i64 s.wide, .int .i64 s.pulse] := rfl
  obtain ⟨hl, hl0, hl1⟩ := Scr.len_may hm
  have a0 := hm 0 (by omega)
  have a1 := hm 1 (by omega)
  have a3 := hm 3 (by omega)
  have a4 := hm 4 (by omega)
  have a5 := hm 5 (by omega)
  have a6 := hm 6 (by omega)
  have a7 := hm 7 (by omega)
  have a8 := hm 8 (by omega)
  simp only [Scr.asks] at a0 a1 a3 a4 a5 a6 a7 a8
  rw [hval]
  have HV := Lib.hid hval
  clear hval
  go_enter Try.func13, Try.ntmps13
  go_wp2_with fail
  refine (lives2_any _).mono ?_
  rintro e w2 ⟨rfl, hb⟩
  have hS2 : SB w2 w.heap.size s := SB.laid s (hb.mono (by simp))
  have hB2 : Below w.heap.size w w2 := ((Below.refl _ _).alloc (Nat.le_refl _) _).trans (hb.mono (by simp))
  have hw2 : w.heap.size < w2.heap.size := by have := hb.size; simp at this; omega
  clear hb
  obtain ⟨c0, c1, c2, c3, c4, c5, c6⟩ := hS2
  have hS2 : SB w2 w.heap.size s := ⟨c0, c1, c2, c3, c4, c5, c6⟩
  go_wp2_with fail
  clear c0 c1 c2 c3 c4 c5 c6
  rw [← HV.out]
  refine (check_any _ s).mono ?_
  rintro e w3 ⟨h, hb⟩
  obtain rfl : e = .returned (.int .i64 0) := by
    rcases h with ⟨h, _⟩ | ⟨_, h⟩
    · exact h
    · exact absurd hm h
  clear h
  have hS3 := hS2.below hb hw2
  have hB3 := hB2.trans (hb.mono hB2.size)
  have hw3 : w.heap.size < w3.heap.size := by have := hb.size; omega
  clear hb hS2
  rw [hl] at hl0 hl1
  have HL := Lib.hid hl
  clear hl
  generalize hn : s.lines * s.columns = n at *
  have hng : (decide (n < s.pulse)) = false := by simp; omega
  have k1 : (decide (s.lines < s.top + s.rows)) = false := by simp; omega
  have k2 : (decide (s.columns < s.left + 4 * s.wide)) = false := by simp; omega
  have hnn : (n != n) = false := by simp
  go_upto_region 5 with fail
  have hs : ∀ p : Later (fun _ => False) w3, SB p.w w.heap.size s := fun p => hS3.below p.ok.all hw3
  have c0 := fun p => (hs p).c0
  have c1 := fun p => (hs p).c1
  have c2 := fun p => (hs p).c2
  have c3 := fun p => (hs p).c3
  have c4 := fun p => (hs p).c4
  have c5 := fun p => (hs p).c5
  have c6 := fun p => (hs p).c6
  clear hs
  refine region_ (fun _ => False) (by kernel_rfl) ?_
  refine seg_ [0, 1, 2, 3, 4, 5, 6, 7, 8, 9, 10, 11, 12, 13, 14, 15, 16, 17, 18, 19, 20, 21, 22] 13 _ (by kernel_rfl) (by kernel_rfl) (by kernel_rfl) (by simp only [pickOps, mask, plain, List.getElem?_toArray, List.getElem?_cons_zero, List.getElem?_cons_succ, if_true]; rfl) ?_
  repeat (go_big_quiet_step (fail))
  refine wpQuiet_nil ?_
  clear c0 c1 c2 c3 c4 c5 c6
  rw [← HV.out]
  refine call_ (i := 23) rfl (by kernel_rfl) (by kernel_rfl) ?_
  intro wx hx
  unfold Oper.does
  go_simp
  refine (length_any wx s).mono ?_
  rintro e w4 ⟨he, hb⟩
  rw [HL.out] at he
  refine ⟨_, he, same_ hx (Save.of_below hb) ?_⟩
  have hS4 := (hS3.below hx.all hw3).below hb (by have := hx.size; omega)
  have hB4 := (hB3.trans (hx.all.mono hB3.size)).trans (hb.mono (by have := hx.size; have := hB3.size; omega))
  have hw4 : w.heap.size < w4.heap.size := by have := hb.size; have := hx.size; omega
  clear hb he hS3
  have hs : ∀ p : Later (fun _ => False) w4, SB p.w w.heap.size s := fun p => hS4.below p.ok.all hw4
  have c0 := fun p => (hs p).c0
  have c1 := fun p => (hs p).c1
  have c2 := fun p => (hs p).c2
  have c3 := fun p => (hs p).c3
  have c4 := fun p => (hs p).c4
  have c5 := fun p => (hs p).c5
  have c6 := fun p => (hs p).c6
  clear hs
  refine seg_ [24, 25, 26, 27, 29, 30, 31, 32, 33] 3 _ (by kernel_rfl) (by kernel_rfl) (by kernel_rfl) (by simp only [pickOps, mask, plain, List.getElem?_toArray, List.getElem?_cons_zero, List.getElem?_cons_succ, if_true]; rfl) ?_
  repeat (go_big_quiet_step (fail))
  refine wpQuiet_nil ?_
  clear c0 c1 c2 c3 c4 c5 c6
  rw [← HV.out]
  refine call_ (i := 28) rfl (by kernel_rfl) (by kernel_rfl) ?_
  intro wy hy
  unfold Oper.does
  go_simp
  refine (length_any wy s).mono ?_
  rintro e w5 ⟨he, hb⟩
  rw [HL.out] at he
  refine ⟨_, he, same_ hy (Save.of_below hb) ?_⟩
  have hS5 := (hS4.below hy.all hw4).below hb (by have := hy.size; omega)
  have hB5 := (hB4.trans (hy.all.mono hB4.size)).trans (hb.mono (by have := hy.size; have := hB4.size; omega))
  have hw5 : w.heap.size < w5.heap.size := by have := hb.size; have := hy.size; omega
  clear hb he hS4
  have hs : ∀ p : Later (fun _ => False) w5, SB p.w w.heap.size s := fun p => hS5.below p.ok.all hw5
  have c0 := fun p => (hs p).c0
  have c1 := fun p => (hs p).c1
  have c2 := fun p => (hs p).c2
  have c3 := fun p => (hs p).c3
  have c4 := fun p => (hs p).c4
  have c5 := fun p => (hs p).c5
  have c6 := fun p => (hs p).c6
  clear hs
  refine seg_ [34, 35] 0 _ (by kernel_rfl) (by kernel_rfl) (by kernel_rfl) (by simp only [pickOps, mask, plain, List.getElem?_toArray, List.getElem?_cons_zero, List.getElem?_cons_succ, if_true]; rfl) ?_
  repeat (go_big_quiet_step (fail))
  refine wpQuiet_nil ?_
  clear c0 c1 c2 c3 c4 c5 c6
  refine end_ (by kernel_rfl) ?_
  intro w6 hE
  have hS6 := hS5.below hE.all hw5
  have hB6 := hB5.trans (hE.all.mono hB5.size)
  have hw6 : w.heap.size < w6.heap.size := by have := hE.size; omega
  clear hE hS5
  obtain ⟨c0, c1, c2, c3, c4, c5, c6⟩ := hS6
  have hS6 : SB w6 w.heap.size s := ⟨c0, c1, c2, c3, c4, c5, c6⟩
  by_cases ht : t < 0
  · go_wp2_with fail
    go_ret
    exact ⟨rfl, hB6.alloc hB6.size _⟩
  · obtain ⟨s1, hs1⟩ : ∃ s1 : Scr, s1 = { s with lines := s.lines + 1 } := ⟨_, rfl⟩
    have hval1 : s1.val = .agg #[.int .i64 (s.lines + 1), .int .i64 s.columns, .int .i64 s.top, .int .i64 s.rows, .int .i64 s.left, .int .i64 s.wide, .int .i64 s.pulse] := by rw [hs1]; rfl
    have HV1 := Lib.hid hval1
    have HS1 := Lib.hid hs1
    clear hval1 hs1
    go_wp2_with fail
    clear c0 c1 c2 c3 c4 c5 c6
    rw [← HV.out]
    refine (length_any _ s).mono ?_
    rintro e w7 ⟨he, hb⟩
    rw [HL.out] at he
    subst he
    have hz := hb.size
    simp at hz
    have hS7 : SB w7 w.heap.size s := (hS6.below ((Below.refl _ _).alloc (Nat.le_refl _) _) hw6).below hb (by simp; omega)
    have hM7 : SB w7 w6.heap.size s1 := by rw [HS1.out]; exact SB.laid { s with lines := s.lines + 1 } (hb.mono (by simp))
    have hB7 : Below w.heap.size w w7 := (hB6.alloc hB6.size _).trans (hb.mono (by simp; omega))
    have hw7 : w6.heap.size < w7.heap.size := by omega
    clear hb hz hS6
    by_cases hge : n ≤ t
    · go_wp2_with fail
      go_ret
      exact ⟨rfl, hB7⟩
    · obtain ⟨c0, c1, c2, c3, c4, c5, c6⟩ := hM7
      have hM7 : SB w7 w6.heap.size s1 := ⟨c0, c1, c2, c3, c4, c5, c6⟩
      rw [HS1.out] at c0 c1 c2 c3 c4 c5 c6
      simp only at c0 c1 c2 c3 c4 c5 c6
      go_wp2_with fail
      clear c0 c1 c2 c3 c4 c5 c6
      rw [← HV1.out]
      refine (check_any _ s1).mono ?_
      rintro e w8 ⟨h, hb⟩
      have hS8 := hS7.below hb (by omega)
      have hM8 := hM7.below hb hw7
      have hB8 := hB7.trans (hb.mono hB7.size)
      have hw8 : w6.heap.size < w8.heap.size := by have := hb.size; omega
      clear hb hS7 hM7
      rcases h with ⟨rfl, hm1⟩ | ⟨rfl, _⟩
      · obtain ⟨c0, c1, c2, c3, c4, c5, c6⟩ := hS8
        have hS8 : SB w8 w.heap.size s := ⟨c0, c1, c2, c3, c4, c5, c6⟩
        go_wp2_with fail
        clear c0 c1 c2 c3 c4 c5 c6
        rw [← HV.out]
        have hl2 : s1.len = n + s.columns := by
          rw [(Scr.len_may hm1).1, HS1.out]
          simp only
          rw [Int.add_mul, Int.one_mul, hn]
        have hd1 : t / n = 0 := Int.ediv_eq_zero_of_lt (by omega) (by omega)
        have hd2 : t % n = t := Int.emod_eq_of_lt (by omega) (by omega)
        have hd3 : t / (n + s.columns) = 0 := Int.ediv_eq_zero_of_lt (by omega) (by omega)
        have hd4 : t % (n + s.columns) = t := Int.emod_eq_of_lt (by omega) (by omega)
        have hc1 : s1.columns = s.columns := by rw [HS1.out]
        obtain ⟨q, hq⟩ : ∃ q, t / s.columns = q := ⟨_, rfl⟩
        obtain ⟨r, hr⟩ : ∃ r, t % s.columns = r := ⟨_, rfl⟩
        refine (spot_any w8 s t).mono ?_
        rintro e w9 ⟨⟨he, _⟩, hb⟩
        have he := he ⟨hm, by omega, by omega⟩
        rw [HL.out, hd1, hd2, hq, hr] at he
        unfold spotV at he
        subst he
        have hM9 := hM8.below hb hw8
        have hB9 := hB8.trans (hb.mono hB8.size)
        have hw9 : w6.heap.size < w9.heap.size := by have := hb.size; omega
        clear hb hM8 hd1 hd2
        obtain ⟨c0, c1, c2, c3, c4, c5, c6⟩ := hM9
        have hM9 : SB w9 w6.heap.size s1 := ⟨c0, c1, c2, c3, c4, c5, c6⟩
        rw [HS1.out] at c0 c1 c2 c3 c4 c5 c6
        simp only at c0 c1 c2 c3 c4 c5 c6
        have H3 := Lib.hid hd3
        have H4 := Lib.hid hd4
        have HC := Lib.hid hc1
        have HL2 := Lib.hid hl2
        have HQ := Lib.hid hq
        have HR := Lib.hid hr
        clear hd3 hd4 hc1 hl2 hq hr
        go_wp2_with fail
        clear c0 c1 c2 c3 c4 c5 c6
        rw [← HV1.out]
        refine (spot_any _ s1 t).mono ?_
        rintro e w10 ⟨⟨he, _⟩, hb⟩
        have he := he ⟨hm1, by omega, by omega⟩
        rw [HL2.out, H3.out, H4.out, HC.out, HQ.out, HR.out] at he
        unfold spotV at he
        subst he
        have hP : SP w10 w9.heap.size 0 q r := SP.laid 0 q r (hb.mono (by simp))
        have hz := hb.size
        simp at hz
        have hB10 : Below w.heap.size w w10 := (hB9.alloc hB9.size _).trans (hb.mono (by have := hB9.size; simp; omega))
        have hw10 : w9.heap.size < w10.heap.size := by omega
        clear hb hz
        obtain ⟨d0, d1, d2⟩ := hP
        go_wp2_with fail
        go_ret
        exact ⟨rfl, hB10.alloc hB10.size _⟩
      · go_wp2_with fail
        go_ret
        exact ⟨rfl, hB8⟩

theorem walk_TstateFits (w : World) (s : Scr) (_ : s.wf) (t : Int) (_ : (Lit.int .i64 t).wf = true) : Calls Try.prog 13 #[s.val, .int .i64 t] w fun e w' => e = .returned (.bool true) ∧ Below w.heap.size w w' := by
  by_cases hm : s.May
  · exact fits_may w s t hm
  · exact fits_not w s t hm
end Go.Proofs.Ytbjhdmhligjplaa
