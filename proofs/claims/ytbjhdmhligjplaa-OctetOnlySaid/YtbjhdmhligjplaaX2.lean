/- The walk of OctetOnly. -/
import Derived.Test.YtbjhdmhligjplaaV
import Derived.Deep.DeepCutAuto
import Derived.Test.YtbjhdmhligjplaaY
namespace Go.Proofs.Ytbjhdmhligjplaa
open Go.RowKit

/-- Three readers of the same bytes, and what was there is there. -/
structure Three (w0 w : World) (l : List Int) (lo1 g1 lo2 g2 lo3 g3 : Nat) (A1 A2 A3 : Option Addr) (c1 c2 c3 p1 p2 p3 : Nat) (e1 e2 e3 : Int) : Prop where
  bel : Below w0.heap.size w0 w
  r1 : RdrZ w lo1 g1 A1 c1 l p1 e1
  r2 : RdrZ w lo2 g2 A2 c2 l p2 e2
  r3 : RdrZ w lo3 g3 A3 c3 l p3 e3
  h0 : w0.heap.size ≤ lo1
  h12 : g1 < lo2
  h23 : g2 < lo3

section
variable {w0 w w' : World} {l : List Int} {lo1 g1 lo2 g2 lo3 g3 : Nat} {A1 A2 A3 : Option Addr} {c1 c2 c3 p1 p2 p3 p : Nat} {e1 e2 e3 e : Int}
theorem Three.step1 (h : Three w0 w l lo1 g1 lo2 g2 lo3 g3 A1 A2 A3 c1 c2 c3 p1 p2 p3 e1 e2 e3) (hr : Rdr w' g1 A1 c1 l p e) (hg : w.grownBy w' (some g1)) : Three w0 w' l lo1 g1 lo2 g2 lo3 g3 A1 A2 A3 c1 c2 c3 p p2 p3 e e2 e3 := by
  have := h.r1.lo_le; have := h.r2.lo_le; have := h.h0; have := h.h12; have := h.h23
  exact ⟨h.bel.grown hg h.bel.size (by rintro k ⟨⟩; omega), h.r1.to hr, h.r2.other hg (by omega), h.r3.other hg (by omega), h.h0, h.h12, h.h23⟩
theorem Three.step2 (h : Three w0 w l lo1 g1 lo2 g2 lo3 g3 A1 A2 A3 c1 c2 c3 p1 p2 p3 e1 e2 e3) (hr : Rdr w' g2 A2 c2 l p e) (hg : w.grownBy w' (some g2)) : Three w0 w' l lo1 g1 lo2 g2 lo3 g3 A1 A2 A3 c1 c2 c3 p1 p p3 e1 e e3 := by
  have := h.r1.lo_le; have := h.r2.lo_le; have := h.h0; have := h.h12; have := h.h23
  exact ⟨h.bel.grown hg h.bel.size (by rintro k ⟨⟩; omega), h.r1.other hg (by omega), h.r2.to hr, h.r3.other hg (by omega), h.h0, h.h12, h.h23⟩
theorem Three.step3 (h : Three w0 w l lo1 g1 lo2 g2 lo3 g3 A1 A2 A3 c1 c2 c3 p1 p2 p3 e1 e2 e3) (hr : Rdr w' g3 A3 c3 l p e) (hg : w.grownBy w' (some g3)) : Three w0 w' l lo1 g1 lo2 g2 lo3 g3 A1 A2 A3 c1 c2 c3 p1 p2 p e1 e2 e := by
  have := h.r1.lo_le; have := h.r2.lo_le; have := h.r3.lo_le; have := h.h0; have := h.h12; have := h.h23
  exact ⟨h.bel.grown hg h.bel.size (by rintro k ⟨⟩; omega), h.r1.other hg (by omega), h.r2.other hg (by omega), h.r3.to hr, h.h0, h.h12, h.h23⟩
theorem Three.below (h : Three w0 w l lo1 g1 lo2 g2 lo3 g3 A1 A2 A3 c1 c2 c3 p1 p2 p3 e1 e2 e3) (hb : Below w.heap.size w w') : Three w0 w' l lo1 g1 lo2 g2 lo3 g3 A1 A2 A3 c1 c2 c3 p1 p2 p3 e1 e2 e3 :=
  ⟨h.bel.trans (hb.mono h.bel.size), h.r1.belowH hb, h.r2.belowH hb, h.r3.belowH hb, h.h0, h.h12, h.h23⟩
theorem Three.drewN (h : Three w0 w l lo1 g1 lo2 g2 lo3 g3 A1 A2 A3 c1 c2 c3 p1 p2 p3 e1 e2 e3) (n : Nat) : Three w0 (w.drewN n) l lo1 g1 lo2 g2 lo3 g3 A1 A2 A3 c1 c2 c3 p1 p2 p3 e1 e2 e3 :=
  h.below ⟨rfl, rfl, rfl, Nat.le_refl _, fun _ _ => rfl⟩
end

set_option maxHeartbeats 1000000 in
theorem only_long (w : World) (A : Option Addr) (c n : Nat) (h1 : 3000 < n) : Calls Try.prog 7 #[.slice A n c] w fun e w' => e = .returned (.bool true) ∧ Below w.heap.size w w' := by
  go_enter Try.func7, Try.ntmps7
  go_wp2_with fail
  refine (lives_any _).mono ?_
  rintro e w1 ⟨rfl, hb⟩
  go_wp2_with fail
  go_ret
  exact ⟨rfl, hb⟩

set_option maxHeartbeats 4000000 in
set_option maxRecDepth 100000 in
theorem walk_OctetOnly (w : World) (A : Option Addr) (c n : Nat) (l : List Int) (hn : n = l.length) (h : RB w w.heap.size A c l) : Calls Try.prog 7 #[.slice A n c] w fun e w' => e = .returned (.bool true) ∧ Below w.heap.size w w' := by
  by_cases h1 : 3000 < n
  · exact only_long w A c n h1
  subst hn
  go_enter Try.func7, Try.ntmps7
  go_wp2_with fail
  refine (lives_any _).mono ?_
  rintro e w1 ⟨rfl, hb1⟩
  go_wp2_with fail
  refine (own_any A c _ l w1 _ rfl (h.below hb1) hb1.size (by omega)).mono ?_
  rintro e w2 ⟨A2, c2, rfl, ho2, hb2⟩
  go_wp2_with fail
  refine (new_any A2 c2 _ l w2 _ rfl ho2.rb (Nat.le_refl _) (by omega)).mono ?_
  rintro e w3 ⟨g1, A1, c1, rfl, hr1, hb3, hg1, ha1⟩
  have hB3 : Below w.heap.size w w3 := (hb1.trans (hb2.mono hb1.size)).trans (hb3.mono (by have := hb1.size; have := hb2.size; omega))
  have hz1 : RdrZ w3 w2.heap.size g1 A1 c1 l 0 0 := ⟨hr1, hg1, ha1⟩
  have hlo1 : w.heap.size ≤ w2.heap.size := by have := hb1.size; have := hb2.size; omega
  clear hr1 hb1 hb2 hb3 hg1 ha1 ho2
  go_wp2_with fail
  refine (own_any A c _ l w3 _ rfl (h.below hB3) hB3.size (by omega)).mono ?_
  rintro e w4 ⟨A4, c4, rfl, ho4, hb4⟩
  go_wp2_with fail
  refine (new_any A4 c4 _ l w4 _ rfl ho4.rb (Nat.le_refl _) (by omega)).mono ?_
  rintro e w5 ⟨g2, A2, c2, rfl, hr2, hb5, hg2, ha2⟩
  have hB5 : Below w.heap.size w w5 := (hB3.trans (hb4.mono hB3.size)).trans (hb5.mono (by have := hB3.size; have := hb4.size; omega))
  have hz2 : RdrZ w5 w4.heap.size g2 A2 c2 l 0 0 := ⟨hr2, hg2, ha2⟩
  have h12 : g1 < w4.heap.size := by have := hz1.rdr.lt; have := hb4.size; omega
  replace hz1 := (hz1.belowH hb4).belowH hb5
  clear hr2 hb4 hb5 hg2 ha2 ho4 hB3
  go_wp2_with fail
  refine (own_any A c _ l w5 _ rfl (h.below hB5) hB5.size (by omega)).mono ?_
  rintro e w6 ⟨A6, c6, rfl, ho6, hb6⟩
  go_wp2_with fail
  refine (new_any A6 c6 _ l w6 _ rfl ho6.rb (Nat.le_refl _) (by omega)).mono ?_
  rintro e w7 ⟨g3, A3, c3, rfl, hr3, hb7, hg3, ha3⟩
  have hB7 : Below w.heap.size w w7 := (hB5.trans (hb6.mono hB5.size)).trans (hb7.mono (by have := hB5.size; have := hb6.size; omega))
  have h23 : g2 < w6.heap.size := by have := hz2.rdr.lt; have := hb6.size; omega
  have T0 : Three w w7 l w2.heap.size g1 w4.heap.size g2 w6.heap.size g3 A1 A2 A3 c1 c2 c3 0 0 0 0 0 0 :=
    ⟨hB7, (hz1.belowH hb6).belowH hb7, (hz2.belowH hb6).belowH hb7, ⟨hr3, hg3, ha3⟩, hlo1, h12, h23⟩
  clear hr3 hb6 hb7 hg3 ha3 ho6 hB5 hB7 hz1 hz2 hlo1 h12 h23
  generalize w2.heap.size = lo1 at *
  generalize w4.heap.size = lo2 at *
  generalize w6.heap.size = lo3 at *
  have hall := h.bytes
  have hnum : numSt l 0 0 = ((numRd l).1, (numRd l).2.1, (numRd l).2.2) := by simp [numSt]
  have hback := numB_numRd l hall
  have hxx := numRd_err l
  have hv := numRd_le l hall
  generalize hr : numRd l = r at *
  obtain ⟨v, k, x⟩ := r
  simp only at hnum hback hxx hv
  have HBK := Lib.hid hback
  clear hback hr
  go_wp2_with fail
  refine (rnumber_any g1 A1 c1 _ 0 0 _ T0.r1.rdr).mono ?_
  rintro e w8 ⟨he, hr8, hg8⟩
  rw [hnum] at he hr8
  subst he
  have T1 := T0.step1 (by simpa using hr8) hg8
  clear hr8 hg8 T0
  go_upto_region 7 with fail
  go_cut [43] (fun s wc => s = .bool false ∧ Three w wc l lo1 g1 lo2 g2 lo3 g3 A1 A2 A3 c1 c2 c3 k 0 0 x 0 0)
  case first =>
    rcases hxx with rfl | rfl | rfl
    · obtain ⟨heq, hkl⟩ := HBK.out rfl
      have hpos : 0 < l.length := by have := congrArg List.length heq; have := (numB_length v).1; rw [List.length_take] at *; omega
      obtain ⟨b, off, rfl, hbb, _⟩ := h.pos hpos
      have hlc := h.le
      have hcm : c ≤ 9223372036854775807 := by have := h.cap; unfold maxLen at this; omega
      have HE := Lib.hid heq
      have hpre := h.pre k hkl
      have hk2 : (l.length : Int) - ((l.length : Int) - (k : Int)) = k := by omega
      clear heq
      refine region_ (fun _ => False) (by kernel_rfl) ?_
      refine seg_ [0] 16 _ (by kernel_rfl) (by kernel_rfl) (by kernel_rfl) (by simp only [pickOps, mask, plain, List.getElem?_toArray, List.getElem?_cons_zero, if_true]; rfl) ?_
      repeat (go_big_quiet_step (fail))
      refine wpQuiet_nil ?_
      refine call_ (i := 1) rfl (by kernel_rfl) (by kernel_rfl) ?_
      intro wx hx
      have T2 := T1.below hx.all
      unfold Oper.does
      go_simp
      refine (err_any g1 0 wx T2.r1.rdr.c0 T2.r1.rdr.c3).mono ?_
      rintro e w9 ⟨rfl, rfl⟩
      refine ⟨_, rfl, same_ hx (Save.refl _ _) ?_⟩
      refine seg_ [2, 3, 4, 7, 8, 9, 10] 8 _ (by kernel_rfl) (by kernel_rfl) (by kernel_rfl) (by simp only [pickOps, mask, plain, List.getElem?_toArray, List.getElem?_cons_zero, List.getElem?_cons_succ, if_true]; rfl) ?_
      repeat (go_big_quiet_step (fail))
      refine wpQuiet_nil ?_
      refine call_ (i := 5) rfl (by kernel_rfl) (by kernel_rfl) ?_
      intro wy hy
      have T3 := T2.below hy.all
      unfold Oper.does
      go_simp
      refine (number_nil v wy hv).mono ?_
      rintro e w10 ⟨A10, c10, rfl, ho10, hb10⟩
      refine ⟨_, rfl, same_ hy (Save.of_below hb10) ?_⟩
      have T4 := T3.below hb10
      have hs1 : ∀ p : Later (fun _ => False) w10, (convert 24 9 (.slice A10 (numB v).length c10)).run Try.prog p.w = .ok (.string (strOfNums (numB v))) p.w := fun p => str_rb _ _ A10 c10 _ _ (ho10.rb.belowH p.ok.all) rfl
      refine seg_ [6] 6 _ (by kernel_rfl) (by kernel_rfl) (by kernel_rfl) (by simp only [pickOps, mask, plain, List.getElem?_toArray, List.getElem?_cons_zero, List.getElem?_cons_succ, if_true]; rfl) ?_
      repeat (go_big_quiet_step (fail))
      refine wpQuiet_nil ?_
      refine call_ (i := 11) rfl (by kernel_rfl) (by kernel_rfl) ?_
      intro wz hz
      have T5 := T4.below hz.all
      unfold Oper.does
      go_simp
      refine (left_any g1 A1 c1 l.length k wz T5.r1.rdr.c1 T5.r1.rdr.c2 hkl (by omega)).mono ?_
      rintro e w11 ⟨rfl, n11, rfl⟩
      refine ⟨_, rfl, same_ hz (Save.drewN _ _ _) ?_⟩
      have T6 := T5.drewN n11
      have hs2 : ∀ p : Later (fun _ => False) (wz.drewN n11), (convert 24 9 (.slice (some ⟨b, off, none⟩) k c)).run Try.prog p.w = .ok (.string (strOfNums (numB v))) p.w := fun p => by
        rw [HE.out]
        exact str_rb _ _ _ c _ _ (hpre.below (T6.bel.trans (p.ok.all.mono T6.bel.size))) (by rw [List.length_take]; omega)
      refine seg_ [12, 13, 14, 15, 16] 0 _ (by kernel_rfl) (by kernel_rfl) (by kernel_rfl) (by simp only [pickOps, mask, plain, List.getElem?_toArray, List.getElem?_cons_zero, List.getElem?_cons_succ, if_true]; rfl) ?_
      repeat (go_big_quiet_step (fail))
      refine wpQuiet_nil ?_
      refine end_ (by kernel_rfl) ?_
      intro w12 h12
      go_wp2_with fail
      go_meet
      exact ⟨rfl, T6.below h12.all⟩
    · refine region_ (fun _ => False) (by kernel_rfl) ?_
      refine seg_ [0] 16 _ (by kernel_rfl) (by kernel_rfl) (by kernel_rfl) (by simp only [pickOps, mask, plain, List.getElem?_toArray, List.getElem?_cons_zero, if_true]; rfl) ?_
      repeat (go_big_quiet_step (fail))
      refine wpQuiet_nil ?_
      refine call_ (i := 1) rfl (by kernel_rfl) (by kernel_rfl) ?_
      intro wx hx
      have T2 := T1.below hx.all
      unfold Oper.does
      go_simp
      refine (err_any g1 4 wx T2.r1.rdr.c0 T2.r1.rdr.c3).mono ?_
      rintro e w9 ⟨rfl, rfl⟩
      refine ⟨_, rfl, same_ hx (Save.refl _ _) ?_⟩
      refine seg_ [2, 3, 4, 5, 6, 7, 8, 9, 10, 11, 12, 13, 14, 15, 16] 0 _ (by kernel_rfl) (by kernel_rfl) (by kernel_rfl) (by simp only [pickOps, mask, plain, List.getElem?_toArray, List.getElem?_cons_zero, List.getElem?_cons_succ, if_true, if_false, Bool.false_eq_true]; rfl) ?_
      repeat (go_big_quiet_step (fail))
      refine wpQuiet_nil ?_
      refine end_ (by kernel_rfl) ?_
      intro w12 h12
      go_wp2_with fail
      go_meet
      exact ⟨rfl, T2.below h12.all⟩
    · refine region_ (fun _ => False) (by kernel_rfl) ?_
      refine seg_ [0] 16 _ (by kernel_rfl) (by kernel_rfl) (by kernel_rfl) (by simp only [pickOps, mask, plain, List.getElem?_toArray, List.getElem?_cons_zero, if_true]; rfl) ?_
      repeat (go_big_quiet_step (fail))
      refine wpQuiet_nil ?_
      refine call_ (i := 1) rfl (by kernel_rfl) (by kernel_rfl) ?_
      intro wx hx
      have T2 := T1.below hx.all
      unfold Oper.does
      go_simp
      refine (err_any g1 5 wx T2.r1.rdr.c0 T2.r1.rdr.c3).mono ?_
      rintro e w9 ⟨rfl, rfl⟩
      refine ⟨_, rfl, same_ hx (Save.refl _ _) ?_⟩
      refine seg_ [2, 3, 4, 5, 6, 7, 8, 9, 10, 11, 12, 13, 14, 15, 16] 0 _ (by kernel_rfl) (by kernel_rfl) (by kernel_rfl) (by simp only [pickOps, mask, plain, List.getElem?_toArray, List.getElem?_cons_zero, List.getElem?_cons_succ, if_true, if_false, Bool.false_eq_true]; rfl) ?_
      repeat (go_big_quiet_step (fail))
      refine wpQuiet_nil ?_
      refine end_ (by kernel_rfl) ?_
      intro w12 h12
      go_wp2_with fail
      go_meet
      exact ⟨rfl, T2.below h12.all⟩
  case rest =>
    obtain ⟨rfl, T2⟩ := hcut
    clear T1
    go_wp2_with fail
    refine (rsigned_any g2 A2 c2 _ 0 0 _ T2.r2.rdr).mono ?_
    rintro e w13 ⟨he, hr13, hg13⟩
    rw [hnum] at he hr13
    subst he
    have T3 := T2.step2 (by simpa using hr13) hg13
    clear hr13 hg13 T2
    have hyb := unfoldN_bd v hv
    have hyf := fold_unfold v
    have HYF := Lib.hid hyf
    clear hyf
    obtain ⟨hyb0, hyb1⟩ := hyb
    generalize unfoldN v = y at *
    go_upto_region 10 with fail
    go_cut [69] (fun s wc => s = .bool false ∧ Three w wc l lo1 g1 lo2 g2 lo3 g3 A1 A2 A3 c1 c2 c3 k k 0 x x 0)
    case first =>
      rcases hxx with rfl | rfl | rfl
      · obtain ⟨heq, hkl⟩ := HBK.out rfl
        have hpos : 0 < l.length := by have := congrArg List.length heq; have := (numB_length v).1; rw [List.length_take] at *; omega
        obtain ⟨b, off, rfl, hbb, _⟩ := h.pos hpos
        have hlc := h.le
        have hcm : c ≤ 9223372036854775807 := by have := h.cap; unfold maxLen at this; omega
        have HE := Lib.hid heq
        have hpre := h.pre k hkl
        have hk2 : (l.length : Int) - ((l.length : Int) - (k : Int)) = k := by omega
        clear heq
        refine region_ (fun _ => False) (by kernel_rfl) ?_
        refine seg_ [0] 23 _ (by kernel_rfl) (by kernel_rfl) (by kernel_rfl) (by simp only [pickOps, mask, plain, List.getElem?_toArray, List.getElem?_cons_zero, if_true]; rfl) ?_
        repeat (go_big_quiet_step (fail))
        refine wpQuiet_nil ?_
        refine call_ (i := 1) rfl (by kernel_rfl) (by kernel_rfl) ?_
        intro wx hwx
        have T4 := T3.below hwx.all
        unfold Oper.does
        go_simp
        refine (err_any g2 0 wx T4.r2.rdr.c0 T4.r2.rdr.c3).mono ?_
        rintro e w9 ⟨rfl, rfl⟩
        refine ⟨_, rfl, same_ hwx (Save.refl _ _) ?_⟩
        refine seg_ [2, 3, 4, 7, 8, 9, 10] 15 _ (by kernel_rfl) (by kernel_rfl) (by kernel_rfl) (by simp only [pickOps, mask, plain, List.getElem?_toArray, List.getElem?_cons_zero, List.getElem?_cons_succ, if_true]; rfl) ?_
        repeat (go_big_quiet_step (fail))
        refine wpQuiet_nil ?_
        refine call_ (i := 5) rfl (by kernel_rfl) (by kernel_rfl) ?_
        intro wy hwy
        have T5 := T4.below hwy.all
        unfold Oper.does
        go_simp
        refine (signed_nil y wy hyb0 hyb1).mono ?_
        rw [HYF.out]
        rintro e w10 ⟨A10, c10, rfl, ho10, hb10⟩
        refine ⟨_, rfl, same_ hwy (Save.of_below hb10) ?_⟩
        have T6 := T5.below hb10
        have hs1 : ∀ p : Later (fun _ => False) w10, (convert 24 9 (.slice A10 (numB v).length c10)).run Try.prog p.w = .ok (.string (strOfNums (numB v))) p.w := fun p => str_rb _ _ A10 c10 _ _ (ho10.rb.belowH p.ok.all) rfl
        refine seg_ [6] 13 _ (by kernel_rfl) (by kernel_rfl) (by kernel_rfl) (by simp only [pickOps, mask, plain, List.getElem?_toArray, List.getElem?_cons_zero, List.getElem?_cons_succ, if_true]; rfl) ?_
        repeat (go_big_quiet_step (fail))
        refine wpQuiet_nil ?_
        refine call_ (i := 11) rfl (by kernel_rfl) (by kernel_rfl) ?_
        intro wz hwz
        have T7 := T6.below hwz.all
        unfold Oper.does
        go_simp
        refine (left_any g2 A2 c2 l.length k wz T7.r2.rdr.c1 T7.r2.rdr.c2 hkl (by omega)).mono ?_
        rintro e w11 ⟨rfl, n11, rfl⟩
        refine ⟨_, rfl, same_ hwz (Save.drewN _ _ _) ?_⟩
        have T8 := T7.drewN n11
        have hs2 : ∀ p : Later (fun _ => False) (wz.drewN n11), (convert 24 9 (.slice (some ⟨b, off, none⟩) k c)).run Try.prog p.w = .ok (.string (strOfNums (numB v))) p.w := fun p => by
          rw [HE.out]
          exact str_rb _ _ _ c _ _ (hpre.below (T8.bel.trans (p.ok.all.mono T8.bel.size))) (by rw [List.length_take]; omega)
        refine seg_ [12, 13, 14, 15, 16, 17, 19] 5 _ (by kernel_rfl) (by kernel_rfl) (by kernel_rfl) (by simp only [pickOps, mask, plain, List.getElem?_toArray, List.getElem?_cons_zero, List.getElem?_cons_succ, if_true]; rfl) ?_
        repeat (go_big_quiet_step (fail))
        refine wpQuiet_nil ?_
        refine call_ (i := 18) rfl (by kernel_rfl) (by kernel_rfl) ?_
        intro wu hwu
        have T9 := T8.below hwu.all
        unfold Oper.does
        go_simp
        refine (left_any g2 A2 c2 l.length k wu T9.r2.rdr.c1 T9.r2.rdr.c2 hkl (by omega)).mono ?_
        rintro e w12 ⟨rfl, n12, rfl⟩
        refine ⟨_, rfl, same_ hwu (Save.drewN _ _ _) ?_⟩
        have T10 := T9.drewN n12
        refine call_ (i := 20) rfl (by kernel_rfl) (by kernel_rfl) ?_
        intro wv hwv
        have T11 := T10.below hwv.all
        unfold Oper.does
        go_simp
        refine (left_any g1 A1 c1 l.length k wv T11.r1.rdr.c1 T11.r1.rdr.c2 hkl (by omega)).mono ?_
        rintro e w13 ⟨rfl, n13, rfl⟩
        refine ⟨_, rfl, same_ hwv (Save.drewN _ _ _) ?_⟩
        have T12 := T11.drewN n13
        refine seg_ [21, 22, 23] 0 _ (by kernel_rfl) (by kernel_rfl) (by kernel_rfl) (by simp only [pickOps, mask, plain, List.getElem?_toArray, List.getElem?_cons_zero, List.getElem?_cons_succ, if_true]; rfl) ?_
        repeat (go_big_quiet_step (fail))
        refine wpQuiet_nil ?_
        refine end_ (by kernel_rfl) ?_
        intro w14 h14
        go_wp2_with fail
        go_meet
        exact ⟨rfl, T12.below h14.all⟩
      · refine region_ (fun _ => False) (by kernel_rfl) ?_
        refine seg_ [0] 23 _ (by kernel_rfl) (by kernel_rfl) (by kernel_rfl) (by simp only [pickOps, mask, plain, List.getElem?_toArray, List.getElem?_cons_zero, if_true]; rfl) ?_
        repeat (go_big_quiet_step (fail))
        refine wpQuiet_nil ?_
        refine call_ (i := 1) rfl (by kernel_rfl) (by kernel_rfl) ?_
        intro wx hwx
        have T4 := T3.below hwx.all
        unfold Oper.does
        go_simp
        refine (err_any g2 4 wx T4.r2.rdr.c0 T4.r2.rdr.c3).mono ?_
        rintro e w9 ⟨rfl, rfl⟩
        refine ⟨_, rfl, same_ hwx (Save.refl _ _) ?_⟩
        refine seg_ [2, 3, 4, 5, 6, 7, 8, 9, 10, 11, 12, 13, 14, 15, 16, 17, 18, 19, 20, 21, 22, 23] 0 _ (by kernel_rfl) (by kernel_rfl) (by kernel_rfl) (by simp only [pickOps, mask, plain, List.getElem?_toArray, List.getElem?_cons_zero, List.getElem?_cons_succ, if_true, if_false, Bool.false_eq_true]; rfl) ?_
        repeat (go_big_quiet_step (fail))
        refine wpQuiet_nil ?_
        refine end_ (by kernel_rfl) ?_
        intro w14 h14
        go_wp2_with fail
        go_meet
        exact ⟨rfl, T4.below h14.all⟩
      · refine region_ (fun _ => False) (by kernel_rfl) ?_
        refine seg_ [0] 23 _ (by kernel_rfl) (by kernel_rfl) (by kernel_rfl) (by simp only [pickOps, mask, plain, List.getElem?_toArray, List.getElem?_cons_zero, if_true]; rfl) ?_
        repeat (go_big_quiet_step (fail))
        refine wpQuiet_nil ?_
        refine call_ (i := 1) rfl (by kernel_rfl) (by kernel_rfl) ?_
        intro wx hwx
        have T4 := T3.below hwx.all
        unfold Oper.does
        go_simp
        refine (err_any g2 5 wx T4.r2.rdr.c0 T4.r2.rdr.c3).mono ?_
        rintro e w9 ⟨rfl, rfl⟩
        refine ⟨_, rfl, same_ hwx (Save.refl _ _) ?_⟩
        refine seg_ [2, 3, 4, 5, 6, 7, 8, 9, 10, 11, 12, 13, 14, 15, 16, 17, 18, 19, 20, 21, 22, 23] 0 _ (by kernel_rfl) (by kernel_rfl) (by kernel_rfl) (by simp only [pickOps, mask, plain, List.getElem?_toArray, List.getElem?_cons_zero, List.getElem?_cons_succ, if_true, if_false, Bool.false_eq_true]; rfl) ?_
        repeat (go_big_quiet_step (fail))
        refine wpQuiet_nil ?_
        refine end_ (by kernel_rfl) ?_
        intro w14 h14
        go_wp2_with fail
        go_meet
        exact ⟨rfl, T4.below h14.all⟩
    case rest =>
      obtain ⟨rfl, T4⟩ := hcut
      clear T3
      obtain ⟨m, q, x3, hblk, hmb, hml, hx3, hmq⟩ := block_back l hall
      have HMQ := Lib.hid hmq
      clear hmq
      go_wp2_with fail
      refine (rblock_any g3 A3 c3 _ 0 0 _ T4.r3.rdr).mono ?_
      rintro e w20 ⟨A20, c20, he, ho20, hr20, hg20⟩
      rw [hblk] at he ho20 hr20
      subst he
      have T5 := T4.step3 hr20 hg20
      clear hr20 hg20 T4
      go_wp2_with fail
      refine (block_nil A20 _ c20 m w20 w20.heap.size rfl ho20.rb (Nat.le_refl _) hml).mono ?_
      rintro e w21 ⟨A21, c21, he, ho21, hb21⟩
      obtain ⟨nn, hnn⟩ : ∃ nn, nn = (numB m.length ++ m).length := ⟨_, rfl⟩
      rw [← hnn] at he
      subst he
      have HNN := Lib.hid hnn
      clear hnn
      have T6 := T5.below hb21
      clear T5 hb21 ho20
      go_upto_region 14 with fail
      go_cut [2] (fun s wc => s = .bool true ∧ Three w wc l lo1 g1 lo2 g2 lo3 g3 A1 A2 A3 c1 c2 c3 k k q x x x3)
      case first =>
        rcases hx3 with rfl | rfl | rfl | rfl
        · obtain ⟨heq, hql⟩ := HMQ.out rfl
          have hpos : 0 < l.length := by have := congrArg List.length heq; have := (numB_length m.length).1; rw [List.length_append, List.length_take] at *; omega
          obtain ⟨b, off, rfl, hbb, _⟩ := h.pos hpos
          have hlc := h.le
          have hcm : c ≤ 9223372036854775807 := by have := h.cap; unfold maxLen at this; omega
          have HE := Lib.hid heq
          have hpre := h.pre q hql
          have hk2 : (l.length : Int) - ((l.length : Int) - (q : Int)) = q := by omega
          clear heq
          have hs1 : ∀ w' : World, Below w21.heap.size w21 w' → (convert 24 9 (.slice A21 nn c21)).run Try.prog w' = .ok (.string (strOfNums (numB m.length ++ m))) w' := fun w' hb => str_rb _ _ A21 c21 _ _ (ho21.rb.belowH hb) HNN.out
          generalize hst : strOfNums (numB m.length ++ m) = st at *
          have HST := Lib.hid hst
          clear hst
          refine region_ (fun _ => False) (by kernel_rfl) ?_
          refine seg_ [0] 20 _ (by kernel_rfl) (by kernel_rfl) (by kernel_rfl) (by simp only [pickOps, mask, plain, List.getElem?_toArray, List.getElem?_cons_zero, if_true]; rfl) ?_
          repeat (go_big_quiet_step (fail))
          refine wpQuiet_nil ?_
          refine call_ (i := 1) rfl (by kernel_rfl) (by kernel_rfl) ?_
          intro wx hwx
          have T7 := T6.below hwx.all
          unfold Oper.does
          go_simp
          refine (err_any g3 0 wx T7.r3.rdr.c0 T7.r3.rdr.c3).mono ?_
          rintro e w9 ⟨rfl, rfl⟩
          refine ⟨_, rfl, same_ hwx (Save.refl _ _) ?_⟩
          have hs3 : ∀ p : Later (fun _ => False) wx, (convert 24 9 (.slice A21 nn c21)).run Try.prog p.w = .ok (.string st) p.w := fun p => hs1 _ (hwx.trans p.ok).all
          clear hs1
          refine seg_ [2, 3, 4, 5, 6, 7, 8, 9, 10, 11, 12] 8 _ (by kernel_rfl) (by kernel_rfl) (by kernel_rfl) (by simp only [pickOps, mask, plain, List.getElem?_toArray, List.getElem?_cons_zero, List.getElem?_cons_succ, if_true]; rfl) ?_
          repeat (go_big_quiet_step (fail))
          refine wpQuiet_nil ?_
          refine call_ (i := 13) rfl (by kernel_rfl) (by kernel_rfl) ?_
          intro wz hwz
          have T8 := T7.below hwz.all
          unfold Oper.does
          go_simp
          refine (left_any g3 A3 c3 l.length q wz T8.r3.rdr.c1 T8.r3.rdr.c2 hql (by omega)).mono ?_
          rintro e w11 ⟨rfl, n11, rfl⟩
          refine ⟨_, rfl, same_ hwz (Save.drewN _ _ _) ?_⟩
          have T9 := T8.drewN n11
          have hs2 : ∀ p : Later (fun _ => False) (wz.drewN n11), (convert 24 9 (.slice (some ⟨b, off, none⟩) q c)).run Try.prog p.w = .ok (.string st) p.w := fun p => by
            rw [← HST.out, HE.out]
            exact str_rb _ _ _ c _ _ (hpre.below (T9.bel.trans (p.ok.all.mono T9.bel.size))) (by rw [List.length_take]; omega)
          refine seg_ [14, 15, 16, 17, 18, 19, 20] 0 _ (by kernel_rfl) (by kernel_rfl) (by kernel_rfl) (by simp only [pickOps, mask, plain, List.getElem?_toArray, List.getElem?_cons_zero, List.getElem?_cons_succ, if_true]; rfl) ?_
          repeat (go_big_quiet_step (fail))
          refine wpQuiet_nil ?_
          refine end_ (by kernel_rfl) ?_
          intro w14 h14
          go_wp2_with fail
          go_meet
          exact ⟨rfl, T9.below h14.all⟩
        · refine region_ (fun _ => False) (by kernel_rfl) ?_
          refine seg_ [0] 20 _ (by kernel_rfl) (by kernel_rfl) (by kernel_rfl) (by simp only [pickOps, mask, plain, List.getElem?_toArray, List.getElem?_cons_zero, if_true]; rfl) ?_
          repeat (go_big_quiet_step (fail))
          refine wpQuiet_nil ?_
          refine call_ (i := 1) rfl (by kernel_rfl) (by kernel_rfl) ?_
          intro wx hwx
          have T7 := T6.below hwx.all
          unfold Oper.does
          go_simp
          refine (err_any g3 3 wx T7.r3.rdr.c0 T7.r3.rdr.c3).mono ?_
          rintro e w9 ⟨rfl, rfl⟩
          refine ⟨_, rfl, same_ hwx (Save.refl _ _) ?_⟩
          refine seg_ [2, 3, 4, 5, 6, 7, 8, 9, 10, 11, 12, 13, 14, 15, 16, 17, 18, 19, 20] 0 _ (by kernel_rfl) (by kernel_rfl) (by kernel_rfl) (by simp only [pickOps, mask, plain, List.getElem?_toArray, List.getElem?_cons_zero, List.getElem?_cons_succ, if_true, if_false, Bool.false_eq_true]; rfl) ?_
          repeat (go_big_quiet_step (fail))
          refine wpQuiet_nil ?_
          refine end_ (by kernel_rfl) ?_
          intro w14 h14
          go_wp2_with fail
          go_meet
          exact ⟨rfl, T7.below h14.all⟩
        · refine region_ (fun _ => False) (by kernel_rfl) ?_
          refine seg_ [0] 20 _ (by kernel_rfl) (by kernel_rfl) (by kernel_rfl) (by simp only [pickOps, mask, plain, List.getElem?_toArray, List.getElem?_cons_zero, if_true]; rfl) ?_
          repeat (go_big_quiet_step (fail))
          refine wpQuiet_nil ?_
          refine call_ (i := 1) rfl (by kernel_rfl) (by kernel_rfl) ?_
          intro wx hwx
          have T7 := T6.below hwx.all
          unfold Oper.does
          go_simp
          refine (err_any g3 4 wx T7.r3.rdr.c0 T7.r3.rdr.c3).mono ?_
          rintro e w9 ⟨rfl, rfl⟩
          refine ⟨_, rfl, same_ hwx (Save.refl _ _) ?_⟩
          refine seg_ [2, 3, 4, 5, 6, 7, 8, 9, 10, 11, 12, 13, 14, 15, 16, 17, 18, 19, 20] 0 _ (by kernel_rfl) (by kernel_rfl) (by kernel_rfl) (by simp only [pickOps, mask, plain, List.getElem?_toArray, List.getElem?_cons_zero, List.getElem?_cons_succ, if_true, if_false, Bool.false_eq_true]; rfl) ?_
          repeat (go_big_quiet_step (fail))
          refine wpQuiet_nil ?_
          refine end_ (by kernel_rfl) ?_
          intro w14 h14
          go_wp2_with fail
          go_meet
          exact ⟨rfl, T7.below h14.all⟩
        · refine region_ (fun _ => False) (by kernel_rfl) ?_
          refine seg_ [0] 20 _ (by kernel_rfl) (by kernel_rfl) (by kernel_rfl) (by simp only [pickOps, mask, plain, List.getElem?_toArray, List.getElem?_cons_zero, if_true]; rfl) ?_
          repeat (go_big_quiet_step (fail))
          refine wpQuiet_nil ?_
          refine call_ (i := 1) rfl (by kernel_rfl) (by kernel_rfl) ?_
          intro wx hwx
          have T7 := T6.below hwx.all
          unfold Oper.does
          go_simp
          refine (err_any g3 5 wx T7.r3.rdr.c0 T7.r3.rdr.c3).mono ?_
          rintro e w9 ⟨rfl, rfl⟩
          refine ⟨_, rfl, same_ hwx (Save.refl _ _) ?_⟩
          refine seg_ [2, 3, 4, 5, 6, 7, 8, 9, 10, 11, 12, 13, 14, 15, 16, 17, 18, 19, 20] 0 _ (by kernel_rfl) (by kernel_rfl) (by kernel_rfl) (by simp only [pickOps, mask, plain, List.getElem?_toArray, List.getElem?_cons_zero, List.getElem?_cons_succ, if_true, if_false, Bool.false_eq_true]; rfl) ?_
          repeat (go_big_quiet_step (fail))
          refine wpQuiet_nil ?_
          refine end_ (by kernel_rfl) ?_
          intro w14 h14
          go_wp2_with fail
          go_meet
          exact ⟨rfl, T7.below h14.all⟩
      case rest =>
        obtain ⟨rfl, T7⟩ := hcut
        go_wp2_with fail
        go_ret
        exact ⟨rfl, T7.bel⟩
end Go.Proofs.Ytbjhdmhligjplaa
