/-  -/
import Derived.Test.YthnbpdcjooifbaaJ18
import Derived.Test.YthnbpdcjooifbaaJ16
namespace Go.Proofs.Ythnbpdcjooifbaa
open Go.RowKit
set_option linter.unusedSimpArgs false
set_option linter.unusedVariables false

theorem mchk2_any (w : World) (x : Ls) (h : LsAt w w.heap.size x) : Calls Try.prog 25 #[.slice x.A x.l.length x.c] w fun e w' => e = .returned (.int .i64 (chk x.l)) ∧ Below w.heap.size w w' :=
  (mcheck_any w x h).mono fun e w' hc => hc.chk

theorem LsAt.pre {w : World} {B : Nat} {A : Option Addr} {c : Nat} {l : List Ev} (h : LsAt w B ⟨A, c, l⟩) (k : Nat) : LsAt w B ⟨A, c, l.take k⟩ := by
  have hle : l.length ≤ c := h.le
  refine ⟨by simp; omega, h.cap, fun h0 => ?_⟩
  obtain ⟨b, o, h1, h2, h3⟩ := h.at_ (by simp at h0; show 0 < l.length; omega)
  refine ⟨b, o, h1, h2, fun i hi => ?_⟩
  have hi' : i < k ∧ i < l.length := by simp at hi; omega
  have e : (l.take k).getD i ⟨0, 0, 0, 0, 0, 0⟩ = l.getD i ⟨0, 0, 0, 0, 0, 0⟩ := by
    simp only [List.getD_eq_getElem?_getD, List.getElem?_take, if_pos hi'.1]
  show EvAt w b (o + i * 6) ((l.take k).getD i ⟨0, 0, 0, 0, 0, 0⟩)
  rw [e]
  exact h3 i hi'.2

set_option maxRecDepth 100000 in
set_option maxHeartbeats 8000000 in
theorem walk_MergeCuts (w : World) (a1 : Option Addr) (c1 n1 : Nat) (l1 : List Ev) (e1 : n1 = l1.length) (h1 : LsAt w w.heap.size ⟨a1, c1, l1⟩ ∧ (∀ e ∈ l1, e.wf) ∧ (a1 = none → c1 = 0))
    (a2 : Option Addr) (c2 n2 : Nat) (l2 : List Ev) (e2 : n2 = l2.length) (h2 : LsAt w w.heap.size ⟨a2, c2, l2⟩ ∧ (∀ e ∈ l2, e.wf) ∧ (a2 = none → c2 = 0)) (t : Int) (wt : (Lit.int .i64 t).wf = true) :
    Calls Try.prog 7 #[.slice a1 n1 c1, .slice a2 n2 c2, .int .i64 t] w fun e w' => e = .returned (.bool true) ∧ Below w.heap.size w w' := by
  subst e1 e2
  obtain ⟨x0, xw, xn⟩ := h1
  obtain ⟨y0, _, yn⟩ := h2
  have XN := Lib.hid xn
  have YN := Lib.hid yn
  have XW := Lib.hid xw
  have X0 := Lib.hid x0
  have Y0 := Lib.hid y0
  have hc1 : c1 ≤ 9223372036854775807 := x0.cap
  have hc2 : c2 ≤ 9223372036854775807 := y0.cap
  have hl1 : l1.length ≤ c1 := x0.le
  have hl2 : l2.length ≤ c2 := y0.le
  clear xn yn xw wt x0 y0
  go_enter Try.func7, Try.ntmps7
  go_wp2_with fail
  refine (lives4_any w).mono ?_
  rintro e w1 ⟨rfl, b1⟩
  by_cases g1 : 120 < l1.length
  · go_wp2_with fail
    go_ret
    exact ⟨rfl, b1⟩
  by_cases g2 : 120 < l2.length
  · go_wp2_with fail
    go_ret
    exact ⟨rfl, b1⟩
  have HCK := Lib.hid (mchk2_any w1 ⟨a1, c1, l1⟩ (at_later2 X0.out b1))
  dsimp only at HCK
  go_wp2_with fail
  refine HCK.out.mono ?_
  rintro e w2 ⟨rfl, b2⟩
  have b12 := b1.trans (b2.mono b1.size)
  by_cases hck : chk l1 = 0
  case neg =>
    have hb : (chk l1 != 0) = true := by simpa using hck
    clear hck
    go_wp2_with fail
    go_ret
    exact ⟨rfl, b12⟩
  have hb : (chk l1 != 0) = false := by simpa using hck
  have HG := Lib.hid (chk_good hck).1
  have HCT := Lib.hid (cut_any w2 ⟨a1, c1, l1⟩ t (at_later2 X0.out b12) (by show l1.length ≤ _; omega))
  unfold Ls.val at HCT
  clear hck
  go_wp2_with fail
  refine HCT.out.mono ?_
  rintro e w3 ⟨y, z, rfl, hy, hz, hyl, hzl, b3, yn, zn⟩
  have b13 := b12.trans (b3.mono b12.size)
  have hyz : y.l ++ z.l = l1 := by rw [hy, hz]; exact cut_all t l1 (good_times HG.out)
  have h13 : w.heap.size ≤ w3.heap.size := b13.size
  have hlen : y.l.length + z.l.length = l1.length := by rw [← hyz, List.length_append]
  have hya : ∀ i, i < y.l.length → (y.l.getD i evZ).time < t := fun i hi => by
    rw [hy] at hi ⊢
    exact of_decide_eq_true (filter_at hi)
  have hza : ∀ i, i < z.l.length → t ≤ (z.l.getD i evZ).time := fun i hi => by
    rw [hz] at hi ⊢
    exact of_decide_eq_true (filter_at hi)
  have hO : (w3.alloc (.cells #[] 23)).ownsRow w3.heap.size 23 6 (.slice (some ⟨w3.heap.size, 0, none⟩) 0 0) 0 [] := World.ownsRow_made w3 #[] 0 (Nat.le_refl _) (by decide) rfl
  have hB0 : Below w3.heap.size w3 (w3.alloc (.cells #[] 23)) := (Below.refl _ _).alloc (Nat.le_refl _) _
  have HYL := Lib.hid hyl
  have HZL := Lib.hid hzl
  have HYN := Lib.hid yn
  have HZN := Lib.hid zn
  have HYZ := Lib.hid hyz
  have HO := Lib.hid hO
  have HB0 := Lib.hid hB0
  have HLN := Lib.hid hlen
  have HYA := Lib.hid hya
  have HZA := Lib.hid hza
  have B13 := Lib.hid b13
  have hy120 : y.l.length ≤ 120 := by omega
  have hz120 : z.l.length ≤ 120 := by omega
  clear hy hz hyl hzl yn zn hyz hO hB0 hlen hya hza b13 b12 b3
  obtain ⟨AY, hAY⟩ : ∃ A, y.A = A := ⟨_, rfl⟩
  obtain ⟨AZ, hAZ⟩ : ∃ A, z.A = A := ⟨_, rfl⟩
  obtain ⟨nY, hnY⟩ : ∃ n, y.l.length = n := ⟨_, rfl⟩
  obtain ⟨nZ, hnZ⟩ : ∃ n, z.l.length = n := ⟨_, rfl⟩
  have hvy : y.val = .slice AY nY y.c := by unfold Ls.val; rw [hAY, hnY]
  have hvz : z.val = .slice AZ nZ z.c := by unfold Ls.val; rw [hAZ, hnZ]
  rw [hvy, hvz]
  have HVY := Lib.hid hvy
  have HVZ := Lib.hid hvz
  have HAY := Lib.hid hAY
  have HAZ := Lib.hid hAZ
  have HNY := Lib.hid hnY
  have HNZ := Lib.hid hnZ
  clear hvy hvz hAY hAZ hnY hnZ
  go_upto_region 6 with fail
  go_cut [71] from 35 to 71 (fun v wx => v = .bool false ∧ Below w3.heap.size w3 wx)
  case first =>
     go_wp2_with (first
       | (at_builtin; refine wpList_append_ls rfl (.tmp 35) (.tmp 36) 25 rfl Try.underlying25 w3.heap.size _ [] rfl HO.out _ y HVY.out.symm (at_later2 HYL.out HB0.out) HYN.out (by simp only [List.length_append, List.length_nil]; omega) (by simp) ?_; intro v1 wa hown1 hg1; have HB1 := Lib.hid (HB0.out.grown hg1 (by simp) (fun k hk => by obtain rfl := Option.some.inj hk; exact Nat.le_refl _)); have HO1 := Lib.hid hown1; clear hown1 hg1)
       | (at_builtin; refine wpList_append_ls rfl (.tmp 37) (.tmp 38) 25 rfl Try.underlying25 w3.heap.size v1 ([] ++ y.l) rfl HO1.out _ z HVZ.out.symm (at_later2 HZL.out HB1.out) HZN.out (by simp only [List.length_append, List.length_nil]; omega) HB1.out.size ?_; intro v2 wb hown2 hg2; have HB2 := Lib.hid (HB1.out.grown hg2 HB1.out.size (fun k hk => (HO1.out.lt k hk).1)); have HO2 := Lib.hid hown2; clear hown2 hg2; obtain ⟨x2, hx2, hx2l, hx2a, _⟩ := row_to_ls HO2.out; rw [hx2]; unfold Ls.val; have HX2L := Lib.hid hx2l; have HX2A := Lib.hid hx2a; clear hx2l hx2a hx2))
     have b2b := B13.out.trans (HB2.out.mono h13)
     have hE := events_any wb x2 ⟨a1, c1, l1⟩ HX2A.out (at_later2 X0.out b2b)
     rw [decide_eq_true (show x2.l = (⟨a1, c1, l1⟩ : Ls).l by rw [HX2L.out]; simp [HYZ.out])] at hE
     unfold Ls.val at hE
     have HE := Lib.hid hE
     have hwb := HB2.out.size
     clear hE b2b
     refine HE.out.mono ?_
     rintro e w4 ⟨rfl, b4⟩
     have b34 := HB2.out.trans (b4.mono hwb)
     have b14 := B13.out.trans (b34.mono h13)
     have h34 := b34.size
     have hy4 := at_later2 HYL.out b34
     have hz4 := at_later2 HZL.out b34
     have B34 := Lib.hid b34
     have B14 := Lib.hid b14
     have HDF := Lib.hid (differ_any w4 ⟨a1, c1, l1⟩ ⟨a2, c2, l2⟩ (at_later2 X0.out b14) (at_later2 Y0.out b14))
     unfold Ls.val at HDF
     clear b34 b14 b4
     have hyl2 := HNY.out
     have hzl2 := HNZ.out
     have hyc := hy4.le
     have hym : y.c ≤ 9223372036854775807 := hy4.cap
     have hzc := hz4.le
     have hzm : z.c ≤ 9223372036854775807 := hz4.cap
     rw [hyl2] at hyc hy120
     rw [hzl2] at hzc hz120
     have HY4 := Lib.hid hy4
     have HZ4 := Lib.hid hz4
     clear hyl2 hzl2 hy4 hz4
     rcases Nat.eq_zero_or_pos nY with rfl | hy0
     · rcases Nat.eq_zero_or_pos nZ with rfl | hz0
       · go_wp2_with fail
         go_meet
         exact ⟨congrArg Value.bool (by first | rfl | (simp; omega)), B34.out⟩
       · obtain ⟨b, o, hA, _, hat⟩ := HZ4.out.at_ (by have := HNZ.out; omega)
         have c0 := (hat 0 (by have := HNZ.out; omega)).c0
         rw [Nat.zero_mul, Nat.add_zero] at c0
         have ht := HZA.out 0 (by have := HNZ.out; omega)
         obtain ⟨v, hv⟩ : ∃ v, (z.l.getD 0 evZ).time = v := ⟨_, rfl⟩
         rw [hv] at ht
         rw [show (z.l.getD 0 ⟨0, 0, 0, 0, 0, 0⟩).time = v from hv] at c0
         obtain rfl : AZ = some ⟨b, o, none⟩ := HAZ.out.symm.trans hA
         clear hat hv hA
         go_wp2_with fail
         go_meet
         exact ⟨congrArg Value.bool (by first | rfl | (simp; omega)), B34.out⟩
     · obtain ⟨m, rfl⟩ : ∃ m, nY = m + 1 := ⟨nY - 1, by omega⟩
       obtain ⟨b, o, hA, _, hat⟩ := HY4.out.at_ (by have := HNY.out; omega)
       have c0 := (hat m (by have := HNY.out; omega)).c0
       have ht := HYA.out m (by have := HNY.out; omega)
       obtain ⟨v, hv⟩ : ∃ v, (y.l.getD m evZ).time = v := ⟨_, rfl⟩
       rw [hv] at ht
       rw [show (y.l.getD m ⟨0, 0, 0, 0, 0, 0⟩).time = v from hv] at c0
       obtain rfl : AY = some ⟨b, o, none⟩ := HAY.out.symm.trans hA
       clear hat hv hA
       rcases Nat.eq_zero_or_pos nZ with rfl | hz0
       · go_wp2_with fail
         go_meet
         exact ⟨congrArg Value.bool (by first | rfl | (simp; omega)), B34.out⟩
       · obtain ⟨b', o', hA', _, hat'⟩ := HZ4.out.at_ (by have := HNZ.out; omega)
         have f0 := (hat' 0 (by have := HNZ.out; omega)).c0
         rw [Nat.zero_mul, Nat.add_zero] at f0
         have ht' := HZA.out 0 (by have := HNZ.out; omega)
         obtain ⟨v', hv'⟩ : ∃ v, (z.l.getD 0 evZ).time = v := ⟨_, rfl⟩
         rw [hv'] at ht'
         rw [show (z.l.getD 0 ⟨0, 0, 0, 0, 0, 0⟩).time = v' from hv'] at f0
         obtain rfl : AZ = some ⟨b', o', none⟩ := HAZ.out.symm.trans hA'
         clear hat' hv' hA'
         go_wp2_with fail
         go_meet
         exact ⟨congrArg Value.bool (by first | rfl | (simp; omega)), B34.out⟩
  case rest =>
    obtain ⟨rfl, hcb⟩ := hcut
    have b1c := B13.out.trans (hcb.mono h13)
    have HDF := Lib.hid (differ_any wc ⟨a1, c1, l1⟩ ⟨a2, c2, l2⟩ (at_later2 X0.out b1c) (at_later2 Y0.out b1c))
    unfold Ls.val at HDF
    have B1C := Lib.hid b1c
    have hwc := b1c.size
    clear hcb b1c HO HB0 HLN HYA HZA HYL HZL HYN HZN HYZ hy120 hz120 HVY HVZ HAY HAZ HNY HNZ
    go_wp2_with fail
    refine HDF.out.mono ?_
    rintro e w5 ⟨rfl, b5⟩
    have b15 := B1C.out.trans (b5.mono hwc)
    have h15 := b15.size
    have B15 := Lib.hid b15
    clear b15 b5
    dsimp only
    rcases diff_says l1 l2 with ⟨hd, hlm⟩ | ⟨k, hd, hd2, hk⟩
    · rw [hd]
      have HE := Lib.hid (events_any w5 ⟨a1, c1, l1⟩ ⟨a2, c2, l2⟩ (at_later2 X0.out B15.out) (at_later2 Y0.out B15.out))
      unfold Ls.val at HE
      dsimp only at HE
      rw [decide_eq_true hlm] at HE
      clear hd hlm
      go_wp2_with fail
      refine HE.out.mono ?_
      rintro e w6 ⟨rfl, b6⟩
      have b16 := B15.out.trans (b6.mono h15)
      go_wp2_with fail
      go_ret
      exact ⟨rfl, b16⟩
    · rw [hd]
      have HD2 := Lib.hid hd2
      have HK := Lib.hid hk
      have hk1 := hk.le1
      have hk2 := hk.le2
      clear hd hd2 hk
      go_upto_region 11 with fail
      have f1 : decide (l1.length < k) = false := decide_eq_false (by omega)
      have f2 : decide (l2.length < k) = false := decide_eq_false (by omega)
      go_cut [129] from 14 to 129 (fun v wx => v = .bool false ∧ Below w.heap.size w wx)
      case first =>
        have hA1 : (a1 = none ∧ l1 = [] ∧ c1 = 0 ∧ k = 0) ∨ ∃ ad, a1 = some ad := by
          cases h : a1 with
          | none =>
            have h3 := XN.out h
            exact .inl ⟨rfl, List.eq_nil_of_length_eq_zero (by omega), h3, by omega⟩
          | some ad => exact .inr ⟨ad, rfl⟩
        have hA2 : (a2 = none ∧ l2 = [] ∧ c2 = 0 ∧ k = 0) ∨ ∃ ad, a2 = some ad := by
          cases h : a2 with
          | none =>
            have h3 := YN.out h
            exact .inl ⟨rfl, List.eq_nil_of_length_eq_zero (by omega), h3, by omega⟩
          | some ad => exact .inr ⟨ad, rfl⟩
        rcases hA1 with ⟨rfl, rfl, rfl, rfl⟩ | ⟨ad1, rfl⟩
        · rcases hA2 with ⟨rfl, rfl, rfl, _⟩ | ⟨ad2, rfl⟩
          · refine L.region_ (fun _ => False) (by kernel_rfl) ?_
            refine L.seg_ [0, 1, 2, 3, 4, 5, 6, 7, 8, 9, 10, 11, 12, 13, 14, 15, 16] 33 _ (by kernel_rfl) (by kernel_rfl) (by kernel_rfl) (by simp only [pickOps, mask, plain, List.getElem?_toArray, List.getElem?_cons_zero, List.getElem?_cons_succ, if_true]; rfl) ?_
            repeat (go_big_quiet_step (fail))
            refine wpQuiet_nil ?_
            refine L.call_ (i := 17) rfl (by kernel_rfl) (by kernel_rfl) ?_
            intro wa sa
            have bca := B15.out.trans (sa.all.mono h15)
            have HE := Lib.hid (events_any wa ⟨none, 0, (([] : List Ev)).take 0⟩ ⟨none, 0, (([] : List Ev)).take 0⟩ ((at_later2 X0.out bca).pre 0) ((at_later2 Y0.out bca).pre 0))
            rw [decide_eq_true (show (⟨none, 0, (([] : List Ev)).take 0⟩ : Ls).l = (⟨none, 0, (([] : List Ev)).take 0⟩ : Ls).l from HK.out.same)] at HE
            unfold Ls.val at HE
            rw [show (⟨none, 0, (([] : List Ev)).take 0⟩ : Ls).l.length = 0 by simp] at HE
            unfold Oper.does
            go_simp
            refine HE.out.mono ?_
            rintro e w6 ⟨rfl, b6⟩
            refine ⟨_, rfl, same_ sa (Save.of_below b6) ?_⟩
            have b16 := bca.trans (b6.mono bca.size)
            have h6s := b16.size
            have B6 := Lib.hid b16
            clear sa b6 bca b16
            refine L.seg_ [18, 19, 20, 21, 22, 23, 24, 25, 26, 27, 28, 29, 30, 31, 32, 33, 34, 35, 36, 37, 38, 39, 40, 41, 42, 43, 44, 45, 47] 3 _ (by kernel_rfl) (by kernel_rfl) (by kernel_rfl) (by simp only [pickOps, mask, plain, List.getElem?_toArray, List.getElem?_cons_zero, List.getElem?_cons_succ, if_true]; rfl) ?_
            repeat (go_big_quiet_step (fail))
            refine wpQuiet_nil ?_
            refine L.call_ (i := 46) rfl (by kernel_rfl) (by kernel_rfl) ?_
            intro wd sd
            have bcd := B6.out.trans (sd.all.mono h6s)
            have HD3 := Lib.hid (differ_any wd ⟨none, 0, ([] : List Ev)⟩ ⟨none, 0, ([] : List Ev)⟩ (at_later2 Y0.out bcd) (at_later2 X0.out bcd))
            rw [show differL (⟨none, 0, ([] : List Ev)⟩ : Ls).l (⟨none, 0, ([] : List Ev)⟩ : Ls).l 0 = (0 : Nat) from HD2.out] at HD3
            unfold Ls.val at HD3
            unfold Oper.does
            go_simp
            refine HD3.out.mono ?_
            rintro e we ⟨rfl, be⟩
            refine ⟨_, rfl, same_ sd (Save.of_below be) ?_⟩
            have bce := bcd.trans (be.mono bcd.size)
            clear sd be bcd
            refine L.seg_ [48, 49] 0 _ (by kernel_rfl) (by kernel_rfl) (by kernel_rfl) (by simp only [pickOps, mask, plain, List.getElem?_toArray, List.getElem?_cons_zero, List.getElem?_cons_succ, if_true]; rfl) ?_
            repeat (go_big_quiet_step (fail))
            refine wpQuiet_nil ?_
            refine L.end_ (by kernel_rfl) ?_
            intro wf sf
            have bcf := bce.trans (sf.all.mono bce.size)
            clear sf
            go_wp2_with fail
            go_meet
            exact ⟨rfl, bcf⟩
          · have f2' : decide ((l2.length : Int) < 0) = false := decide_eq_false (by omega)
            refine L.region_ (fun _ => False) (by kernel_rfl) ?_
            refine L.seg_ [0, 1, 2, 3, 4, 5, 6, 7, 8, 9, 10, 11, 12, 13, 14, 15, 16] 33 _ (by kernel_rfl) (by kernel_rfl) (by kernel_rfl) (by simp only [pickOps, mask, plain, List.getElem?_toArray, List.getElem?_cons_zero, List.getElem?_cons_succ, if_true]; rfl) ?_
            repeat (go_big_quiet_step (fail))
            refine wpQuiet_nil ?_
            refine L.call_ (i := 17) rfl (by kernel_rfl) (by kernel_rfl) ?_
            intro wa sa
            have bca := B15.out.trans (sa.all.mono h15)
            have HE := Lib.hid (events_any wa ⟨none, 0, (([] : List Ev)).take 0⟩ ⟨some ad2, c2, (l2).take 0⟩ ((at_later2 X0.out bca).pre 0) ((at_later2 Y0.out bca).pre 0))
            rw [decide_eq_true (show (⟨none, 0, (([] : List Ev)).take 0⟩ : Ls).l = (⟨some ad2, c2, (l2).take 0⟩ : Ls).l from HK.out.same)] at HE
            unfold Ls.val at HE
            rw [show (⟨none, 0, (([] : List Ev)).take 0⟩ : Ls).l.length = 0 by simp, show (⟨some ad2, c2, (l2).take 0⟩ : Ls).l.length = 0 by simp] at HE
            unfold Oper.does
            go_simp
            refine HE.out.mono ?_
            rintro e w6 ⟨rfl, b6⟩
            refine ⟨_, rfl, same_ sa (Save.of_below b6) ?_⟩
            have b16 := bca.trans (b6.mono bca.size)
            have h6s := b16.size
            have B6 := Lib.hid b16
            clear sa b6 bca b16
            refine L.seg_ [18, 19, 20, 21, 22, 23, 24, 25, 26, 27, 28, 29, 30, 31, 32, 33, 34, 35, 36, 37, 38, 39, 40, 41, 42, 43, 44, 45, 47] 3 _ (by kernel_rfl) (by kernel_rfl) (by kernel_rfl) (by simp only [pickOps, mask, plain, List.getElem?_toArray, List.getElem?_cons_zero, List.getElem?_cons_succ, if_true]; rfl) ?_
            repeat (go_big_quiet_step (fail))
            refine wpQuiet_nil ?_
            refine L.call_ (i := 46) rfl (by kernel_rfl) (by kernel_rfl) ?_
            intro wd sd
            have bcd := B6.out.trans (sd.all.mono h6s)
            have HD3 := Lib.hid (differ_any wd ⟨some ad2, c2, l2⟩ ⟨none, 0, ([] : List Ev)⟩ (at_later2 Y0.out bcd) (at_later2 X0.out bcd))
            rw [show differL (⟨some ad2, c2, l2⟩ : Ls).l (⟨none, 0, ([] : List Ev)⟩ : Ls).l 0 = (0 : Nat) from HD2.out] at HD3
            unfold Ls.val at HD3
            unfold Oper.does
            go_simp
            refine HD3.out.mono ?_
            rintro e we ⟨rfl, be⟩
            refine ⟨_, rfl, same_ sd (Save.of_below be) ?_⟩
            have bce := bcd.trans (be.mono bcd.size)
            clear sd be bcd
            refine L.seg_ [48, 49] 0 _ (by kernel_rfl) (by kernel_rfl) (by kernel_rfl) (by simp only [pickOps, mask, plain, List.getElem?_toArray, List.getElem?_cons_zero, List.getElem?_cons_succ, if_true]; rfl) ?_
            repeat (go_big_quiet_step (fail))
            refine wpQuiet_nil ?_
            refine L.end_ (by kernel_rfl) ?_
            intro wf sf
            have bcf := bce.trans (sf.all.mono bce.size)
            clear sf
            go_wp2_with fail
            go_meet
            exact ⟨rfl, bcf⟩
        rcases hA2 with ⟨rfl, rfl, rfl, rfl⟩ | ⟨ad2, rfl⟩
        · have f1' : decide ((l1.length : Int) < 0) = false := decide_eq_false (by omega)
          refine L.region_ (fun _ => False) (by kernel_rfl) ?_
          refine L.seg_ [0, 1, 2, 3, 4, 5, 6, 7, 8, 9, 10, 11, 12, 13, 14, 15, 16] 33 _ (by kernel_rfl) (by kernel_rfl) (by kernel_rfl) (by simp only [pickOps, mask, plain, List.getElem?_toArray, List.getElem?_cons_zero, List.getElem?_cons_succ, if_true]; rfl) ?_
          repeat (go_big_quiet_step (fail))
          refine wpQuiet_nil ?_
          refine L.call_ (i := 17) rfl (by kernel_rfl) (by kernel_rfl) ?_
          intro wa sa
          have bca := B15.out.trans (sa.all.mono h15)
          have HE := Lib.hid (events_any wa ⟨some ad1, c1, (l1).take 0⟩ ⟨none, 0, (([] : List Ev)).take 0⟩ ((at_later2 X0.out bca).pre 0) ((at_later2 Y0.out bca).pre 0))
          rw [decide_eq_true (show (⟨some ad1, c1, (l1).take 0⟩ : Ls).l = (⟨none, 0, (([] : List Ev)).take 0⟩ : Ls).l from HK.out.same)] at HE
          unfold Ls.val at HE
          rw [show (⟨some ad1, c1, (l1).take 0⟩ : Ls).l.length = 0 by simp, show (⟨none, 0, (([] : List Ev)).take 0⟩ : Ls).l.length = 0 by simp] at HE
          unfold Oper.does
          go_simp
          refine HE.out.mono ?_
          rintro e w6 ⟨rfl, b6⟩
          refine ⟨_, rfl, same_ sa (Save.of_below b6) ?_⟩
          have b16 := bca.trans (b6.mono bca.size)
          have h6s := b16.size
          have B6 := Lib.hid b16
          clear sa b6 bca b16
          by_cases g3 : 0 < l1.length
          · have f3 : decide (0 < l1.length) = true := decide_eq_true g3
            have f3' : decide ((0 : Int) < (l1.length : Int)) = true := decide_eq_true (by omega)
            refine L.seg_ [18, 19, 20, 21, 22, 23, 24, 25, 26, 27, 28, 29, 30, 31, 32, 33, 34, 35, 36, 37, 38, 39, 40, 41, 42, 43, 44, 45, 47] 3 _ (by kernel_rfl) (by kernel_rfl) (by kernel_rfl) (by simp only [pickOps, mask, plain, List.getElem?_toArray, List.getElem?_cons_zero, List.getElem?_cons_succ, if_true]; rfl) ?_
            repeat (go_big_quiet_step (fail))
            refine wpQuiet_nil ?_
            refine L.call_ (i := 46) rfl (by kernel_rfl) (by kernel_rfl) ?_
            intro wd sd
            have bcd := B6.out.trans (sd.all.mono h6s)
            have HD3 := Lib.hid (differ_any wd ⟨none, 0, ([] : List Ev)⟩ ⟨some ad1, c1, l1⟩ (at_later2 Y0.out bcd) (at_later2 X0.out bcd))
            rw [show differL (⟨none, 0, ([] : List Ev)⟩ : Ls).l (⟨some ad1, c1, l1⟩ : Ls).l 0 = (0 : Nat) from HD2.out] at HD3
            unfold Ls.val at HD3
            unfold Oper.does
            go_simp
            refine HD3.out.mono ?_
            rintro e we ⟨rfl, be⟩
            refine ⟨_, rfl, same_ sd (Save.of_below be) ?_⟩
            have bce := bcd.trans (be.mono bcd.size)
            clear sd be bcd
            refine L.seg_ [48, 49] 0 _ (by kernel_rfl) (by kernel_rfl) (by kernel_rfl) (by simp only [pickOps, mask, plain, List.getElem?_toArray, List.getElem?_cons_zero, List.getElem?_cons_succ, if_true]; rfl) ?_
            repeat (go_big_quiet_step (fail))
            refine wpQuiet_nil ?_
            refine L.end_ (by kernel_rfl) ?_
            intro wf sf
            have bcf := bce.trans (sf.all.mono bce.size)
            clear sf
            go_wp2_with fail
            go_meet
            exact ⟨rfl, bcf⟩
          · have f3 : decide (0 < l1.length) = false := decide_eq_false g3
            have f3' : decide ((0 : Int) < (l1.length : Int)) = false := decide_eq_false (by omega)
            refine L.seg_ [18, 19, 20, 21, 22, 23, 24, 25, 26, 27, 28, 29, 30, 31, 32, 33, 34, 35, 36, 37, 38, 39, 40, 41, 42, 43, 44, 45, 47] 3 _ (by kernel_rfl) (by kernel_rfl) (by kernel_rfl) (by simp only [pickOps, mask, plain, List.getElem?_toArray, List.getElem?_cons_zero, List.getElem?_cons_succ, if_true]; rfl) ?_
            repeat (go_big_quiet_step (fail))
            refine wpQuiet_nil ?_
            refine L.call_ (i := 46) rfl (by kernel_rfl) (by kernel_rfl) ?_
            intro wd sd
            have bcd := B6.out.trans (sd.all.mono h6s)
            have HD3 := Lib.hid (differ_any wd ⟨none, 0, ([] : List Ev)⟩ ⟨some ad1, c1, l1⟩ (at_later2 Y0.out bcd) (at_later2 X0.out bcd))
            rw [show differL (⟨none, 0, ([] : List Ev)⟩ : Ls).l (⟨some ad1, c1, l1⟩ : Ls).l 0 = (0 : Nat) from HD2.out] at HD3
            unfold Ls.val at HD3
            unfold Oper.does
            go_simp
            refine HD3.out.mono ?_
            rintro e we ⟨rfl, be⟩
            refine ⟨_, rfl, same_ sd (Save.of_below be) ?_⟩
            have bce := bcd.trans (be.mono bcd.size)
            clear sd be bcd
            refine L.seg_ [48, 49] 0 _ (by kernel_rfl) (by kernel_rfl) (by kernel_rfl) (by simp only [pickOps, mask, plain, List.getElem?_toArray, List.getElem?_cons_zero, List.getElem?_cons_succ, if_true]; rfl) ?_
            repeat (go_big_quiet_step (fail))
            refine wpQuiet_nil ?_
            refine L.end_ (by kernel_rfl) ?_
            intro wf sf
            have bcf := bce.trans (sf.all.mono bce.size)
            clear sf
            go_wp2_with fail
            go_meet
            exact ⟨rfl, bcf⟩
        refine L.region_ (fun _ => False) (by kernel_rfl) ?_
        refine L.seg_ [0, 1, 2, 3, 4, 5, 6, 7, 8, 9, 10, 11, 12, 13, 14, 15, 16] 33 _ (by kernel_rfl) (by kernel_rfl) (by kernel_rfl) (by simp only [pickOps, mask, plain, List.getElem?_toArray, List.getElem?_cons_zero, List.getElem?_cons_succ, if_true]; rfl) ?_
        repeat (go_big_quiet_step (fail))
        refine wpQuiet_nil ?_
        refine L.call_ (i := 17) rfl (by kernel_rfl) (by kernel_rfl) ?_
        intro wa sa
        unfold Oper.does
        go_simp
        have bca := B15.out.trans (sa.all.mono h15)
        have HE := Lib.hid (events_any wa ⟨some ad1, c1, l1.take k⟩ ⟨some ad2, c2, l2.take k⟩ ((at_later2 X0.out bca).pre k) ((at_later2 Y0.out bca).pre k))
        rw [decide_eq_true (show (⟨some ad1, c1, l1.take k⟩ : Ls).l = (⟨some ad2, c2, l2.take k⟩ : Ls).l from HK.out.same)] at HE
        unfold Ls.val at HE
        rw [show (⟨some ad1, c1, l1.take k⟩ : Ls).l.length = k by simp; omega, show (⟨some ad2, c2, l2.take k⟩ : Ls).l.length = k by simp; omega] at HE
        refine HE.out.mono ?_
        rintro e w6 ⟨rfl, b6⟩
        refine ⟨_, rfl, same_ sa (Save.of_below b6) ?_⟩
        have b16 := bca.trans (b6.mono bca.size)
        have h6s := b16.size
        have B6 := Lib.hid b16
        clear sa b6 bca b16
        by_cases g3 : k < l1.length
        · by_cases g4 : k < l2.length
          · obtain ⟨b, o, hA, _, hat⟩ := (at_later2 X0.out B6.out).at_ (by show 0 < l1.length; omega)
            have hu := hat k g3
            obtain ⟨u, hgu⟩ : ∃ u, l1.getD k evZ = u := ⟨_, rfl⟩
            rw [show (⟨some ad1, c1, l1⟩ : Ls).l.getD k ⟨0, 0, 0, 0, 0, 0⟩ = u from hgu] at hu
            obtain ⟨b', o', hA', _, hat'⟩ := (at_later2 Y0.out B6.out).at_ (by show 0 < l2.length; omega)
            have hv := hat' k g4
            obtain ⟨v, hgv⟩ : ∃ v, l2.getD k evZ = v := ⟨_, rfl⟩
            rw [show (⟨some ad2, c2, l2⟩ : Ls).l.getD k ⟨0, 0, 0, 0, 0, 0⟩ = v from hgv] at hv
            have huv : u ≠ v := by rw [← hgu, ← hgv]; exact HK.out.not g3 g4
            have hq := fun w => eql_other u v huv w
            unfold Ev.val at hq
            obtain rfl : ad1 = ⟨b, o, none⟩ := Option.some.inj hA
            obtain rfl : ad2 = ⟨b', o', none⟩ := Option.some.inj hA'
            have hhu := fun p : Later (fun _ => False) w6 => hu.keep (p.ok.all.block b (World.block_lt_of_cell? _ _ hu.c0))
            have hhv := fun p : Later (fun _ => False) w6 => hv.keep (p.ok.all.block b' (World.block_lt_of_cell? _ _ hv.c0))
            have u0 := fun p => (hhu p).c0
            have u1 := fun p => (hhu p).c1
            have u2 := fun p => (hhu p).c2
            have u3 := fun p => (hhu p).c3
            have u4 := fun p => (hhu p).c4
            have u5 := fun p => (hhu p).c5
            have v0 := fun p => (hhv p).c0
            have v1 := fun p => (hhv p).c1
            have v2 := fun p => (hhv p).c2
            have v3 := fun p => (hhv p).c3
            have v4 := fun p => (hhv p).c4
            have v5 := fun p => (hhv p).c5
            have f3 : decide (k < l1.length) = true := decide_eq_true g3
            have f4 : decide (k < l2.length) = true := decide_eq_true g4
            clear hA hA' hat hat' hgu hgv hhu hhv hu hv huv
            refine L.seg_ [18, 19, 20, 21, 22, 23, 24, 25, 26, 27, 28, 29, 30, 31, 32, 33, 34, 35, 36, 37, 38, 39, 40, 41, 42, 43, 44, 45, 47] 3 _ (by kernel_rfl) (by kernel_rfl) (by kernel_rfl) (by simp only [pickOps, mask, plain, List.getElem?_toArray, List.getElem?_cons_zero, List.getElem?_cons_succ, if_true]; rfl) ?_
            repeat (go_big_quiet_step (fail))
            refine wpQuiet_nil ?_
            refine L.call_ (i := 46) rfl (by kernel_rfl) (by kernel_rfl) ?_
            intro wd sd
            have bcd := B6.out.trans (sd.all.mono h6s)
            have HD3 := Lib.hid (differ_any wd ⟨some ⟨b', o', none⟩, c2, l2⟩ ⟨some ⟨b, o, none⟩, c1, l1⟩ (at_later2 Y0.out bcd) (at_later2 X0.out bcd))
            rw [show differL (⟨some ⟨b', o', none⟩, c2, l2⟩ : Ls).l (⟨some ⟨b, o, none⟩, c1, l1⟩ : Ls).l 0 = k from HD2.out] at HD3
            unfold Ls.val at HD3
            unfold Oper.does
            go_simp
            refine HD3.out.mono ?_
            rintro e we ⟨rfl, be⟩
            refine ⟨_, rfl, same_ sd (Save.of_below be) ?_⟩
            have bce := bcd.trans (be.mono bcd.size)
            clear sd be bcd
            refine L.seg_ [48, 49] 0 _ (by kernel_rfl) (by kernel_rfl) (by kernel_rfl) (by simp only [pickOps, mask, plain, List.getElem?_toArray, List.getElem?_cons_zero, List.getElem?_cons_succ, if_true]; rfl) ?_
            repeat (go_big_quiet_step (fail))
            refine wpQuiet_nil ?_
            refine L.end_ (by kernel_rfl) ?_
            intro wf sf
            have bcf := bce.trans (sf.all.mono bce.size)
            clear sf
            go_wp2_with fail
            go_meet
            exact ⟨rfl, bcf⟩
          · have f3 : decide (k < l1.length) = true := decide_eq_true g3
            have f4 : decide (k < l2.length) = false := decide_eq_false g4
            refine L.seg_ [18, 19, 20, 21, 22, 23, 24, 25, 26, 27, 28, 29, 30, 31, 32, 33, 34, 35, 36, 37, 38, 39, 40, 41, 42, 43, 44, 45, 47] 3 _ (by kernel_rfl) (by kernel_rfl) (by kernel_rfl) (by simp only [pickOps, mask, plain, List.getElem?_toArray, List.getElem?_cons_zero, List.getElem?_cons_succ, if_true]; rfl) ?_
            repeat (go_big_quiet_step (fail))
            refine wpQuiet_nil ?_
            refine L.call_ (i := 46) rfl (by kernel_rfl) (by kernel_rfl) ?_
            intro wd sd
            have bcd := B6.out.trans (sd.all.mono h6s)
            have HD3 := Lib.hid (differ_any wd ⟨some ad2, c2, l2⟩ ⟨some ad1, c1, l1⟩ (at_later2 Y0.out bcd) (at_later2 X0.out bcd))
            rw [show differL (⟨some ad2, c2, l2⟩ : Ls).l (⟨some ad1, c1, l1⟩ : Ls).l 0 = k from HD2.out] at HD3
            unfold Ls.val at HD3
            unfold Oper.does
            go_simp
            refine HD3.out.mono ?_
            rintro e we ⟨rfl, be⟩
            refine ⟨_, rfl, same_ sd (Save.of_below be) ?_⟩
            have bce := bcd.trans (be.mono bcd.size)
            clear sd be bcd
            refine L.seg_ [48, 49] 0 _ (by kernel_rfl) (by kernel_rfl) (by kernel_rfl) (by simp only [pickOps, mask, plain, List.getElem?_toArray, List.getElem?_cons_zero, List.getElem?_cons_succ, if_true]; rfl) ?_
            repeat (go_big_quiet_step (fail))
            refine wpQuiet_nil ?_
            refine L.end_ (by kernel_rfl) ?_
            intro wf sf
            have bcf := bce.trans (sf.all.mono bce.size)
            clear sf
            go_wp2_with fail
            go_meet
            exact ⟨rfl, bcf⟩
        · have f3 : decide (k < l1.length) = false := decide_eq_false g3
          refine L.seg_ [18, 19, 20, 21, 22, 23, 24, 25, 26, 27, 28, 29, 30, 31, 32, 33, 34, 35, 36, 37, 38, 39, 40, 41, 42, 43, 44, 45, 47] 3 _ (by kernel_rfl) (by kernel_rfl) (by kernel_rfl) (by simp only [pickOps, mask, plain, List.getElem?_toArray, List.getElem?_cons_zero, List.getElem?_cons_succ, if_true]; rfl) ?_
          repeat (go_big_quiet_step (fail))
          refine wpQuiet_nil ?_
          refine L.call_ (i := 46) rfl (by kernel_rfl) (by kernel_rfl) ?_
          intro wd sd
          have bcd := B6.out.trans (sd.all.mono h6s)
          have HD3 := Lib.hid (differ_any wd ⟨some ad2, c2, l2⟩ ⟨some ad1, c1, l1⟩ (at_later2 Y0.out bcd) (at_later2 X0.out bcd))
          rw [show differL (⟨some ad2, c2, l2⟩ : Ls).l (⟨some ad1, c1, l1⟩ : Ls).l 0 = k from HD2.out] at HD3
          unfold Ls.val at HD3
          unfold Oper.does
          go_simp
          refine HD3.out.mono ?_
          rintro e we ⟨rfl, be⟩
          refine ⟨_, rfl, same_ sd (Save.of_below be) ?_⟩
          have bce := bcd.trans (be.mono bcd.size)
          clear sd be bcd
          refine L.seg_ [48, 49] 0 _ (by kernel_rfl) (by kernel_rfl) (by kernel_rfl) (by simp only [pickOps, mask, plain, List.getElem?_toArray, List.getElem?_cons_zero, List.getElem?_cons_succ, if_true]; rfl) ?_
          repeat (go_big_quiet_step (fail))
          refine wpQuiet_nil ?_
          refine L.end_ (by kernel_rfl) ?_
          intro wf sf
          have bcf := bce.trans (sf.all.mono bce.size)
          clear sf
          go_wp2_with fail
          go_meet
          exact ⟨rfl, bcf⟩
      case rest =>
        obtain ⟨rfl, hcb2⟩ := hcut
        have hnum := Lib.hid (evnumber_any wc ⟨a1, c1, l1⟩ (at_later2 X0.out hcb2) XW.out XN.out (by show l1.length ≤ _; omega))
        have hl120 : l1.length ≤ 120 := by omega
        unfold Ls.val at hnum
        have hsc := hcb2.size
        clear HD2 HK hk1 hk2 f1 f2 HDF HG
        go_wp2_with fail
        refine hnum.out.mono ?_
        rintro e w7 ⟨n, rfl, hn, ⟨hnl, _⟩, b7⟩
        have b17 := hcb2.trans (b7.mono hsc)
        have h17 := b17.size
        have hnn : n.l = numL l1 := hn
        have hnlen : n.l.length = l1.length := by rw [hnn]; exact numL_len l1
        obtain ⟨AN, hAN⟩ : ∃ A, n.A = A := ⟨_, rfl⟩
        obtain ⟨nc, hnc⟩ : ∃ c, n.c = c := ⟨_, rfl⟩
        have hvn : n.val = .slice AN l1.length nc := by unfold Ls.val; rw [hAN, hnc, hnlen]
        rw [hvn]
        have HVN := Lib.hid hvn
        have HNN := Lib.hid hnn
        have HNL := Lib.hid hnl
        have HNLEN := Lib.hid hnlen
        have B17 := Lib.hid b17
        clear hn hnl b7 hnn hnlen hAN hnc hvn hnum hcb2 b17
        go_wp2_with fail
        go_loopw [11] (fun i wr => ∃ q : Nat, q ≤ 5 ∧ 1 ≤ q ∧ i = .int .i64 q ∧ Below w7.heap.size w7 wr) (fun i _ => 5 - (intOf i).toNat)
        case atStart => exact ⟨1, by omega, by omega, rfl, Below.refl _ _⟩
        case round =>
          obtain ⟨q, hq5, hq1, rfl, hb⟩ := hrel
          by_cases hq : q < 5
          · have HPT := Lib.hid (part_any wr n q (at_later2 HNL.out hb) (by have := HNLEN.out; omega))
            rw [HVN.out] at HPT
            go_wp2_with fail
            refine HPT.out.mono ?_
            rintro e w8 ⟨p, rfl, hp, ⟨hpl, _⟩, b8⟩
            have h7w := hb.size
            have hb8 := hb.trans (b8.mono h7w)
            have hpn : p.l.length ≤ 120 := by
              rw [hp]
              have h3 := List.length_filter_le (onChip q) n.l
              have h4 := HNLEN.out
              omega
            have hseq : ∀ i, i < p.l.length → (p.l.getD i evZ).seq = i := fun i hi => by
              rw [hp, HNN.out] at hi ⊢
              exact numL_seq l1 q i hi
            have hpc := hpl.le
            have hpm : p.c ≤ 9223372036854775807 := hpl.cap
            have HSEQ := Lib.hid hseq
            have HPL := Lib.hid hpl
            have B8 := Lib.hid hb8
            clear hp hpl b8 hseq HPT hb8
            unfold Ls.val
            go_wp2_with fail
            go_loopw [13] (fun i wr2 => ∃ m : Nat, m ≤ p.l.length ∧ i = .int .i64 m ∧ wr2 = w8) (fun i _ => p.l.length - (intOf i).toNat)
            case atStart => exact ⟨0, Nat.zero_le _, rfl, rfl⟩
            case round =>
              obtain ⟨m, hm, rfl, rfl⟩ := hrel
              by_cases hml : m < p.l.length
              · obtain ⟨b, o, hA, _, hat⟩ := HPL.out.at_ (by omega)
                have c2' := (hat m hml).c2
                rw [show (p.l.getD m ⟨0, 0, 0, 0, 0, 0⟩).seq = (m : Int) from HSEQ.out m hml] at c2'
                rw [hA]
                clear hat hA
                go_wp2_with fail
                go_roundw
                case rel => exact ⟨m + 1, by omega, by go_num, by trivial⟩
                case measure => simp [intOf]; omega
              · obtain rfl : m = p.l.length := by omega
                go_wp2_with fail
                go_roundw
                case rel => exact ⟨q + 1, by omega, by omega, by go_num, B8.out⟩
                case measure => simp [intOf]; omega
          · obtain rfl : q = 5 := by omega
            have hbf := B17.out.trans (hb.mono h17)
            clear hb
            go_wp2_with fail
            go_ret
            exact ⟨rfl, hbf⟩
end Go.Proofs.Ythnbpdcjooifbaa
