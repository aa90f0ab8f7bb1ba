/- The walk of OctetPuts. -/
import Derived.Test.YtbjhdmhligjplaaV
import Derived.Deep.DeepCutAuto
import Derived.OpenShut
import Derived.Test.YtbjhdmhligjplaaY
namespace Go.Proofs.Ytbjhdmhligjplaa
open Go.RowKit

theorem Save.of_blw {B : Nat} {w w' : World} (h : Below B w w') : Save (B ≤ ·) w w' := ⟨h.os, h.tape, h.output, h.size, fun k _ hs => h.block k (by simpa using hs)⟩

theorem below_drawn (B : Nat) (w : World) (n : Nat) : Below B w { w with drawn := n } := ⟨rfl, rfl, rfl, Nat.le_refl _, fun _ _ => rfl⟩

theorem sum2c (g : Nat) (A1 A2 : Option Addr) (c1 c2 n1 n2 : Nat) (l1 l2 : List Int) (w : World) (hn1 : n1 = l1.length) (hn2 : n2 = l2.length) (hc0 : w.cell? ⟨g, 0, none⟩ = some (.slice A1 n1 c1)) (hc1 : w.cell? ⟨g, 1, none⟩ = some (.slice A2 n2 c2)) (h1 : RB w w.heap.size A1 c1 l1) (h2 : RB w w.heap.size A2 c2 l2) (hlen : l1.length + l2.length ≤ 140737488355328) :
    Calls Try.prog 25 #[.slice (some ⟨g, 0, none⟩) 2 2] w fun e w' => e = .returned (.int .u16 (sumL (l1 ++ l2)).toNat) ∧ w = w' := by
  subst hn1 hn2
  refine (sum_any g 2 [⟨A1, c1, l1⟩, ⟨A2, c2, l2⟩] _ (by simp) ?_ ?_ (by simp [flat]; omega)).mono fun e w' h => ?_
  · intro i hi
    match i, hi with
    | 0, _ => exact hc0
    | 1, _ => exact hc1
  · intro i hi
    match i, hi with
    | 0, _ => exact h1
    | 1, _ => exact h2
  · simpa [flat] using h

theorem refSum2c (g : Nat) (A1 A2 : Option Addr) (c1 c2 n1 n2 : Nat) (l1 l2 : List Int) (w : World) (hn1 : n1 = l1.length) (hn2 : n2 = l2.length) (hc0 : w.cell? ⟨g, 0, none⟩ = some (.slice A1 n1 c1)) (hc1 : w.cell? ⟨g, 1, none⟩ = some (.slice A2 n2 c2)) (h1 : RB w w.heap.size A1 c1 l1) (h2 : RB w w.heap.size A2 c2 l2) (hlen : l1.length + l2.length ≤ 140737488355328) :
    Calls Try.prog 26 #[.slice (some ⟨g, 0, none⟩) 2 2] w fun e w' => e = .returned (.int .u16 (sumL (l1 ++ l2)).toNat) ∧ w = w' := by
  subst hn1 hn2
  refine (refSum_any g 2 [⟨A1, c1, l1⟩, ⟨A2, c2, l2⟩] _ (by simp) ?_ ?_ (by simp [flat]; omega)).mono fun e w' h => ?_
  · intro i hi
    match i, hi with
    | 0, _ => exact hc0
    | 1, _ => exact hc1
  · intro i hi
    match i, hi with
    | 0, _ => exact h1
    | 1, _ => exact h2
  · simpa [flat] using h

/-- The row of two slices, in every world behind its laying. -/
theorem row2 {w w' : World} (v0 v1 : Value) (h : Below (w.heap.size + 1) (w.alloc (.cells #[v0, v1] 24)) w') : w'.cell? ⟨w.heap.size, 0, none⟩ = some v0 ∧ w'.cell? ⟨w.heap.size, 1, none⟩ = some v1 := by
  constructor
  · rw [h.cell (by simp), World.cell?_alloc_at _ _ _ _ rfl]; rfl
  · rw [h.cell (by simp), World.cell?_alloc_at _ _ _ _ rfl]; rfl

set_option maxHeartbeats 1000000 in
theorem puts_long1 (w : World) (A P : Option Addr) (c n cp k : Nat) (x y : Int) (h1 : 3000 < n) : Calls Try.prog 4 #[.slice A n c, .int .u64 x, .int .i64 y, .slice P k cp] w fun e w' => e = .returned (.bool true) ∧ Below w.heap.size w w' := by
  go_enter Try.func4, Try.ntmps4
  go_wp2_with fail
  refine (lives_any _).mono ?_
  rintro e w1 ⟨rfl, hb⟩
  go_wp2_with fail
  go_ret
  exact ⟨rfl, hb⟩

set_option maxHeartbeats 1000000 in
theorem puts_long2 (w : World) (A P : Option Addr) (c n cp k : Nat) (x y : Int) (h1 : ¬ 3000 < n) (h2 : 3000 < k) : Calls Try.prog 4 #[.slice A n c, .int .u64 x, .int .i64 y, .slice P k cp] w fun e w' => e = .returned (.bool true) ∧ Below w.heap.size w w' := by
  go_enter Try.func4, Try.ntmps4
  go_wp2_with fail
  refine (lives_any _).mono ?_
  rintro e w1 ⟨rfl, hb⟩
  go_wp2_with fail
  go_ret
  exact ⟨rfl, hb⟩

set_option maxHeartbeats 4000000 in
set_option maxRecDepth 100000 in
theorem walk_OctetPuts (w : World) (A : Option Addr) (c n : Nat) (l : List Int) (hn : n = l.length) (h : RB w w.heap.size A c l) (x : Int) (hx : (Lit.int .u64 x).wf = true) (y : Int) (hy : (Lit.int .i64 y).wf = true) (P : Option Addr) (cp k : Nat) (m : List Int) (hk : k = m.length) (hm : RB w w.heap.size P cp m) : Calls Try.prog 4 #[.slice A n c, .int .u64 x, .int .i64 y, .slice P k cp] w fun e w' => e = .returned (.bool true) ∧ Below w.heap.size w w' := by
  by_cases h1 : 3000 < n
  · exact puts_long1 w A P c n cp k x y h1
  by_cases h2 : 3000 < k
  · exact puts_long2 w A P c n cp k x y h1 h2
  have hx' := bounds_u64 hx
  have hy' := bounds_i64 hy
  obtain ⟨v, rfl⟩ : ∃ v : Nat, x = (v : Int) := ⟨x.toNat, by omega⟩
  have hv : v < 18446744073709551616 := by omega
  have hy0 : -9223372036854775808 ≤ y := by omega
  have hy1 : y < 9223372036854775808 := by omega
  clear hx hy hx' hy'
  subst hn hk
  have hnv := (numB_length v).2
  have hnm := (numB_length m.length).2
  go_enter Try.func4, Try.ntmps4
  go_wp2_with fail
  refine (lives_any _).mono ?_
  rintro e w1 ⟨rfl, hB1⟩
  go_wp2_with fail
  refine (own_any A c _ l w1 _ rfl (h.below hB1) hB1.size (by omega)).mono ?_
  rintro e w2 ⟨A2, c2, rfl, ho2, hb2⟩
  have hB2 := hB1.trans (hb2.mono hB1.size)
  have hr2 := ho2.rb
  clear hb2 ho2
  go_wp2_with fail
  refine (own_any P cp _ m w2 _ rfl (hm.below hB2) hB2.size (by omega)).mono ?_
  rintro e w3 ⟨A3, c3, rfl, ho3, hb3⟩
  have hB3 := hB2.trans (hb3.mono hB2.size)
  replace hr2 := hr2.belowH hb3
  have hr3 := ho3.rb
  clear hb3 ho3
  go_wp2_with fail
  refine (block_any A2 A3 _ c2 _ c3 l m w3 _ rfl rfl hr2 hr3 (Nat.le_refl _) (by omega) (by omega)).mono ?_
  rintro e w4 ⟨Au, cu, he, hou, hb4⟩
  obtain ⟨nn, hnn⟩ : ∃ nn, nn = (l ++ (numB m.length ++ m)).length := ⟨_, rfl⟩
  rw [← hnn] at he
  subst he
  have HNN := Lib.hid hnn
  clear hnn
  have hB4 := hB3.trans (hb4.mono hB3.size)
  have hru := hou.rb
  clear hb4 hou hr2 hr3
  go_wp2_with fail
  refine (own_any A c _ l w4 _ rfl (h.below hB4) hB4.size (by omega)).mono ?_
  rintro e w5 ⟨A5, c5, rfl, ho5, hb5⟩
  have hB5 := hB4.trans (hb5.mono hB4.size)
  replace hru := hru.below hb5
  go_wp2_with fail
  refine (refBlock_any A5 P _ c5 _ cp l m w5 w4.heap.size w.heap.size rfl rfl ho5 (hm.below hB5) hB4.size hb5.size (by omega) (by omega)).mono ?_
  rintro e w6 ⟨Av, cv, he, hov, hb6⟩
  rw [← HNN.out] at he
  subst he
  have hB6 := hB5.trans (hb6.mono hB4.size)
  have hrv := hov.rb
  replace hru : RB w6 w6.heap.size Au cu _ := (hru.below hb6).more (by have := hb5.size; have := hb6.size; omega)
  have hrl := (h.below hB6).more hB6.size
  have hrm := (hm.below hB6).more hB6.size
  have hlen1 : (l ++ numB v).length ≤ 3009 := by rw [List.length_append]; omega
  have hls := (numB_length (foldZ y)).2
  clear hb6 hov ho5 hb5 hB1 hB2 hB3 hB4 hB5 h hm
  obtain ⟨s1, hs1⟩ : ∃ s, strOfNums (l ++ numB v) = s := ⟨_, rfl⟩
  obtain ⟨s2, hs2⟩ : ∃ s, strOfNums (l ++ numB (foldZ y)) = s := ⟨_, rfl⟩
  obtain ⟨s3, hs3⟩ : ∃ s, strOfNums (l ++ (numB m.length ++ m)) = s := ⟨_, rfl⟩
  obtain ⟨n1, hn1⟩ : ∃ s, (l ++ numB v).length = s := ⟨_, rfl⟩
  obtain ⟨n2, hn2⟩ : ∃ s, (l ++ numB (foldZ y)).length = s := ⟨_, rfl⟩
  have HS1 := Lib.hid hs1
  have HS2 := Lib.hid hs2
  have HS3 := Lib.hid hs3
  have HN1 := Lib.hid hn1
  have HN2 := Lib.hid hn2
  obtain ⟨sv, hsv⟩ : ∃ s : Int, ((sumL (l ++ m)).toNat : Int) = s := ⟨_, rfl⟩
  have HSV := Lib.hid hsv
  clear hs1 hs2 hs3 hn1 hn2 hsv
  go_upto_region 7 with fail
  go_cut [8] (fun s wc => s = .bool true ∧ Below w6.heap.size w6 wc)
  case first =>
    have H0 : Below w6.heap.size w6 w6 := Below.refl _ _
    refine region_ (fun _ => False) (by kernel_rfl) ?_
    refine seg_ [0, 2, 5, 7] 44 _ (by kernel_rfl) (by kernel_rfl) (by kernel_rfl) (by simp only [pickOps, mask, plain, List.getElem?_toArray, List.getElem?_cons_zero, List.getElem?_cons_succ, if_true]; rfl) ?_
    repeat (go_big_quiet_step (fail))
    refine wpQuiet_nil ?_
    refine call_ (i := 1) rfl (by kernel_rfl) (by kernel_rfl) ?_
    intro wa sa
    have Ha := H0.trans (sa.all.mono H0.size)
    unfold Oper.does
    go_simp
    refine (own_any A c _ l wa _ rfl (hrl.below Ha) Ha.size (by omega)).mono ?_
    rintro e wb ⟨Ab, cb, rfl, hob, hbb⟩
    have Hb := Ha.trans (hbb.mono Ha.size)
    have hrb := hob.rb
    clear hob
    refine ⟨_, rfl, same_ sa (Save.of_below hbb) ?_⟩
    clear hbb
    refine call_ (i := 3) rfl (by kernel_rfl) (by kernel_rfl) ?_
    intro wc sc
    have Hc := Hb.trans (sc.all.mono Hb.size)
    unfold Oper.does
    go_simp
    refine (number_any Ab _ cb l v wc _ rfl (hrb.belowH sc.all) (Nat.le_refl _) (by omega) hv).mono ?_
    rintro e wd ⟨Ad, cd, he, hod, hbd⟩
    rw [HN1.out] at he
    subst he
    have Hd := Hc.trans (hbd.mono Hc.size)
    have hrd := hod.rb
    clear hod hrb
    refine ⟨_, rfl, same_ sc (Save.of_below hbd) ?_⟩
    clear hbd
    have hq : ∀ p : Later (fun _ => False) wd, (convert 24 9 (.slice Ad n1 cd)).run Try.prog p.w = .ok (.string s1) p.w := fun p => by
      rw [← HS1.out]
      exact str_rb _ _ Ad cd _ _ (hrd.belowH p.ok.all) HN1.out.symm
    refine seg_ [4] 41 _ (by kernel_rfl) (by kernel_rfl) (by kernel_rfl) (by simp only [pickOps, mask, plain, List.getElem?_toArray, List.getElem?_cons_zero, List.getElem?_cons_succ, if_true]; rfl) ?_
    repeat (go_big_quiet_step (fail))
    refine wpQuiet_nil ?_
    clear hq hrd
    refine call_ (i := 6) rfl (by kernel_rfl) (by kernel_rfl) ?_
    intro we se
    have He := Hd.trans (se.all.mono Hd.size)
    unfold Oper.does
    go_simp
    refine (own_any A c _ l we _ rfl (hrl.below He) He.size (by omega)).mono ?_
    rintro e wf ⟨Af, cf, rfl, hof, hbf⟩
    have Hf := He.trans (hbf.mono He.size)
    refine ⟨_, rfl, turn_ (S1 := (we.heap.size ≤ ·)) se (Save.of_below hbf) (fun i hi h => absurd (Nat.lt_of_lt_of_le hi se.size) (Nat.not_lt.2 h)) ?_⟩
    refine callx_ (i := 8) rfl (by kernel_rfl) (by kernel_rfl) ?_
    intro kg
    have hxg := hof.below (below_drawn wf.heap.size wf kg) (Nat.le_refl _)
    unfold Oper.does
    go_simp
    refine (refNumber_any Af _ cf l v _ we.heap.size rfl hxg hbf.size (by omega) hv).mono ?_
    rintro e wg ⟨Ag, cg, he, hog, hbg⟩
    rw [HN1.out] at he
    subst he
    have Hg := (Hf.trans (below_drawn _ _ kg)).trans (hbg.mono He.size)
    have hrg := hog.rb
    clear hog hxg hof
    refine ⟨_, rfl, turn_ (S1 := fun _ => False) (Save.drawn _ _ _) (Save.of_blw hbg) (fun _ _ h => h.elim) ?_⟩
    clear hbg hbf
    have hq : ∀ p : Later (fun _ => False) wg, (convert 24 9 (.slice Ag n1 cg)).run Try.prog p.w = .ok (.string s1) p.w := fun p => by
      rw [← HS1.out]
      exact str_rb _ _ Ag cg _ _ (hrg.belowH p.ok.all) HN1.out.symm
    refine seg_ [9, 10, 11, 12, 14, 17, 19] 32 _ (by kernel_rfl) (by kernel_rfl) (by kernel_rfl) (by simp only [pickOps, mask, plain, List.getElem?_toArray, List.getElem?_cons_zero, List.getElem?_cons_succ, if_true]; rfl) ?_
    repeat (go_big_quiet_step (fail))
    refine wpQuiet_nil ?_
    clear hq hrg
    refine call_ (i := 13) rfl (by kernel_rfl) (by kernel_rfl) ?_
    intro wh sh
    have Hh := Hg.trans (sh.all.mono Hg.size)
    unfold Oper.does
    go_simp
    refine (own_any A c _ l wh _ rfl (hrl.below Hh) Hh.size (by omega)).mono ?_
    rintro e wi ⟨Ai, ci, rfl, hoi, hbi⟩
    have Hi := Hh.trans (hbi.mono Hh.size)
    have hri := hoi.rb
    clear hoi
    refine ⟨_, rfl, same_ sh (Save.of_below hbi) ?_⟩
    clear hbi
    refine call_ (i := 15) rfl (by kernel_rfl) (by kernel_rfl) ?_
    intro wj sj
    have Hj := Hi.trans (sj.all.mono Hi.size)
    unfold Oper.does
    go_simp
    refine (signed_any Ai _ ci l y wj _ rfl (hri.belowH sj.all) (Nat.le_refl _) (by omega) hy0 hy1).mono ?_
    rintro e wk ⟨Ak, ck, he, hok, hbk⟩
    rw [HN2.out] at he
    subst he
    have Hk := Hj.trans (hbk.mono Hj.size)
    have hrk := hok.rb
    clear hok hri
    refine ⟨_, rfl, same_ sj (Save.of_below hbk) ?_⟩
    clear hbk
    have hq : ∀ p : Later (fun _ => False) wk, (convert 24 9 (.slice Ak n2 ck)).run Try.prog p.w = .ok (.string s2) p.w := fun p => by
      rw [← HS2.out]
      exact str_rb _ _ Ak ck _ _ (hrk.belowH p.ok.all) HN2.out.symm
    refine seg_ [16] 29 _ (by kernel_rfl) (by kernel_rfl) (by kernel_rfl) (by simp only [pickOps, mask, plain, List.getElem?_toArray, List.getElem?_cons_zero, List.getElem?_cons_succ, if_true]; rfl) ?_
    repeat (go_big_quiet_step (fail))
    refine wpQuiet_nil ?_
    clear hq hrk
    refine call_ (i := 18) rfl (by kernel_rfl) (by kernel_rfl) ?_
    intro wl sl
    have Hl := Hk.trans (sl.all.mono Hk.size)
    unfold Oper.does
    go_simp
    refine (own_any A c _ l wl _ rfl (hrl.below Hl) Hl.size (by omega)).mono ?_
    rintro e wm ⟨Am, cm, rfl, hom, hbm⟩
    have Hm := Hl.trans (hbm.mono Hl.size)
    refine ⟨_, rfl, turn_ (S1 := (wl.heap.size ≤ ·)) sl (Save.of_below hbm) (fun i hi h => absurd (Nat.lt_of_lt_of_le hi sl.size) (Nat.not_lt.2 h)) ?_⟩
    refine callx_ (i := 20) rfl (by kernel_rfl) (by kernel_rfl) ?_
    intro kn
    have hxn := hom.below (below_drawn wm.heap.size wm kn) (Nat.le_refl _)
    unfold Oper.does
    go_simp
    refine (refSigned_any Am _ cm l y _ wl.heap.size rfl hxn hbm.size (by omega) hy0 hy1).mono ?_
    rintro e wn ⟨An, cn, he, hon, hbn⟩
    rw [HN2.out] at he
    subst he
    have Hn := (Hm.trans (below_drawn _ _ kn)).trans (hbn.mono Hl.size)
    have hrn := hon.rb
    clear hon hxn hom
    refine ⟨_, rfl, turn_ (S1 := fun _ => False) (Save.drawn _ _ _) (Save.of_blw hbn) (fun _ _ h => h.elim) ?_⟩
    clear hbn hbm
    have hq : ∀ p : Later (fun _ => False) wn, (convert 24 9 (.slice An n2 cn)).run Try.prog p.w = .ok (.string s2) p.w := fun p => by
      rw [← HS2.out]
      exact str_rb _ _ An cn _ _ (hrn.belowH p.ok.all) HN2.out.symm
    have hqu : ∀ p : Later (fun _ => False) wn, (convert 24 9 (.slice Au nn cu)).run Try.prog p.w = .ok (.string s3) p.w := fun p => by
      rw [← HS3.out]
      exact str_rb _ _ Au cu _ _ (hru.below (Hn.trans (p.ok.all.mono Hn.size))) HNN.out
    have hqv : ∀ p : Later (fun _ => False) wn, (convert 24 9 (.slice Av nn cv)).run Try.prog p.w = .ok (.string s3) p.w := fun p => by
      rw [← HS3.out]
      exact str_rb _ _ Av cv _ _ (hrv.below (Hn.trans (p.ok.all.mono Hn.size))) HNN.out
    refine seg_ [21, 22, 23, 24, 25, 26, 27, 28, 29, 30, 31, 32, 33, 34, 35, 36, 37, 38, 41, 42] 7 _ (by kernel_rfl) (by kernel_rfl) (by kernel_rfl) (by simp only [pickOps, mask, plain, List.getElem?_toArray, List.getElem?_cons_zero, List.getElem?_cons_succ, if_true]; rfl) ?_
    repeat (go_big_quiet_step (fail))
    refine wpQuiet_nil ?_
    clear hq hqu hqv hrn
    refine fork_ (i := 39) (j := 43) rfl rfl (by kernel_rfl) (by kernel_rfl) (by kernel_rfl) ?_ ?_
    · intro ko
      have Ho := Hn.trans (below_drawn _ _ ko)
      unfold Oper.does
      go_simp
      refine same_ (Save.drawn _ _ ko) (Save.of_below ((Below.refl _ _).alloc (Nat.le_refl _) _)) ?_
      have Hp := Ho.alloc Ho.size (.cells #[.slice A l.length c, .slice P m.length cp] 24)
      refine calm_ (i := 40) (.int .u16 sv) rfl (by kernel_rfl) (by kernel_rfl) (by kernel_rfl) (by kernel_rfl) ?_ ?_
      · intro wz sz
        have Hz := Hp.trans (sz.all.mono Hp.size)
        have hrow := row2 (.slice A l.length c) (.slice P m.length cp) (sz.all.mono (by simp))
        unfold Oper.does
        go_simp
        refine (sum2c _ A P c cp _ _ l m wz rfl rfl hrow.1 hrow.2 ((hrl.below Hz).more Hz.size) ((hrm.below Hz).more Hz.size) (by omega)).mono ?_
        rintro e w' ⟨he, rfl⟩
        rw [HSV.out] at he
        exact ⟨_, he, rfl, _, rfl⟩
      refine call_ (i := 43) rfl (by kernel_rfl) (by kernel_rfl) ?_
      intro wq sq
      have Hq := Hp.trans (sq.all.mono Hp.size)
      unfold Oper.does
      go_simp
      refine same_ sq (Save.of_below ((Below.refl _ _).alloc (Nat.le_refl _) _)) ?_
      have Hr := Hq.alloc Hq.size (.cells #[.slice A l.length c, .slice P m.length cp] 24)
      refine calm_ (i := 44) (.int .u16 sv) rfl (by kernel_rfl) (by kernel_rfl) (by kernel_rfl) (by kernel_rfl) ?_ ?_
      · intro wz sz
        have Hz := Hr.trans (sz.all.mono Hr.size)
        have hrow := row2 (.slice A l.length c) (.slice P m.length cp) (sz.all.mono (by simp))
        unfold Oper.does
        go_simp
        refine (refSum2c _ A P c cp _ _ l m wz rfl rfl hrow.1 hrow.2 ((hrl.below Hz).more Hz.size) ((hrm.below Hz).more Hz.size) (by omega)).mono ?_
        rintro e w' ⟨he, rfl⟩
        rw [HSV.out] at he
        exact ⟨_, he, rfl, _, rfl⟩
      go_simp
      refine seg_ [45, 46, 47] 0 _ (by kernel_rfl) (by kernel_rfl) (by kernel_rfl) (by simp only [pickOps, mask, plain, List.getElem?_toArray, List.getElem?_cons_zero, List.getElem?_cons_succ, if_true]; rfl) ?_
      repeat (go_big_quiet_step (fail))
      refine wpQuiet_nil ?_
      refine end_ (by kernel_rfl) ?_
      intro wE hE
      go_wp2_with fail
      go_meet
      exact ⟨rfl, Hr.trans (hE.all.mono Hr.size)⟩
    · intro ko
      have Ho := Hn.trans (below_drawn _ _ ko)
      unfold Oper.does
      go_simp
      refine same_ (Save.drawn _ _ ko) (Save.of_below ((Below.refl _ _).alloc (Nat.le_refl _) _)) ?_
      have Hp := Ho.alloc Ho.size (.cells #[.slice A l.length c, .slice P m.length cp] 24)
      refine call_ (i := 39) rfl (by kernel_rfl) (by kernel_rfl) ?_
      intro wq sq
      have Hq := Hp.trans (sq.all.mono Hp.size)
      unfold Oper.does
      go_simp
      refine same_ sq (Save.of_below ((Below.refl _ _).alloc (Nat.le_refl _) _)) ?_
      have Hr := Hq.alloc Hq.size (.cells #[.slice A l.length c, .slice P m.length cp] 24)
      refine calm_ (i := 40) (.int .u16 sv) rfl (by kernel_rfl) (by kernel_rfl) (by kernel_rfl) (by kernel_rfl) ?_ ?_
      · intro wz sz
        have Hz := Hr.trans (sz.all.mono Hr.size)
        have hrow := row2 (.slice A l.length c) (.slice P m.length cp) (sz.all.mono (by simp))
        unfold Oper.does
        go_simp
        refine (sum2c _ A P c cp _ _ l m wz rfl rfl hrow.1 hrow.2 ((hrl.below Hz).more Hz.size) ((hrm.below Hz).more Hz.size) (by omega)).mono ?_
        rintro e w' ⟨he, rfl⟩
        rw [HSV.out] at he
        exact ⟨_, he, rfl, _, rfl⟩
      refine calm_ (i := 44) (.int .u16 sv) rfl (by kernel_rfl) (by kernel_rfl) (by kernel_rfl) (by kernel_rfl) ?_ ?_
      · intro wz sz
        have Hz := Hr.trans (sz.all.mono Hr.size)
        have hrow := row2 (.slice A l.length c) (.slice P m.length cp) ((sq.all.trans ((((Below.refl _ _).alloc (Nat.le_refl _) _).trans (sz.all.mono (by simp))).mono sq.size)).mono (by simp))
        unfold Oper.does
        go_simp
        refine (refSum2c _ A P c cp _ _ l m wz rfl rfl hrow.1 hrow.2 ((hrl.below Hz).more Hz.size) ((hrm.below Hz).more Hz.size) (by omega)).mono ?_
        rintro e w' ⟨he, rfl⟩
        rw [HSV.out] at he
        exact ⟨_, he, rfl, _, rfl⟩
      go_simp
      refine seg_ [45, 46, 47] 0 _ (by kernel_rfl) (by kernel_rfl) (by kernel_rfl) (by simp only [pickOps, mask, plain, List.getElem?_toArray, List.getElem?_cons_zero, List.getElem?_cons_succ, if_true]; rfl) ?_
      repeat (go_big_quiet_step (fail))
      refine wpQuiet_nil ?_
      refine end_ (by kernel_rfl) ?_
      intro wE hE
      go_wp2_with fail
      go_meet
      exact ⟨rfl, Hr.trans (hE.all.mono Hr.size)⟩
  case rest =>
    obtain ⟨rfl, hbE⟩ := hcut
    go_wp2_with fail
    go_ret
    exact ⟨rfl, hB6.trans (hbE.mono hB6.size)⟩
end Go.Proofs.Ytbjhdmhligjplaa
