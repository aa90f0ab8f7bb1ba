
/- KeysMerges. -/
import Derived.Test.YtdmjfadeffcidaaT33
namespace Go.Proofs.Ytdmjfadeffcidaa
open Go.RowKit
set_option linter.unusedSimpArgs false
set_option linter.unusedVariables false
set_option maxRecDepth 100000

theorem tc_eql_same (y : Tc) (w : World) : (binOp .eql 47 y.val y.val).run Try.prog w = .ok (.bool true) w := by
  unfold Tc.val
  go_simp
theorem tc_eql_other (z y : Tc) (h : z ≠ y) (w : World) : (binOp .eql 47 z.val y.val).run Try.prog w = .ok (.bool false) w := by
  unfold Tc.val
  go_simp
  obtain ⟨z0, z1, z2, z3⟩ := z
  obtain ⟨y0, y1, y2, y3⟩ := y
  simp only [ne_eq, Tc.mk.injEq, not_and] at h
  exact h
theorem tsAt_nil (w : World) (B : Nat) : TsAt w B none [] := ⟨fun h => absurd h (by simp)⟩
theorem errM_zero {A B : List Tc} (hA : Good A) (hB : Good B) (hl : A.length + B.length ≤ 65536) : errM A B = 0 := by
  unfold errM; rw [if_pos (errL_zero.2 hA), if_pos (errL_zero.2 hB), if_neg (by omega)]
theorem good_nil : Good [] := good_iff.2 ⟨by simp, List.Pairwise.nil, fun x hx => by cases hx⟩
/-- No touch of the first x is like one of the others; of the next, none of the first y. -/
def UnlikeTo (A B : List Tc) (x y : Nat) : Prop := ∀ i j, (i < x ∨ (i = x ∧ j < y)) → i < A.length → j < B.length → ¬ ((A.getD i tcZ).what = (B.getD j tcZ).what ∧ (A.getD i tcZ).key = (B.getD j tcZ).key)
theorem UnlikeTo.start (A B : List Tc) : UnlikeTo A B 0 0 := fun i j h => by omega
theorem UnlikeTo.more {A B : List Tc} {x y : Nat} (h : UnlikeTo A B x y) (hn : ¬ ((A.getD x tcZ).what = (B.getD y tcZ).what ∧ (A.getD x tcZ).key = (B.getD y tcZ).key)) : UnlikeTo A B x (y + 1) := fun i j h1 h2 h3 => by
  by_cases e : i = x ∧ j = y
  · obtain ⟨rfl, rfl⟩ := e; exact hn
  · exact h i j (by omega) h2 h3
theorem UnlikeTo.next {A B : List Tc} {x : Nat} (h : UnlikeTo A B x B.length) : UnlikeTo A B (x + 1) 0 := fun i j h1 h2 h3 => h i j (by omega) h2 h3
theorem UnlikeTo.all {A B : List Tc} (h : UnlikeTo A B A.length 0) : Unlike A B := fun x hx y hy => by
  obtain ⟨i, hi, rfl⟩ := List.getElem_of_mem hx
  obtain ⟨j, hj, rfl⟩ := List.getElem_of_mem hy
  rw [← getD_getElem A i hi, ← getD_getElem B j hj]
  exact h i j (.inl hi) hi hj

set_option maxHeartbeats 16000000 in
theorem merges_good (w : World) (A1 : Option Addr) (c1 : Nat) (l1 : List Tc) (ht1 : TsAt w w.heap.size A1 l1) (k1 : l1.length ≤ c1 ∧ c1 ≤ maxLen) (wf1 : ∀ x ∈ l1, x.wf) (z1 : A1 = none → c1 = 0) (A2 : Option Addr) (c2 : Nat) (l2 : List Tc) (ht2 : TsAt w w.heap.size A2 l2) (k2 : l2.length ≤ c2 ∧ c2 ≤ maxLen) (wf2 : ∀ x ∈ l2, x.wf) (z2 : A2 = none → c2 = 0) (t : Int) (hq1 : l1.length ≤ 60) (hq2 : l2.length ≤ 60) (hg1 : Good l1) (hg2 : Good l2) :
    Calls Try.prog 8 #[.slice A1 l1.length c1, .slice A2 l2.length c2, .int .i64 t] w fun e w' => e = .returned (.bool true) ∧ Below w.heap.size w w' := by
  have HLv := Lib.hid (fun w => lives17_any w)
  have HCk1 := Lib.hid (fun (w1 : World) (hb : Below w.heap.size w w1) => by have := check_any w1 A1 c1 l1 (ht1.on hb hb.size) k1; rw [errL_zero.2 hg1] at this; exact this)
  have HCk2 := Lib.hid (fun (w1 : World) (hb : Below w.heap.size w w1) => by have := check_any w1 A2 c2 l2 (ht2.on hb hb.size) k2; rw [errL_zero.2 hg2] at this; exact this)
  have HMg := Lib.hid (fun (w1 : World) (hb : Below w.heap.size w w1) => by have := merge17_any w1 A1 A2 c1 c2 l1 l2 (ht1.on hb hb.size) (ht2.on hb hb.size) z1 z2 k1 k2; rw [errM_zero hg1 hg2 (by omega)] at this; exact this)
  have HMn := Lib.hid (fun (w1 : World) (hb : Below w.heap.size w w1) => by have := merge17_any w1 A1 none c1 0 l1 [] (ht1.on hb hb.size) (tsAt_nil _ _) z1 (fun _ => rfl) k1 ⟨by simp, by unfold maxLen; omega⟩; rw [errM_zero hg1 good_nil (by simp; omega), mergeL_none] at this; exact this)
  have HT1 := Lib.hid ht1
  have HT2 := Lib.hid ht2
  have hgm := mergeL_good hg1 hg2 (by omega)
  have HWt := Lib.hid (Went.start l1 l2)
  have HDs := Lib.hid (fun (hu : Unlike l1 l2) => downs_merge hg1 hg2 (by omega) hu t)
  have HUs := Lib.hid (until_merge hg1 hg2 (by omega) t)
  have hwm : ∀ x ∈ mergeL l1 l2, x.wf := fun x hx => by
    rcases (mergeL_mem _ _ x).1 hx with h | h
    · exact wf1 x h
    · exact wf2 x h
  have HDn1 := Lib.hid (fun (w1 : World) (hb : Below w.heap.size w w1) => downAt_any w1 A1 c1 l1 t (ht1.on hb hb.size) wf1 k1)
  have HDn2 := Lib.hid (fun (w1 : World) (hb : Below w.heap.size w w1) => downAt_any w1 A2 c2 l2 t (ht2.on hb hb.size) wf2 k2)
  have HUn1 := Lib.hid (fun (w1 : World) (hb : Below w.heap.size w w1) => until_any w1 A1 c1 l1 t (ht1.on hb hb.size) k1)
  have HUn2 := Lib.hid (fun (w1 : World) (hb : Below w.heap.size w w1) => until_any w1 A2 c2 l2 t (ht2.on hb hb.size) k2)
  have HDnM := Lib.hid (fun (w1 : World) (A : Option Addr) (c : Nat) (h : TsAt w1 w1.heap.size A (mergeL l1 l2)) (h1 : (mergeL l1 l2).length ≤ c) (h2 : c ≤ maxLen) => downAt_any w1 A c _ t h hwm ⟨h1, h2⟩)
  have HUnM := Lib.hid (fun (w1 : World) (A : Option Addr) (c : Nat) (h : TsAt w1 w1.heap.size A (mergeL l1 l2)) (h1 : (mergeL l1 l2).length ≤ c) (h2 : c ≤ maxLen) => until_any w1 A c _ t h ⟨h1, h2⟩)
  have HCkM := Lib.hid (fun (w1 : World) (A : Option Addr) (c : Nat) (h : TsAt w1 w1.heap.size A (mergeL l1 l2)) (h1 : (mergeL l1 l2).length ≤ c) (h2 : c ≤ maxLen) => by have := check_any w1 A c _ h ⟨h1, h2⟩; rw [errL_zero.2 hgm] at this; exact this)
  have HTou := Lib.hid (fun (w1 : World) (A : Option Addr) (c : Nat) (h : TsAt w1 w1.heap.size A l1) (hb : Below w.heap.size w w1) => by have := touches_any w1 A A1 c c1 l1 l1 h (ht1.on hb hb.size) (by unfold maxLen; omega); rw [decide_eq_true rfl] at this; exact this)
  have HML := Lib.hid (mergeL_len l1 l2)
  obtain ⟨m1a, m1⟩ := k1
  obtain ⟨m2a, m2⟩ := k2
  have hd1 := downs_len (l1.take (untilN l1 t))
  have hd2 := downs_len (l2.take (untilN l2 t))
  have hu1 := untilN_le l1 t
  have hu2 := untilN_le l2 t
  change (downAt l1 t).length ≤ 40 at hd1
  change (downAt l2 t).length ≤ 40 at hd2
  clear ht1 ht2 wf1 wf2 z1 z2 hg1 hg2 hgm hwm
  generalize mergeL l1 l2 = D at *
  generalize downAt l1 t = da at *
  generalize downAt l2 t = db at *
  generalize downAt D t = dm at *
  generalize untilN l1 t = ua at *
  generalize untilN l2 t = ub at *
  generalize untilN D t = um at *
  unfold maxLen at m1 m2
  go_enter Try.func8, Try.ntmps8
  go_wp2_with fail
  refine (HLv.out w).mono ?_
  rintro e w1 ⟨rfl, hb⟩
  have HB1 := Lib.hid hb
  clear hb HLv
  go_wp2_with fail
  refine (HCk1.out w1 HB1.out).mono ?_
  rintro e w2 ⟨rfl, hb⟩
  have HB2 := Lib.hid (HB1.out.trans (hb.mono HB1.out.size))
  clear hb HB1 HCk1
  go_wp2_with fail
  refine (HCk2.out w2 HB2.out).mono ?_
  rintro e w3 ⟨rfl, hb⟩
  have HB3 := Lib.hid (HB2.out.trans (hb.mono HB2.out.size))
  clear hb HB2 HCk2
  go_wp2_with fail
  refine (HMg.out w3 HB3.out).mono ?_
  rintro e w4 ⟨⟨v4, rfl, ho⟩, hb⟩
  rw [if_pos rfl] at ho
  obtain ⟨A4, c4, rfl, -, l4, k4⟩ := ho.shape0
  have HO4 := Lib.hid ho
  have HB4 := Lib.hid (HB3.out.trans (hb.mono HB3.out.size))
  have HK4 := Lib.hid (And.intro l4 k4)
  clear ho hb l4 k4 HB3 HMg
  go_wp2_with fail
  refine (HMn.out w4 HB4.out).mono ?_
  rintro e w5 ⟨⟨v5, rfl, ho⟩, hb⟩
  rw [if_pos rfl] at ho
  obtain ⟨A5, c5, rfl, -, -, -⟩ := ho.shape0
  have HT5 := Lib.hid ho.ts
  have HT4 := Lib.hid (HO4.out.ts.on hb hb.size)
  have HB5 := Lib.hid (HB4.out.trans (hb.mono HB4.out.size))
  clear ho hb HB4 HMn HO4
  go_wp2_with fail
  refine (HTou.out w5 A5 c5 HT5.out HB5.out).mono ?_
  rintro e w6 ⟨rfl, hb⟩
  have HT6 := Lib.hid (HT4.out.on hb hb.size)
  have HB6 := Lib.hid (HB5.out.trans (hb.mono HB5.out.size))
  clear hb HT5 HT4 HB5 HTou
  obtain ⟨n, hn⟩ : ∃ n, D.length = n := ⟨_, rfl⟩
  have HN := Lib.hid hn
  have hnl1 : n ≤ l1.length + l2.length := by have := HML.out; omega
  have hnl2 : l1.length + l2.length ≤ n := by have := HML.out; omega
  have hnb : ((n : Int) != (l1.length : Int) + (l2.length : Int)) = false := by simp; omega
  rw [hn] at HK4 HCkM HDnM HUnM ⊢
  clear hn
  go_wp2_with fail
  refine (HCkM.out w6 A4 c4 HT6.out HK4.out.1 HK4.out.2).mono ?_
  rintro e w7 ⟨rfl, hb⟩
  have HT7 := Lib.hid (HT6.out.on hb hb.size)
  have HB7 := Lib.hid (HB6.out.trans (hb.mono HB6.out.size))
  clear hb HT6 HB6 HCkM hnb
  go_wp2_with fail
  go_loopw [11, 12, 13] (fun s1 s2 s3 wr => ∃ i k x : Nat, s1 = .int .i64 i ∧ s2 = .int .i64 k ∧ s3 = .int .i64 x ∧ i ≤ l1.length ∧ k ≤ l2.length ∧ x ≤ i + k ∧ i + k ≤ x ∧ Hid (Went D l1 l2 i k) ∧ Below w7.heap.size w7 wr) (fun _ _ s3 _ => n - (intOf s3).toNat)
  case atStart => exact ⟨0, 0, 0, rfl, rfl, rfl, Nat.zero_le _, Nat.zero_le _, Nat.le_refl _, Nat.le_refl _, HWt, Below.refl _ _⟩
  case round =>
    rename World => wr
    obtain ⟨i, k, x, rfl, rfl, rfl, hi, hk, hx1, hx2, HW, hb⟩ := hrel
    have HBr := Lib.hid hb
    have HBw := Lib.hid (HB7.out.trans (hb.mono HB7.out.size))
    clear hb HWt
    by_cases hxn : x < n
    · obtain ⟨b4, o4, hA4, hb4, hat4⟩ := HT7.out.at_ (by rw [HN.out]; omega)
      have hD := (hat4 x (by rw [HN.out]; exact hxn)).below HBr.out hb4
      have hxe : x = i + k := by omega
      clear hat4 HDn1 HDn2 HUn1 HUn2 HDnM HUnM HDs HUs
      rcases HW.out.step hi hk (by omega) with ⟨hil, hk1, hval, hnext⟩ | ⟨hkl, hi1, hval, hnext⟩
      · have HX := Lib.hid hnext
        rw [show D.getD x tcZ = l1.getD i tcZ by rw [hxe, hval]] at hD
        obtain ⟨b1, o1, hA1, hb1, hat1⟩ := HT1.out.at_ (by omega)
        have hU := (hat1 i hil).below HBw.out hb1
        clear hat1 hval hnext hxe HW
        rcases hk1 with rfl | ⟨hkl, htime⟩
        · generalize l1.getD i tcZ = u at *
          have hq := fun w => tc_eql_same u w
          unfold Tc.val at hq
          obtain ⟨c0, c1, c2, c3⟩ := hD
          obtain ⟨d0, d1, d2, d3⟩ := hU
          subst hA4 hA1
          go_wp2_with fail
          go_quiet (fail)
          go_wp2_with fail
          exact ⟨⟨i + 1, l2.length, x + 1, by go_num, rfl, by go_num, by omega, by omega, by omega, by omega, HX, ⟨HBr.out.os, HBr.out.tape, HBr.out.output, HBr.out.size, HBr.out.block⟩⟩, by simp [intOf]; omega⟩
        · obtain ⟨b2, o2, hA2, hb2, hat2⟩ := HT2.out.at_ (by omega)
          have hV := (hat2 k hkl).below HBw.out hb2
          clear hat2
          generalize l1.getD i tcZ = u at *
          generalize l2.getD k tcZ = v at *
          have hq := fun w => tc_eql_same u w
          unfold Tc.val at hq
          obtain ⟨c0, c1, c2, c3⟩ := hD
          obtain ⟨d0, d1, d2, d3⟩ := hU
          obtain ⟨e0, e1, e2, e3⟩ := hV
          have hkb : (k == l2.length) = false := by simp; omega
          have hkn : ¬ k = l2.length := by omega
          have hkb2 : ((k : Int) == (l2.length : Int)) = false := by simp; omega
          have htd : decide (u.time ≤ v.time) = true := decide_eq_true htime
          clear htime
          subst hA4 hA1 hA2
          go_wp2_with fail
          go_quiet (fail)
          go_wp2_with fail
          exact ⟨⟨i + 1, k, x + 1, by go_num, rfl, by go_num, by omega, by omega, by omega, by omega, HX, ⟨HBr.out.os, HBr.out.tape, HBr.out.output, HBr.out.size, HBr.out.block⟩⟩, by simp [intOf]; omega⟩
      · have HX := Lib.hid hnext
        rw [show D.getD x tcZ = l2.getD k tcZ by rw [hxe, hval]] at hD
        obtain ⟨b2, o2, hA2, hb2, hat2⟩ := HT2.out.at_ (by omega)
        have hV := (hat2 k hkl).below HBw.out hb2
        clear hat2 hval hnext hxe HW
        rcases hi1 with rfl | ⟨hil, htime⟩
        · generalize l2.getD k tcZ = v at *
          have hq := fun w => tc_eql_same v w
          unfold Tc.val at hq
          obtain ⟨c0, c1, c2, c3⟩ := hD
          obtain ⟨e0, e1, e2, e3⟩ := hV
          subst hA4 hA2
          go_wp2_with fail
          go_quiet (fail)
          go_wp2_with fail
          go_quiet (fail)
          go_wp2_with fail
          exact ⟨⟨l1.length, k + 1, x + 1, rfl, by go_num, by go_num, by omega, by omega, by omega, by omega, HX, ⟨HBr.out.os, HBr.out.tape, HBr.out.output, HBr.out.size, HBr.out.block⟩⟩, by simp [intOf]; omega⟩
        · obtain ⟨b1, o1, hA1, hb1, hat1⟩ := HT1.out.at_ (by omega)
          have hU := (hat1 i hil).below HBw.out hb1
          clear hat1
          generalize l1.getD i tcZ = u at *
          generalize l2.getD k tcZ = v at *
          have hq := fun w => tc_eql_same v w
          have hkb : (k == l2.length) = false := by simp; omega
          have hkn : ¬ k = l2.length := by omega
          have htd : decide (u.time ≤ v.time) = false := decide_eq_false htime
          by_cases huv : v = u
          · subst huv
            exact absurd (Int.le_refl _) htime
          · have hq2 := fun w => tc_eql_other v u huv w
            unfold Tc.val at hq hq2
            obtain ⟨c0, c1, c2, c3⟩ := hD
            obtain ⟨d0, d1, d2, d3⟩ := hU
            obtain ⟨e0, e1, e2, e3⟩ := hV
            clear huv htime
            subst hA4 hA1 hA2
            go_wp2_with fail
            go_quiet (fail)
            go_wp2_with fail
            go_quiet (fail)
            go_wp2_with fail
            exact ⟨⟨i, k + 1, x + 1, rfl, by go_num, by go_num, by omega, by omega, by omega, by omega, HX, ⟨HBr.out.os, HBr.out.tape, HBr.out.output, HBr.out.size, HBr.out.block⟩⟩, by simp [intOf]; omega⟩
    · obtain rfl : x = n := by omega
      clear HW hi hk hx1 hx2 HML HN
      go_wp2_with fail
      go_loopw [14, 15] (fun s1 _ wr => ∃ x : Nat, s1 = .int .i64 x ∧ x ≤ l1.length ∧ Hid (UnlikeTo l1 l2 x 0) ∧ Below w7.heap.size w7 wr) (fun s1 _ _ => l1.length - (intOf s1).toNat)
      case atStart => exact ⟨0, rfl, Nat.zero_le _, Lib.hid (UnlikeTo.start _ _), HBr.out⟩
      case round =>
        rename World => wq
        clear HBr HBw
        obtain ⟨x1, rfl, hx1, HW, hb⟩ := hrel
        have HBr := Lib.hid hb
        have HBw := Lib.hid (HB7.out.trans (hb.mono HB7.out.size))
        clear hb
        by_cases hxl : x1 < l1.length
        · obtain ⟨b1, o1, hA1, hb1, hat1⟩ := HT1.out.at_ (by omega)
          have HU1 := Lib.hid (hat1 x1 hxl)
          clear hat1 HDn1 HDn2 HUn1 HUn2 HDnM HUnM HDs HUs
          obtain ⟨u, hu⟩ : ∃ u, l1.getD x1 tcZ = u := ⟨_, rfl⟩
          rw [hu] at HU1
          have HUu := Lib.hid hu
          clear hu
          subst hA1
          go_wp2_with fail
          go_loopw [15] (fun s1 wr => ∃ y : Nat, s1 = .int .i64 y ∧ y ≤ l2.length ∧ Hid (UnlikeTo l1 l2 x1 y) ∧ Below w7.heap.size w7 wr) (fun s1 _ => l2.length - (intOf s1).toNat)
          case atStart => exact ⟨0, rfl, Nat.zero_le _, HW, HBr.out⟩
          case round =>
            rename World => wi
            clear HBr HBw HW
            obtain ⟨y1, rfl, hy1, HW, hb⟩ := hrel
            have HBi := Lib.hid hb
            have HBw := Lib.hid (HB7.out.trans (hb.mono HB7.out.size))
            clear hb
            by_cases hyl : y1 < l2.length
            · obtain ⟨b2, o2, hA2, hb2, hat2⟩ := HT2.out.at_ (by omega)
              have hV := (hat2 y1 hyl).below HBw.out hb2
              have hU := HU1.out.below HBw.out hb1
              clear hat2
              obtain ⟨v, hv⟩ : ∃ v, l2.getD y1 tcZ = v := ⟨_, rfl⟩
              rw [hv] at hV
              have HMo := Lib.hid (fun (hn : ¬ (u.what = v.what ∧ u.key = v.key)) => HW.out.more (by rw [HUu.out, hv]; exact hn))
              clear hv HW
              obtain ⟨d0, d1, d2, d3⟩ := hU
              obtain ⟨e0, e1, e2, e3⟩ := hV
              subst hA2
              by_cases hww : u.what = v.what
              · by_cases hkk : u.key = v.key
                · have hwb : (u.what == v.what) = true := by simpa using hww
                  have hkb : (u.key == v.key) = true := by simpa using hkk
                  clear hww hkk HMo
                  go_wp2_with fail
                  go_quiet (fail)
                  go_wp2_with fail
                  go_ret
                  exact ⟨rfl, ⟨HBw.out.os, HBw.out.tape, HBw.out.output, HBw.out.size, HBw.out.block⟩⟩
                · have HX := Lib.hid (HMo.out (fun h => hkk h.2))
                  have hwb : (u.what == v.what) = true := by simpa using hww
                  have hkb : (u.key == v.key) = false := by simpa using hkk
                  clear hww hkk HMo
                  go_wp2_with fail
                  go_quiet (fail)
                  go_wp2_with fail
                  exact ⟨⟨y1 + 1, by go_num, by omega, HX, ⟨HBi.out.os, HBi.out.tape, HBi.out.output, HBi.out.size, HBi.out.block⟩⟩, by simp [intOf]; omega⟩
              · have HX := Lib.hid (HMo.out (fun h => hww h.1))
                have hwb : (u.what == v.what) = false := by simpa using hww
                clear hww HMo
                go_wp2_with fail
                go_quiet (fail)
                go_wp2_with fail
                exact ⟨⟨y1 + 1, by go_num, by omega, HX, ⟨HBi.out.os, HBi.out.tape, HBi.out.output, HBi.out.size, HBi.out.block⟩⟩, by simp [intOf]; omega⟩
            · obtain rfl : y1 = l2.length := by omega
              have HX := Lib.hid HW.out.next
              clear HW
              go_wp2_with fail
              exact ⟨⟨x1 + 1, by go_num, by omega, HX, HBi.out⟩, by simp [intOf]; omega⟩
        · obtain rfl : x1 = l1.length := by omega
          have hds := HDs.out HW.out.all
          have hus := HUs.out
          obtain ⟨nm, hnm⟩ : ∃ nm, dm.length = nm := ⟨_, rfl⟩
          rw [hnm] at hds HDnM
          have hdb : ((nm : Int) == (da.length : Int) + (db.length : Int)) = true := by simp; omega
          have hnm1 : nm ≤ da.length + db.length := by omega
          have hub : ((um : Int) == (ua : Int) + (ub : Int)) = true := by simp; omega
          have hum1 : um ≤ ua + ub := by omega
          have HDM := Lib.hid (fun (w1 : World) (hb : Below w7.heap.size w7 w1) => HDnM.out w1 A4 c4 (HT7.out.on hb hb.size) HK4.out.1 HK4.out.2)
          have HUM := Lib.hid (fun (w1 : World) (hb : Below w7.heap.size w7 w1) => HUnM.out w1 A4 c4 (HT7.out.on hb hb.size) HK4.out.1 HK4.out.2)
          have HBB := Lib.hid (fun (w1 : World) (hb : Below w7.heap.size w7 w1) => HB7.out.trans (hb.mono HB7.out.size))
          clear hds hus hnm HDs HUs HW HBw HDnM HUnM HT1 HT2 HT7 HK4 hnl1 hnl2
          go_wp2_with fail
          refine (HDM.out wq HBr.out).mono ?_
          rintro e w8 ⟨v8, rfl, ho, hb⟩
          obtain ⟨A8, c8, rfl⟩ := row_shape ho
          have HB8 := Lib.hid (HBr.out.trans (hb.mono HBr.out.size))
          clear ho hb HBr HDM
          go_wp2_with fail
          refine (HDn1.out w8 (HBB.out w8 HB8.out)).mono ?_
          rintro e w9 ⟨v9, rfl, ho, hb⟩
          obtain ⟨A9, c9, rfl⟩ := row_shape ho
          have HB9 := Lib.hid (HB8.out.trans (hb.mono HB8.out.size))
          clear ho hb HB8 HDn1
          go_wp2_with fail
          refine (HDn2.out w9 (HBB.out w9 HB9.out)).mono ?_
          rintro e wa ⟨va, rfl, ho, hb⟩
          obtain ⟨Aa, ca, rfl⟩ := row_shape ho
          have HBa := Lib.hid (HB9.out.trans (hb.mono HB9.out.size))
          clear ho hb HB9 HDn2
          go_wp2_with fail
          refine (HUM.out wa HBa.out).mono ?_
          rintro e wb ⟨rfl, hb⟩
          have HBb := Lib.hid (HBa.out.trans (hb.mono HBa.out.size))
          clear hb HBa HUM
          go_wp2_with fail
          refine (HUn1.out wb (HBB.out wb HBb.out)).mono ?_
          rintro e wc ⟨rfl, hb⟩
          have HBc := Lib.hid (HBb.out.trans (hb.mono HBb.out.size))
          clear hb HBb HUn1
          go_wp2_with fail
          refine (HUn2.out wc (HBB.out wc HBc.out)).mono ?_
          rintro e wd ⟨rfl, hb⟩
          have HBd := Lib.hid (HBB.out wd (HBc.out.trans (hb.mono HBc.out.size)))
          clear hb HBc HUn2 HBB
          go_wp2_with fail
          go_ret
          exact ⟨rfl, HBd.out⟩
end Go.Proofs.Ytdmjfadeffcidaa
