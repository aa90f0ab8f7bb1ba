
/- KeysRows. -/
import Derived.Test.YtdmjfadeffcidaaT7
import Derived.Test.YtdmjfadeffcidaaT16
namespace Go.Proofs.Ytdmjfadeffcidaa
open Go.RowKit
set_option linter.unusedSimpArgs false
set_option linter.unusedVariables false
set_option maxRecDepth 100000

theorem and_127f : ∀ x : Fin 256, bits .and .u8 (x.1 : Int) 127 = (x.1 : Int) % 128 := by decide +kernel
theorem and_127 {h : Int} (h0 : 0 ≤ h) (h1 : h < 256) : bits .and .u8 h 127 = h % 128 := by
  have := and_127f ⟨h.toNat, by omega⟩
  simp only [show ((h.toNat : Nat) : Int) = h by omega] at this
  exact this

set_option maxHeartbeats 8000000 in
theorem walk_KeysRows (w : World) (A : Option Addr) (c n : Nat) (l : List Tc) (hn : n = l.length) (hl : TsAt w w.heap.size A l ∧ n ≤ c ∧ c ≤ maxLen ∧ (∀ x ∈ l, x.wf) ∧ (A = none → c = 0)) (t : Int) (wt : (Lit.int .i64 t).wf = true) (h : Int) (wh : (Lit.int .u8 h).wf = true) :
    Calls Try.prog 7 #[.slice A n c, .int .i64 t, .int .u8 h] w fun e w' => e = .returned (.bool true) ∧ Below w.heap.size w w' := by
  subst hn
  obtain ⟨hts, h1, h2, hw, -⟩ := hl
  have hh : 0 ≤ h ∧ h < 256 := by have := bounds_u8 wh; omega
  have HLv := Lib.hid (fun w => lives17_any w)
  have HCk := Lib.hid (fun (w1 : World) (hb : Below w.heap.size w w1) => check_any w1 A c l (hts.on hb hb.size) ⟨h1, h2⟩)
  have HErr := Lib.hid (@errL_zero l)
  by_cases hlong : 60 < l.length
  · clear hts hw HCk
    unfold maxLen at h2
    go_enter Try.func7, Try.ntmps7
    go_wp2_with fail
    refine (HLv.out w).mono ?_
    rintro e w1 ⟨rfl, hb⟩
    go_wp2_with fail
    go_ret
    exact ⟨rfl, hb⟩
  · by_cases hg : Good l
    · have HDn := Lib.hid (fun (w1 : World) (hb : Below w.heap.size w w1) => downAt_any w1 A c l t (hts.on hb hb.size) hw ⟨h1, h2⟩)
      have HBy := Lib.hid (fun (x : Int) (hx : 0 ≤ x ∧ x < 256) (w1 : World) (hb : Below w.heap.size w w1) => byteAt_any w1 A c l t x (hts.on hb hb.size) hw ⟨h1, h2⟩ hx)
      have HUn := Lib.hid (fun (w1 : World) (hb : Below w.heap.size w w1) => until_any w1 A c l t (hts.on hb hb.size) ⟨h1, h2⟩)
      have HEr := Lib.hid (fun (w1 : World) (hb : Below w.heap.size w w1) => earAt_any w1 A c l t (hts.on hb hb.size) ⟨h1, h2⟩)
      have hby2 := fun (w1 : World) (hb : Below w.heap.size w w1) => byteAt_any w1 A c (l.take (untilN l t)) t h ((hts.on hb hb.size).take _) (fun x hx => hw x (List.mem_of_mem_take hx)) ⟨by have := untilN_le l t; rw [take_len]; omega, h2⟩ hh
      have hdn2 := fun (w1 : World) (hb : Below w.heap.size w w1) => downAt_any w1 A c (l.take (untilN l t)) t ((hts.on hb hb.size).take _) (fun x hx => hw x (List.mem_of_mem_take hx)) ⟨by have := untilN_le l t; rw [take_len]; omega, h2⟩
      simp only [take_len, byteAt_take hg, downAt_take hg] at hby2 hdn2
      have HBy2 := Lib.hid hby2
      have HDn2 := Lib.hid hdn2
      have HInts := Lib.hid (fun (w1 : World) (A1 A2 : Option Addr) (c1 c2 : Nat) (hx : NsAt w1 w1.heap.size A1 (downAt l t)) (hy : NsAt w1 w1.heap.size A2 (downAt l t)) => ints_any w1 A1 A2 c1 c2 _ _ hx hy (by have := downs_len (l.take (untilN l t)); unfold maxLen; unfold downAt; omega))
      have HTs := Lib.hid hts
      obtain ⟨hu1, hu2⟩ := untilN_in (t := t) hg
      have hu0 := untilN_le l t
      have HU1 := Lib.hid hu1
      have HU2 := Lib.hid hu2
      have HRow := Lib.hid (byte_row l t)
      have H127 := Lib.hid (byte_127 l t h hh.1 hh.2)
      have HW0 := Lib.hid (wantK_zero l t h)
      have HW8 := Lib.hid (wantK_all l t h)
      have HWy := Lib.hid (wantK_yes l t h)
      have HWn := Lib.hid (wantK_no l t h)
      have HWi := Lib.hid (wantK_in l t h)
      have HRi := Lib.hid (rowAt_in l t)
      have HRb := Lib.hid (rowAt_bit l t)
      have HVi := Lib.hid (byteAt_in l t h)
      have H160 := Lib.hid (byteAt_160 l t h)
      have H64 := Lib.hid (byteAt_64 l t h)
      have HMem := Lib.hid (mem_downAt l t)
      have HMore := Lib.hid (fun (i : Nat) (hi : i < (downAt l t).length) => mem_take_more (D := downAt l t) hi)
      have hdl : (downAt l t).length ≤ 40 := downs_len _
      obtain ⟨B, hBf⟩ : ∃ B : Int → Int, ∀ x, byteAt17 l t x = B x := ⟨_, fun x => rfl⟩
      have hE0 : errL l = 0 := HErr.out.2 hg
      have hh0 := hh.1
      have hh1 := hh.2
      simp only [hBf] at HBy HBy2 HRow H127 HW8 HVi H160 H64
      simp only [hE0] at HCk
      clear hts hw hu1 hu2 hby2 hdn2 hBf hE0 HErr hh
      generalize downAt l t = D at *
      generalize earAt l t = er at *
      generalize untilN l t = u at *
      generalize downB (l.take u) = f at *
      generalize rowAt l t = ro at *
      generalize wantK l t h = wk at *
      unfold maxLen at h2
      go_enter Try.func7, Try.ntmps7
      go_wp2_with fail
      refine (HLv.out w).mono ?_
      rintro e w1 ⟨rfl, hb⟩
      have HB1 := Lib.hid hb
      clear hb HLv
      go_wp2_with fail
      refine (HCk.out w1 HB1.out).mono ?_
      rintro e w2 ⟨rfl, hb⟩
      have HB2 := Lib.hid (HB1.out.trans (hb.mono HB1.out.size))
      clear hb HCk HB1
      go_wp2_with fail
      refine (HDn.out w2 HB2.out).mono ?_
      rintro e w3 ⟨v3, rfl, ho, hb⟩
      obtain ⟨A3, c3, rfl⟩ := row_shape ho
      have HD3 := Lib.hid (NsAt.own ho)
      have HB3 := Lib.hid (HB2.out.trans (hb.mono HB2.out.size))
      clear ho hb HDn HB2
      go_wp2_with fail
      refine (HBy.out h ⟨hh0, hh1⟩ w3 HB3.out).mono ?_
      rintro e w4 ⟨rfl, hb⟩
      have HD4 := Lib.hid (HD3.out.below hb)
      have hs3 : w3.heap.size ≤ w4.heap.size := hb.size
      have HB4 := Lib.hid (HB3.out.trans (hb.mono HB3.out.size))
      clear hb HD3 HB3
      go_wp2_with fail
      go_loopw [9, 10] (fun wv i wr => ∃ r : Nat, r ≤ 8 ∧ i = .int .i64 r ∧ wv = .int .u8 (wk r) ∧ Below w4.heap.size w4 wr) (fun _ i _ => 8 - (intOf i).toNat)
      case atStart => exact ⟨0, by omega, rfl, by rw [HW0.out], Below.refl _ _⟩
      case round =>
        rename World => wr
        obtain ⟨r, hr, rfl, rfl, hb⟩ := hrel
        have HBr := Lib.hid hb
        clear hb
        by_cases hlt : r < 8
        · have hx1 : r = 0 ∨ r = 1 ∨ r = 2 ∨ r = 3 ∨ r = 4 ∨ r = 5 ∨ r = 6 ∨ r = 7 := by omega
          have hxr : bits .xor .u8 255 (2 ^ r % 256) = 255 - 2 ^ r ∧ 0 ≤ (255 : Int) - 2 ^ r ∧ (255 : Int) - 2 ^ r < 256 := by
            rcases hx1 with rfl | rfl | rfl | rfl | rfl | rfl | rfl | rfl <;> decide
          obtain ⟨hxa, hxb, hxc⟩ := hxr
          have HC := Lib.hid (HBy.out (255 - 2 ^ r) ⟨hxb, hxc⟩ wr (HB4.out.trans (HBr.out.mono HB4.out.size)))
          have hRow := HRow.out r hlt
          rw [hRow] at HC
          have HBit := Lib.hid (fun (k : Nat) (hk : k < 5) => HRb.out r k hk)
          have HYes := Lib.hid (HWy.out r)
          have HNo := Lib.hid (HWn.out r)
          have hro := HRi.out r
          have hwk := HWi.out r
          clear hx1 hRow HRow HRb HWy HWn HBy hxb hxc
          generalize (255 : Int) - 2 ^ r = x at *
          generalize ro r = one at *
          go_wp2_with fail
          refine HC.out.mono ?_
          rintro e w5 ⟨rfl, hb⟩
          have HB5 := Lib.hid (HBr.out.trans (hb.mono HBr.out.size))
          clear hb HBr HC hxa
          go_wp2_with fail
          go_loopw [12] (fun i wr => ∃ k : Nat, k ≤ 5 ∧ i = .int .i64 k ∧ Below w4.heap.size w4 wr) (fun i _ => 5 - (intOf i).toNat)
          case atStart => exact ⟨0, by omega, rfl, HB5.out⟩
          case round =>
            rename World => wk5
            obtain ⟨k, hk, rfl, hb⟩ := hrel
            have HBk := Lib.hid hb
            clear hb HB5
            by_cases hkt : k < 5
            · have hbit := HBit.out k hkt
              have hm := HMem.out (5 * r + k)
              clear HYes HNo HBit HW8 HVi H160 H64 H127
              rw [← hm] at hbit
              have HBk1 := Lib.hid hbit
              clear hm hbit
              go_wp2_with fail
              go_loopw [13, 14] (fun q i wr => ∃ m : Nat, m ≤ D.length ∧ i = .int .i64 m ∧ q = .bool (decide (((5 : Int) * r + k) ∈ D.take m)) ∧ Below w4.heap.size w4 wr) (fun _ i _ => D.length - (intOf i).toNat)
              case atStart => exact ⟨0, Nat.zero_le _, rfl, by simp, HBk.out⟩
              case round =>
                rename World => wm
                obtain ⟨m, hm, rfl, rfl, hb⟩ := hrel
                have HBm := Lib.hid hb
                clear hb HBk
                by_cases hmt : m < D.length
                · have hmore := HMore.out m hmt (5 * r + k)
                  have HMo := Lib.hid hmore
                  clear hmore HBk1 HMore HMem
                  obtain ⟨b3, o3, hA3, hb3, hat3⟩ := HD4.out.at_ (by omega)
                  have hcell := (HBm.out.cell (p := ⟨b3, o3 + m, none⟩) (show b3 < w4.heap.size by omega)).trans (hat3 m hmt)
                  clear hat3
                  generalize decide (((5 : Int) * r + k) ∈ D.take m) = q at *
                  generalize D.getD m 0 = d at *
                  subst hA3
                  cases q with
                  | true =>
                    go_wp2_with fail
                    exact ⟨⟨m + 1, by omega, by go_num, by rw [HMo.out]; rfl, HBm.out⟩, by simp [intOf] <;> omega⟩
                  | false =>
                    go_wp2_with fail
                    exact ⟨⟨m + 1, by omega, by go_num, by rw [HMo.out]; simp, HBm.out⟩, by simp [intOf] <;> omega⟩
                · obtain rfl : m = D.length := by omega
                  have hall : D.take D.length = D := List.take_length
                  rw [hall]
                  clear hall HMore HMem HD4
                  generalize decide (((5 : Int) * r + k) ∈ D) = q at *
                  have hp : 0 ≤ one / 2 ^ k := Int.ediv_nonneg hro.1 (Int.le_of_lt (Int.pow_pos (by decide)))
                  have hq : (!(q == ((one / 2 ^ k).tmod 2 == 0))) = false := by
                    rw [Int.tmod_eq_emod_of_nonneg hp, HBk1.out]
                    simp
                  clear hp HBk1 HRi HWi HW0
                  go_wp2_with fail
                  exact ⟨⟨k + 1, by omega, by go_num, HBm.out⟩, by simp [intOf] <;> omega⟩
            · obtain rfl : k = 5 := by omega
              have hp : 0 ≤ h / 2 ^ r := Int.ediv_nonneg hh0 (Int.le_of_lt (Int.pow_pos (by decide)))
              have ha : ((h / 2 ^ r).tmod 2 == 0) = askB h r := by
                rw [Int.tmod_eq_emod_of_nonneg hp]
                unfold askB
                rw [Bool.eq_iff_iff]
                simp
              clear hp HMore HMem HW8 HVi H160 H64 H127
              generalize askB h r = q at *
              cases q with
              | true =>
                have HY := Lib.hid (HYes.out rfl)
                clear HYes HNo
                go_wp2_with fail
                exact ⟨⟨r + 1, by omega, by go_num, by rw [HY.out], HBk.out⟩, by simp [intOf] <;> omega⟩
              | false =>
                have HY := Lib.hid (HNo.out rfl)
                clear HYes HNo
                go_wp2_with fail
                exact ⟨⟨r + 1, by omega, by go_num, by rw [HY.out], HBk.out⟩, by simp [intOf] <;> omega⟩
        · obtain rfl : r = 8 := by omega
          rw [HW8.out]
          have HBw := Lib.hid (HB4.out.trans (HBr.out.mono HB4.out.size))
          have HDr := Lib.hid ((HD4.out.below (HBr.out.mono hs3)).more (B' := wr.heap.size) (by have := HBr.out.size; omega))
          clear HRow HRb HWy HWn HWi HRi HMore HMem HW0 HB4
          go_wp2_with fail
          refine (HUn.out wr HBw.out).mono ?_
          rintro e w5 ⟨rfl, hb⟩
          have HB5 := Lib.hid (HBw.out.trans (hb.mono HBw.out.size))
          have HD5 := Lib.hid ((HDr.out.below hb).more hb.size)
          clear hb HUn HBr HBw HDr
          obtain ⟨hv0, hv1⟩ := HVi.out
          have h160 := H160.out
          have h64 := H64.out
          clear HVi H160 H64 HW8
          generalize B h = vh at *
          go_wp2_with fail
          refine (HEr.out w5 HB5.out).mono ?_
          rintro e w6 ⟨rfl, hb⟩
          have HB6 := Lib.hid (HB5.out.trans (hb.mono HB5.out.size))
          have HD6 := Lib.hid ((HD5.out.below hb).more hb.size)
          clear hb HEr HB5 HD5
          go_wp2_with fail
          rw [and_127 hh0 hh1]
          refine (HBy.out (h % 128) (by omega) w6 HB6.out).mono ?_
          rintro e w7 ⟨rfl, hb⟩
          have HB7 := Lib.hid (HB6.out.trans (hb.mono HB6.out.size))
          have HD7 := Lib.hid ((HD6.out.below hb).more hb.size)
          clear hb HB6 HD6
          go_wp2_with fail
          refine (HBy.out 127 (by omega) w7 HB7.out).mono ?_
          rintro e w8 ⟨rfl, hb⟩
          have HB8 := Lib.hid (HB7.out.trans (hb.mono HB7.out.size))
          have HD8 := Lib.hid ((HD7.out.below hb).more hb.size)
          have h127 := H127.out
          clear hb HB7 HD7 HBy H127
          generalize B (h % 128) = va at *
          generalize B 127 = vb at *
          go_wp2_with fail
          refine (HBy2.out w8 HB8.out).mono ?_
          rintro e w9 ⟨rfl, hb⟩
          have HB9 := Lib.hid (HB8.out.trans (hb.mono HB8.out.size))
          have HD9 := Lib.hid ((HD8.out.below hb).more hb.size)
          clear hb HB8 HD8 HBy2 h127
          go_wp2_with fail
          refine (HDn2.out w9 HB9.out).mono ?_
          rintro e w10 ⟨v10, rfl, ho, hb⟩
          obtain ⟨A10, c10, rfl⟩ := row_shape ho
          have HD10 := Lib.hid (NsAt.own ho)
          have HDb := Lib.hid ((HD9.out.below hb).more hb.size)
          have HB10 := Lib.hid (HB9.out.trans (hb.mono HB9.out.size))
          clear ho hb HDn2 HB9 HD9
          go_wp2_with fail
          refine (HInts.out w10 A10 A3 c10 c3 HD10.out HDb.out).mono ?_
          rintro e w11 ⟨rfl, hb⟩
          have HB11 := Lib.hid (HB10.out.trans (hb.mono HB10.out.size))
          clear hb HD10 HDb HB10 HInts
          clear h160 h64 hv0 hv1 hh0 hh1
          have hP1 := Lib.hid (fun h0 : u < l.length => (by
            obtain ⟨b, o, hA, hb1, hat⟩ := HTs.out.at_ (by omega)
            exact ⟨b, o, hA, ((hat u h0).below HB11.out hb1).c0⟩ : ∃ b o, A = some ⟨b, o, none⟩ ∧ w11.cell? ⟨b, o + u * 4, none⟩ = some (.int .i64 (l.getD u tcZ).time)))
          have hP2 := Lib.hid (fun h0 : 0 < u => (by
            obtain ⟨b, o, hA, hb1, hat⟩ := HTs.out.at_ (by omega)
            exact ⟨b, o, hA, ((hat (u - 1) (by omega)).below HB11.out hb1).c0⟩ : ∃ b o, A = some ⟨b, o, none⟩ ∧ w11.cell? ⟨b, o + (u - 1) * 4, none⟩ = some (.int .i64 (l.getD (u - 1) tcZ).time)))
          have ht1 := Lib.hid (fun h0 : u < l.length => HU2.out h0)
          have ht2 := Lib.hid (fun h0 : 0 < u => HU1.out (u - 1) (by omega))
          clear HTs HU1 HU2
          generalize (l.getD u tcZ).time = ta at *
          generalize (l.getD (u - 1) tcZ).time = tb at *
          by_cases g1 : u < l.length
          · obtain ⟨b, o, rfl, hc1⟩ := hP1.out g1
            have hd1 := ht1.out g1
            have q1 : decide (t < ta) = true := decide_eq_true hd1
            have qe : ((u : Int) == (l.length : Int)) = false := by simp; omega
            cases u with
            | zero =>
              simp only [Nat.zero_mul, Nat.add_zero] at hc1
              clear hP1 hP2 ht1 ht2
              go_wp2_with fail
              go_ret
              exact ⟨rfl, HB11.out⟩
            | succ j =>
              obtain ⟨b2, o2, he, hc2⟩ := hP2.out (Nat.succ_pos j)
              obtain ⟨rfl, rfl⟩ : b2 = b ∧ o2 = o := by injection he with he; injection he with e1 e2; exact ⟨e1.symm, e2.symm⟩
              have hd2 := ht2.out (Nat.succ_pos j)
              simp only [Nat.add_sub_cancel] at hc2
              have q2 : decide (tb ≤ t) = true := decide_eq_true hd2
              clear hP1 hP2 ht1 ht2 he
              go_wp2_with fail
              go_ret
              exact ⟨rfl, HB11.out⟩
          · have hu : l.length = u := by omega
            clear hP1 ht1 hu0 g1
            generalize l.length = N at *
            subst hu
            cases N with
            | zero =>
              clear hP2 ht2
              go_wp2_with fail
              go_ret
              exact ⟨rfl, HB11.out⟩
            | succ j =>
              obtain ⟨b2, o2, rfl, hc2⟩ := hP2.out (Nat.succ_pos j)
              have hd2 := ht2.out (Nat.succ_pos j)
              simp only [Nat.add_sub_cancel] at hc2
              have q2 : decide (tb ≤ t) = true := decide_eq_true hd2
              clear hP2 ht2
              go_wp2_with fail
              go_ret
              exact ⟨rfl, HB11.out⟩
    · have hne : ¬ errL l = 0 := fun h => hg (HErr.out.1 h)
      clear hts hw HErr
      generalize errL l = er at *
      have hn : (er != 0) = true := by simpa using hne
      unfold maxLen at h2
      go_enter Try.func7, Try.ntmps7
      go_wp2_with fail
      refine (HLv.out w).mono ?_
      rintro e w1 ⟨rfl, hb⟩
      go_wp2_with fail
      refine (HCk.out w1 hb).mono ?_
      rintro e w2 ⟨rfl, hb2⟩
      go_wp2_with fail
      go_ret
      exact ⟨rfl, hb.trans (hb2.mono hb.size)⟩
end Go.Proofs.Ytdmjfadeffcidaa
