
/- The walk of PortLists. -/
import Derived.Test.YtmgaibpdpcancaaDoorT7
namespace Go.Proofs.YtmgaibpdpcancaaDoor
open Go.RowKit
set_option linter.unusedSimpArgs false
set_option linter.unusedVariables false
set_option maxRecDepth 100000

set_option maxHeartbeats 8000000 in
theorem walk_PortLists (w : World) (hV : RV w) (p : Int) (wp : (Lit.int .u16 p).wf = true) : Calls Tryd.prog 5 #[.int .u16 p] w fun e w' => e = .returned (.bool true) ∧ Below w.heap.size w w' := by
  have H0 := Lib.hid (lives14 w hV)
  have O1 := Lib.hid (fun w hV => of_any p w hV)
  have W1 := Lib.hid (fun w hV => written_any p w hV)
  have R1 := Lib.hid (fun w hV => read_any p w hV)
  have S1 := Lib.hid (fun (j : Nat) (hj : j < 7) (w : World) (hV : RV w) => is_at p j hj ▸ is_any ((j + 1 : Nat) : Int) p w hV)
  have S8 := Lib.hid (fun w hV => is_any 8 p w hV)
  rw [show isI 8 p = (rdI p == 8) from rfl] at S8
  have hlo := clsL_len (hasC p) 7
  have hlw := clsL_len (wrC p) 7
  have HT := Lib.hid (th_all7 p)
  have HC := Lib.hid (counts_ok p)
  have HA1 := Lib.hid (fun j (hj : j < 7) (h : hasC p j = true) => clsL_at (hasC p) j 7 h hj)
  have HA2 := Lib.hid (fun j (hj : j < 7) (h : wrC p j = true) => clsL_at (wrC p) j 7 h hj)
  have HWR := Lib.hid (fun j hj h5 => wr_of p j hj h5)
  have HWM := Lib.hid (wr_main p)
  have HV := Lib.hid hV
  clear hV wp
  obtain ⟨L1, hL1⟩ : ∃ L, clsL (hasC p) 7 = L := ⟨_, rfl⟩
  obtain ⟨L2, hL2⟩ : ∃ L, clsL (wrC p) 7 = L := ⟨_, rfl⟩
  rw [hL1] at O1 hlo HC HA1
  rw [hL2] at W1 hlw HA2
  have HL1 := Lib.hid hL1
  have HL2 := Lib.hid hL2
  clear hL1 hL2
  generalize rdI p = r at *
  generalize hasC p = f at *
  generalize wrC p = g at *
  go_enter Tryd.func5, Tryd.ntmps5
  go_wp2_with fail
  refine H0.out.mono ?_
  rintro e w1 ⟨rfl, hb1⟩
  go_wp2_with fail
  refine (O1.out _ (HV.out.on hb1)).mono ?_
  rintro e w2 ⟨⟨A, c1, rfl, hA⟩, hb2⟩
  have hb2' := hb1.trans (hb2.mono hb1.size)
  go_wp2_with fail
  refine (W1.out _ (HV.out.on hb2')).mono ?_
  rintro e w3 ⟨⟨A2, c2, rfl, hA2⟩, hb3⟩
  have hb3' := hb2'.trans (hb3.mono hb2'.size)
  have hA := (hA.below hb3).more hb3.size
  go_wp2_with fail
  refine (R1.out _ (HV.out.on hb3')).mono ?_
  rintro e w4 ⟨rfl, hb4⟩
  have HB4 := Lib.hid (hb3'.trans (hb4.mono hb3'.size))
  have HA := Lib.hid ((hA.below hb4).more hb4.size)
  have HAW := Lib.hid ((hA2.below hb4).more hb4.size)
  have HV4 := Lib.hid (HV.out.on HB4.out)
  clear hb1 hb2 hb2' hb3 hb3' hb4 hA hA2
  have hB0 : Below w4.heap.size w4 w4 := Below.refl _ _
  go_wp2_with fail
  go_loopw [5, 6, 7, 8] (fun a b t i wr => ∃ (j nn kk : Nat) (th : Bool) (c : Int), a = .int .i64 nn ∧ b = .int .i64 kk ∧ t = .bool th ∧ i = .int .i64 c ∧ Hid (c = ((j + 1 : Nat) : Int)) ∧ 1 ≤ c ∧ c ≤ 8 ∧ nn ≤ 7 ∧ kk ≤ 7 ∧ Hid (nn = (clsL f j).length) ∧ Hid (kk = (clsL g j).length) ∧ Hid (th = thN r f j) ∧ Below w4.heap.size w4 wr) (fun _ _ _ i _ => 8 - (intOf i).toNat)
  case atStart => exact ⟨0, 0, 0, r == 8, 1, rfl, rfl, rfl, rfl, Lib.hid rfl, by decide, by decide, by decide, by decide, Lib.hid rfl, Lib.hid rfl, Lib.hid rfl, hB0⟩
  case round =>
    rename World => wr
    obtain ⟨j, nn, kk, th, c, rfl, rfl, rfl, rfl, HCJ, hc1, hc8, hnn, hkk, HN, HK, HTH, hb⟩ := hrel
    have HB := Lib.hid hb
    clear hb
    by_cases hlt : c ≤ 7
    · have hj : j < 7 := by have := HCJ.out; omega
      have SI := Lib.hid (fun hV => HCJ.out ▸ S1.out j hj wr hV)
      have HJ := Lib.hid hj
      have hln := clsL_len f (j + 1)
      have hlk := clsL_len g (j + 1)
      clear hj
      cases hf : f j with
      | false =>
        have HN2 := Lib.hid (clsL_no (f := f) (k := j) hf)
        have HK2 : Hid (clsL g (j + 1) = clsL g j) := Lib.hid (clsL_no (by
          by_cases h5 : j = 5
          · rw [h5]; exact HWM.out
          · rw [HWR.out j HJ.out h5]; exact hf))
        have HTH2 := Lib.hid (th_no (r := r) (f := f) (j := j) hf)
        rw [hf] at SI
        clear hf hln hlk
        go_wp2_with fail
        refine (SI.out (HV4.out.on HB.out)).mono ?_
        rintro e w5 ⟨rfl, hb5⟩
        have HB5 := Lib.hid (HB.out.trans (hb5.mono HB.out.size))
        clear hb5
        go_wp2_with fail
        exact ⟨⟨j + 1, nn, kk, th, c + 1, rfl, rfl, rfl, by go_num, Lib.hid (by have := HCJ.out; omega), by omega, by omega, hnn, hkk, Lib.hid (by rw [HN2.out]; exact HN.out), Lib.hid (by rw [HK2.out]; exact HK.out), Lib.hid (by rw [HTH2.out]; exact HTH.out), HB5.out⟩, by simp [intOf]; omega⟩
      | true =>
        obtain ⟨hx1, hx2⟩ := HA1.out j HJ.out hf
        obtain ⟨b1, o1, rfl, hb1, hc5⟩ := HA.out.at nn (by rw [HN.out]; exact hx1) (x := c) (by rw [HN.out, hx2, HCJ.out])
        have hnl : nn < L1.length := by rw [HN.out]; exact hx1
        have HN2 := Lib.hid (clsL_yes (f := f) (k := j) hf)
        have HTH2 := Lib.hid (th_yes (r := r) (f := f) (j := j) hf)
        have HF := Lib.hid hf
        have hn6 : nn + 1 ≤ 7 := by rw [HN2.out, List.length_append] at hln; have := HN.out; have := HJ.out; simp at hln; omega
        have HN3 := Lib.hid (show nn + 1 = (clsL f (j + 1)).length by rw [HN2.out, List.length_append, HN.out]; rfl)
        rw [hf] at SI
        clear hf hln hx1 hx2 HN2
        go_wp2_with fail
        refine (SI.out (HV4.out.on HB.out)).mono ?_
        rintro e w5 ⟨rfl, hb5⟩
        have HB5 := Lib.hid (HB.out.trans (hb5.mono HB.out.size))
        clear hb5
        have u1 := (World.cell?_of_block (HB5.out.block b1 hb1)).trans hc5
        by_cases h5 : j = 5
        · have HK2 : Hid (clsL g (j + 1) = clsL g j) := Lib.hid (clsL_no (by rw [h5]; exact HWM.out))
          obtain rfl : c = 6 := by have := HCJ.out; omega
          clear h5 hlk
          cases th with
          | true =>
            go_wp2_with fail
            exact ⟨⟨j + 1, nn + 1, kk, true, 6 + 1, by go_num, rfl, rfl, by go_num, Lib.hid (by have := HCJ.out; omega), by omega, by omega, hn6, hkk, HN3, Lib.hid (by rw [HK2.out]; exact HK.out), Lib.hid (by rw [HTH2.out, ← HTH.out]; first | done | rw [Bool.true_or]), HB5.out⟩, by simp [intOf] <;> omega⟩
          | false =>
            have e7 := HB5.out.size
            go_wp2_with fail
            refine (R1.out _ (HV4.out.on HB5.out)).mono ?_
            rintro e w6 ⟨rfl, hb6⟩
            have HB6 := Lib.hid (HB5.out.trans (hb6.mono HB5.out.size))
            clear hb6 u1
            go_wp2_with fail
            exact ⟨⟨j + 1, nn + 1, kk, (r == 6), 6 + 1, by go_num, rfl, rfl, by go_num, Lib.hid (by have := HCJ.out; omega), by omega, by omega, hn6, hkk, HN3, Lib.hid (by rw [HK2.out]; exact HK.out), Lib.hid (by rw [HTH2.out, ← HTH.out, ← HCJ.out]; first | done | rw [Bool.false_or]), HB6.out⟩, by simp [intOf] <;> omega⟩
        · have hg : g j = true := (HWR.out j HJ.out h5).trans HF.out
          obtain ⟨hy1, hy2⟩ := HA2.out j HJ.out hg
          obtain ⟨b2, o2, rfl, hb2, hd5⟩ := HAW.out.at kk (by rw [HK.out]; exact hy1) (x := c) (by rw [HK.out, hy2, HCJ.out])
          have hkl : kk < L2.length := by rw [HK.out]; exact hy1
          have HK2 := Lib.hid (clsL_yes (f := g) (k := j) hg)
          have hk6 : kk + 1 ≤ 7 := by rw [HK2.out, List.length_append] at hlk; have := HK.out; have := HJ.out; simp at hlk; omega
          have HK3 := Lib.hid (show kk + 1 = (clsL g (j + 1)).length by rw [HK2.out, List.length_append, HK.out]; rfl)
          have e6 : (c == 6) = false := by rw [beq_eq_false_iff_ne]; have := HCJ.out; omega
          have e6b : (c != 6) = true := by rw [bne_iff_ne]; have := HCJ.out; omega
          clear h5 hg hlk hy1 hy2 HK2
          cases th with
          | true =>
            have u2 := (World.cell?_of_block (HB5.out.block b2 hb2)).trans hd5
            go_wp2_with fail
            exact ⟨⟨j + 1, nn + 1, kk + 1, true, c + 1, by go_num, by go_num, rfl, by go_num, Lib.hid (by have := HCJ.out; omega), by omega, by omega, hn6, hk6, HN3, HK3, Lib.hid (by rw [HTH2.out, ← HTH.out]; first | done | rw [Bool.true_or]), HB5.out⟩, by simp [intOf] <;> omega⟩
          | false =>
            have e7 := HB5.out.size
            go_wp2_with fail
            refine (R1.out _ (HV4.out.on HB5.out)).mono ?_
            rintro e w6 ⟨rfl, hb6⟩
            have HB6 := Lib.hid (HB5.out.trans (hb6.mono HB5.out.size))
            clear hb6 u1
            have u2 := (World.cell?_of_block (HB6.out.block b2 hb2)).trans hd5
            go_wp2_with fail
            exact ⟨⟨j + 1, nn + 1, kk + 1, (r == c), c + 1, by go_num, by go_num, rfl, by go_num, Lib.hid (by have := HCJ.out; omega), by omega, by omega, hn6, hk6, HN3, HK3, Lib.hid (by rw [HTH2.out, ← HTH.out, ← HCJ.out]; first | done | rw [Bool.false_or]), HB6.out⟩, by simp [intOf] <;> omega⟩
    · obtain rfl : c = 8 := by omega
      obtain rfl : j = 7 := by have := HCJ.out; omega
      have hn7 : nn = L1.length := by rw [HN.out, HL1.out]
      have hk7 : kk = L2.length := by rw [HK.out, HL2.out]
      obtain rfl : th = true := HTH.out.trans HT.out
      subst hn7
      subst hk7
      have HW := Lib.hid (HV4.out.on HB.out)
      clear HN HK HTH HCJ
      go_wp2_with fail
      go_loop [9, 10, 11] (fun a b i => ∃ k x y : Nat, a = .int .i64 x ∧ b = .int .i64 y ∧ i = .int .i64 k ∧ k ≤ L1.length ∧ x ≤ k ∧ y ≤ k ∧ Hid (x = oneN (L1.take k)) ∧ Hid (y = twoN (L1.take k))) (fun _ _ i => L1.length - (intOf i).toNat)
      case atStart => exact ⟨0, 0, 0, rfl, rfl, rfl, Nat.zero_le _, Nat.le_refl _, Nat.le_refl _, Lib.hid rfl, Lib.hid rfl⟩
      case round =>
        obtain ⟨k, x, y, rfl, rfl, rfl, hk, hxk, hyk, HX, HY⟩ := hrel
        by_cases hkl : k < L1.length
        · obtain ⟨v, hv⟩ : ∃ v, L1.getD k 0 = v := ⟨_, rfl⟩
          have HX2 := Lib.hid (one_next hkl hv)
          have HY2 := Lib.hid (two_next hkl hv)
          obtain ⟨b1, o1, rfl, hb1, hc5⟩ := HA.out.at k hkl hv
          have u1 := (World.cell?_of_block (HB.out.block b1 hb1)).trans hc5
          clear hc5 hv
          by_cases v2 : v = 2
          · subst v2
            go_wp2_with fail
            go_round
            case rel => exact ⟨k + 1, x + 1, y, by go_num, rfl, by go_num, by omega, by omega, by omega, Lib.hid (HX2.out.trans (by rw [HX.out]; rfl)).symm, Lib.hid (HY2.out.trans (by rw [HY.out]; rfl)).symm⟩
            case measure => simp [intOf]; omega
          · by_cases v4 : v = 4
            · subst v4
              clear v2
              go_wp2_with fail
              go_round
              case rel => exact ⟨k + 1, x + 1, y, by go_num, rfl, by go_num, by omega, by omega, by omega, Lib.hid (HX2.out.trans (by rw [HX.out]; rfl)).symm, Lib.hid (HY2.out.trans (by rw [HY.out]; rfl)).symm⟩
              case measure => simp [intOf]; omega
            · by_cases v5 : v = 5
              · subst v5
                clear v2 v4
                go_wp2_with fail
                go_round
                case rel => exact ⟨k + 1, x + 1, y, by go_num, rfl, by go_num, by omega, by omega, by omega, Lib.hid (HX2.out.trans (by rw [HX.out]; rfl)).symm, Lib.hid (HY2.out.trans (by rw [HY.out]; rfl)).symm⟩
                case measure => simp [intOf]; omega
              · by_cases v3 : v = 3
                · subst v3
                  clear v2 v4 v5
                  go_wp2_with fail
                  go_round
                  case rel => exact ⟨k + 1, x, y + 1, rfl, by go_num, by go_num, by omega, by omega, by omega, Lib.hid (HX2.out.trans (by rw [HX.out]; rfl)).symm, Lib.hid (HY2.out.trans (by rw [HY.out]; rfl)).symm⟩
                  case measure => simp [intOf]; omega
                · by_cases v6 : v = 6
                  · subst v6
                    clear v2 v4 v5 v3
                    go_wp2_with fail
                    go_round
                    case rel => exact ⟨k + 1, x, y + 1, rfl, by go_num, by go_num, by omega, by omega, by omega, Lib.hid (HX2.out.trans (by rw [HX.out]; rfl)).symm, Lib.hid (HY2.out.trans (by rw [HY.out]; rfl)).symm⟩
                    case measure => simp [intOf]; omega
                  · by_cases v7 : v = 7
                    · subst v7
                      clear v2 v4 v5 v3 v6
                      go_wp2_with fail
                      go_round
                      case rel => exact ⟨k + 1, x, y + 1, rfl, by go_num, by go_num, by omega, by omega, by omega, Lib.hid (HX2.out.trans (by rw [HX.out]; rfl)).symm, Lib.hid (HY2.out.trans (by rw [HY.out]; rfl)).symm⟩
                      case measure => simp [intOf]; omega
                    · have q2 : (v == 2) = false := by rw [beq_eq_false_iff_ne]; exact v2
                      have q4 : (v == 4) = false := by rw [beq_eq_false_iff_ne]; exact v4
                      have q5 : (v == 5) = false := by rw [beq_eq_false_iff_ne]; exact v5
                      have q3 : (v == 3) = false := by rw [beq_eq_false_iff_ne]; exact v3
                      have q6 : (v == 6) = false := by rw [beq_eq_false_iff_ne]; exact v6
                      have q7 : (v == 7) = false := by rw [beq_eq_false_iff_ne]; exact v7
                      rw [q2, q4, q5] at HX2
                      rw [q3, q6, q7] at HY2
                      clear v2 v3 v4 v5 v6 v7
                      go_wp2_with fail
                      go_round
                      case rel => exact ⟨k + 1, x, y, rfl, rfl, by go_num, by omega, by omega, by omega, Lib.hid (HX2.out.trans (by rw [HX.out]; rfl)).symm, Lib.hid (HY2.out.trans (by rw [HY.out]; rfl)).symm⟩
                      case measure => simp [intOf]; omega
        · obtain rfl : k = L1.length := by omega
          have hx1 : x ≤ 1 := by have := HX.out; rw [List.take_length] at this; rw [this]; exact HC.out.1
          have hy1 : y ≤ 1 := by have := HY.out; rw [List.take_length] at this; rw [this]; exact HC.out.2
          clear HX HY hxk hyk hk
          go_wp2_with fail
          refine (S8.out _ HW.out).mono ?_
          rintro e w7 ⟨rfl, hb7⟩
          have HB7 := Lib.hid (HB.out.trans (hb7.mono HB.out.size))
          clear hb7
          go_wp2_with fail
          refine (R1.out _ (HV4.out.on HB7.out)).mono ?_
          rintro e w8 ⟨rfl, hb8⟩
          have HB8 := Lib.hid (HB7.out.trans (hb8.mono HB7.out.size))
          clear hb8
          go_wp2_with fail
          go_ret
          exact ⟨rfl, HB4.out.trans (HB8.out.mono HB4.out.size)⟩
end Go.Proofs.YtmgaibpdpcancaaDoor
