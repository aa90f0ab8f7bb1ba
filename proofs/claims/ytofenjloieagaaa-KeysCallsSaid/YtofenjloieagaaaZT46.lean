/-  -/
import Derived.Test.YtofenjloieagaaaZT43
import Derived.Test.YtofenjloieagaaaJ9
namespace Go.Proofs.Ytofenjloieagaaa
open Go.RowKit
set_option linter.unusedSimpArgs false
set_option linter.unusedVariables false
set_option maxRecDepth 100000

theorem QR.apart {w : World} {g : Nat} {A : Option Addr} {c : Nat} {r : List Int} {e : Int} (h : QR w g A c r e) {n i : Nat} (hn : g < n) (u : Value) : QR (w.setCell ⟨n, i, none⟩ u) g A c r e :=
  h.below (B := n) ((Below.refl n w).setCell (p := ⟨n, i, none⟩) (Nat.le_refl n) _) hn
theorem OwnT.apart {w : World} {base : Nat} {v : Value} {M : List Tc} (h : OwnT w base v M) {n i : Nat} (hn : ∀ k, v.ownBlock = some k → k < n) (u : Value) : OwnT (w.setCell ⟨n, i, none⟩ u) base v M :=
  h.kept (grown_setCell w n i u) (.inr (by
    intro e
    have := hn n (by first | exact e | exact e.symm)
    omega))

set_option maxHeartbeats 8000000 in
theorem rread17_any (w : World) (A : Option Addr) (c n : Nat) (L : List Int) (hn : n = L.length) (hL : L.length ≤ 1099511627776) (B : Nat) (h : RB w B A c L) (hB : B ≤ w.heap.size) :
    Calls Try.prog 11 #[.slice A n c] w (ListE w (readE L) (readT L)) := by
  subst hn
  have HNEW := Lib.hid (qnew_any A c L.length L w B rfl h hB hL)
  have hbL := h.bytes
  obtain ⟨i0, hi, hz0, hz1, hz2⟩ := info_parts info_tc
  clear h hB
  have hN := tcnt_le L
  obtain ⟨hcb, hag⟩ := cnt_both L
  have HCB := Lib.hid hcb
  have HAG := Lib.hid hag
  have HNext := Lib.hid (fun (k : Nat) (h : Agr L k) (hon : (rq4 (rst L k).1 (rst L k).2).1 ≤ 1) => agr_next hbL h hon)
  have HOn := Lib.hid (fun (k : Nat) (hk : k < tcnt L) (h : Agr L k) (hon : ¬ (rq4 (rst L k).1 (rst L k).2).1 ≤ 1) => agr_on hk h hon)
  have HErr := Lib.hid (fun (k : Nat) (hk : k ≤ tcnt L) (h : Agr L k) (he : (rst L k).2 ≠ 0) => agr_err hk h he)
  have HEnd := Lib.hid (@agr_end L)
  have HCQ := Lib.hid (show (countQ L 0 65536).2 = rst L 0 from rfl)
  clear hcb hag
  obtain ⟨N, hNe⟩ : ∃ N, tcnt L = N := ⟨_, rfl⟩
  rw [hNe] at hN HCB HOn HErr HEnd
  generalize readE L = rE at *
  generalize readT L = rT at *
  go_enter Try.func11, Try.ntmps11
  go_wp2_with fail
  refine HNEW.out.mono ?_
  rintro e w1 ⟨g, A1, c1, rfl, hr, b1, hgw⟩
  have hcnt := qcount_any g A1 c1 L 0 65536 w1 hr (by decide)
  rw [HCB.out, HCQ.out] at hcnt
  have B1 := Lib.hid b1
  have h1 := b1.size
  have HCN := Lib.hid hcnt
  clear hcnt hr b1 hNe HCB HCQ
  go_wp2_with fail
  refine HCN.out.mono ?_
  rintro e w2 ⟨rfl, ⟨A2, c2, hr⟩, hg2⟩
  have h2 := hg2.size
  have b2 : Below w.heap.size w w2 := B1.out.grown hg2 h1 (fun j e => by obtain rfl := Option.some.inj e; exact hgw)
  have hgl := hr.lt
  have HR := Lib.hid hr
  have B2 := Lib.hid b2
  clear hr hg2 b2
  go_wp2_with fail
  go_loopw [5, 6] (fun v i wr => ∃ (k : Nat) (A3 : Option Addr) (c3 : Nat), k ≤ N ∧ i = .int .i64 ((N - k : Nat) : Int) ∧ QR wr g A3 c3 (rst L k).1 (rst L k).2 ∧ OwnT wr w2.heap.size v (rxs L k) ∧ Hid (Agr L k) ∧ w2.heap.size ≤ wr.heap.size ∧ Below w.heap.size w wr) (fun _ i _ => (intOf i).toNat)
  case atStart => exact ⟨0, A2, c2, Nat.zero_le _, rfl, HR.out, World.ownsRow_nil _ _ _ _, HAG, Nat.le_refl _, B2.out⟩
  case round =>
    rename World => wr
    clear HR B2 HAG
    obtain ⟨k, A3, c3, hk, rfl, hr, ho, HA, hs2, hb⟩ := hrel
    have hsw : w.heap.size ≤ wr.heap.size := hb.size
    have HO := Lib.hid ho
    have HB := Lib.hid hb
    have HR := Lib.hid hr
    have e1 := hr.c1
    clear hr ho hb
    by_cases hE : (rst L k).2 = 0
    · by_cases hlt : k < N
      · have h1e : numQ (rst L k).1 (rst L k).2 = rq1 (rst L k).1 (rst L k).2 := rfl
        have h2e : numQ (rq1 (rst L k).1 (rst L k).2).2.1 (rq1 (rst L k).1 (rst L k).2).2.2 = rq2 (rst L k).1 (rst L k).2 := rfl
        have h3e : numQ (rq2 (rst L k).1 (rst L k).2).2.1 (rq2 (rst L k).1 (rst L k).2).2.2 = rq3 (rst L k).1 (rst L k).2 := rfl
        have h4e : numQ (rq3 (rst L k).1 (rst L k).2).2.1 (rq3 (rst L k).1 (rst L k).2).2.2 = rq4 (rst L k).1 (rst L k).2 := rfl
        have HST := Lib.hid (show (rq4 (rst L k).1 (rst L k).2).2 = rst L (k + 1) from rfl)
        have HSN := Lib.hid (show rxs L (k + 1) = rxs L k ++ [rqX (rst L k).1 (rst L k).2] from rfl)
        have HV := Lib.hid (show rqX (rst L k).1 (rst L k).2 = ⟨((min (rq1 (rst L k).1 (rst L k).2).1 2199023255552 : Nat) : Int), ((min (rq2 (rst L k).1 (rst L k).2).1 99 : Nat) : Int), ((min (rq3 (rst L k).1 (rst L k).2).1 99 : Nat) : Int), (((rq4 (rst L k).1 (rst L k).2).1 : Nat) : Int) == 1⟩ from rfl)
        have HLN := Lib.hid (rxs_len L k)
        have H1 := Lib.hid (fun (w1 : World) (A : Option Addr) (c : Nat) (h : QR w1 g A c (rst L k).1 (rst L k).2) => qnum_any g A c (rst L k).1 (rst L k).2 w1 h)
        have H2 := Lib.hid (fun (w1 : World) (A : Option Addr) (c : Nat) (h : QR w1 g A c (rq1 (rst L k).1 (rst L k).2).2.1 (rq1 (rst L k).1 (rst L k).2).2.2) => qnum_any g A c _ _ w1 h)
        have H3 := Lib.hid (fun (w1 : World) (A : Option Addr) (c : Nat) (h : QR w1 g A c (rq2 (rst L k).1 (rst L k).2).2.1 (rq2 (rst L k).1 (rst L k).2).2.2) => qnum_any g A c _ _ w1 h)
        have H4 := Lib.hid (fun (w1 : World) (A : Option Addr) (c : Nat) (h : QR w1 g A c (rq3 (rst L k).1 (rst L k).2).2.1 (rq3 (rst L k).1 (rst L k).2).2.2) => qnum_any g A c _ _ w1 h)
        have HNx := Lib.hid (HNext.out k HA.out)
        have HBad := Lib.hid (HOn.out k hlt HA.out)
        rw [h1e] at H1
        rw [h2e] at H2
        rw [h3e] at H3
        rw [h4e] at H4
        rw [hE] at e1
        clear h1e h2e h3e h4e hE HNext HOn HErr HEnd HA
        generalize rqX (rst L k).1 (rst L k).2 = X at *
        generalize rq1 (rst L k).1 (rst L k).2 = q1 at *
        generalize rq2 (rst L k).1 (rst L k).2 = q2 at *
        generalize rq3 (rst L k).1 (rst L k).2 = q3 at *
        generalize rq4 (rst L k).1 (rst L k).2 = q4 at *
        obtain ⟨n1, r1, x1⟩ := q1
        obtain ⟨n2, r2, x2⟩ := q2
        obtain ⟨n3, r3, x3⟩ := q3
        obtain ⟨n4, r4, x4⟩ := q4
        simp only at *
        have hm1 : min (n1 : Int) 2199023255552 = ((min n1 2199023255552 : Nat) : Int) := by omega
        have hm2 : min (n2 : Int) 99 = ((min n2 99 : Nat) : Int) := by omega
        have hm3 : min (n3 : Int) 99 = ((min n3 99 : Nat) : Int) := by omega
        have hb1 : min n1 2199023255552 ≤ 2199023255552 := Nat.min_le_right _ _
        have hb2 : min n2 99 ≤ 99 := Nat.min_le_right _ _
        have hb3 : min n3 99 ≤ 99 := Nat.min_le_right _ _
        generalize min n1 2199023255552 = y1 at *
        generalize min n2 99 = y2 at *
        generalize min n3 99 = y3 at *
        go_wp2_with fail
        refine (H1.out wr _ _ HR.out).mono ?_
        rintro _ w3 ⟨rfl, ⟨A4, c4, hr⟩, hg⟩
        have hs3 := hg.size
        have HO3 := Lib.hid (row_off17 HO.out hg hgl)
        have HB3 := Lib.hid (HB.out.grown hg hsw (fun j e => by obtain rfl := Option.some.inj e; exact hgw))
        have HD3 := Lib.hid hr
        clear hr hg H1 HO HB HR e1
        go_wp2_with fail
        have HX4 := Lib.hid (TW.laid w3 ⟨(y1 : Int), 0, 0, false⟩)
        have HO4 := Lib.hid (HO3.out.alloc (tcO ⟨(y1 : Int), 0, 0, false⟩))
        have HB4 := Lib.hid (HB3.out.alloc HB3.out.size (tcO ⟨(y1 : Int), 0, 0, false⟩))
        have HD4 := Lib.hid (HD3.out.below ((Below.refl w3.heap.size w3).alloc (Nat.le_refl _) (tcO ⟨(y1 : Int), 0, 0, false⟩)) HD3.out.lt)
        have HLv := Lib.hid (fun (j : Nat) (hj : _ = some j) => (HO3.out.lt j hj).2)
        have hgn : g < w3.heap.size := HD3.out.lt
        have hwn : w.heap.size ≤ w3.heap.size := HB3.out.size
        have hs4 : (w3.alloc (tcO ⟨(y1 : Int), 0, 0, false⟩)).heap.size = w3.heap.size + 1 := by simp
        have h2n : w2.heap.size ≤ w3.heap.size := by omega
        simp only [tcO] at HX4 HO4 HB4 HD4 hs4
        clear HO3 HB3 HD3
        generalize w3.alloc (.cells #[.int .i64 (y1 : Int), .int .i64 0, .int .i64 0, .bool false] 45) = w4 at *
        generalize w3.heap.size = n at *
        refine (H2.out w4 _ _ HD4.out).mono ?_
        rintro _ w5 ⟨rfl, ⟨A5, c5, hr⟩, hg⟩
        have hs5 := hg.size
        have hX := HX4.out.grown hg (by omega)
        have HX5 := Lib.hid hX
        have HO5 := Lib.hid (row_off17 HO4.out hg hgl)
        have HB5 := Lib.hid (HB4.out.grown hg (by omega) (fun j e => by obtain rfl := Option.some.inj e; exact hgw))
        have HD5 := Lib.hid hr
        obtain ⟨c0, c1, c2, c3⟩ := hX.tb
        have f1 := hX.free 1
        clear hr hg hX H2 HX4 HO4 HB4 HD4
        go_wp2_with fail
        have HX6 := Lib.hid (HX5.out.put1 (y2 : Int))
        have HO6 := Lib.hid (HO5.out.apart (n := n) (i := 1) HLv.out (.int .i64 (y2 : Int)))
        have HB6 := Lib.hid (HB5.out.setCell (p := ⟨n, 1, none⟩) hwn (.int .i64 (y2 : Int)))
        have HD6 := Lib.hid (HD5.out.apart (n := n) (i := 1) hgn (.int .i64 (y2 : Int)))
        have hs6 : w5.heap.size ≤ (w5.setCell ⟨n, 1, none⟩ (.int .i64 (y2 : Int))).heap.size := by simp
        clear c0 c1 c2 c3 f1 HX5 HO5 HB5 HD5
        generalize w5.setCell ⟨n, 1, none⟩ (.int .i64 (y2 : Int)) = w6 at *
        refine (H3.out w6 _ _ HD6.out).mono ?_
        rintro _ w7 ⟨rfl, ⟨A7, c7, hr⟩, hg⟩
        have hs7 := hg.size
        have hX := HX6.out.grown hg (by omega)
        have HX7 := Lib.hid hX
        have HO7 := Lib.hid (row_off17 HO6.out hg hgl)
        have HB7 := Lib.hid (HB6.out.grown hg (by omega) (fun j e => by obtain rfl := Option.some.inj e; exact hgw))
        have HD7 := Lib.hid hr
        obtain ⟨c0, c1, c2, c3⟩ := hX.tb
        have f2 := hX.free 2
        clear hr hg hX H3 HX6 HO6 HB6 HD6
        go_wp2_with fail
        have HX8 := Lib.hid (HX7.out.put2 (y3 : Int))
        have HO8 := Lib.hid (HO7.out.apart (n := n) (i := 2) HLv.out (.int .i64 (y3 : Int)))
        have HB8 := Lib.hid (HB7.out.setCell (p := ⟨n, 2, none⟩) hwn (.int .i64 (y3 : Int)))
        have HD8 := Lib.hid (HD7.out.apart (n := n) (i := 2) hgn (.int .i64 (y3 : Int)))
        have hs8 : w7.heap.size ≤ (w7.setCell ⟨n, 2, none⟩ (.int .i64 (y3 : Int))).heap.size := by simp
        clear c0 c1 c2 c3 f2 HX7 HO7 HB7 HD7
        generalize w7.setCell ⟨n, 2, none⟩ (.int .i64 (y3 : Int)) = w8 at *
        refine (H4.out w8 _ _ HD8.out).mono ?_
        rintro _ w9 ⟨rfl, ⟨A9, c9, hr⟩, hg⟩
        have hs9 := hg.size
        have hX := HX8.out.grown hg (by omega)
        have HX9 := Lib.hid hX
        have HO9 := Lib.hid (row_off17 HO8.out hg hgl)
        have HB9 := Lib.hid (HB8.out.grown hg (by omega) (fun j e => by obtain rfl := Option.some.inj e; exact hgw))
        have HD9 := Lib.hid hr
        obtain ⟨c0, c1, c2, c3⟩ := hX.tb
        have f3 := hX.free 3
        clear hr hg hX H4 HX8 HO8 HB8 HD8
        go_upto_region 11 with fail
        have hX := HX9.out.put3 ((n4 : Int) == 1)
        have HX := Lib.hid hX
        have HO := Lib.hid (HO9.out.apart (n := n) (i := 3) HLv.out (.bool ((n4 : Int) == 1)))
        have HB := Lib.hid (HB9.out.setCell (p := ⟨n, 3, none⟩) hwn (.bool ((n4 : Int) == 1)))
        have HD := Lib.hid (HD9.out.apart (n := n) (i := 3) hgn (.bool ((n4 : Int) == 1)))
        have hs : w9.heap.size ≤ (w9.setCell ⟨n, 3, none⟩ (.bool ((n4 : Int) == 1))).heap.size := by simp
        clear c0 c1 c2 c3 f3 HX9 HO9 HB9 HD9
        generalize w9.setCell ⟨n, 3, none⟩ (.bool ((n4 : Int) == 1)) = wz at *
        simp only at hX
        obtain ⟨c0, c1, c2, c3⟩ := hX.tb
        simp only at c0 c1 c2 c3
        rw [← HV.out] at hX
        by_cases hon : n4 ≤ 1
        · have hoi : (n4 : Int) ≤ 1 := by omega
          have HAg := Lib.hid (HNx.out hon)
          clear hon HNx HBad
          generalize rxs L k = M at *
          go_wp2_with (at_builtin; refine wpList_append_own _ rfl (.tmp 46) (.tmp 48) 22 rfl w2.heap.size 45 i0 _ 4 32 Try.underlying22 hi hz0 hz1 hz2 rfl (by decide) _ M.length (rowT M) rfl (HO.out.alloc _) ⟨wz.heap.size, 0, none⟩ 1 1 (Tc.cells ⟨(y1 : Int), (y2 : Int), (y3 : Int), (n4 : Int) == 1⟩) rfl rfl (new_tc wz ⟨(y1 : Int), (y2 : Int), (y3 : Int), (n4 : Int) == 1⟩) (cells_one _) (by rw [HLN.out]; unfold maxLen; omega) (by rw [HLN.out]; omega) (by simp; omega) ?_; intro v5 w10 ho5 hg5 _; have HO5 := Lib.hid ho5; have HG5 := Lib.hid hg5; clear ho5 hg5)
          have hBz : Below w2.heap.size wz w10 := (((Below.refl w2.heap.size wz).alloc (by omega) _).grown HG5.out (by simp; omega) (fun j e => (HO.out.lt j e).1))
          refine ⟨⟨k + 1, A9, c9, by omega, by go_num, ?_, ?_, HAg, ?_, ?_⟩, by simp [intOf]; omega⟩
          · rw [← HST.out]
            exact HD.out.below hBz hgl
          · rw [HSN.out, HV.out]
            unfold OwnT
            rw [rowT_snoc, List.length_append]
            exact HO5.out
          · exact Nat.le_trans (by omega) hBz.size
          · exact HB.out.trans (hBz.mono (by omega))
        · have hoi : 1 < (n4 : Int) := by omega
          have HF := Lib.hid (HBad.out hon)
          clear hon HNx HBad
          go_wp2_with fail
          go_ret2
          rw [HF.out]
          exact ⟨⟨_, rfl, World.ownsRow_nil _ _ _ _⟩, HB.out⟩
      · obtain rfl : k = N := by omega
        have hen := HEnd.out HA.out hE
        have HEn := Lib.hid hen
        have hend := qend_any g A3 c3 (rst L k).1 (rst L k).2 wr HR.out
        rw [hE] at hend e1
        generalize hx : endQ (rst L k).1 0 = x at *
        obtain ⟨A4, c4, rfl, -, l4, k4⟩ := HO.out.shape0
        have HE := Lib.hid hend
        have HGd := Lib.hid (@errL_zero (rxs L k))
        clear hend hx HNext HOn HErr HEnd HA HR hE hen
        generalize rxs L k = M at *
        go_wp2_with fail
        refine HE.out.mono ?_
        rintro _ w3 ⟨rfl, -, hg3⟩
        have HO3 := Lib.hid (row_off17 HO.out hg3 hgl)
        have HB3 := Lib.hid (HB.out.grown hg3 hsw (fun j e => by obtain rfl := Option.some.inj e; exact hgw))
        have HCK := Lib.hid (rcheck17_any w3 A4 c4 M HO3.out.ts (Nat.le_trans l4 k4))
        clear hg3 HO HB HE
        by_cases hx0 : x = 0
        · subst hx0
          generalize errL M = z at *
          go_wp2_with fail
          refine HCK.out.mono ?_
          rintro _ w4 ⟨rfl, b4⟩
          have HB4 := Lib.hid (HB3.out.trans (b4.mono HB3.out.size))
          have HO4 := Lib.hid (ownsRow_base_a (HO3.out.below b4) (show w.heap.size ≤ w2.heap.size by omega))
          clear b4 HO3 HB3 HCK
          by_cases hz : z = 0
          · subst hz
            have hr0 : rE = 0 := by rw [HEn.out.1, if_pos ⟨by first | trivial | rfl, HGd.out.1 (by first | trivial | rfl)⟩]
            have hrt := HEn.out.2 hr0
            have HR0 := Lib.hid hr0
            have HRT := Lib.hid hrt
            clear hr0 hrt HEn HGd
            go_wp2_with fail
            go_ret2
            rw [HR0.out, HRT.out]
            exact ⟨⟨_, rfl, HO4.out⟩, HB4.out⟩
          · have hn : (z != 0) = true := by simpa using hz
            have hr0 : rE = 4 := by rw [HEn.out.1, if_neg fun h => hz (HGd.out.2 h.2)]
            have HR0 := Lib.hid hr0
            clear hr0 HEn HGd hz
            go_wp2_with fail
            go_ret2
            rw [HR0.out]
            exact ⟨⟨_, rfl, World.ownsRow_nil _ _ _ _⟩, HB4.out⟩
        · have hn : (x != 0) = true := by simpa using hx0
          have hr0 : rE = 4 := by rw [HEn.out.1, if_neg fun h => hx0 h.1]
          have HR0 := Lib.hid hr0
          clear hr0 HEn HGd hx0 HCK
          go_wp2_with fail
          go_ret2
          rw [HR0.out]
          exact ⟨⟨_, rfl, World.ownsRow_nil _ _ _ _⟩, HB3.out⟩
    · have hEb : ((rst L k).2 == 0) = false := by simpa using hE
      have hF := HErr.out k hk HA.out hE
      have hend := qend_any g A3 c3 (rst L k).1 (rst L k).2 wr HR.out
      have hen : endQ (rst L k).1 (rst L k).2 ≠ 0 := by unfold endQ; rw [if_neg fun h => hE h.1]; exact hE
      generalize endQ (rst L k).1 (rst L k).2 = x at *
      generalize (rst L k).2 = E at *
      have HE := Lib.hid hend
      have HF := Lib.hid hF
      have hxb : (x != 0) = true := by simpa using hen
      clear hE hend hF hen HNext HOn HErr HEnd HA HR
      generalize (rst L k).1 = R at *
      generalize rxs L k = M at *
      by_cases hlt : k < N
      · go_wp2_with fail
        refine HE.out.mono ?_
        rintro _ w3 ⟨rfl, -, hg3⟩
        have HB3 := Lib.hid (HB.out.grown hg3 hsw (fun j e => by obtain rfl := Option.some.inj e; exact hgw))
        clear hg3 HO HB HE
        go_wp2_with fail
        go_ret2
        rw [HF.out]
        exact ⟨⟨_, rfl, World.ownsRow_nil _ _ _ _⟩, HB3.out⟩
      · obtain rfl : k = N := by omega
        go_wp2_with fail
        refine HE.out.mono ?_
        rintro _ w3 ⟨rfl, -, hg3⟩
        have HB3 := Lib.hid (HB.out.grown hg3 hsw (fun j e => by obtain rfl := Option.some.inj e; exact hgw))
        clear hg3 HO HB HE
        go_wp2_with fail
        go_ret2
        rw [HF.out]
        exact ⟨⟨_, rfl, World.ownsRow_nil _ _ _ _⟩, HB3.out⟩
end Go.Proofs.Ytofenjloieagaaa
