/-  -/
import Derived.Test.YthnbpdcjooifbaaZK69
import Derived.Test.YthnbpdcjooifbaaJ22
import Derived.Test.YthnbpdcjooifbaaJ21
import Derived.Test.YthnbpdcjooifbaaJ18
import Derived.Test.YthnbpdcjooifbaaJ17
import Derived.Test.YthnbpdcjooifbaaJ16
import Derived.Test.YthnbpdcjooifbaaJ12
import Derived.Test.YthnbpdcjooifbaaJ1
namespace Go.Proofs.Ythnbpdcjooifbaa
open Go.RowKit
set_option linter.unusedSimpArgs false
set_option linter.unusedVariables false

/-- The bytes that Bytes answers. -/
def bD (l : List Ev) : List Int := if chk l = 0 then histB l else []
def BGives (l : List Ev) (w : World) (e : Ending) (w' : World) : Prop :=
  ∃ A c, e = .returned (.tuple #[.slice A (bD l).length c, .int .i64 (chk l)]) ∧ RB w' w'.heap.size A c (bD l) ∧ Below w.heap.size w w'
theorem bytes_form {w : World} {l : List Ev} {e : Ending} {w' : World} (h : BytesTo w l e w') : BGives l w e w' := by
  obtain ⟨⟨h1, rfl⟩ | ⟨h1, A, c, rfl, h2⟩, hb⟩ := h
  · unfold BGives bD
    rw [if_neg h1]
    exact ⟨none, 0, rfl, RB.nil _ _, hb⟩
  · unfold BGives bD
    rw [if_pos h1, h1]
    exact ⟨A, c, rfl, h2.rb, hb⟩
theorem evs_same {w : World} {x y : Ls} (hx : LsAt w w.heap.size x) (hy : LsAt w w.heap.size y) (h : x.l = y.l) : Calls Try.prog 20 #[x.val, y.val] w fun e w' => e = .returned (.bool true) ∧ Below w.heap.size w w' :=
  (events_any w x y hx hy).mono fun e w' hh => ⟨by rw [hh.1, h]; simp, hh.2⟩

set_option maxRecDepth 100000 in
set_option maxHeartbeats 8000000 in
theorem walk_MergeCalls (w : World) (A : Option Addr) (c n : Nat) (L : List Ls) (en : n = L.length) (h : LL w w.heap.size A c L ∧ (∀ x ∈ L, (∀ e ∈ x.l, e.wf) ∧ (x.A = none → x.c = 0)))
    (t : Int) (ht : (Lit.int .i64 t).wf = true) (j : Int) (hj : (Lit.int .i64 j).wf = true) (Ab : Option Addr) (cb nb : Nat) (u : List Int) (hn : nb = u.length) (hu : RB w w.heap.size Ab cb u) :
    Calls Try.prog 4 #[.slice A n c, .int .i64 t, .int .i64 j, .slice Ab nb cb] w fun e w' => e = .returned (.bool true) ∧ Below w.heap.size w w' := by
  subst en hn
  obtain ⟨h0, hw⟩ := h
  have HN := Lib.hid (fun x hx => (hw x hx).2)
  have HW := Lib.hid (fun x hx => (hw x hx).1)
  have HU := Lib.hid hu
  have hul := hu.le
  have huc := hu.cap
  unfold maxLen at huc
  have H0 := Lib.hid h0
  clear hw hu ht hj
  go_enter Try.func4, Try.ntmps4
  go_wp2_with fail
  refine (lives4_any w).mono ?_
  rintro e w1 ⟨rfl, b1⟩
  have h1 := ll_later h0 b1
  clear h0
  have hli := light_any w1 c A L h1
  obtain ⟨q, hq⟩ : ∃ q, lightB L = q := ⟨_, rfl⟩
  rw [hq] at hli
  have HLI := Lib.hid hli
  have HQ := Lib.hid hq
  have H1 := Lib.hid h1
  clear hli hq h1
  cases q
  case false =>
    go_wp2_with fail
    refine HLI.out.mono ?_
    rintro e w2 ⟨rfl, rfl⟩
    go_wp2_with fail
    go_ret
    exact ⟨rfl, b1⟩
  case true =>
    go_wp2_with fail
    refine HLI.out.mono ?_
    rintro e w2 ⟨rfl, rfl⟩
    obtain ⟨hl10, hl120⟩ := light_all HQ.out
    by_cases hlong : 3000 < u.length
    · go_wp2_with fail
      go_ret
      exact ⟨rfl, b1⟩
    · have hul3 : u.length ≤ 3000 := by omega
      clear hlong
      go_wp2_with fail
      refine (copies_any w1 c A L H1.out HN.out hl10 (fun x hx => by have := len_all (L := L) x hx; omega)).mono ?_
      rintro e w2 ⟨A2, c2, L2, rfl, hL2, hm2, b2⟩
      obtain ⟨R, z, hM1, hM2⟩ := both_merge L L2 hm2 (by omega)
      obtain ⟨R2, z2, hR1, hR2⟩ := both_hread u (by omega) HU.out.bytes
      have HM1 := Lib.hid hM1
      have HM2 := Lib.hid hM2
      have HR1 := Lib.hid hR1
      have HR2 := Lib.hid hR2
      have HL2 := Lib.hid hL2
      have hll2 : L2.length ≤ 10 := by have h9 := congrArg List.length hm2; simp only [List.length_map] at h9; omega
      have B2 := Lib.hid (b1.trans (b2.mono b1.size))
      clear hM1 hM2 hR1 hR2 hL2 hm2 b2
      go_wp2_with fail
      refine (HM1.out w2 c2 A2 HL2.out).mono ?_
      rintro e w3 ⟨y1, rfl, hy1, ha1, b3⟩
      have B3 := Lib.hid (B2.out.trans (b3.mono B2.out.size))
      have Y1 := Lib.hid hy1
      have A1 := Lib.hid ha1
      clear hy1 ha1 b3
      go_wp2_with fail
      refine (HM2.out w3 c A (ll_later H0.out B3.out)).mono ?_
      rintro e w4 ⟨y2, rfl, hy2, ha2, b4⟩
      have B4 := Lib.hid (B3.out.trans (b4.mono B3.out.size))
      have A14 := Lib.hid (at_later2 A1.out b4)
      have Y2 := Lib.hid hy2
      have AA2 := Lib.hid ha2
      clear hy2 ha2 b4
      go_wp2_with fail
      refine (own_any Ab cb u.length u w4 w.heap.size rfl (HU.out.below B4.out) B4.out.size (by omega)).mono ?_
      rintro e w5 ⟨A5, c5, rfl, ho5, b5⟩
      have B5 := Lib.hid (B4.out.trans (b5.mono B4.out.size))
      have A15 := Lib.hid (at_later2 A14.out b5)
      have A25 := Lib.hid (at_later2 AA2.out b5)
      have O5 := Lib.hid ho5.rb
      clear ho5 b5
      go_wp2_with fail
      refine (HR1.out A5 c5 w5 w5.heap.size O5.out (Nat.le_refl _)).mono ?_
      rintro e w6 ⟨y3, rfl, hy3, ha3, b6⟩
      have B6 := Lib.hid (B5.out.trans (b6.mono B5.out.size))
      have A16 := Lib.hid (at_later2 A15.out b6)
      have A26 := Lib.hid (at_later2 A25.out b6)
      have Y3 := Lib.hid hy3
      have AA3 := Lib.hid ha3
      clear hy3 ha3 b6
      go_wp2_with fail
      refine (HR2.out Ab cb w6 w.heap.size (HU.out.below B6.out) B6.out.size).mono ?_
      rintro e w7 ⟨y4, rfl, hy4, ha4, b7⟩
      have B7 := Lib.hid (B6.out.trans (b7.mono B6.out.size))
      have A17 := Lib.hid (at_later2 A16.out b7)
      have A27 := Lib.hid (at_later2 A26.out b7)
      have A37 := Lib.hid (at_later2 AA3.out b7)
      have Y4 := Lib.hid hy4
      have AA4 := Lib.hid ha4
      clear hy4 ha4 b7
      go_wp2_with fail
      refine (evs_same A17.out A27.out (by rw [Y1.out, Y2.out])).mono ?_
      rintro e w8 ⟨rfl, b8⟩
      have B8 := Lib.hid (B7.out.trans (b8.mono B7.out.size))
      have A38 := Lib.hid (at_later2 A37.out b8)
      have A48 := Lib.hid (at_later2 AA4.out b8)
      clear b8
      go_wp2_with fail
      refine (evs_same A38.out A48.out (by rw [Y3.out, Y4.out])).mono ?_
      rintro e w9 ⟨rfl, b9⟩
      have B9 := Lib.hid (B8.out.trans (b9.mono B8.out.size))
      have hLc := H0.out.le
      have hcc := H0.out.cap
      unfold maxLen at hcc
      clear b9 HM1 HM2 HR1 HR2 HL2 B2 Y1 A1 B3 A14 Y2 AA2 B4 B5 A15 A25 O5 B6 A16 A26 Y3 AA3 B7 A17 A27 A37 Y4 AA4 B8 A38 A48 H1 HLI
      go_wp2_with fail
      go_loopw [17] (fun i wr => ∃ k : Nat, k ≤ L.length ∧ i = .int .i64 k ∧ Below w.heap.size w wr) (fun i _ => L.length - (intOf i).toNat)
      case atStart => exact ⟨0, Nat.zero_le _, rfl, B9.out⟩
      case round =>
        clear B9
        obtain ⟨k, hk, rfl, hb⟩ := hrel
        by_cases hlt : k < L.length
        · obtain ⟨b, o, rfl, hb1, hc1⟩ := H0.out.at_ (by omega)
          have hcell : w.cell? ⟨b, o + k, Option.none⟩ = some (L.getD k Ls.none).val := hc1 k hlt
          have hcell0 : w.cell? ⟨b, o, Option.none⟩ = some (L.getD 0 Ls.none).val := hc1 0 (by omega)
          have hmem : L.getD k Ls.none ∈ L := by rw [List.getD_eq_getElem?_getD, List.getElem?_eq_getElem hlt]; exact List.getElem_mem hlt
          have hmem0 : L.getD 0 Ls.none ∈ L := by rw [List.getD_eq_getElem?_getD, List.getElem?_eq_getElem (by omega)]; exact List.getElem_mem (by omega)
          have hrow := H0.out.rows _ hmem
          have hrow0 := H0.out.rows _ hmem0
          have hxl := len_all _ hmem
          have hxn := HN.out _ hmem
          have hxw := HW.out _ hmem
          obtain ⟨x, hx⟩ : ∃ x, L.getD k Ls.none = x := ⟨_, rfl⟩
          obtain ⟨x0, hx0⟩ : ∃ x, L.getD 0 Ls.none = x := ⟨_, rfl⟩
          rw [hx] at hcell hrow hxl hxn hxw
          rw [hx0] at hcell0 hrow0
          have hxl2 : x.l.length ≤ 1048576 := by omega
          have HCELL := Lib.hid (show ∀ W, Below w.heap.size w W → W.cell? ⟨b, o + k, Option.none⟩ = some (.slice x.A x.l.length x.c) from fun W hW => (World.cell?_of_block (hW.block b hb1)).trans hcell)
          have HCELL0 := Lib.hid (show ∀ W, Below w.heap.size w W → W.cell? ⟨b, o, Option.none⟩ = some (.slice x0.A x0.l.length x0.c) from fun W hW => (World.cell?_of_block (hW.block b hb1)).trans hcell0)
          have HROW := Lib.hid (show ∀ W, Below w.heap.size w W → LsAt W W.heap.size x from fun W hW => at_later2 hrow hW)
          have HROW0 := Lib.hid (show ∀ W, Below w.heap.size w W → LsAt W W.heap.size x0 from fun W hW => at_later2 hrow0 hW)
          have HXN := Lib.hid hxn
          have HXW := Lib.hid hxw
          have hxc := hrow.cap
          have hxle := hrow.le
          unfold maxLen at hxc
          clear hcell hcell0 hmem hmem0 hrow hrow0 hxn hxw hx hx0 hc1
          have q0 := HCELL.out wr hb
          have B0 := Lib.hid hb
          clear hb
          go_wp2_with fail
          refine (cut_any wr x t (HROW.out wr (B0.out)) hxl2).mono ?_
          rintro e v1 ⟨y1, z1, rfl, hya, hza, hyl, hzl, bb, _, _⟩
          have B1_ := Lib.hid (B0.out.trans (bb.mono B0.out.size))
          have YA := Lib.hid hya
          have ZA := Lib.hid hza
          have ya := Lib.hid hyl
          have za := Lib.hid hzl
          clear hya hza hyl hzl
          clear bb q0
          have q1 := HCELL.out v1 B1_.out
          go_wp2_with fail
          refine (rcut_any v1 x t (HROW.out v1 (B1_.out)) hxl2).mono ?_
          rintro e v2 ⟨y2, z2, rfl, hya, hza, hyl, hzl, bb, _, _⟩
          have B2_ := Lib.hid (B1_.out.trans (bb.mono B1_.out.size))
          have ya_2 := Lib.hid (at_later2 ya.out bb)
          clear ya
          have za_2 := Lib.hid (at_later2 za.out bb)
          clear za
          have YB := Lib.hid hya
          have ZB := Lib.hid hza
          have yb := Lib.hid hyl
          have zb := Lib.hid hzl
          clear hya hza hyl hzl
          clear bb q1
          have q2 := HCELL.out v2 B2_.out
          go_wp2_with fail
          refine ((mbytes_any v2 x (HROW.out v2 (B2_.out)) hxl2).mono fun e w' hh => bytes_form hh).mono ?_
          rintro e v3 ⟨A6, c6, rfl, hr6, bb⟩
          have B3_ := Lib.hid (B2_.out.trans (bb.mono B2_.out.size))
          have ya_3 := Lib.hid (at_later2 ya_2.out bb)
          clear ya_2
          have za_3 := Lib.hid (at_later2 za_2.out bb)
          clear za_2
          have yb_3 := Lib.hid (at_later2 yb.out bb)
          clear yb
          have zb_3 := Lib.hid (at_later2 zb.out bb)
          clear zb
          have pa := Lib.hid hr6
          clear hr6
          clear bb q2
          have q3 := HCELL.out v3 B3_.out
          go_wp2_with fail
          refine ((r4bytes_any v3 x (HROW.out v3 (B3_.out)) hxl2).mono fun e w' hh => bytes_form hh).mono ?_
          rintro e v4 ⟨A7, c7, rfl, hr7, bb⟩
          have B4_ := Lib.hid (B3_.out.trans (bb.mono B3_.out.size))
          have ya_4 := Lib.hid (at_later2 ya_3.out bb)
          clear ya_3
          have za_4 := Lib.hid (at_later2 za_3.out bb)
          clear za_3
          have yb_4 := Lib.hid (at_later2 yb_3.out bb)
          clear yb_3
          have zb_4 := Lib.hid (at_later2 zb_3.out bb)
          clear zb_3
          have pa_4 := Lib.hid (pa.out.belowH bb)
          clear pa
          have pb := Lib.hid hr7
          clear hr7
          clear bb q3
          have q4 := HCELL.out v4 B4_.out
          clear q4
          go_upto_region 18 with fail
          simp only [List.append_eq, List.cons_append, List.nil_append]
          refine Proofs.Ythnbpdcjooifbaa.L.region_ (fun _ => False) (by kernel_rfl) ?_
          go_simp
          have dq := fun p : Later (fun _ => False) v4 => p.cell (HCELL.out v4 B4_.out) (fun h => h)
          have dq0 := fun p : Later (fun _ => False) v4 => p.cell (HCELL0.out v4 B4_.out) (fun h => h)
          refine Proofs.Ythnbpdcjooifbaa.L.seg_ [0, 1, 2, 3, 5, 6, 7, 8] 104 _ (by kernel_rfl) (by kernel_rfl) (by kernel_rfl) (by simp only [pickOps, mask, plain, List.getElem?_toArray, List.getElem?_cons_zero, List.getElem?_cons_succ, if_true, Bool.false_eq_true, if_false]; rfl) ?_
          repeat (go_big_quiet_step (fail))
          refine wpQuiet_nil ?_
          clear dq dq0
          refine Proofs.Ythnbpdcjooifbaa.L.call_ (i := 4) rfl (by kernel_rfl) (by kernel_rfl) ?_
          intro wz sz
          unfold Oper.does
          go_simp
          have bz := B4_.out.trans (sz.all.mono B4_.out.size)
          have sb := sz.all
          refine ((mcheck_any wz x (HROW.out wz (bz))).mono fun e w' hc => hc.chk).mono ?_
          rintro e v5 ⟨rfl, bb⟩
          refine ⟨_, rfl, same_ sz (Save.of_below bb) ?_⟩
          have b2 := sb.trans (bb.mono sb.size)
          have B5_ := Lib.hid (bz.trans (bb.mono bz.size))
          have ya_5 := Lib.hid (at_later2 ya_4.out b2)
          clear ya_4
          have za_5 := Lib.hid (at_later2 za_4.out b2)
          clear za_4
          have yb_5 := Lib.hid (at_later2 yb_4.out b2)
          clear yb_4
          have zb_5 := Lib.hid (at_later2 zb_4.out b2)
          clear zb_4
          have pa_5 := Lib.hid (pa_4.out.belowH b2)
          clear pa_4
          have pb_5 := Lib.hid (pb.out.belowH b2)
          clear pb
          clear bb b2 sz bz sb
          go_simp
          refine Proofs.Ythnbpdcjooifbaa.L.call_ (i := 9) rfl (by kernel_rfl) (by kernel_rfl) ?_
          intro wz sz
          unfold Oper.does
          go_simp
          have bz := B5_.out.trans (sz.all.mono B5_.out.size)
          have sb := sz.all
          refine (rmchk_any wz x (HROW.out wz (bz))).mono ?_
          rintro e v6 ⟨rfl, bb⟩
          refine ⟨_, rfl, same_ sz (Save.of_below bb) ?_⟩
          have b2 := sb.trans (bb.mono sb.size)
          have B6_ := Lib.hid (bz.trans (bb.mono bz.size))
          have ya_6 := Lib.hid (at_later2 ya_5.out b2)
          clear ya_5
          have za_6 := Lib.hid (at_later2 za_5.out b2)
          clear za_5
          have yb_6 := Lib.hid (at_later2 yb_5.out b2)
          clear yb_5
          have zb_6 := Lib.hid (at_later2 zb_5.out b2)
          clear zb_5
          have pa_6 := Lib.hid (pa_5.out.belowH b2)
          clear pa_5
          have pb_6 := Lib.hid (pb_5.out.belowH b2)
          clear pb_5
          clear bb b2 sz bz sb
          go_simp
          as_aux_lemma =>
            have dq := fun p : Later (fun _ => False) v6 => p.cell (HCELL.out v6 B6_.out) (fun h => h)
            have dq0 := fun p : Later (fun _ => False) v6 => p.cell (HCELL0.out v6 B6_.out) (fun h => h)
            refine Proofs.Ythnbpdcjooifbaa.L.seg_ [10, 11, 12, 13, 14, 15, 16, 18, 19, 20, 21, 22] 90 _ (by kernel_rfl) (by kernel_rfl) (by kernel_rfl) (by simp only [pickOps, mask, plain, List.getElem?_toArray, List.getElem?_cons_zero, List.getElem?_cons_succ, if_true, Bool.false_eq_true, if_false]; rfl) ?_
            repeat (go_big_quiet_step (fail))
            refine wpQuiet_nil ?_
            clear dq dq0
            refine Proofs.Ythnbpdcjooifbaa.L.call_ (i := 17) rfl (by kernel_rfl) (by kernel_rfl) ?_
            intro wz sz
            unfold Oper.does
            go_simp
            have bz := B6_.out.trans (sz.all.mono B6_.out.size)
            have sb := sz.all
            refine (alone_any wz x j (HROW.out wz (bz))).mono ?_
            rintro e v7 ⟨rfl, bb⟩
            refine ⟨_, rfl, same_ sz (Save.of_below bb) ?_⟩
            have b2 := sb.trans (bb.mono sb.size)
            have B7_ := Lib.hid (bz.trans (bb.mono bz.size))
            have ya_7 := Lib.hid (at_later2 ya_6.out b2)
            clear ya_6
            have za_7 := Lib.hid (at_later2 za_6.out b2)
            clear za_6
            have yb_7 := Lib.hid (at_later2 yb_6.out b2)
            clear yb_6
            have zb_7 := Lib.hid (at_later2 zb_6.out b2)
            clear zb_6
            have pa_7 := Lib.hid (pa_6.out.belowH b2)
            clear pa_6
            have pb_7 := Lib.hid (pb_6.out.belowH b2)
            clear pb_6
            clear bb b2 sz bz sb
            go_simp
            refine Proofs.Ythnbpdcjooifbaa.L.call_ (i := 23) rfl (by kernel_rfl) (by kernel_rfl) ?_
            intro wz sz
            unfold Oper.does
            go_simp
            have bz := B7_.out.trans (sz.all.mono B7_.out.size)
            have sb := sz.all
            refine (ralone_any wz x j (HROW.out wz (bz))).mono ?_
            rintro e v8 ⟨rfl, bb⟩
            refine ⟨_, rfl, same_ sz (Save.of_below bb) ?_⟩
            have b2 := sb.trans (bb.mono sb.size)
            have B8_ := Lib.hid (bz.trans (bb.mono bz.size))
            have ya_8 := Lib.hid (at_later2 ya_7.out b2)
            clear ya_7
            have za_8 := Lib.hid (at_later2 za_7.out b2)
            clear za_7
            have yb_8 := Lib.hid (at_later2 yb_7.out b2)
            clear yb_7
            have zb_8 := Lib.hid (at_later2 zb_7.out b2)
            clear zb_7
            have pa_8 := Lib.hid (pa_7.out.belowH b2)
            clear pa_7
            have pb_8 := Lib.hid (pb_7.out.belowH b2)
            clear pb_7
            clear bb b2 sz bz sb
            go_simp
            as_aux_lemma =>
              have dq := fun p : Later (fun _ => False) v8 => p.cell (HCELL.out v8 B8_.out) (fun h => h)
              have dq0 := fun p : Later (fun _ => False) v8 => p.cell (HCELL0.out v8 B8_.out) (fun h => h)
              refine Proofs.Ythnbpdcjooifbaa.L.seg_ [24, 25, 26, 27, 28, 29, 30, 31, 33, 34, 35, 36, 37] 75 _ (by kernel_rfl) (by kernel_rfl) (by kernel_rfl) (by simp only [pickOps, mask, plain, List.getElem?_toArray, List.getElem?_cons_zero, List.getElem?_cons_succ, if_true, Bool.false_eq_true, if_false]; rfl) ?_
              repeat (go_big_quiet_step (fail))
              refine wpQuiet_nil ?_
              clear dq dq0
              refine Proofs.Ythnbpdcjooifbaa.L.call_ (i := 32) rfl (by kernel_rfl) (by kernel_rfl) ?_
              intro wz sz
              unfold Oper.does
              go_simp
              have bz := B8_.out.trans (sz.all.mono B8_.out.size)
              have sb := sz.all
              refine (part_any wz x j (HROW.out wz (bz)) hxl2).mono ?_
              rintro e v9 ⟨p1, rfl, hpl, ⟨hpa, _⟩, bb⟩
              refine ⟨_, rfl, same_ sz (Save.of_below bb) ?_⟩
              have b2 := sb.trans (bb.mono sb.size)
              have B9_ := Lib.hid (bz.trans (bb.mono bz.size))
              have ya_9 := Lib.hid (at_later2 ya_8.out b2)
              clear ya_8
              have za_9 := Lib.hid (at_later2 za_8.out b2)
              clear za_8
              have yb_9 := Lib.hid (at_later2 yb_8.out b2)
              clear yb_8
              have zb_9 := Lib.hid (at_later2 zb_8.out b2)
              clear zb_8
              have pa_9 := Lib.hid (pa_8.out.belowH b2)
              clear pa_8
              have pb_9 := Lib.hid (pb_8.out.belowH b2)
              clear pb_8
              have PA := Lib.hid hpl
              have ra := Lib.hid hpa
              clear hpl hpa
              clear bb b2 sz bz sb
              go_simp
              refine Proofs.Ythnbpdcjooifbaa.L.call_ (i := 38) rfl (by kernel_rfl) (by kernel_rfl) ?_
              intro wz sz
              unfold Oper.does
              go_simp
              have bz := B9_.out.trans (sz.all.mono B9_.out.size)
              have sb := sz.all
              refine (rpart_any wz x j (HROW.out wz (bz)) hxl2).mono ?_
              rintro e v10 ⟨p2, rfl, hpl, ⟨hpa, _⟩, bb⟩
              refine ⟨_, rfl, same_ sz (Save.of_below bb) ?_⟩
              have b2 := sb.trans (bb.mono sb.size)
              have B10_ := Lib.hid (bz.trans (bb.mono bz.size))
              have ya_10 := Lib.hid (at_later2 ya_9.out b2)
              clear ya_9
              have za_10 := Lib.hid (at_later2 za_9.out b2)
              clear za_9
              have yb_10 := Lib.hid (at_later2 yb_9.out b2)
              clear yb_9
              have zb_10 := Lib.hid (at_later2 zb_9.out b2)
              clear zb_9
              have pa_10 := Lib.hid (pa_9.out.belowH b2)
              clear pa_9
              have pb_10 := Lib.hid (pb_9.out.belowH b2)
              clear pb_9
              have ra_10 := Lib.hid (at_later2 ra.out b2)
              clear ra
              have PB := Lib.hid hpl
              have rb := Lib.hid hpa
              clear hpl hpa
              clear bb b2 sz bz sb
              go_simp
              refine Proofs.Ythnbpdcjooifbaa.L.call_ (i := 39) rfl (by kernel_rfl) (by kernel_rfl) ?_
              intro wz sz
              unfold Oper.does
              go_simp
              have bz := B10_.out.trans (sz.all.mono B10_.out.size)
              have sb := sz.all
              refine (evs_same (at_later2 ra_10.out sb) (at_later2 rb.out sb) (by rw [PA.out, PB.out])).mono ?_
              rintro e v11 ⟨rfl, bb⟩
              refine ⟨_, rfl, same_ sz (Save.of_below bb) ?_⟩
              have b2 := sb.trans (bb.mono sb.size)
              have B11_ := Lib.hid (bz.trans (bb.mono bz.size))
              have ya_11 := Lib.hid (at_later2 ya_10.out b2)
              clear ya_10
              have za_11 := Lib.hid (at_later2 za_10.out b2)
              clear za_10
              have yb_11 := Lib.hid (at_later2 yb_10.out b2)
              clear yb_10
              have zb_11 := Lib.hid (at_later2 zb_10.out b2)
              clear zb_10
              have pa_11 := Lib.hid (pa_10.out.belowH b2)
              clear pa_10
              have pb_11 := Lib.hid (pb_10.out.belowH b2)
              clear pb_10
              have ra_11 := Lib.hid (at_later2 ra_10.out b2)
              clear ra_10
              have rb_11 := Lib.hid (at_later2 rb.out b2)
              clear rb
              clear bb b2 sz bz sb
              go_simp
              as_aux_lemma =>
                have dq := fun p : Later (fun _ => False) v11 => p.cell (HCELL.out v11 B11_.out) (fun h => h)
                have dq0 := fun p : Later (fun _ => False) v11 => p.cell (HCELL0.out v11 B11_.out) (fun h => h)
                refine Proofs.Ythnbpdcjooifbaa.L.seg_ [40, 41, 42, 43, 44] 67 _ (by kernel_rfl) (by kernel_rfl) (by kernel_rfl) (by simp only [pickOps, mask, plain, List.getElem?_toArray, List.getElem?_cons_zero, List.getElem?_cons_succ, if_true, Bool.false_eq_true, if_false]; rfl) ?_
                repeat (go_big_quiet_step (fail))
                refine wpQuiet_nil ?_
                clear dq dq0
                refine Proofs.Ythnbpdcjooifbaa.L.call_ (i := 45) rfl (by kernel_rfl) (by kernel_rfl) ?_
                intro wz sz
                unfold Oper.does
                go_simp
                have bz := B11_.out.trans (sz.all.mono B11_.out.size)
                have sb := sz.all
                refine (evs_same (at_later2 ya_11.out sb) (at_later2 yb_11.out sb) (by rw [YA.out, YB.out])).mono ?_
                rintro e v12 ⟨rfl, bb⟩
                refine ⟨_, rfl, same_ sz (Save.of_below bb) ?_⟩
                have b2 := sb.trans (bb.mono sb.size)
                have B12_ := Lib.hid (bz.trans (bb.mono bz.size))
                have ya_12 := Lib.hid (at_later2 ya_11.out b2)
                clear ya_11
                have za_12 := Lib.hid (at_later2 za_11.out b2)
                clear za_11
                have yb_12 := Lib.hid (at_later2 yb_11.out b2)
                clear yb_11
                have zb_12 := Lib.hid (at_later2 zb_11.out b2)
                clear zb_11
                have pa_12 := Lib.hid (pa_11.out.belowH b2)
                clear pa_11
                have pb_12 := Lib.hid (pb_11.out.belowH b2)
                clear pb_11
                clear bb b2 sz bz sb
                go_simp
                have dq := fun p : Later (fun _ => False) v12 => p.cell (HCELL.out v12 B12_.out) (fun h => h)
                have dq0 := fun p : Later (fun _ => False) v12 => p.cell (HCELL0.out v12 B12_.out) (fun h => h)
                refine Proofs.Ythnbpdcjooifbaa.L.seg_ [46, 47, 48, 49, 50] 61 _ (by kernel_rfl) (by kernel_rfl) (by kernel_rfl) (by simp only [pickOps, mask, plain, List.getElem?_toArray, List.getElem?_cons_zero, List.getElem?_cons_succ, if_true, Bool.false_eq_true, if_false]; rfl) ?_
                repeat (go_big_quiet_step (fail))
                refine wpQuiet_nil ?_
                clear dq dq0
                refine Proofs.Ythnbpdcjooifbaa.L.call_ (i := 51) rfl (by kernel_rfl) (by kernel_rfl) ?_
                intro wz sz
                unfold Oper.does
                go_simp
                have bz := B12_.out.trans (sz.all.mono B12_.out.size)
                have sb := sz.all
                refine (evs_same (at_later2 za_12.out sb) (at_later2 zb_12.out sb) (by rw [ZA.out, ZB.out])).mono ?_
                rintro e v13 ⟨rfl, bb⟩
                refine ⟨_, rfl, same_ sz (Save.of_below bb) ?_⟩
                have b2 := sb.trans (bb.mono sb.size)
                have B13_ := Lib.hid (bz.trans (bb.mono bz.size))
                have za_13 := Lib.hid (at_later2 za_12.out b2)
                clear za_12
                have zb_13 := Lib.hid (at_later2 zb_12.out b2)
                clear zb_12
                have pa_13 := Lib.hid (pa_12.out.belowH b2)
                clear pa_12
                have pb_13 := Lib.hid (pb_12.out.belowH b2)
                clear pb_12
                clear bb b2 sz bz sb
                go_simp
                as_aux_lemma =>
                  have dq := fun p : Later (fun _ => False) v13 => p.cell (HCELL.out v13 B13_.out) (fun h => h)
                  have dq0 := fun p : Later (fun _ => False) v13 => p.cell (HCELL0.out v13 B13_.out) (fun h => h)
                  refine Proofs.Ythnbpdcjooifbaa.L.seg_ [52, 53, 54, 55, 56, 57, 58, 59, 60, 61, 63, 64, 65, 66, 67, 68, 69] 43 _ (by kernel_rfl) (by kernel_rfl) (by kernel_rfl) (by simp only [pickOps, mask, plain, List.getElem?_toArray, List.getElem?_cons_zero, List.getElem?_cons_succ, if_true, Bool.false_eq_true, if_false]; rfl) ?_
                  repeat (go_big_quiet_step (fail))
                  refine wpQuiet_nil ?_
                  clear dq dq0
                  refine Proofs.Ythnbpdcjooifbaa.L.call_ (i := 62) rfl (by kernel_rfl) (by kernel_rfl) ?_
                  intro wz sz
                  unfold Oper.does
                  go_simp
                  have bz := B13_.out.trans (sz.all.mono B13_.out.size)
                  have sb := sz.all
                  refine (differ_any wz x0 x (HROW0.out wz (bz)) (HROW.out wz (bz))).mono ?_
                  rintro e v14 ⟨rfl, bb⟩
                  refine ⟨_, rfl, same_ sz (Save.of_below bb) ?_⟩
                  have b2 := sb.trans (bb.mono sb.size)
                  have B14_ := Lib.hid (bz.trans (bb.mono bz.size))
                  have pa_14 := Lib.hid (pa_13.out.belowH b2)
                  clear pa_13
                  have pb_14 := Lib.hid (pb_13.out.belowH b2)
                  clear pb_13
                  clear bb b2 sz bz sb
                  go_simp
                  refine Proofs.Ythnbpdcjooifbaa.L.call_ (i := 70) rfl (by kernel_rfl) (by kernel_rfl) ?_
                  intro wz sz
                  unfold Oper.does
                  go_simp
                  have bz := B14_.out.trans (sz.all.mono B14_.out.size)
                  have sb := sz.all
                  refine (rdiffer_any wz x0 x (HROW0.out wz (bz)) (HROW.out wz (bz))).mono ?_
                  rintro e v15 ⟨rfl, bb⟩
                  refine ⟨_, rfl, same_ sz (Save.of_below bb) ?_⟩
                  have b2 := sb.trans (bb.mono sb.size)
                  have B15_ := Lib.hid (bz.trans (bb.mono bz.size))
                  have pa_15 := Lib.hid (pa_14.out.belowH b2)
                  clear pa_14
                  have pb_15 := Lib.hid (pb_14.out.belowH b2)
                  clear pb_14
                  clear bb b2 sz bz sb
                  go_simp
                  as_aux_lemma =>
                    have dq := fun p : Later (fun _ => False) v15 => p.cell (HCELL.out v15 B15_.out) (fun h => h)
                    have dq0 := fun p : Later (fun _ => False) v15 => p.cell (HCELL0.out v15 B15_.out) (fun h => h)
                    refine Proofs.Ythnbpdcjooifbaa.L.seg_ [71, 72, 73, 74, 75, 76, 77, 79, 80, 81, 82] 30 _ (by kernel_rfl) (by kernel_rfl) (by kernel_rfl) (by simp only [pickOps, mask, plain, List.getElem?_toArray, List.getElem?_cons_zero, List.getElem?_cons_succ, if_true, Bool.false_eq_true, if_false]; rfl) ?_
                    repeat (go_big_quiet_step (fail))
                    refine wpQuiet_nil ?_
                    clear dq dq0
                    refine Proofs.Ythnbpdcjooifbaa.L.call_ (i := 78) rfl (by kernel_rfl) (by kernel_rfl) ?_
                    intro wz sz
                    unfold Oper.does
                    go_simp
                    have bz := B15_.out.trans (sz.all.mono B15_.out.size)
                    have sb := sz.all
                    refine (count_any wz x (HROW.out wz (bz)) hxl2).mono ?_
                    rintro e v16 ⟨rfl, bb⟩
                    refine ⟨_, rfl, same_ sz (Save.of_below bb) ?_⟩
                    have b2 := sb.trans (bb.mono sb.size)
                    have B16_ := Lib.hid (bz.trans (bb.mono bz.size))
                    have pa_16 := Lib.hid (pa_15.out.belowH b2)
                    clear pa_15
                    have pb_16 := Lib.hid (pb_15.out.belowH b2)
                    clear pb_15
                    clear bb b2 sz bz sb
                    go_simp
                    refine Proofs.Ythnbpdcjooifbaa.L.call_ (i := 83) rfl (by kernel_rfl) (by kernel_rfl) ?_
                    intro wz sz
                    unfold Oper.does
                    go_simp
                    have bz := B16_.out.trans (sz.all.mono B16_.out.size)
                    have sb := sz.all
                    refine (rcount2_any wz x (HROW.out wz (bz)) hxl2).mono ?_
                    rintro e v17 ⟨rfl, bb⟩
                    refine ⟨_, rfl, same_ sz (Save.of_below bb) ?_⟩
                    have b2 := sb.trans (bb.mono sb.size)
                    have B17_ := Lib.hid (bz.trans (bb.mono bz.size))
                    have pa_17 := Lib.hid (pa_16.out.belowH b2)
                    clear pa_16
                    have pb_17 := Lib.hid (pb_16.out.belowH b2)
                    clear pb_16
                    clear bb b2 sz bz sb
                    go_simp
                    unfold ctV ctA
                    have dq := fun p : Later (fun _ => False) v17 => p.cell (HCELL.out v17 B17_.out) (fun h => h)
                    have dq0 := fun p : Later (fun _ => False) v17 => p.cell (HCELL0.out v17 B17_.out) (fun h => h)
                    have hE := fun p : Later (fun _ => False) v17 => eqct_run (cntF x.l) p.w
                    unfold ctV ctA at hE
                    refine Proofs.Ythnbpdcjooifbaa.L.seg_ [84, 85, 86, 87, 88, 89, 90, 92, 93, 94, 95] 17 _ (by kernel_rfl) (by kernel_rfl) (by kernel_rfl) (by simp only [pickOps, mask, plain, List.getElem?_toArray, List.getElem?_cons_zero, List.getElem?_cons_succ, if_true, Bool.false_eq_true, if_false]; rfl) ?_
                    repeat (go_big_quiet_step (fail))
                    refine wpQuiet_nil ?_
                    clear dq dq0
                    clear hE
                    as_aux_lemma =>
                      refine Proofs.Ythnbpdcjooifbaa.L.call_ (i := 91) rfl (by kernel_rfl) (by kernel_rfl) ?_
                      intro wz sz
                      unfold Oper.does
                      go_simp
                      have bz := B17_.out.trans (sz.all.mono B17_.out.size)
                      have sb := sz.all
                      refine (evnumber_any wz x (HROW.out wz (bz)) HXW.out HXN.out hxl2).mono ?_
                      rintro e v18 ⟨p3, rfl, hpl, ⟨hpa, _⟩, bb⟩
                      refine ⟨_, rfl, same_ sz (Save.of_below bb) ?_⟩
                      have b2 := sb.trans (bb.mono sb.size)
                      have B18_ := Lib.hid (bz.trans (bb.mono bz.size))
                      have pa_18 := Lib.hid (pa_17.out.belowH b2)
                      clear pa_17
                      have pb_18 := Lib.hid (pb_17.out.belowH b2)
                      clear pb_17
                      have PC := Lib.hid hpl
                      have rc := Lib.hid hpa
                      clear hpl hpa
                      clear bb b2 sz bz sb
                      go_simp
                      refine Proofs.Ythnbpdcjooifbaa.L.call_ (i := 96) rfl (by kernel_rfl) (by kernel_rfl) ?_
                      intro wz sz
                      unfold Oper.does
                      go_simp
                      have bz := B18_.out.trans (sz.all.mono B18_.out.size)
                      have sb := sz.all
                      refine (rnumber2_any wz x (HROW.out wz (bz)) hxl2).mono ?_
                      rintro e v19 ⟨p4, rfl, hpl, ⟨hpa, _⟩, bb⟩
                      refine ⟨_, rfl, same_ sz (Save.of_below bb) ?_⟩
                      have b2 := sb.trans (bb.mono sb.size)
                      have B19_ := Lib.hid (bz.trans (bb.mono bz.size))
                      have pa_19 := Lib.hid (pa_18.out.belowH b2)
                      clear pa_18
                      have pb_19 := Lib.hid (pb_18.out.belowH b2)
                      clear pb_18
                      have rc_19 := Lib.hid (at_later2 rc.out b2)
                      clear rc
                      have PD := Lib.hid hpl
                      have rd := Lib.hid hpa
                      clear hpl hpa
                      clear bb b2 sz bz sb
                      go_simp
                      refine Proofs.Ythnbpdcjooifbaa.L.call_ (i := 97) rfl (by kernel_rfl) (by kernel_rfl) ?_
                      intro wz sz
                      unfold Oper.does
                      go_simp
                      have bz := B19_.out.trans (sz.all.mono B19_.out.size)
                      have sb := sz.all
                      refine (evs_same (at_later2 rc_19.out sb) (at_later2 rd.out sb) (by rw [PC.out, PD.out]; rfl)).mono ?_
                      rintro e v20 ⟨rfl, bb⟩
                      refine ⟨_, rfl, same_ sz (Save.of_below bb) ?_⟩
                      have b2 := sb.trans (bb.mono sb.size)
                      have B20_ := Lib.hid (bz.trans (bb.mono bz.size))
                      have pa_20 := Lib.hid (pa_19.out.belowH b2)
                      clear pa_19
                      have pb_20 := Lib.hid (pb_19.out.belowH b2)
                      clear pb_19
                      have rc_20 := Lib.hid (at_later2 rc_19.out b2)
                      clear rc_19
                      have rd_20 := Lib.hid (at_later2 rd.out b2)
                      clear rd
                      clear bb b2 sz bz sb
                      go_simp
                      as_aux_lemma =>
                        have dq := fun p : Later (fun _ => False) v20 => p.cell (HCELL.out v20 B20_.out) (fun h => h)
                        have dq0 := fun p : Later (fun _ => False) v20 => p.cell (HCELL0.out v20 B20_.out) (fun h => h)
                        have s1 := fun p : Later (fun _ => False) v20 => run_string_rb p.w _ _ _ _ (pa_20.out.below p.ok.all)
                        have s2 := fun p : Later (fun _ => False) v20 => run_string_rb p.w _ _ _ _ (pb_20.out.below p.ok.all)
                        refine Proofs.Ythnbpdcjooifbaa.L.seg_ [98, 99, 100, 101, 102, 103, 104, 105, 106, 107, 108, 109, 110, 111] 0 _ (by kernel_rfl) (by kernel_rfl) (by kernel_rfl) (by simp only [pickOps, mask, plain, List.getElem?_toArray, List.getElem?_cons_zero, List.getElem?_cons_succ, if_true, Bool.false_eq_true, if_false]; rfl) ?_
                        repeat (go_big_quiet_step (fail))
                        refine wpQuiet_nil ?_
                        clear dq dq0
                        clear s1 s2
                        refine Proofs.Ythnbpdcjooifbaa.L.end_ (by kernel_rfl) ?_
                        intro wf sf
                        have BF := Lib.hid (B20_.out.trans (sf.all.mono B20_.out.size))
                        clear sf
                        go_wp2_with fail
                        go_roundw
                        case rel => exact ⟨k + 1, by omega, by go_num, BF.out⟩
                        case measure => simp [intOf]; omega
        · obtain rfl : k = L.length := by omega
          go_wp2_with fail
          go_ret
          exact ⟨rfl, hb⟩
end Go.Proofs.Ythnbpdcjooifbaa
