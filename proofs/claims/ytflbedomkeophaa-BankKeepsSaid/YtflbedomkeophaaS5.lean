
/- BankKeeps, walked. -/
import Derived.Test.YtflbedomkeophaaS4
import Derived.Test.YtflbedomkeophaaSN
import Derived.Deep.DeepCutAuto
import Derived.Maps.RangeWalk
namespace Go.Proofs.Ytflbedomkeophaa
open Go.RowKit Go.Maps
set_option linter.unusedSimpArgs false
set_option linter.unusedVariables false
set_option maxRecDepth 100000

/-- The list that New takes: a row of the call's own that holds the patches that came in. -/
theorem PtsAt.copied {w w' : World} {B B' c c' : Nat} {A A' : Option Addr} {ps : List Pt} (h : PtsAt w B A c ps) (ho : w'.ownsRow B' 29 3 (.slice A' ps.length c') ps.length (cellsP ps)) (hr : ∀ x ∈ ps, RB w' w'.heap.size x.A x.c x.l) : PtsAt w' w'.heap.size A' c' ps := by
  rcases ho.2 with ⟨h1, h2⟩ | ⟨g, cap, cur, h1, hb, hg, hn, hm, hs, ht⟩
  · injection h1 with e1 e2 e3
    subst e1 e3
    have : ps = [] := List.eq_nil_of_length_eq_zero h2
    subst this
    exact ⟨Nat.le_refl _, by decide, fun h0 => absurd h0 (by decide), hr⟩
  · injection h1 with e1 e2 e3
    subst e1 e3
    refine ⟨hn, hm, fun h0 => ⟨g, 0, rfl, (Array.getElem?_eq_some_iff.1 hg).1, fun i hi j hj => ?_⟩, hr⟩
    rw [Nat.zero_add, ho.cellAt (i * 3 + j) (by omega), cellsP_get ps i j hi hj]
theorem PtsAt.cells {w : World} {B c : Nat} {ad : Addr} {ps : List Pt} (h : PtsAt w B (some ad) c ps) : ∀ j u, (cellsP ps)[j]? = some u → w.cell? (ad.add j) = some u := by
  intro j u hu
  have hj : j < ps.length * 3 := by
    have := (List.getElem?_eq_some_iff.1 hu).1
    rwa [cellsP_len] at this
  obtain ⟨b, o, h1, _, h3⟩ := h.at_ (by omega)
  obtain rfl := Option.some.inj h1
  have hadd : (⟨b, o, none⟩ : Addr).add j = ⟨b, o + j, none⟩ := by unfold Addr.add; split <;> simp_all
  have h6 : j % 3 < 3 := Nat.mod_lt _ (by decide)
  have hdm : j = j / 3 * 3 + j % 3 := by omega
  rw [hadd, show o + j = o + j / 3 * 3 + j % 3 by omega, h3 (j / 3) (by omega) (j % 3) h6]
  rw [hdm, cellsP_get ps (j / 3) (j % 3) (by omega) h6] at hu
  exact hu
/-- append([]api.Patch{}, l...). -/
theorem w_append_copy {w : World} {ops : Array Oper} {rest : List Oper} {o : Oper} {a : Act} {Q : Exit → Act → World → Prop} (hg : o.guard = none) (s x : Operand)
    (hop : o.op = Op.call { callee := Callee.builtin Builtin.append, args := #[s, x], argTypes := #[30, 30] })
    (B : Nat) (v : Value) (A : Option Addr) (c n : Nat) (ps : List Pt) (hs : a.eval s = v) (hx : a.eval x = .slice A n c) (hn : n = ps.length) (hv : w.ownsRow B 29 3 v 0 []) (hp : PtsAt w B A c ps) (hc : A = none → c = 0) (b1 : ps.length ≤ 1000000) (hB : B ≤ w.heap.size)
    (hK : ∀ A' c' w', PtsAt w' w'.heap.size A' c' ps → Below B w w' → wpList Try.prog ops Q rest (a.put o.dst (.slice A' ps.length c')) w') : wpList Try.prog ops Q (o :: rest) a w := by
  obtain ⟨i, hi, hz0, hz1, hz2⟩ := info_parts info_patch
  subst hn
  cases A with
  | none =>
    obtain rfl : c = 0 := hc rfl
    have hle := hp.le
    obtain rfl : ps = [] := List.eq_nil_of_length_eq_zero (by omega)
    have hrun := run_append_owned_none (P := Try.prog) w B 30 o.type 29 i 3 Try.underlying30 hi _ _ _ hv
    obtain ⟨A', c', rfl⟩ : ∃ A' c', v = .slice A' 0 c' := by
      rcases hv.2 with ⟨e1, _⟩ | ⟨g, cap, cur, e1, _⟩
      · exact ⟨_, _, e1⟩
      · exact ⟨_, _, e1⟩
    have := hK A' c' w (PtsAt.copied hp hv (fun y hy => by cases hy)) (Below.refl _ _)
    refine wpList_plain hg fun K hK2 => ?_
    unfold Oper.wp
    simp [execOp, hop, resolve, invoke, builtin, hs, hx, hrun, Result.andThen]
    exact hK2 _ _ this
  | some ad =>
    refine w_append hg s x 30 hop B 29 i _ 3 40 Try.underlying30 hi hz0 hz1 hz2 rfl (by decide) v 0 [] hs hv ad ps.length c (cellsP ps) hx (cellsP_len ps) hp.cells (cellsP_one ps) (by unfold maxLen; omega) (by omega) hB fun v' w' ho hg' => ?_
    rw [Nat.zero_add] at ho
    have hb : Below B w w' := (Below.refl _ _).grown hg' hB (fun k e => (hv.lt k e).1)
    obtain ⟨A', c', rfl⟩ : ∃ A' c', v' = .slice A' ps.length c' := by
      rcases ho.2 with ⟨e1, e2⟩ | ⟨g, cap, cur, e1, _⟩
      · exact ⟨none, 0, by rw [e1, e2]⟩
      · exact ⟨_, _, e1⟩
    exact hK A' c' w' (hp.copied (by simpa using ho) (fun y hy => ((hp.bytes y hy).below hb).more (Nat.le_trans hB hb.size))) hb

theorem s_byte_wf {a : Int} (h0 : 0 ≤ a) (h1 : a < 256) : (Lit.int .u8 a).wf = true := by
  revert a; intro a h0 h1
  exact byteAll (P := fun a => (Lit.int .u8 a).wf = true) (by decide +kernel) a h0 h1
theorem tell_self (Y : Mo) (more : Bool) (v : Int) : (Y.tell more v).m = Y.m ∧ (Y.tell more v).L = Y.L := by
  unfold Mo.tell; split <;> exact ⟨rfl, rfl⟩
theorem idx4u (A B : Int) (k : Nat) (hk : k < 4) (w : World) : (Instr.index 52 (.agg #[.int .i64 (slB A B 0 : Nat), .int .i64 (slB A B 1 : Nat), .int .i64 (slB A B 2 : Nat), .int .i64 (slB A B 3 : Nat)]) (.int .u16 (k : Nat))).run Try.prog w = .ok (.int .i64 (slB A B k : Nat)) w := by
  obtain rfl | rfl | rfl | rfl : k = 0 ∨ k = 1 ∨ k = 2 ∨ k = 3 := by omega
  all_goals
    unfold Instr.index
    simp [run_underlying Try.underlying52, asIntOf, go_sem]
    done
theorem new_may (w : World) (A : Option Addr) (n c : Nat) (ps : List Pt) (h : PtsAt w w.heap.size A c ps) (hw : ∀ x ∈ ps, x.wf) (hn : n = ps.length) (hN : ps.length ≤ 1000000) (hm : ∀ x ∈ ps, x.may) :
    Calls Try.prog 7 #[.slice A n c] w fun e w' => (∃ x sr cs, e = .returned (.tuple #[ptrV x.m, .int .i64 0]) ∧ MB w' (fun k => w.heap.size ≤ k) x sr cs ∧ x.A = 0 ∧ x.B = 0 ∧ x.L = newL ps) ∧ Below w.heap.size w w' :=
  (bnew_any w A n c ps h hw hn hN).mono fun e w' h2 => ⟨h2.1 hm, h2.2.2⟩
theorem new_not (w : World) (A : Option Addr) (n c : Nat) (ps : List Pt) (h : PtsAt w w.heap.size A c ps) (hw : ∀ x ∈ ps, x.wf) (hn : n = ps.length) (hN : ps.length ≤ 1000000) (hm : ¬ ∀ x ∈ ps, x.may) :
    Calls Try.prog 7 #[.slice A n c] w fun e w' => e = .returned (.tuple #[.pointer none, .int .i64 2]) ∧ Below w.heap.size w w' :=
  (bnew_any w A n c ps h hw hn hN).mono fun e w' h2 => ⟨h2.2.1 hm, h2.2.2⟩

set_option maxHeartbeats 8000000 in
theorem walk_BankKeeps (w : World) (A : Option Addr) (c n : Nat) (ps : List Pt) (hn : n = ps.length) (hp : PtsAt w w.heap.size A c ps ∧ (∀ x ∈ ps, x.wfI) ∧ (A = none → c = 0)) (A2 : Option Addr) (c2 n2 : Nat) (acs : List Ac) (hn2 : n2 = acs.length) (hq : AcsAt w w.heap.size A2 c2 acs ∧ ∀ x ∈ acs, x.wf) :
    Calls Try.prog 5 #[.slice A n c, .slice A2 n2 c2] w fun e w' => e = .returned (.bool true) ∧ Below w.heap.size w w' := by
  subst hn hn2
  obtain ⟨hp, hwf, hAc⟩ := hp
  obtain ⟨hq, hqw⟩ := hq
  have HP := Lib.hid hp
  have HWf := Lib.hid hwf
  have HAc := Lib.hid hAc
  have HQ := Lib.hid hq
  have HQw := Lib.hid hqw
  clear hp hwf hAc hq hqw
  go_enter Try.func5, Try.ntmps5
  go_upto_region 3 with (go_at_call 10; (with_reducible refine (lives13 _).mono ?_); rintro e w1 ⟨rfl, hb1⟩)
  have HB1 := Lib.hid hb1
  have HP1 := Lib.hid ((HP.out.below hb1).more hb1.size)
  clear hb1
  go_wp2_with fail
  refine (light_any w1 A _ c ps HP1.out rfl).mono ?_
  rintro e w' ⟨⟨q, rfl, hlight⟩, rfl⟩
  cases q with
  | false =>
    go_wp2_with fail
    go_ret
    exact ⟨rfl, HB1.out⟩
  | true =>
    obtain ⟨h20, h400⟩ := hlight rfl
    have H4 := Lib.hid h400
    replace HWf : Hid (∀ x ∈ ps, x.wf) := Lib.hid fun x hx => ⟨(HWf.out x hx).b, (HWf.out x hx).p, by have := h400 x hx; omega, (HWf.out x hx).n⟩
    clear hlight h400
    by_cases h60 : 60 < acs.length
    · go_wp2_with fail
      go_ret
      exact ⟨rfl, HB1.out⟩
    · have hb0 : Below w1.heap.size w1 (w1.alloc (.cells #[] 29)) := (Below.refl _ _).alloc (Nat.le_refl _) _
      have HO0 := Lib.hid (World.ownsRow_made (base := w1.heap.size) (e := 29) (size := 3) w1 #[] 0 (Nat.le_refl _) (Nat.zero_le _) rfl)
      have HP2 := Lib.hid (HP1.out.below hb0)
      clear hb0
      by_cases hmay : ∀ x ∈ ps, x.may
      · have HMay := Lib.hid hmay
        clear hmay
        go_upto_region 8 with (first
          | (at_builtin; refine w_append_copy rfl (.tmp 29) (.tmp 30) rfl w1.heap.size _ A c _ ps rfl rfl rfl HO0.out HP2.out HAc.out (by omega) (by simp) ?_; intro A3 c3 w2 hp3 hb2; have HP3 := Lib.hid hp3; have HB2 := Lib.hid (HB1.out.trans ((((Below.refl w1.heap.size w1).alloc (Nat.le_refl _) _).trans hb2).mono HB1.out.size)); clear hp3 hb2)
          | (go_at_call 7; (with_reducible refine (new_may _ A3 _ c3 ps HP3.out HWf.out rfl (by omega) HMay.out).mono ?_); rintro e w3 ⟨⟨X, sr, cs, rfl, hm, -, -, hL⟩, hb3⟩))
        have HM := Lib.hid hm
        have HL := Lib.hid hL
        have HB3 := Lib.hid (HB2.out.trans (hb3.mono HB2.out.size))
        clear hm hL hb3 HP2 HO0 HP3
        have hmm := @run_makeMap Try.prog
        obtain ⟨bm, hbm⟩ : ∃ bm, w3.heap.size = bm := ⟨_, rfl⟩
        have hm0 : ownM (w3.alloc (.map #[] 0)) bm 0 (.map []) := hbm ▸ World.ownsMap_made _ _ _ _
        have hb0 : Below bm w3 (w3.alloc (.map #[] 0)) := hbm ▸ (Below.refl _ _).alloc (Nat.le_refl _) _
        have hwb : w.heap.size ≤ bm := hbm ▸ HB3.out.size
        have HM0 := Lib.hid hm0
        have HB0 := Lib.hid hb0
        clear hm0 hb0
        go_wp2_with fail
        (try rw [hbm])
        go_loopw [8] (fun i wr => ∃ (k cnt : Nat) (D : DataW Unit), i = .int .i64 k ∧ k ≤ ps.length ∧ cnt ≤ k * 400 ∧ Hid (MapRel D (memF (newL (ps.take k)))) ∧ Hid (ownM wr bm cnt D) ∧ Hid (Below bm w3 wr)) (fun i _ => ps.length - (intOf i).toNat)
        case atStart => exact ⟨0, 0, _, rfl, by omega, by omega, Lib.hid MapRel.start, HM0, HB0⟩
        case round =>
          rename World => wr
          obtain ⟨k, cnt, D, rfl, hk, hcnt, HD, HO, HB⟩ := hrel
          by_cases hlt : k < ps.length
          · obtain ⟨b, o, rfl, hb, -⟩ := HP.out.at_ (by omega)
            obtain ⟨y, hy⟩ : ∃ y, ps.getD k ptZ = y := ⟨_, rfl⟩
            have hmem : y ∈ ps := by rw [← hy, getD_pt ps k hlt]; exact List.getElem_mem _
            have hyl := H4.out y hmem
            obtain ⟨m1, m2, m3, m4⟩ := HMay.out y hmem
            obtain ⟨yb, hyb⟩ : ∃ yb : Nat, y.b = yb := ⟨y.b.toNat, by omega⟩
            obtain ⟨yp, hyp⟩ : ∃ yp : Nat, y.p = yp := ⟨y.p.toNat, by omega⟩
            have HT := Lib.hid (show newL (ps.take (k + 1)) = patchP (newL (ps.take k)) (yb, yp, y.l) by rw [newL_take ps k hlt, hy, patchL_pp]; unfold Pt.pp; rw [hyb, hyp]; rfl)
            have HLn := Lib.hid (newL_len ps HMay.out k (by omega))
            have HY := Lib.hid hy
            have HMem := Lib.hid hmem
            clear hmem hy
            go_wp2_with fail
            go_loopw [9] (fun j wi => ∃ (q ct : Nat) (Di : DataW Unit), j = .int .i64 q ∧ q ≤ y.l.length ∧ ct ≤ k * 400 + q ∧ Hid (MapRel Di (memF (patchP (newL (ps.take k)) (yb, yp, y.l.take q)))) ∧ Hid (ownM wi bm ct Di) ∧ Hid (Below bm w3 wi)) (fun j _ => y.l.length - (intOf j).toNat)
            case atStart => exact ⟨0, cnt, D, rfl, by omega, by omega, Lib.hid (HD.out.same (fun x => by rw [List.take_zero]; exact patch_none _ _ _ x)), HO, HB⟩
            case round =>
              rename World => wi
              obtain ⟨q, ct, Di, rfl, hq, hct, HDi, HOi, HBi⟩ := hrel
              have hbi := HB3.out.trans (HBi.out.mono hwb)
              obtain ⟨g0, g1, g2⟩ := (HP.out.below hbi).one k hlt y HY.out
              by_cases hql : q < y.l.length
              · have hyr := (HP.out.bytes y HMem.out)
                obtain ⟨ab, ao, hyA, hab, hcell⟩ := hyr.pos (by omega)
                have hyb8 := hyr.bytes.getD q
                have HStep := Lib.hid (patch_one (newL (ps.take k)) HLn.out yb yp q y.l (by omega) (by omega) hql)
                have hblt := HOi.out.lt
                have hfar : ∀ (p : M.Of (M.But wi bm (fun _ => True))) (a : Addr) (u : Value), a.block < w.heap.size → wi.cell? a = some u → p.w.cell? a = some u := fun p a u ha hu => (World.cell?_of_block (p.ok.other (Nat.lt_of_lt_of_le ha hbi.size) (by omega))).trans hu
                rw [hyA] at g2
                rw [hyb] at g0
                rw [hyp] at g1
                have gf0 : ∀ p : M.Of (M.But wi bm (fun _ => True)), p.w.cell? ⟨b, o + k * 3, none⟩ = some (.int .i64 (yb : Nat)) := fun p => hfar p _ _ hb g0
                have gf1 : ∀ p : M.Of (M.But wi bm (fun _ => True)), p.w.cell? ⟨b, o + k * 3 + 1, none⟩ = some (.int .i64 (yp : Nat)) := fun p => hfar p _ _ hb g1
                have gf2 : ∀ p : M.Of (M.But wi bm (fun _ => True)), p.w.cell? ⟨b, o + k * 3 + 2, none⟩ = some (.slice (some ⟨ab, ao, none⟩) y.l.length y.c) := fun p => hfar p _ _ hb g2
                have gf3 : ∀ p : M.Of (M.But wi bm (fun _ => True)), p.w.cell? ⟨ab, ao + q, none⟩ = some (.int .u8 (y.l.getD q 0)) := fun p => hfar p _ _ hab ((hbi.cell (show ab < w.heap.size from hab)).trans (hcell q hql))
                have hb12 : ((yb : Nat) : Int) < 12 := by omega
                have hp16 : ((yp : Nat) : Int) + ((y.l.length : Nat) : Int) ≤ 16384 := by omega
                have hq400 : ((q : Nat) : Int) < ((y.l.length : Nat) : Int) := by omega
                clear hyr hcell hfar g0 g1
                generalize y.l.getD q 0 = bv at *
                go_upto_region 15 with fail
                haveI : Nonempty (M.Of (M.But wi bm (fun _ => True))) := ⟨⟨wi, M.But.refl hblt trivial⟩⟩
                refine M.regionS_ (M.But wi bm (fun _ => True)) (MapC wi bm ct Di) (closed_mapC _ _ _ _) (fun _ h => h.1) (MapC.start HOi.out) (by kernel_rfl) ?_
                refine M.seg_ [0, 1, 2, 3, 4, 5, 6, 7, 8, 9, 10, 11, 12, 13, 14, 15, 16, 17, 18, 19, 20, 21, 22] 1 _ _ (M.But.refl hblt trivial) (by kernel_rfl) (by kernel_rfl) (by kernel_rfl) (by simp only [pickOps, mask, plain, List.getElem?_toArray, List.getElem?_cons_zero, List.getElem?_cons_succ, if_true, Bool.false_eq_true, if_false]; rfl) ?_
                repeat (go_big_quiet_step (fail))
                refine wpQuiet_nil ?_
                refine M.call_ (i := 23) rfl (by kernel_rfl) (by kernel_rfl) ?_
                intro wz sz
                refine does_update (.tmp 56) (.tmp 70) (.tmp 78) rfl bm ct Di rfl sz.2 (by unfold maxLen; omega) ((yb : Int) * 16384 + yp + q) bv rfl rfl (WalkArith.wf_i64 (by omega)) (s_byte_wf hyb8.1 hyb8.2) ?_
                intro w' ho' hg'
                refine ⟨MapC wi bm (ct + 1) (Di.put (.int .i64 ((yb : Int) * 16384 + yp + q)) (.lit (.int .u8 bv))), ⟨sz.1.step ⟨hg'.os, hg'.tape, hg'.output, hg'.size, fun k hk hn => hg'.block k hk (fun e => hn (Option.some.inj e))⟩ trivial, ho'⟩, closed_mapC _ _ _ _, fun _ h => h.1, ?_⟩
                clear ho' hg' sz gf0 gf1 gf2 gf3
                refine M.end_ (by kernel_rfl) ?_
                intro wc sc
                have HS5 := Lib.hid sc.2
                have HB5 := Lib.hid (HBi.out.trans (sc.1.below (Nat.le_refl bm)))
                have HD5 := Lib.hid (HDi.out.put ((yb : Int) * 16384 + yp + q) bv (by omega) (G := memF (patchP (newL (ps.take k)) (yb, yp, y.l.take (q + 1)))) (fun x => by
                  have h9 := HStep.out x
                  rw [show (yb : Int) * 16384 + ((yp + q : Nat) : Int) = (yb : Int) * 16384 + yp + q by omega] at h9
                  exact h9))
                clear sc
                go_wp2_with fail
                exact ⟨⟨q + 1, ct + 1, _, by go_num, by omega, by omega, HD5, HS5, HB5⟩, by simp [intOf]; omega⟩
              · obtain rfl : q = y.l.length := by omega
                rw [List.take_length] at HDi
                go_wp2_with fail
                exact ⟨⟨k + 1, ct, Di, by go_num, by omega, by omega, by rw [HT.out]; exact HDi, HOi, HBi⟩, by simp [intOf]; omega⟩
          · obtain rfl : k = ps.length := by omega
            rw [List.take_length] at HD
            have hmq : MB w3 (fun k => w.heap.size ≤ k ∧ k ≠ bm) X sr cs := HM.out.mono (fun k hk hP => ⟨Nat.le_trans HB2.out.size hP, by omega⟩)
            have HM4 := Lib.hid (hmq.below (HB.out.mono (by omega)))
            have HBw := Lib.hid (HB3.out.trans (HB.out.mono hwb))
            have HXL := Lib.hid HL.out
            have hcnt8 : cnt ≤ 8000 := by omega
            replace HD : Hid (MapRel D (memF X.L)) := by rw [HL.out]; exact HD
            clear hmq hcnt
            go_wp2_with fail
            go_loopw [10] (fun i wl => ∃ (k ct : Nat) (Dl : DataW Unit) (Y : Mo) (s1 s2 : Nat), i = .int .i64 k ∧ k ≤ acs.length ∧ ct ≤ 8000 + k ∧ Y.m = X.m ∧ Hid (MB wl (fun k => w.heap.size ≤ k ∧ k ≠ bm) Y s1 s2) ∧ Hid (MapRel Dl (memF Y.L)) ∧ Hid (ownM wl bm ct Dl) ∧ Hid (Below w.heap.size w wl)) (fun i _ => acs.length - (intOf i).toNat)
            case atStart => exact ⟨0, cnt, D, X, sr, cs, rfl, by omega, by omega, rfl, HM4, HD, HO, HBw⟩
            case round =>
              rename World => wl
              obtain ⟨k, ct, Dl, Y, s1, s2, rfl, hk, hct, hYm, HMl, HDl, HOl, HBl⟩ := hrel
              by_cases hlt : k < acs.length
              · obtain ⟨b, o, rfl, hb, -⟩ := HQ.out.at_ (by omega)
                obtain ⟨y, hy⟩ : ∃ y, acs.getD k acZ = y := ⟨_, rfl⟩
                obtain ⟨g0, g1, g2, g3⟩ := (HQ.out.below HBl.out).one k hlt y hy
                have hyw : y.wf := HQw.out y (by rw [← hy, List.getD_eq_getElem?_getD, List.getElem?_eq_getElem hlt]; exact List.getElem_mem _)
                obtain ⟨yk, ya, yv, ym⟩ := y
                obtain ⟨⟨k1, k2⟩, ⟨a1, a2⟩, v1, v2⟩ := hyw
                dsimp only at g0 g1 g2 g3 k1 k2 a1 a2 v1 v2
                have hbl := HOl.out.lt
                have HPk := Lib.hid fun w => pick5 yk w k1 k2
                obtain ⟨pk1, pk2⟩ := pk5_in yk
                obtain ⟨W, hW⟩ : ∃ W, wl.alloc (.cells #[.int .i64 yk, .int .u16 ya, .int .u8 yv, .bool ym] 50) = W := ⟨_, rfl⟩
                have hbW : Below wl.heap.size wl W := by rw [← hW]; exact (Below.refl _ _).alloc (Nat.le_refl _) _
                have hact : W.heap[wl.heap.size]? = some (.cells #[.int .i64 yk, .int .u16 ya, .int .u8 yv, .bool ym] 50 (0, 0)) := by rw [← hW]; exact heap_alloc_new _ _
                have hsW : W.heap.size = wl.heap.size + 1 := by rw [← hW]; simp
                have HMW := Lib.hid (HMl.out.below hbW)
                have HOW := Lib.hid (HOl.out.kept (gw_below hbW none) (by simp))
                have HBW := Lib.hid (HBl.out.trans (hbW.mono HBl.out.size))
                have HAct := Lib.hid hact
                have d0 : W.cell? ⟨wl.heap.size, 0, none⟩ = some (.int .i64 yk) := by rw [cell_of_row _ _ _ _ _ _ hact]; rfl
                have d1 : W.cell? ⟨wl.heap.size, 1, none⟩ = some (.int .u16 ya) := by rw [cell_of_row _ _ _ _ _ _ hact]; rfl
                have d2 : W.cell? ⟨wl.heap.size, 2, none⟩ = some (.int .u8 yv) := by rw [cell_of_row _ _ _ _ _ _ hact]; rfl
                have d3 : W.cell? ⟨wl.heap.size, 3, none⟩ = some (.bool ym) := by rw [cell_of_row _ _ _ _ _ _ hact]; rfl
                have hwW := HBW.out.size
                have hQnew : ∀ k, W.heap.size ≤ k → w.heap.size ≤ k ∧ k ≠ bm := fun k hk => ⟨by omega, by omega⟩
                have HQn := Lib.hid hQnew
                clear hbW hact hQnew hy
                by_cases hp3 : pk5 yk = 3
                · have HTl := Lib.hid (tell_mem W _ Y s1 s2 HMW.out HQn.out ym yv ⟨v1, v2⟩)
                  unfold TellTo ptrV at HTl
                  rw [hYm] at HTl
                  rw [hp3] at HPk
                  clear hp3 pk1 pk2
                  go_wp2_with (first
                    | (go_at_call 20; (with_reducible refine (HPk.out _).mono ?_); rintro e w' ⟨rfl, rfl⟩)
                    | (go_at_call 8; (with_reducible refine HTl.out.mono ?_); rintro e w5 ⟨rfl, s3, s4, hm5, hg5⟩))
                  have hYp : w.heap.size ≤ Y.m ∧ Y.m ≠ bm := HMl.out.pm
                  exact ⟨⟨k + 1, ct, Dl, Y.tell ym yv, s3, s4, by go_num, by omega, by omega, (tell_self Y ym yv).1.trans hYm, Lib.hid hm5, Lib.hid (by rw [(tell_self Y ym yv).2]; exact HDl.out), Lib.hid (HOW.out.kept hg5 (fun e => hYp.2 (by have := Option.some.inj e; omega))), Lib.hid (HBW.out.grown hg5 HBW.out.size (fun k e => by have := Option.some.inj e; omega))⟩, by simp [intOf]; omega⟩
                · obtain ⟨kk, hkk⟩ : ∃ kk : Nat, ya / 16384 = (kk : Int) := ⟨(ya / 16384).toNat, by omega⟩
                  obtain ⟨pp, hpp⟩ : ∃ pp : Nat, ya % 16384 = (pp : Int) := ⟨(ya % 16384).toNat, by omega⟩
                  have hk4 : kk < 4 := by omega
                  have ea : ya.tdiv 16384 = (kk : Int) := by rw [Int.tdiv_eq_ediv_of_nonneg a1]; exact hkk
                  have ec : ya.tmod 16384 = (pp : Int) := by rw [Int.tmod_eq_emod_of_nonneg a1]; exact hpp
                  have eb : IntKind.u16.wrap (kk : Int) = (kk : Int) := by rw [IntKind.wrap_u16]; omega
                  have ed : IntKind.u16.wrap (pp : Int) = (pp : Int) := by rw [IntKind.wrap_u16]; omega
                  have ee : IntKind.i64.wrap (pp : Int) = (pp : Int) := by rw [IntKind.wrap_i64]; omega
                  have hp16 : pp < 16384 := by omega
                  have HWh := Lib.hid (where_mem W _ Y _ HMW.out.toMC ya a1 a2)
                  have HBt := Lib.hid fun wz h => byte_mem wz (fun k => w.heap.size ≤ k ∧ k ≠ bm) Y s1 s2 h ya a1 a2
                  have HPut := Lib.hid fun wz h => put_mem wz (fun k => w.heap.size ≤ k ∧ k ≠ bm) Y s1 s2 h ya yv a1 a2 ⟨v1, v2⟩
                  rw [show (ya / 16384).toNat = kk by omega] at HWh HBt HPut
                  rw [show (ya % 16384).toNat = pp by omega] at HBt HPut
                  rw [hpp] at HWh
                  have hsl12 := slB_lt Y.A Y.B HMl.out.pA HMl.out.pB kk hk4
                  have hix := fun w => idx4u Y.A Y.B kk hk4 w
                  have HCv := Lib.hid ((HDl.out.at_ _).trans (by rw [memF_key Y.L (slB Y.A Y.B kk) pp hsl12 hp16]))
                  have HPut1 := Lib.hid (fun v x => put_one Y (slB Y.A Y.B kk) pp v hsl12 hp16 (HMl.out.len _ hsl12) x)
                  have HHs := Lib.hid fun wz => b_slots Y.A Y.B wz HMl.out.pA HMl.out.pB
                  obtain ⟨sb, hsb⟩ : ∃ sb, slB Y.A Y.B kk = sb := ⟨_, rfl⟩
                  rw [hsb] at HWh HBt HPut HCv HPut1 hix hsl12
                  obtain ⟨cv, hcv⟩ : ∃ cv, (Y.L sb).getD pp 0 = cv := ⟨_, rfl⟩
                  rw [hcv] at HBt HCv
                  clear hsb hcv
                  have hsb12 : ((sb : Nat) : Int) < 12 := by omega
                  have hpp16 : ((pp : Nat) : Int) < 16384 := by omega
                  unfold ptrV at HWh HBt HPut
                  rw [hYm] at HWh HBt HPut
                  unfold pgV slV at HHs
                  go_upto_region 23 with (first
                    | (go_at_call 20; (with_reducible refine (HPk.out _).mono ?_); rintro e w' ⟨rfl, rfl⟩)
                    | (go_at_call 13; (with_reducible refine HWh.out.mono ?_); rintro e w6 ⟨rfl, hb6⟩))
                  have HM6 := Lib.hid (HMW.out.below hb6)
                  have HO6 := Lib.hid (HOW.out.kept (gw_below hb6 none) (by simp))
                  have HB6 := Lib.hid (HBW.out.trans (hb6.mono HBW.out.size))
                  have HA6 := Lib.hid ((hb6.block _ (Array.getElem?_eq_some_iff.1 HAct.out).1).trans HAct.out)
                  have hs6 := hb6.size
                  have hkey : (Lit.int .i64 ((sb : Int) * 16384 + pp)).wf = true := WalkArith.wf_i64 (by omega)
                  have HKey := Lib.hid hkey
                  clear hb6 d0 d1 d2 d3 hkey HWh
                  have hf1 : ∀ p : M.Of (M.Base w6), p.w.cell? ⟨wl.heap.size, 1, none⟩ = some (.int .u16 ya) := fun p => by rw [cell_of_row _ _ _ _ _ _ ((p.ok.2.block _ (Array.getElem?_eq_some_iff.1 HA6.out).1).trans HA6.out)]; rfl
                  have HPg := Lib.hid (fun wz (sz : M.Base w6 wz) => page_mem wz _ Y _ (HM6.out.below sz.2).toMC)
                  unfold pgV ptrV at HPg
                  rw [hYm] at HPg
                  haveI : Nonempty (M.Of (M.Base w6)) := ⟨⟨w6, M.Base.refl _⟩⟩
                  refine M.region_ (by kernel_rfl) ?_
                  refine M.seg_ [0, 1] 28 _ _ (M.Base.refl _) (by kernel_rfl) (by kernel_rfl) (by kernel_rfl) (by simp only [pickOps, mask, plain, List.getElem?_toArray, List.getElem?_cons_zero, List.getElem?_cons_succ, if_true, Bool.false_eq_true, if_false]; rfl) ?_
                  repeat (go_big_quiet_step (fail))
                  refine wpQuiet_nil ?_
                  refine M.calm_ (i := 2) (.agg #[.int .u8 Y.A, .int .u8 Y.B]) rfl (by kernel_rfl) (by kernel_rfl) (by kernel_rfl) (by kernel_rfl) ?_ ?_
                  · intro wz sz
                    unfold Oper.does
                    go_simp
                    exact (HPg.out wz sz).mono fun e w' ⟨he, hw⟩ => ⟨_, he, rfl, Save.of_below hw⟩
                  go_simp
                  refine M.calm_ (i := 3) (.agg #[.int .i64 (slB Y.A Y.B 0 : Nat), .int .i64 (slB Y.A Y.B 1 : Nat), .int .i64 (slB Y.A Y.B 2 : Nat), .int .i64 (slB Y.A Y.B 3 : Nat)]) rfl (by kernel_rfl) (by kernel_rfl) (by kernel_rfl) (by kernel_rfl) ?_ ?_
                  · intro wz sz
                    unfold Oper.does
                    go_simp
                    exact (HHs.out wz).mono fun e w' ⟨he, hw⟩ => ⟨_, he, rfl, Save.of_below hw⟩
                  go_simp
                  refine M.seg_ [4, 5, 6] 23 _ _ (M.Base.refl _) (by kernel_rfl) (by kernel_rfl) (by kernel_rfl) (by simp only [pickOps, mask, plain, List.getElem?_toArray, List.getElem?_cons_zero, List.getElem?_cons_succ, if_true, Bool.false_eq_true, if_false]; rfl) ?_
                  repeat (go_big_quiet_step (fail))
                  refine wpQuiet_nil ?_
                  refine M.calm_ (i := 7) (.int .i64 (sb : Nat)) rfl (by kernel_rfl) (by kernel_rfl) (by kernel_rfl) (by kernel_rfl) ?_ ?_
                  · intro wz sz
                    unfold Oper.does
                    go_simp
                    exact Save.refl _ _
                  go_simp
                  refine M.seg_ [8, 9, 10, 11, 12, 13, 14, 15, 16, 17, 18, 19, 20] 9 _ _ (M.Base.refl _) (by kernel_rfl) (by kernel_rfl) (by kernel_rfl) (by simp only [pickOps, mask, plain, List.getElem?_toArray, List.getElem?_cons_zero, List.getElem?_cons_succ, if_true, Bool.false_eq_true, if_false]; rfl) ?_
                  repeat (go_big_quiet_step (fail))
                  refine wpQuiet_nil ?_
                  refine M.calm_ (i := 21) (.int .u8 cv) rfl (by kernel_rfl) (by kernel_rfl) (by kernel_rfl) (by kernel_rfl) ?_ ?_
                  · intro wz sz
                    unfold Oper.does
                    go_simp
                    exact (HBt.out wz (HM6.out.below sz.2)).mono fun e w' ⟨he, hw⟩ => ⟨_, he, rfl, hw ▸ Save.refl _ _⟩
                  go_simp
                  refine M.seg_ [22, 23, 24, 25, 26] 3 _ _ (M.Base.refl _) (by kernel_rfl) (by kernel_rfl) (by kernel_rfl) (by simp only [pickOps, mask, plain, List.getElem?_toArray, List.getElem?_cons_zero, List.getElem?_cons_succ, if_true, Bool.false_eq_true, if_false]; rfl) ?_
                  repeat (go_big_quiet_step (fail))
                  refine wpQuiet_nil ?_
                  refine M.calm_ (i := 27) (.int .u8 cv) rfl (by kernel_rfl) (by kernel_rfl) (by kernel_rfl) (by kernel_rfl) ?_ ?_
                  · intro wz sz
                    exact does_lookup (.tmp 128) (.tmp 132) rfl bm ct Dl rfl (HO6.out.kept (gw_below sz.2 none) (by simp)) ((sb : Int) * 16384 + pp) rfl HKey.out cv HCv.out ⟨rfl, Save.refl _ _⟩
                  go_simp
                  refine M.seg_ [28, 29] 0 _ _ (M.Base.refl _) (by kernel_rfl) (by kernel_rfl) (by kernel_rfl) (by simp only [pickOps, mask, plain, List.getElem?_toArray, List.getElem?_cons_zero, List.getElem?_cons_succ, if_true, Bool.false_eq_true, if_false]; rfl) ?_
                  repeat (go_big_quiet_step (fail))
                  refine wpQuiet_nil ?_
                  clear hf1
                  refine M.end_ (by kernel_rfl) ?_
                  intro wc sc
                  have HMc := Lib.hid (HM6.out.below sc.2)
                  have HOc := Lib.hid (HO6.out.kept (gw_below sc.2 none) (by simp))
                  have HBc := Lib.hid (HB6.out.trans (sc.2.mono HB6.out.size))
                  have hac := (sc.2.block _ (Array.getElem?_eq_some_iff.1 HA6.out).1).trans HA6.out
                  have HAc2 := Lib.hid hac
                  have d0 : wc.cell? ⟨wl.heap.size, 0, none⟩ = some (.int .i64 yk) := by rw [cell_of_row _ _ _ _ _ _ hac]; rfl
                  have d1 : wc.cell? ⟨wl.heap.size, 1, none⟩ = some (.int .u16 ya) := by rw [cell_of_row _ _ _ _ _ _ hac]; rfl
                  have d2 : wc.cell? ⟨wl.heap.size, 2, none⟩ = some (.int .u8 yv) := by rw [cell_of_row _ _ _ _ _ _ hac]; rfl
                  have hgl := HMl.out.lg sb hsl12
                  have hgp := HMl.out.pg sb hsl12
                  have HPut2 := Lib.hid (HPut.out wc HMc.out)
                  have hws := HBc.out.size
                  clear hac sc hix HHs HPg HBt HPut ea eb ec ed ee hkk hpp
                  generalize pk5 yk = pk at *
                  unfold PutTo at HPut2
                  by_cases hlt3 : pk < 3
                  · by_cases h8 : sb < 8
                    · rw [if_pos h8, decide_eq_true h8] at HPut2
                      have h8i : ((sb : Nat) : Int) < 8 := by omega
                      go_upto_region 29 with (first
                        | (go_at_call 20; (with_reducible refine (HPk.out _).mono ?_); rintro e w' ⟨rfl, rfl⟩)
                        | (go_at_call 15; (with_reducible refine HPut2.out.mono ?_); rintro e w7 ⟨rfl, hm7, hg7⟩))
                      have ha7 := (hg7.block _ (Array.getElem?_eq_some_iff.1 HAc2.out).1 (fun e => by have := Option.some.inj e; omega)).trans HAc2.out
                      have f2 : w7.cell? ⟨wl.heap.size, 2, none⟩ = some (.int .u8 yv) := by rw [cell_of_row _ _ _ _ _ _ ha7]; rfl
                      have HM7 := Lib.hid hm7
                      have HO7 := Lib.hid (HOc.out.kept hg7 (fun e => hgp.2 (Option.some.inj e).symm))
                      have HB7 := Lib.hid (HBc.out.grown hg7 hws (fun k e => by obtain rfl := Option.some.inj e; exact hgp.1))
                      have hkeyO : keyOf Try.prog 3 (.int .i64 ((sb : Int) * 16384 + pp)) = some (.int .i64 ((sb : Int) * 16384 + pp)) := keyOf_int_mk Try.underlying3 HKey.out
                      have HKO := Lib.hid hkeyO
                      clear hm7 hg7 ha7 hkeyO
                      go_wp2_with (at_mapUpdate; refine wpList_mapUpdate_own _ rfl _ _ _ 48 rfl 3 5 keyedI Try.underlying48 _ bm ct Dl rfl HO7.out (by unfold maxLen; omega) _ _ _ rfl rfl HKO.out _ [] (plainElem_int Try.underlying5 (s_byte_wf v1 v2)) ?_; intro w8 ho8 hg8)
                      have hb78 : Below bm w7 w8 := (Below.refl _ _).grown hg8 (Nat.le_of_lt HO7.out.lt) (fun k e => by obtain rfl := Option.some.inj e; exact Nat.le_refl _)
                      have hm8 := HM7.out.other hg8 (fun k e hk => by obtain rfl := Option.some.inj e; exact hk.2 rfl)
                      exact ⟨⟨k + 1, ct + 1, _, Y.put sb pp yv, s1, s2, by go_num, by omega, by omega, hYm, Lib.hid hm8, Lib.hid (HDl.out.put ((sb : Int) * 16384 + pp) yv (by omega) (fun x => HPut1.out yv x)), Lib.hid ho8, Lib.hid (HB7.out.trans (hb78.mono hwb))⟩, by simp [intOf]; omega⟩
                    · rw [if_neg h8, decide_eq_false h8] at HPut2
                      have h8i : ¬ ((sb : Nat) : Int) < 8 := by omega
                      go_wp2_with (first
                        | (go_at_call 20; (with_reducible refine (HPk.out _).mono ?_); rintro e w' ⟨rfl, rfl⟩)
                        | (go_at_call 15; (with_reducible refine HPut2.out.mono ?_); rintro e w7 ⟨rfl, hm7, hg7⟩))
                      exact ⟨⟨k + 1, ct, Dl, Y, s1, s2, by go_num, by omega, by omega, hYm, Lib.hid hm7, HDl, Lib.hid (HOc.out.kept hg7 (fun e => hgp.2 (Option.some.inj e).symm)), Lib.hid (HBc.out.grown hg7 hws (fun k e => by obtain rfl := Option.some.inj e; exact hgp.1))⟩, by simp [intOf]; omega⟩
                  · go_wp2_with (go_at_call 20; (with_reducible refine (HPk.out _).mono ?_); rintro e w' ⟨rfl, rfl⟩)
                    exact ⟨⟨k + 1, ct, Dl, Y, s1, s2, by go_num, by omega, by omega, hYm, HMc, HDl, HOc, HBc⟩, by simp [intOf]; omega⟩
              · obtain rfl : k = acs.length := by omega
                obtain ⟨r, hr⟩ : ∃ r, wl.heap.size = r := ⟨_, rfl⟩
                have hml : MB wl (fun k => (w.heap.size ≤ k ∧ k ≠ bm) ∧ k ≠ r) Y s1 s2 := HMl.out.mono (fun k hk h => ⟨h, by omega⟩)
                have HMr := Lib.hid hml
                have hbr : bm < r := by have := HOl.out.lt; omega
                have hwr : w.heap.size ≤ r := by have := HBl.out.size; omega
                clear hml
                go_wp2_with (at_range; refine wpList_range_own _ rfl (.tmp 158) 48 rfl 3 5 keyedI Try.underlying48 _ bm ct Dl rfl HOl.out ?_; intro v0 hrg0 hg0 hs0)
                rw [hr] at hrg0 ⊢
                have HRg := Lib.hid hrg0
                have hbv : Below wl.heap.size wl v0 := (Below.refl _ _).grown hg0 (Nat.le_refl _) (fun k e => by cases e)
                have HMv := Lib.hid (HMr.out.below hbv)
                have HBv := Lib.hid (HBl.out.trans (hbv.mono HBl.out.size))
                clear hrg0 hg0 hbv hs0
                go_frame
                go_loopw [14] (fun _ wr => ∃ (left : Lit → Bool) (cnt : Nat), wr.ranges Try.prog 3 (plainElem (H := Unit) Try.prog 5) bm r ct Dl left cnt ∧ Hid (MB wr (fun k => (w.heap.size ≤ k ∧ k ≠ bm) ∧ k ≠ r) Y s1 s2) ∧ Hid (Below w.heap.size w wr)) (fun _ wr => wr.rangeLeft bm r)
                case atStart => exact ⟨_, _, HRg.out, HMv, HBv⟩
                case round =>
                  rename World => wr
                  obtain ⟨left, cnt2, hrg, HMq, HBq⟩ := hrel
                  go_wp2_with (at_next; refine wpList_next_ranges_ii _ rfl _ rfl 3 5 .i64 .u8 keyedI Try.underlying3 Try.underlying5 bm r ct _ _ _ rfl hrg ?_ ?_)
                  · intro _ _
                    have hpA := HMq.out.pA
                    have hpB := HMq.out.pB
                    obtain ⟨na, hna⟩ : ∃ na : Nat, Y.A = (na : Int) := ⟨Y.A.toNat, by omega⟩
                    obtain ⟨nb, hnb⟩ : ∃ nb : Nat, Y.B = (nb : Int) := ⟨Y.B.toNat, by omega⟩
                    have hlenY := HMq.out.len
                    have hallY := HMq.out.all
                    have HLY := Lib.hid hlenY
                    have HAY := Lib.hid hallY
                    have HYm := Lib.hid hYm
                    have hBy := bytes_any wr _ Y _ HMq.out.toMC
                    rw [hna, hnb, hYm] at hBy
                    have HBy := Lib.hid hBy
                    have HNA := Lib.hid hna
                    have HNB := Lib.hid hnb
                    have hna2 : na < 256 := by omega
                    have hnb2 : nb < 256 := by omega
                    have neqp : ∀ w, (binOp .neq 34 (.agg #[.int .u8 (na : Nat), .int .u8 (nb : Nat)]) (.agg #[.int .u8 (na : Nat), .int .u8 (nb : Nat)])).run Try.prog w = .ok (.bool false) w := fun w => by go_simp
                    clear hpA hpB hna hnb hlenY hallY hBy hrg
                    go_wp2_with fail
                    refine HBy.out.mono ?_
                    rintro e v1 ⟨A5, c5, rfl, ho5, hb5⟩
                    have HM1 := Lib.hid (HMq.out.below hb5)
                    have HB1q := Lib.hid (HBq.out.trans (hb5.mono HBq.out.size))
                    have HRd := Lib.hid (read_mem v1 A5 c5 _ na nb Y.L hna2 hnb2 HLY.out HAY.out rfl ho5.rb)
                    clear ho5 hb5 HBy
                    go_wp2_with fail
                    refine HRd.out.mono ?_
                    rintro e v2 ⟨⟨Z, t1, t2, rfl, hz, hzA, hzB, hzL⟩, hb6⟩
                    have HZ2 := Lib.hid hz
                    have HZL := Lib.hid hzL
                    have HM2 := Lib.hid (HM1.out.below hb6)
                    have HB2q := Lib.hid (HB1q.out.trans (hb6.mono HB1q.out.size))
                    have hPgZ := page_mem v2 _ Z _ hz.toMC
                    unfold pgV at hPgZ
                    rw [hzA, hzB] at hPgZ
                    have HPgZ := Lib.hid hPgZ
                    clear hz hzL hb6 hPgZ HRd hzA hzB
                    go_wp2_with fail
                    refine HPgZ.out.mono ?_
                    rintro e v3 ⟨rfl, hb7⟩
                    have HZ3 := Lib.hid (HZ2.out.below hb7)
                    have HM3 := Lib.hid (HM2.out.below hb7)
                    have HB3q := Lib.hid (HB2q.out.trans (hb7.mono HB2q.out.size))
                    have hPgY := page_mem v3 _ Y _ HM3.out.toMC
                    unfold pgV at hPgY
                    rw [HNA.out, HNB.out, hYm] at hPgY
                    have HPgY := Lib.hid hPgY
                    clear hb7 hPgY HPgZ
                    go_wp2_with fail
                    refine HPgY.out.mono ?_
                    rintro e v4 ⟨rfl, hb8⟩
                    have HZ4 := Lib.hid (HZ3.out.below hb8)
                    have HM4q := Lib.hid (HM3.out.below hb8)
                    have HB4q := Lib.hid (HB3q.out.trans (hb8.mono HB3q.out.size))
                    have hPt := patches_any v4 _ Z _ HZ4.out.toMC
                    rw [HZL.out] at hPt
                    have HPt := Lib.hid hPt
                    clear hb8 hPt HPgY
                    go_wp2_with fail
                    refine HPt.out.mono ?_
                    rintro e v5 ⟨u1, ls1, rfl, ho1, hd1, hg1, hb9⟩
                    obtain ⟨B1, e1, rfl, -⟩ := ho1.shape
                    have HO1 := Lib.hid ho1
                    have HD1 := Lib.hid hd1
                    have HG1 := Lib.hid hg1
                    have HM5 := Lib.hid (HM4q.out.below hb9)
                    have HB5q := Lib.hid (HB4q.out.trans (hb9.mono HB4q.out.size))
                    have hPy := patches_any v5 _ Y _ HM5.out.toMC
                    rw [hYm] at hPy
                    have HPy := Lib.hid hPy
                    clear ho1 hd1 hg1 hb9 hPy HPt
                    go_wp2_with fail
                    refine HPy.out.mono ?_
                    rintro e v6 ⟨u2, ls2, rfl, ho2, hd2, hg2, hb10⟩
                    obtain ⟨B2, e2, rfl, -⟩ := ho2.shape
                    have HM6 := Lib.hid (HM5.out.below hb10)
                    have HB6q := Lib.hid (HB5q.out.trans (hb10.mono HB5q.out.size))
                    have hl1 : ls1.length ≤ 1000000 := by
                      have h1 := congrArg List.length HD1.out
                      have h2 := pats_few Y.L HLY.out
                      rw [List.length_map] at h1
                      omega
                    have HSm := Lib.hid (patches_same v6 B1 B2 _ _ e1 e2 ls1 ls2 ((HO1.out.at.below hb10).more hb10.size) ho2.at (same_pp (HD1.out.trans hd2.symm) HG1.out hg2) rfl rfl hl1)
                    clear ho2 hd2 hg2 hb10 HPy HO1 HD1 HG1
                    go_wp2_with fail
                    refine HSm.out.mono ?_
                    rintro e v7 ⟨rfl, hb11⟩
                    have HM7 := Lib.hid (HM6.out.below hb11)
                    have HB7q := Lib.hid (HB6q.out.trans (hb11.mono HB6q.out.size))
                    have hPy := patches_any v7 _ Y _ HM7.out.toMC
                    rw [hYm] at hPy
                    have HPy := Lib.hid hPy
                    clear hb11 hPy HSm
                    go_wp2_with fail
                    refine HPy.out.mono ?_
                    rintro e v8 ⟨u3, ls3, rfl, ho3, hd3, hg3, hb12⟩
                    have HM8 := Lib.hid (HM7.out.below hb12)
                    have HB8q := Lib.hid (HB7q.out.trans (hb12.mono HB7q.out.size))
                    have HNw := Lib.hid (new_mem v8 _ u3 ls3 Y.L ho3 hd3 HLY.out HAY.out hg3)
                    obtain ⟨B3, e3, rfl, -⟩ := ho3.shape
                    clear ho3 hd3 hg3 hb12 HPy
                    go_wp2_with fail
                    refine HNw.out.mono ?_
                    rintro e v9 ⟨⟨O, t3, t4, rfl, hO, -, -, hOL⟩, hb13⟩
                    have HM9 := Lib.hid (HM8.out.below hb13)
                    have HB9q := Lib.hid (HB8q.out.trans (hb13.mono HB8q.out.size))
                    have hPt := patches_any v9 _ O _ hO.toMC
                    rw [hOL] at hPt
                    have HPt := Lib.hid hPt
                    clear hb13 hPt HNw hO hOL
                    go_wp2_with fail
                    refine HPt.out.mono ?_
                    rintro e v10 ⟨u1, ls1, rfl, ho1, hd1, hg1, hb9⟩
                    obtain ⟨B4, e4, rfl, -⟩ := ho1.shape
                    have HO1 := Lib.hid ho1
                    have HD1 := Lib.hid hd1
                    have HG1 := Lib.hid hg1
                    have HM10 := Lib.hid (HM9.out.below hb9)
                    have HB10q := Lib.hid (HB9q.out.trans (hb9.mono HB9q.out.size))
                    have hPy := patches_any v10 _ Y _ HM10.out.toMC
                    rw [hYm] at hPy
                    have HPy := Lib.hid hPy
                    clear ho1 hd1 hg1 hb9 hPy HPt
                    go_wp2_with fail
                    refine HPy.out.mono ?_
                    rintro e v11 ⟨u2, ls2, rfl, ho2, hd2, hg2, hb10⟩
                    obtain ⟨B5, e5, rfl, -⟩ := ho2.shape
                    have HB11q := Lib.hid (HB10q.out.trans (hb10.mono HB10q.out.size))
                    have hl1 : ls1.length ≤ 1000000 := by
                      have h1 := congrArg List.length HD1.out
                      have h2 := pats_few Y.L HLY.out
                      rw [List.length_map] at h1
                      omega
                    have HSm := Lib.hid (patches_same v11 B4 B5 _ _ e4 e5 ls1 ls2 ((HO1.out.at.below hb10).more hb10.size) ho2.at (same_pp (HD1.out.trans hd2.symm) HG1.out hg2) rfl rfl hl1)
                    clear ho2 hd2 hg2 hb10 HPy HO1 HD1 HG1
                    go_wp2_with fail
                    refine HSm.out.mono ?_
                    rintro e v12 ⟨rfl, hb11⟩
                    go_wp2_with fail
                    go_ret
                    exact ⟨rfl, HB11q.out.trans (hb11.mono HB11q.out.size)⟩
                  · intro x cx v1 cnt3 hwx hwc hlx hat hrg1 hlt3 hg1 hs1 hen
                    obtain ⟨hx, hcx⟩ := HDl.out.found hat
                    obtain ⟨xb, hxb⟩ : ∃ xb : Nat, x / 16384 = (xb : Int) := ⟨(x / 16384).toNat, by omega⟩
                    obtain ⟨xp, hxp⟩ : ∃ xp : Nat, x % 16384 = (xp : Int) := ⟨(x % 16384).toNat, by omega⟩
                    have hm1 := HMq.out.other hg1 (fun k e hk => by obtain rfl := Option.some.inj e; exact hk.2 rfl)
                    have hIn := in_mem v1 _ Y _ hm1.toMC xb xp (by omega) (by omega)
                    rw [show (x / 16384).toNat = xb by omega, show (x % 16384).toNat = xp by omega] at hcx
                    rw [← hcx] at hIn
                    unfold ptrV at hIn
                    rw [hYm] at hIn
                    have HIn := Lib.hid hIn
                    have HM1 := Lib.hid hm1
                    have HB1q := Lib.hid (HBq.out.grown hg1 HBq.out.size (fun k e => by obtain rfl := Option.some.inj e; exact hwr))
                    have q1 : x.tdiv 16384 = (xb : Int) := by rw [Int.tdiv_eq_ediv_of_nonneg hx.1]; exact hxb
                    have q2 : x.tmod 16384 = (xp : Int) := by rw [Int.tmod_eq_emod_of_nonneg hx.1]; exact hxp
                    obtain ⟨x1, x2⟩ := id hx
                    have HR1 := Lib.hid hrg1
                    have HRq := Lib.hid hrg
                    have HL3 := Lib.hid hlt3
                    clear hcx hm1 hIn hat hlx hx hrg1 hrg hg1 hlt3
                    go_wp2_with (go_at_call 16; (with_reducible refine HIn.out.mono ?_); rintro e w' ⟨rfl, rfl⟩)
                    exact ⟨⟨_, cnt3, HR1.out, HM1, HB1q⟩, by rw [HR1.out.left_eq, HRq.out.left_eq]; exact HL3.out⟩
      · have HMay := Lib.hid hmay
        clear hmay
        go_wp2_with (first
          | (at_builtin; refine w_append_copy rfl (.tmp 29) (.tmp 30) rfl w1.heap.size _ A c _ ps rfl rfl rfl HO0.out HP2.out HAc.out (by omega) (by simp) ?_; intro A3 c3 w2 hp3 hb2; have HP3 := Lib.hid hp3; have HB2 := Lib.hid (HB1.out.trans ((((Below.refl w1.heap.size w1).alloc (Nat.le_refl _) _).trans hb2).mono HB1.out.size)); clear hp3 hb2)
          | (go_at_call 7; (with_reducible refine (new_not _ A3 _ c3 ps HP3.out HWf.out rfl (by omega) HMay.out).mono ?_); rintro e w3 ⟨rfl, hb3⟩))
        go_ret
        exact ⟨rfl, HB2.out.trans (hb3.mono HB2.out.size)⟩
end Go.Proofs.Ytflbedomkeophaa
