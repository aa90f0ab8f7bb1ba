
/- Number. -/
import Derived.Maps.OwnOps
import Derived.Maps.Views
import Derived.Test.YtileglkimbkkgaaK36
namespace Go.Proofs.Ytileglkimbkkgaa
open Go.RowKit Go.Maps
set_option linter.unusedSimpArgs false
set_option linter.unusedVariables false

theorem keyedI : Keyed Try.prog 3 := int_keyed Try.underlying3
theorem zero64 (w : World) : (zeroValue 2).run Try.prog w = .ok (.int .i64 0) w := by kernel_rfl

/-- The map after k rounds. -/
def AheadRel (l : List Ev) (k : Nat) (D : DataW Unit) : Prop := IsMap D ∧ ∀ c : Int, D.atKey (.int .i64 c) (.lit (.int .i64 0)) = .lit (.int .i64 (cc (l.take k) c))
theorem AheadRel.start (l : List Ev) : AheadRel l 0 (.map []) := ⟨isMap_empty, fun c => rfl⟩
theorem AheadRel.step {l : List Ev} {k : Nat} {D : DataW Unit} (h : AheadRel l k D) (hk : k < l.length) :
    AheadRel l (k + 1) (D.put (.int .i64 (l.getD k evZ).chip) (.lit (.int .i64 (cc (l.take k) (l.getD k evZ).chip + 1)))) := by
  refine ⟨h.1.put _ _, fun c => ?_⟩
  rw [cc_take l k c hk]
  by_cases e : (l.getD k evZ).chip = c
  · subst e
    rw [if_pos rfl, atKey_put_same h.1 (by simp [WideAt.IsKeyLit])]
  · rw [if_neg e, Int.add_zero, atKey_put_other (fun e2 => e (by injection e2 with _ e3; exact e3.symm)), h.2]

set_option maxRecDepth 100000 in
set_option maxHeartbeats 4000000 in
theorem evnumber_any (w : World) (x : Ls) (h : LsAt w w.heap.size x) (hw : ∀ e ∈ x.l, e.wf) (hn : x.A = none → x.c = 0) (hN : x.l.length ≤ 1048576) :
    Calls Try.prog 33 #[x.val] w (ListTo w (numTo x.l x.l.length)) := by
  have hcap := h.cap
  have hle := h.le
  unfold maxLen at hcap
  have HCL := Lib.hid (evclone_any w x h hn hN)
  have hmm := @run_makeMap Try.prog
  have HW := Lib.hid hw
  have HL := Lib.hid h
  unfold Ls.val at HCL ⊢
  clear h hw
  go_enter Try.func33, Try.ntmps33
  go_wp2_with fail
  refine HCL.out.mono ?_
  rintro e w1 ⟨v, rfl, hv, b1⟩
  have h1s := b1.size
  have HV := Lib.hid hv
  have HB1 := Lib.hid b1
  clear hv b1
  go_wp2_with fail
  have hm0 : (w1.alloc (.map #[] 0)).ownsMap Try.prog 3 (plainElem (H := Unit) Try.prog 2) w1.heap.size 0 (.map []) := World.ownsMap_made _ _ _ _
  have hbm : Below w.heap.size w (w1.alloc (.map #[] 0)) := HB1.out.alloc HB1.out.size _
  have hrm : (w1.alloc (.map #[] 0)).ownsRow w.heap.size 23 6 v x.l.length (rowV (numTo x.l 0)) := by rw [numTo_zero]; exact HV.out.alloc _
  have HM0 := Lib.hid hm0
  have HBM := Lib.hid hbm
  have HRM := Lib.hid hrm
  clear hm0 hbm hrm hmm
  go_loopw [12] (fun i wr => ∃ k : Nat, k ≤ x.l.length ∧ i = .int .i64 k ∧ wr.ownsRow w.heap.size 23 6 v x.l.length (rowV (numTo x.l k)) ∧ (∃ D, AheadRel x.l k D ∧ wr.ownsMap Try.prog 3 (plainElem (H := Unit) Try.prog 2) w1.heap.size k D) ∧ Below w.heap.size w wr) (fun i _ => x.l.length - (intOf i).toNat)
  case atStart => exact ⟨0, Nat.zero_le _, rfl, HRM.out, ⟨_, AheadRel.start _, HM0.out⟩, HBM.out⟩
  case round =>
    obtain ⟨k, hk, rfl, hr, ⟨D, hD, hm⟩, hb⟩ := hrel
    by_cases hlt : k < x.l.length
    · rcases hr.2 with ⟨_, h2⟩ | ⟨g, cap, cur, rfl, hg, _, hnc, hcm, _⟩
      · omega
      · obtain ⟨b, o, hA, hb1, hat⟩ := HL.out.at_ (by omega)
        have hu := (hat k hlt).keep (hb.block b hb1)
        obtain ⟨y, hy⟩ : ∃ y, x.l.getD k evZ = y := ⟨_, rfl⟩
        rw [show x.l.getD k ⟨0, 0, 0, 0, 0, 0⟩ = y from hy] at hu
        have hwf : y.wf := by rw [← hy, getD_at x.l k hlt]; exact HW.out _ (List.getElem_mem hlt)
        have hkey : keyOf Try.prog 3 (.int .i64 y.chip) = some (.int .i64 y.chip) := keyOf_int_mk Try.underlying3 (WalkArith.wf_i64 (by have := hwf.c; omega))
        have hstep := hD.step hlt
        have hsucc := numTo_succ x.l k hlt
        rw [hy] at hstep hsucc
        obtain ⟨d0, d1, d2, d3, d4, d5⟩ := hu
        have hsz := hb.size
        have hgl := (hr.lt g rfl).2
        have hml := hm.lt
        have hgm : g ≠ w1.heap.size := by
          intro e
          obtain ⟨es, clock, hbk, _⟩ := hm
          rcases hr.2 with ⟨e1, _⟩ | ⟨g2, cap2, cur2, e1, _, e3, _⟩
          · cases e1
          · injection e1 with e1 _ _
            injection e1 with e1
            injection e1 with e1
            rw [← e1, e, hbk] at e3
            cases e3
        have hr1 := hr.alloc (evO y)
        have hm1 := hm.alloc (evO y)
        have hfz := hr1.frozenAt (k * 6 + 2)
        have hce := (hr1.cellAt (k * 6 + 2) (by omega)).trans (row_get _ k 2 (by rw [numTo_len]; exact hlt) (by decide))
        obtain ⟨u, hu⟩ : ∃ u, ((numTo x.l k).getD k evZ).cells[2]? = some u := ⟨_, rfl⟩
        rw [hu] at hce
        obtain ⟨s0, s1, s2, s3, s4, s5⟩ := EV.laid wr y
        have HR1 := Lib.hid hr
        have HM1 := Lib.hid hm1
        have HM0 := Lib.hid hm
        have HD := Lib.hid hD
        have HST := Lib.hid hstep
        have HSU := Lib.hid hsucc
        have HS := Lib.hid (EV.laid wr y)
        clear hat hy hwf hstep hsucc hr hm hr1 hm1 hD hu
        unfold evO at hfz hce s0 s1 s2 s3 s4 s5
        rw [hA]
        go_upto_region 7 with (at_lookup; refine wpList_lookup_own_int _ rfl _ _ 79 rfl 3 2 .i64 keyedI Try.underlying79 Try.underlying2 (zero64 _) w1.heap.size k D rfl HM1.out _ _ rfl hkey ?_; intro c hat hwc; have HAT := Lib.hid hat; clear hat)
        have hc : c = cc (x.l.take k) y.chip := by
          have h2 := HAT.out
          rw [HD.out.2] at h2
          injection h2 with h2
          injection h2 with _ h2
          exact h2.symm
        subst hc
        have hcl := cc_le (x.l.take k) y.chip
        have htl : (x.l.take k).length ≤ k := by simp; omega
        obtain ⟨w6, hw6⟩ : ∃ w6, (wr.setCell ⟨g, k * 6 + 2, none⟩ (.int .i64 (cc (x.l.take k) y.chip))).alloc (.cells #[.int .i64 y.time, .int .i64 y.chip, .int .i64 y.seq, .int .i64 y.kind, .int .i64 y.a, .int .i64 y.b] 23) = w6 := ⟨_, rfl⟩
        obtain ⟨hr5, hg5⟩ := HR1.out.stored (k * 6 + 2) (.int .i64 (cc (x.l.take k) y.chip))
        rw [rowV_set _ k _ (by rw [numTo_len]; exact hlt), ← HSU.out] at hr5
        have hm5 := HM0.out.kept hg5 (fun e => hgm (Option.some.inj e).symm)
        have hb5 : Below w.heap.size w (wr.setCell ⟨g, k * 6 + 2, none⟩ (.int .i64 (cc (x.l.take k) y.chip))) := hb.grown hg5 hsz (fun j e => by obtain rfl := Option.some.inj e; exact hg)
        have hr6 := hr5.alloc (evO y)
        have hm6 := hm5.alloc (evO y)
        have hb6 := hb5.alloc hb5.size (evO y)
        have hL6 := EV.laid (wr.setCell ⟨g, k * 6 + 2, none⟩ (.int .i64 (cc (x.l.take k) y.chip))) y
        rw [show (wr.setCell ⟨g, k * 6 + 2, none⟩ (.int .i64 (cc (x.l.take k) y.chip))).heap.size = wr.heap.size by simp] at hL6
        unfold evO at hr6 hm6 hb6 hL6
        rw [hw6] at hr6 hm6 hb6 hL6
        have t1 := hL6.c1
        rw [hw6]
        have HR6 := Lib.hid hr6
        have HM6 := Lib.hid hm6
        clear hw6 hr5 hm5 hg5 hb5 hL6 hr6 hm6 hfz hce s0 s1 s2 s3 s4 s5
        go_wp2_with (first
          | (at_lookup; refine wpList_lookup_own_int _ rfl _ _ 79 rfl 3 2 .i64 keyedI Try.underlying79 Try.underlying2 (zero64 _) w1.heap.size k D rfl HM6.out _ _ rfl hkey ?_; intro c2 hat2 hwc2; (obtain rfl : c2 = cc (x.l.take k) y.chip := by (rw [HD.out.2] at hat2; injection hat2 with h2; injection h2 with _ h2; exact h2.symm)); clear hat2)
          | (at_mapUpdate; refine wpList_mapUpdate_own _ rfl _ _ _ 79 rfl 3 2 keyedI Try.underlying79 _ w1.heap.size k D rfl HM6.out (by unfold maxLen; omega) _ _ _ rfl rfl hkey _ [] (plainElem_int Try.underlying2 (WalkArith.wf_i64 (by omega))) ?_; intro w7 hm7 hg7; have HM7 := Lib.hid hm7; have HR7 := Lib.hid (HR6.out.kept hg7 (.inr (fun e => hgm (by simpa [Value.ownBlock] using e)))); have hb7 := hb6.grown hg7 hb6.size (fun j e => by obtain rfl := Option.some.inj e; exact h1s); clear hm7 hg7))
        refine ⟨⟨k + 1, by omega, by go_num, HR7.out, ⟨_, HST.out, HM7.out⟩, hb7⟩, by simp [intOf]; omega⟩
    · obtain rfl : k = x.l.length := by omega
      have hF : ListTo w (numTo x.l x.l.length) (.returned v) wr := by
        have hr2 : wr.ownsRow w.heap.size 23 6 v (numTo x.l x.l.length).length (rowV (numTo x.l x.l.length)) := by rw [numTo_len]; exact hr
        obtain ⟨y, h1, h2, h3⟩ := row_to_ls hr2
        exact ⟨y, by rw [h1], h2, h3, hb⟩
      have HF := Lib.hid hF
      clear hF hr hD hm
      go_wp2_with fail
      go_ret
      exact HF.out
end Go.Proofs.Ytileglkimbkkgaa
