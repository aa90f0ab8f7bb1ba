/-   -/
import Derived.Test.YthnbpdcjooifbaaZH2
import Derived.Test.YthnbpdcjooifbaaJ20
namespace Go.Proofs.Ythnbpdcjooifbaa
open Go.RowKit
set_option linter.unusedSimpArgs false
set_option linter.unusedVariables false
set_option maxRecDepth 100000

theorem numQ_err (r : List Int) (e : Int) (h : (numQ r e).2.2 ≠ 0) : (numQ r e).1 = 0 := by
  unfold numQ at *
  repeat' split at h
  all_goals first | exact absurd rfl h | simp_all
theorem numQ_le (r : List Int) (e : Int) : (numQ r e).2.1.length ≤ r.length := by
  unfold numQ
  repeat' split
  all_goals simp
/-- What Count gives. -/
def countQ (r : List Int) (e : Int) (most : Nat) : Nat × List Int × Int :=
  if (numQ r e).2.2 = 0 ∧ most < (numQ r e).1 then (0, (numQ r e).2.1, 3) else ((numQ r e).1, (numQ r e).2.1, (numQ r e).2.2)
/-- What Block gives. -/
def blockQ (r : List Int) (e : Int) : List Int × List Int × Int :=
  if (numQ r e).2.2 ≠ 0 then ([], (numQ r e).2.1, (numQ r e).2.2)
  else if 1048576 < (numQ r e).1 then ([], (numQ r e).2.1, 3)
  else if (numQ r e).2.1.length < (numQ r e).1 then ([], (numQ r e).2.1, 5)
  else ((numQ r e).2.1.take (numQ r e).1, (numQ r e).2.1.drop (numQ r e).1, 0)

set_option maxHeartbeats 800000 in
theorem qsmall_any (g : Nat) (A : Option Addr) (c : Nat) (r : List Int) (e : Int) (w : World) (h : QR w g A c r e) :
    Calls Try.prog 76 #[.pointer (some ⟨g, 0, none⟩)] w (QRead w g (numQ r e).2.1 (numQ r e).2.2 (.int .i64 ((min (numQ r e).1 2199023255552 : Nat) : Int))) := by
  have hn := qnum_any g A c r e w h
  generalize numQ r e = q at *
  obtain ⟨v, r2, x⟩ := q
  simp only at *
  have HN := Lib.hid hn
  clear hn h
  go_enter Try.func76, Try.ntmps76
  go_wp2_with fail
  refine HN.out.mono ?_
  rintro e' w1 ⟨rfl, hq, hg⟩
  have HQ := Lib.hid hq
  have HG := Lib.hid hg
  clear hq hg
  have hm : min (v : Int) 2199023255552 = ((min v 2199023255552 : Nat) : Int) := by omega
  go_wp2_with fail
  go_ret
  exact ⟨rfl, HQ.out, HG.out⟩

set_option maxHeartbeats 1600000 in
theorem qcount_any (g : Nat) (A : Option Addr) (c : Nat) (r : List Int) (e : Int) (most : Nat) (w : World) (h : QR w g A c r e) (hm : (most : Int) < 9223372036854775808) :
    Calls Try.prog 47 #[.pointer (some ⟨g, 0, none⟩), .int .i64 most] w (QRead w g (countQ r e most).2.1 (countQ r e most).2.2 (.int .i64 ((countQ r e most).1 : Nat))) := by
  have hn := qnum_any g A c r e w h
  have herr := numQ_err r e
  unfold countQ
  generalize numQ r e = q at *
  obtain ⟨v, r2, x⟩ := q
  simp only at *
  obtain ⟨T, hT⟩ : ∃ T : Nat × List Int × Int, (if x = 0 ∧ most < v then (0, r2, 3) else (v, r2, x)) = T := ⟨_, rfl⟩
  rw [hT]
  have HT := Lib.hid hT
  have HN := Lib.hid hn
  have HE := Lib.hid herr
  clear hn h herr hT
  have hmx : max (0 : Int) (most : Int) = (most : Int) := by omega
  go_enter Try.func47, Try.ntmps47
  go_wp2_with fail
  refine HN.out.mono ?_
  rintro e' w1 ⟨rfl, ⟨A1, c1, hq⟩, hg⟩
  have k1 := hq.c1
  have f1 := hq.frozen 1
  have HG := Lib.hid hg
  have HQ := Lib.hid hq
  clear hq hg
  by_cases hx : x = 0
  · subst hx
    by_cases hv : most < v
    · have hT := HT.out
      rw [if_pos ⟨rfl, hv⟩] at hT
      subst hT
      have HF := Lib.hid (HQ.out.fail 3)
      have hvi : (most : Int) < (v : Int) := by omega
      go_wp2_with fail
      go_ret
      exact ⟨rfl, ⟨_, _, HF.out⟩, grown_trans HG.out (grown_setCell _ _ _ _)⟩
    · have hT := HT.out
      rw [if_neg (fun h => hv h.2)] at hT
      subst hT
      have hvi : (v : Int) ≤ (most : Int) := by omega
      go_wp2_with fail
      go_ret
      exact ⟨rfl, ⟨_, _, HQ.out⟩, HG.out⟩
  · have hxb : (x != 0) = true := by simpa using hx
    have hxe : (x == 0) = false := by simpa using hx
    have hT := HT.out
    rw [if_neg (fun h => hx h.1)] at hT
    subst hT
    have hv0 := HE.out hx
    subst hv0
    have HX := Lib.hid hx
    clear hx
    go_wp2_with fail
    go_ret
    exact ⟨rfl, ⟨_, _, HQ.out⟩, HG.out⟩

def QReadB (w : World) (g : Nat) (r : List Int) (x : Int) (m : List Int) (e : Ending) (w' : World) : Prop :=
  ∃ A' c', e = .returned (.slice A' m.length c') ∧ RB w' w'.heap.size A' c' m ∧ (∃ A c, QR w' g A c r x) ∧ w.grownBy w' (some g)

theorem qblock_end {w w1 w2 : World} {g c m' n' cc c' : Nat} {A A' A3 : Option Addr} {r2 M D : List Int} (HG : w.grownBy w1 (some g)) (hgl : g < w1.heap.size) (hob : OB w2 w1.heap.size A' c' M) (hq2 : QR w2 g A c r2 0) (hb : Below w1.heap.size w1 w2) (hr : RB w2 g A3 cc D) (hl : D.length ≤ r2.length) (hn : n' = D.length) (hm : m' = M.length) :
    QReadB w g D 0 M (.returned (.slice A' m' c')) (w2.setCell ⟨g, 0, none⟩ (.slice A3 n' cc)) := by
  subst hn hm
  refine ⟨A', c', rfl, (hob.grown (grown_setCell _ g 0 _) (fun k e => by obtain rfl := Option.some.inj e; exact hgl)).rb, ⟨_, _, hq2.move A3 cc _ hr hl⟩, ?_⟩
  exact grown_trans (grown_trans HG (grown_below hb _)) (grown_setCell _ _ _ _)

set_option maxHeartbeats 3200000 in
theorem qblock_any (g : Nat) (A : Option Addr) (c : Nat) (r : List Int) (e : Int) (w : World) (h : QR w g A c r e) :
    Calls Try.prog 49 #[.pointer (some ⟨g, 0, none⟩)] w (QReadB w g (blockQ r e).2.1 (blockQ r e).2.2 (blockQ r e).1) := by
  have hn := qnum_any g A c r e w h
  obtain ⟨T, hT⟩ : ∃ T, blockQ r e = T := ⟨_, rfl⟩
  rw [hT]
  unfold blockQ at hT
  generalize numQ r e = q at *
  obtain ⟨v, r2, x⟩ := q
  simp only at hT hn
  have HT := Lib.hid hT
  clear hT
  have HN := Lib.hid hn
  clear hn h
  go_enter Try.func49, Try.ntmps49
  go_wp2_with fail
  refine HN.out.mono ?_
  rintro e' w1 ⟨rfl, ⟨A1, c1, hq⟩, hg⟩
  have k0 := hq.c0
  have k1 := hq.c1
  have f1 := hq.frozen 1
  have f0 := hq.frozen 0
  have hgl := hq.lt
  have hrl := hq.len
  have HG := Lib.hid hg
  have HQ := Lib.hid hq
  clear hq hg
  by_cases hx : x = 0
  · subst hx
    have hT := HT.out
    rw [if_neg (by simp)] at hT
    by_cases hv : 1048576 < v
    · rw [if_pos hv] at hT
      subst hT
      have HF := Lib.hid (HQ.out.fail 3)
      have hvi : (1048576 : Int) < (v : Int) := by omega
      go_wp2_with fail
      go_ret
      exact ⟨none, 0, rfl, (OB.nil _ 0).rb, ⟨_, _, HF.out⟩, grown_trans HG.out (grown_setCell _ _ _ _)⟩
    · rw [if_neg hv] at hT
      have hvi : (v : Int) ≤ 1048576 := by omega
      by_cases hl : r2.length < v
      · rw [if_pos hl] at hT
        subst hT
        have HF := Lib.hid (HQ.out.fail 5)
        have hli : (r2.length : Int) < (v : Int) := by omega
        go_wp2_with fail
        go_ret
        exact ⟨none, 0, rfl, (OB.nil _ 0).rb, ⟨_, _, HF.out⟩, grown_trans HG.out (grown_setCell _ _ _ _)⟩
      · rw [if_neg hl] at hT
        subst hT
        have hle : v ≤ r2.length := by omega
        have hlei : (v : Int) ≤ (r2.length : Int) := by omega
        have hcl := HQ.out.rb.le
        have hci : (v : Int) ≤ (c1 : Int) := by omega
        have hMl : (r2.take v).length = v := by rw [List.length_take]; omega
        obtain ⟨M, hM⟩ : ∃ M, r2.take v = M := ⟨_, rfl⟩
        obtain ⟨D, hD⟩ : ∃ D, r2.drop v = D := ⟨_, rfl⟩
        have hDl : D.length = r2.length - v := by rw [← hD, List.length_drop]
        rw [hM] at hMl
        rw [hM, hD]
        have hML : M.length ≤ 1099511627776 := by omega
        have HML := Lib.hid hMl
        have HM := Lib.hid hM
        have hdi : (r2.length : Int) - (v : Int) = (D.length : Int) := by omega
        rcases Nat.eq_zero_or_pos r2.length with hz | hp
        · obtain rfl := List.length_eq_zero_iff.1 hz
          obtain rfl : v = 0 := by simpa using hle
          obtain rfl : M = [] := by rw [← hM]; rfl
          obtain rfl : D = [] := by rw [← hD]; rfl
          rcases A1 with _ | a
          · obtain ⟨rfl, _⟩ := HQ.out.rb.none_nil
            clear hM hD hMl hDl
            simp only [List.length_nil] at *
            go_wp2_with (at_builtin; refine wpList_append_rb _ rfl _ _ rfl w1.heap.size 0 _ _ _ [] rfl rfl (OB.made w1 #[] (Nat.zero_le _)) _ _ _ [] rfl rfl (RB.nil _ _) (by simp) (by simp) ?_; intro A' c' w2 hob hbel hne; have hq2 := (HQ.out.below ((Below.refl w1.heap.size w1).alloc (Nat.le_refl _) _) hgl).below hbel hgl; have b2 := ((Below.refl w1.heap.size w1).alloc (Nat.le_refl _) _).trans hbel; have k2 := hq2.c0; have g0 := hq2.frozen 0; have g1 := hq2.frozen 1; have HQ2 := Lib.hid hq2; have HOB := Lib.hid hob; have HB2 := Lib.hid b2; clear hq2 b2 hob hbel hne)
            go_ret
            exact qblock_end HG.out hgl HOB.out HQ2.out HB2.out (RB.nil _ _) (by simp) rfl rfl
          · clear hM hD hMl hDl
            simp only [List.length_nil] at *
            go_wp2_with (at_builtin; refine wpList_append_rb _ rfl _ _ rfl w1.heap.size 0 _ _ _ [] rfl rfl (OB.made w1 #[] (Nat.zero_le _)) _ _ _ [] rfl rfl (RB.empty _ _ _ _ HQ.out.rb.cap) (by simp) (by simp) ?_; intro A' c' w2 hob hbel hne; have hq2 := (HQ.out.below ((Below.refl w1.heap.size w1).alloc (Nat.le_refl _) _) hgl).below hbel hgl; have b2 := ((Below.refl w1.heap.size w1).alloc (Nat.le_refl _) _).trans hbel; have k2 := hq2.c0; have g0 := hq2.frozen 0; have g1 := hq2.frozen 1; have HQ2 := Lib.hid hq2; have HOB := Lib.hid hob; have HB2 := Lib.hid b2; clear hq2 b2 hob hbel hne)
            go_ret
            exact qblock_end HG.out hgl HOB.out HQ2.out HB2.out (RB.empty _ _ _ _ HQ.out.rb.cap) (by simp) rfl rfl
        · obtain ⟨b, off, rfl, hbb, hc⟩ := HQ.out.rb.pos hp
          have hsub := HQ.out.rb.sub 0 v (by omega)
          have htl := tail_rb HQ.out.rb v hle
          simp only [Nat.add_zero, Nat.sub_zero, List.drop_zero] at hsub
          rw [hM] at hsub
          rw [hD] at htl
          have HS := Lib.hid (hsub.alloc (w := w1) (by omega) (.cells #[] 5))
          have HTL := Lib.hid htl
          clear hsub htl hc hM hD hMl
          by_cases h1 : c1 = v
          · have HTL2 := HTL.out
            rw [if_pos h1] at HTL2
            have HTL3 := Lib.hid HTL2
            clear HTL2
            subst h1
            go_wp2_with (at_builtin; refine wpList_append_rb _ rfl _ _ rfl w1.heap.size g _ _ _ [] rfl rfl (OB.made w1 #[] (Nat.zero_le _)) _ _ _ M rfl HML.out.symm HS.out (by simp; omega) (by simp) ?_; intro A' c' w2 hob hbel hne; have hq2 := (HQ.out.below ((Below.refl w1.heap.size w1).alloc (Nat.le_refl _) _) hgl).below hbel hgl; have b2 := ((Below.refl w1.heap.size w1).alloc (Nat.le_refl _) _).trans hbel; have k2 := hq2.c0; have g0 := hq2.frozen 0; have g1 := hq2.frozen 1; have HQ2 := Lib.hid hq2; have HOB := Lib.hid hob; have HB2 := Lib.hid b2; clear hq2 b2 hob hbel hne)
            go_ret
            rw [HM.out]
            have ht := tail_rb HQ2.out.rb c1 hle
            rw [if_pos rfl, Nat.sub_self] at ht
            exact qblock_end HG.out hgl HOB.out HQ2.out HB2.out ht (by simp) (by simp; omega) rfl
          · have HTL2 := HTL.out
            rw [if_neg h1] at HTL2
            have HTL3 := Lib.hid HTL2
            clear HTL2
            go_wp2_with (at_builtin; refine wpList_append_rb _ rfl _ _ rfl w1.heap.size g _ _ _ [] rfl rfl (OB.made w1 #[] (Nat.zero_le _)) _ _ _ M rfl HML.out.symm HS.out (by simp; omega) (by simp) ?_; intro A' c' w2 hob hbel hne; have hq2 := (HQ.out.below ((Below.refl w1.heap.size w1).alloc (Nat.le_refl _) _) hgl).below hbel hgl; have b2 := ((Below.refl w1.heap.size w1).alloc (Nat.le_refl _) _).trans hbel; have k2 := hq2.c0; have g0 := hq2.frozen 0; have g1 := hq2.frozen 1; have HQ2 := Lib.hid hq2; have HOB := Lib.hid hob; have HB2 := Lib.hid b2; clear hq2 b2 hob hbel hne)
            go_ret
            rw [HM.out]
            have ht := tail_rb HQ2.out.rb v hle
            rw [if_neg h1] at ht
            exact qblock_end HG.out hgl HOB.out HQ2.out HB2.out ht (by simp) (by simp) rfl
  · have hxb : (x != 0) = true := by simpa using hx
    have hT := HT.out
    rw [if_pos hx] at hT
    subst hT
    have HX := Lib.hid hx
    clear hx
    go_wp2_with fail
    go_ret
    exact ⟨none, 0, rfl, (OB.nil _ 0).rb, ⟨_, _, HQ.out⟩, HG.out⟩
end Go.Proofs.Ythnbpdcjooifbaa
namespace Go.Proofs.Ythnbpdcjooifbaa
open Go.RowKit
set_option linter.unusedSimpArgs false
set_option linter.unusedVariables false

/-- Where the reader is behind k blocks, and its error. -/
def mst (L : List Int) : Nat → Nat × Int
  | 0 => (countSt L 0 0 4194304).2
  | k + 1 => (blockSt L (mst L k).1 (mst L k).2).2
def mblk (L : List Int) (k : Nat) : List Int := (blockSt L (mst L k).1 (mst L k).2).1
def MOk (L : List Int) (k : Nat) : Prop := erdE (mblk L k) = 0 ∧ (erdX (mblk L k)).May
def mxs (L : List Int) : Nat → List Ev
  | 0 => []
  | k + 1 => mxs L k ++ [erdX (mblk L k)]
def mcnt (L : List Int) : Nat := (countSt L 0 0 4194304).1
def MGood (L : List Int) : Prop := (∀ i, i < mcnt L → MOk L i) ∧ endSt L (mst L (mcnt L)).1 (mst L (mcnt L)).2 = 0 ∧ chk (mxs L (mcnt L)) = 0
theorem mxs_length (L : List Int) : ∀ k, (mxs L k).length = k
  | 0 => rfl
  | k + 1 => by simp [mxs, mxs_length L k]
theorem mcnt_le (L : List Int) : mcnt L ≤ 4194304 := by
  unfold mcnt countSt
  split
  · exact Nat.zero_le _
  · omega
theorem mblk_le (L : List Int) (k : Nat) : (mblk L k).length ≤ L.length := by
  unfold mblk blockSt
  repeat' split
  all_goals simp
  omega
theorem row_to_ls2 {w : World} {B : Nat} {v : Value} {n : Nat} {l : List Ev} (hn : l.length = n) (h : w.ownsRow B 23 6 v n (rowV l)) : ∃ y : Ls, v = y.val ∧ y.l = l ∧ LsAt w w.heap.size y ∧ True := by
  subst hn
  obtain ⟨y, h1, h2, h3, _⟩ := row_to_ls h
  exact ⟨y, h1, h2, h3, trivial⟩
def ReadsAny (w : World) (L : List Int) (e : Ending) (w' : World) : Prop :=
  ((MGood L ∧ ∃ y : Ls, e = .returned (.tuple #[y.val, .int .i64 0]) ∧ y.l = mxs L (mcnt L) ∧ LsAt w' w'.heap.size y) ∨ (¬ MGood L ∧ e = .returned (.tuple #[.slice none 0 0, .int .i64 4]))) ∧ Below w.heap.size w w'
def ReadRel2 (B B2 : Nat) (w : World) (g : Nat) (A : Option Addr) (c : Nat) (L : List Int) (k : Nat) (v : Value) (wr : World) : Prop :=
  Rdr wr g A c L (mst L k).1 (mst L k).2 ∧ (∀ i, i < k → MOk L i) ∧ wr.ownsRow B2 23 6 v k (rowV (mxs L k)) ∧ B2 ≤ wr.heap.size ∧ Below B w wr

set_option maxRecDepth 100000 in
set_option maxHeartbeats 4000000 in
theorem mread2_any (w : World) (A : Option Addr) (c n : Nat) (L : List Int) (hn : n = L.length) (hL : L.length ≤ 1099511627776) (B : Nat) (h : RB w B A c L) (hB : B ≤ w.heap.size) :
    Calls Try.prog 17 #[.slice A n c] w (ReadsAny w L) := by
  subst hn
  have HNEW := Lib.hid (new_any A c L.length L w B rfl h hB hL)
  obtain ⟨i0, hi, hz0, hz1, hz2⟩ := info_parts info_ev
  clear h hB
  go_enter Try.func17, Try.ntmps17
  go_wp2_with fail
  refine HNEW.out.mono ?_
  rintro e w1 ⟨g, A1, c1, rfl, hr, b1, hgw, _⟩
  have hcnt := rcount_any g A1 c1 L 0 0 4194304 w1 hr (by omega)
  have hN := mcnt_le L
  obtain ⟨N, hNe⟩ : ∃ N, mcnt L = N := ⟨_, rfl⟩
  rw [hNe] at hN
  have HNE := Lib.hid hNe
  have hm0 : (countSt L 0 0 4194304).2 = mst L 0 := rfl
  rw [show (countSt L 0 0 4194304).1 = N from hNe, hm0] at hcnt
  have B1 := Lib.hid b1
  have h1 := b1.size
  have HCN := Lib.hid hcnt
  clear hcnt hr b1 hNe hm0
  go_wp2_with fail
  refine HCN.out.mono ?_
  rintro e w2 ⟨rfl, hr, hg2⟩
  have h2 := hg2.size
  have b2 : Below w.heap.size w w2 := B1.out.grown hg2 h1 (fun j e => by obtain rfl := Option.some.inj e; exact hgw)
  have hgl := hr.lt
  have HR := Lib.hid hr
  have B2 := Lib.hid b2
  clear hr hg2 b2
  go_wp2_with fail
  go_loopw [5, 12] (fun v i wr => ∃ k : Nat, k ≤ N ∧ i = .int .i64 k ∧ ReadRel2 w.heap.size w2.heap.size w g A1 c1 L k v wr) (fun _ i _ => N - (intOf i).toNat)
  case atStart => exact ⟨0, Nat.zero_le _, rfl, HR.out, fun i hi => absurd hi (Nat.not_lt_zero _), World.ownsRow_nil _ _ _ _, Nat.le_refl _, B2.out⟩
  case round =>
    clear HR B2
    obtain ⟨k, hk, rfl, hr, hok, ho, hs2, hb⟩ := hrel
    have hsw : w.heap.size ≤ wr.heap.size := hb.size
    have HOK := Lib.hid hok
    clear hok
    by_cases hlt : k < N
    · have hblk := rblock_any g A1 c1 L _ _ wr hr
      have hsn : mxs L (k + 1) = mxs L k ++ [erdX (mblk L k)] := rfl
      have hst : (blockSt L (mst L k).1 (mst L k).2).2 = mst L (k + 1) := rfl
      rw [hst, show (blockSt L (mst L k).1 (mst L k).2).1 = mblk L k from rfl] at hblk
      have hml := mblk_le L k
      have hOK : MOk L k ↔ erdE (mblk L k) = 0 ∧ (erdX (mblk L k)).May := Iff.rfl
      obtain ⟨m, hm⟩ : ∃ m, mblk L k = m := ⟨_, rfl⟩
      rw [hm] at hblk hsn hml hOK
      have HB := Lib.hid hblk
      have HO := Lib.hid ho
      have HSN := Lib.hid hsn
      have HMO := Lib.hid hOK
      clear hblk ho hsn hr hst hm hOK
      go_wp2_with fail
      refine HB.out.mono ?_
      rintro e w3 ⟨A3, c3, rfl, ho3, hr3, hg3⟩
      have hs3 := hg3.size
      have b3 : Below w.heap.size w w3 := hb.grown hg3 hsw (fun j e => by obtain rfl := Option.some.inj e; exact hgw)
      have HER := Lib.hid (eread_any A3 c3 m.length m w3 w3.heap.size rfl ho3.rb (Nat.le_refl _) (by omega))
      have HO3 := Lib.hid (row_off HO.out hg3 hgl)
      have HR3 := Lib.hid hr3
      have HB3 := Lib.hid b3
      clear ho3 hr3 hg3 b3
      go_wp2_with fail
      refine HER.out.mono ?_
      rintro e w4 ⟨hcase, b4⟩
      have hs4 := b4.size
      have hb4 : Below w.heap.size w w4 := HB3.out.trans (b4.mono (by omega))
      rcases hcase with ⟨hyes, rfl⟩ | ⟨hno, rfl⟩
      · obtain ⟨y, hy⟩ : ∃ y, erdX m = y := ⟨_, rfl⟩
        rw [hy]
        have HMOK := Lib.hid (HMO.out.2 hyes)
        have hsn := HSN.out
        rw [hy] at hsn
        have HSN2 := Lib.hid hsn
        have HO4 := Lib.hid ((row_below HO3.out b4 (Nat.le_refl _)).alloc (evO y))
        have HR4 := Lib.hid (HR3.out.below b4 HR3.out.lt)
        have HB4 := Lib.hid hb4
        obtain ⟨s0, s1, s2, s3, s4, s5⟩ := EV.laid w4 y
        have hgl4 : g < w4.heap.size := by omega
        unfold evO at s0 s1 s2 s3 s4 s5 HO4
        clear b4 hb4 hy hyes hsn HSN
        unfold Ev.val
        go_wp2_with (at_builtin; refine wpList_append_own _ rfl (.tmp 22) (.tmp 24) 25 rfl w2.heap.size 23 i0 _ 6 48 Try.underlying25 hi hz0 hz1 hz2 rfl (by decide) _ k (rowV (mxs L k)) rfl (HO4.out.alloc _) ⟨w4.heap.size + 1, 0, none⟩ 1 1 y.cells (by simp [Act.eval, Act.put]) rfl (by have := new_ev (w4.alloc (evO y)) y; rw [World.size_alloc] at this; exact this) (cells_one _) (by unfold maxLen; omega) (by omega) (by simp; omega) ?_; intro v5 w5 ho5 hg5 _; have HO5 := Lib.hid ho5; have HG5 := Lib.hid hg5; clear ho5 hg5)
        have r5 : Rdr w5 g A1 c1 L (mst L (k + 1)).1 (mst L (k + 1)).2 := by
          have e1 := HR4.out.below (B := w4.heap.size) ((Below.refl w4.heap.size w4).alloc (Nat.le_refl _) (evO y)) hgl4
          have e2 := e1.below (B := w4.heap.size) ((Below.refl w4.heap.size (w4.alloc (evO y))).alloc (by simp) (evO y)) hgl4
          exact e2.kept HG5.out (fun j e => by have := (HO4.out.lt j e).1; omega)
        have hs5 := HG5.out.size
        simp only [World.size_alloc] at hs5
        have b5 : Below w.heap.size w w5 := ((HB4.out.alloc HB4.out.size (evO y)).alloc (by have := HB4.out.size; simp; omega) (evO y)).grown HG5.out (by have := HB4.out.size; simp; omega) (fun j e => by have := (HO4.out.lt j e).1; omega)
        refine ⟨⟨k + 1, by omega, by go_num, r5, fun i hi => ?_, ?_, by omega, b5⟩, by simp [intOf]; omega⟩
        · by_cases e : i = k
          · subst e; exact HMOK.out
          · exact HOK.out i (by omega)
        · rw [HSN2.out, rowV_snoc]; exact HO5.out
      · have HNO := Lib.hid (show ¬ MGood L from fun hG => hno (HMO.out.1 (hG.1 k (by rw [HNE.out]; omega))))
        have HB4 := Lib.hid hb4
        clear hno b4 hb4
        unfold zeroE Ev.val
        go_wp2_with fail
        go_ret2
        refine ⟨.inr ⟨HNO.out, rfl⟩, ?_⟩
        exact HB4.out.alloc HB4.out.size _
    · obtain rfl : k = N := by omega
      have hen := rend_any g A1 c1 L _ _ wr hr
      obtain ⟨x, hx⟩ : ∃ x, endSt L (mst L k).1 (mst L k).2 = x := ⟨_, rfl⟩
      rw [hx] at hen
      have HX := Lib.hid hx
      have HEN := Lib.hid hen
      have HO := Lib.hid ho
      have HB := Lib.hid hb
      clear hr ho hen hb hx
      go_wp2_with fail
      refine HEN.out.mono ?_
      rintro e w3 ⟨rfl, _, hg3⟩
      have ho3 := row_off HO.out hg3 hgl
      have hb3 := HB.out.grown hg3 hsw (fun j e => by obtain rfl := Option.some.inj e; exact hgw)
      obtain ⟨y, rfl, hyl, hya, _⟩ := row_to_ls2 (mxs_length L k) ho3
      have hck2 := (mcheck_any w3 y hya).mono fun e w' hc => hc.chk
      rw [hyl] at hck2
      obtain ⟨z, hz⟩ : ∃ z, chk (mxs L k) = z := ⟨_, rfl⟩
      rw [hz] at hck2
      have HZ := Lib.hid hz
      have HCK := Lib.hid hck2
      have HYL := Lib.hid hyl
      have HYA := Lib.hid hya
      have HB3 := Lib.hid hb3
      have hs3 := hb3.size
      clear hck2 hyl hya hb3 hg3 ho3 hz
      unfold Ls.val at HCK ⊢
      by_cases hx0 : x = 0
      · subst hx0
        go_wp2_with fail
        refine HCK.out.mono ?_
        rintro e w4 ⟨rfl, b4⟩
        have HBW := Lib.hid (HB3.out.trans (b4.mono hs3))
        have HYA4 := Lib.hid ((HYA.out.keep b4.block).more b4.size)
        clear b4
        by_cases hz0 : z = 0
        · subst hz0
          go_wp2_with fail
          go_ret2
          refine ⟨.inl ⟨⟨fun i hi => HOK.out i (by rw [← HNE.out]; exact hi), ?_, ?_⟩, y, rfl, ?_, HYA4.out⟩, HBW.out⟩
          · rw [HNE.out]; exact HX.out
          · rw [HNE.out]; exact HZ.out
          · rw [HNE.out]; exact HYL.out
        · have hzb : (z != 0) = true := by simpa using hz0
          have HZ0 := Lib.hid hz0
          clear hz0
          go_wp2_with fail
          go_ret2
          refine ⟨.inr ⟨fun hG => HZ0.out ?_, rfl⟩, HBW.out⟩
          have := hG.2.2
          rw [HNE.out, HZ.out] at this
          exact this
      · have hxb : (x != 0) = true := by simpa using hx0
        have HX0 := Lib.hid hx0
        clear hx0
        go_wp2_with fail
        go_ret2
        refine ⟨.inr ⟨fun hG => HX0.out ?_, rfl⟩, HB3.out⟩
        have := hG.2.1
        rw [HNE.out, HX.out] at this
        exact this
end Go.Proofs.Ythnbpdcjooifbaa
