/-  -/
import Derived.Test.YthnbpdcjooifbaaZK50
import Derived.Test.YthnbpdcjooifbaaJ12
namespace Go.Proofs.Ythnbpdcjooifbaa
open Go.RowKit
set_option linter.unusedSimpArgs false
set_option linter.unusedVariables false

theorem goodTo_succ {l : List Ev} {k : Nat} (h : GoodTo l k) (hm : (l.getD k evZ).May) (ho : 0 < k → ordE (l.getD (k - 1) evZ) (l.getD k evZ) < 0) : GoodTo l (k + 1) :=
  ⟨fun i hi => by
    by_cases e : i = k
    · subst e; exact hm
    · exact h.1 i (by omega), fun i i0 hi => by
    by_cases e : i = k
    · subst e; exact ho i0
    · exact h.2 i i0 (by omega)⟩

set_option maxRecDepth 100000 in
set_option maxHeartbeats 4000000 in
theorem rmcheck_any (w : World) (x : Ls) (h : LsAt w w.heap.size x) : Calls Try.prog 26 #[x.val] w (CheckTo x.l w.heap.size w) := by
  have hcap := h.cap
  have hle := h.le
  unfold maxLen at hcap
  unfold Ls.val
  by_cases hlong : 4194304 < x.l.length
  · go_enter Try.func26, Try.ntmps26
    go_wp2_with fail
    go_ret
    exact ⟨.inl ⟨hlong, rfl⟩, Below.refl _ _⟩
  · go_enter Try.func26, Try.ntmps26
    go_wp2_with fail
    go_loopw [3] (fun i wr => ∃ k : Nat, k ≤ x.l.length ∧ i = .int .i64 k ∧ GoodTo x.l k ∧ Below w.heap.size w wr) (fun i _ => x.l.length - (intOf i).toNat)
    case atStart => exact ⟨0, Nat.zero_le _, rfl, GoodTo.zero _, Below.refl _ _⟩
    case round =>
      obtain ⟨k, hk, rfl, hg, hb⟩ := hrel
      have HG := Lib.hid hg
      clear hg
      by_cases hlt : k < x.l.length
      · obtain ⟨b, o, hA, hb1, hat⟩ := h.at_ (by omega)
        have hev := (hat k hlt).keep (hb.block b hb1)
        obtain ⟨y, hy⟩ : ∃ y, x.l.getD k evZ = y := ⟨_, rfl⟩
        rw [show x.l.getD k ⟨0, 0, 0, 0, 0, 0⟩ = y from hy] at hev
        have HY := Lib.hid hy
        clear hy
        have hlv := fun p : Later (fun _ => False) wr => hev.keep (p.ok.all.block b (World.block_lt_of_cell? _ _ hev.c0))
        have d0 := fun p => (hlv p).c0
        have d1 := fun p => (hlv p).c1
        have d2 := fun p => (hlv p).c2
        have d3 := fun p => (hlv p).c3
        have d4 := fun p => (hlv p).c4
        have d5 := fun p => (hlv p).c5
        have HC := Lib.hid (fun (W : World) => r3check_any W y)
        unfold Ev.val at HC
        have hsz := hb.size
        have HEV := Lib.hid hev
        rw [hA]
        clear hlv hev
        go_upto_region 6 with fail
        refine L.region_ (fun _ => False) (by kernel_rfl) ?_
        refine L.seg_ [0, 1, 2, 3] 19 _ (by kernel_rfl) (by kernel_rfl) (by kernel_rfl) (by simp only [pickOps, mask, plain, List.getElem?_toArray, List.getElem?_cons_zero, List.getElem?_cons_succ, if_true, Bool.false_eq_true, if_false]; rfl) ?_
        repeat (go_big_quiet_step (fail))
        refine wpQuiet_nil ?_
        clear d0 d1 d2 d3 d4 d5
        refine L.call_ (i := 4) rfl (by kernel_rfl) (by kernel_rfl) ?_
        intro wa sa
        unfold Oper.does
        go_simp
        refine (HC.out wa).mono ?_
        rintro e w1 ⟨hc, hbc⟩
        have hba := hb.trans (sa.all.mono hsz)
        have hb1' := hba.trans (hbc.mono hba.size)
        have hs1 := hb1'.size
        rcases hc with ⟨rfl, hmay⟩ | ⟨rfl, hmay⟩
        · refine ⟨_, rfl, same_ sa (Save.of_below hbc) ?_⟩
          have HMY := Lib.hid hmay
          have HB1 := Lib.hid hb1'
          clear sa hbc hmay hba
          rcases Nat.eq_zero_or_pos k with rfl | hk0
          · have f0 : decide ((0 : Int) < ((0 : Nat) : Int)) = false := by decide
            clear hat hb1'
            refine L.seg_ [5, 6, 7, 8, 9, 10, 11, 12, 13, 14, 15, 16, 17, 18, 19, 20, 21, 22] 0 _ (by kernel_rfl) (by kernel_rfl) (by kernel_rfl) (by simp only [pickOps, mask, plain, List.getElem?_toArray, List.getElem?_cons_zero, List.getElem?_cons_succ, if_true, Bool.false_eq_true, if_false]; rfl) ?_
            repeat (go_big_quiet_step (fail))
            refine wpQuiet_nil ?_
            refine L.end_ (by kernel_rfl) ?_
            intro wf sf
            have hbf := HB1.out.trans (sf.all.mono hs1)
            clear sf
            go_wp2_with fail
            go_roundw
            case rel => exact ⟨1, by omega, rfl, goodTo_succ HG.out (by rw [HY.out]; exact HMY.out) (fun h => absurd h (by omega)), hbf⟩
            case measure => simp [intOf]; omega
          · obtain ⟨m, rfl⟩ : ∃ m, k = m + 1 := ⟨k - 1, by omega⟩
            have hez := (hat m (by omega)).keep (hb1'.block b hb1)
            obtain ⟨z, hz⟩ : ∃ z, x.l.getD m evZ = z := ⟨_, rfl⟩
            rw [show x.l.getD m ⟨0, 0, 0, 0, 0, 0⟩ = z from hz] at hez
            have hey := (hat (m + 1) hlt).keep (hb1'.block b hb1)
            rw [show x.l.getD (m + 1) ⟨0, 0, 0, 0, 0, 0⟩ = y from HY.out] at hey
            have HZ := Lib.hid hz
            have hlz := fun p : Later (fun _ => False) w1 => hez.keep (p.ok.all.block b (World.block_lt_of_cell? _ _ hez.c0))
            have hly := fun p : Later (fun _ => False) w1 => hey.keep (p.ok.all.block b (World.block_lt_of_cell? _ _ hey.c0))
            have d0 := fun p => (hlz p).c0
            have d1 := fun p => (hlz p).c1
            have d2 := fun p => (hlz p).c2
            have d3 := fun p => (hlz p).c3
            have d4 := fun p => (hlz p).c4
            have d5 := fun p => (hlz p).c5
            have f0 := fun p => (hly p).c0
            have f1 := fun p => (hly p).c1
            have f2 := fun p => (hly p).c2
            have f3 := fun p => (hly p).c3
            have f4 := fun p => (hly p).c4
            have f5 := fun p => (hly p).c5
            have hgt : (decide ((0 : Int) < (m : Int) + 1)) = true := decide_eq_true (by omega)
            have hm1 : m + 1 ≤ x.l.length := by omega
            have HO := Lib.hid (fun (W : World) => r3_order W z y)
            unfold Ev.val at HO
            clear hat hz hez hey hlz hly hk0 hb1'
            refine L.seg_ [5, 6, 7, 8, 9, 10, 11, 12, 13, 14, 15, 16, 17, 18] 4 _ (by kernel_rfl) (by kernel_rfl) (by kernel_rfl) (by simp only [pickOps, mask, plain, List.getElem?_toArray, List.getElem?_cons_zero, List.getElem?_cons_succ, if_true, Bool.false_eq_true, if_false]; rfl) ?_
            repeat (go_big_quiet_step (fail))
            refine wpQuiet_nil ?_
            clear d0 d1 d2 d3 d4 d5 f0 f1 f2 f3 f4 f5
            refine L.call_ (i := 19) rfl (by kernel_rfl) (by kernel_rfl) ?_
            intro wb sb
            unfold Oper.does
            go_simp
            refine (HO.out wb).mono ?_
            rintro e wc ⟨he, hbo⟩
            refine ⟨_, he, same_ sb (Save.of_below hbo) ?_⟩
            have hbb := HB1.out.trans (sb.all.mono hs1)
            have hbc2 := hbb.trans (hbo.mono hbb.size)
            have hs2 := hbc2.size
            clear he sb hbo hbb
            refine L.seg_ [20, 21, 22] 0 _ (by kernel_rfl) (by kernel_rfl) (by kernel_rfl) (by simp only [pickOps, mask, plain, List.getElem?_toArray, List.getElem?_cons_zero, List.getElem?_cons_succ, if_true, Bool.false_eq_true, if_false]; rfl) ?_
            repeat (go_big_quiet_step (fail))
            refine wpQuiet_nil ?_
            refine L.end_ (by kernel_rfl) ?_
            intro wf sf
            have hbf := hbc2.trans (sf.all.mono hs2)
            clear sf hbc2
            by_cases hlt0 : ordE z y < 0
            · have H0 := Lib.hid hlt0
              go_wp2_with fail
              refine ⟨⟨m + 2, by omega, by go_num, goodTo_succ HG.out (by rw [HY.out]; exact HMY.out) (fun _ => by rw [Nat.add_sub_cancel, HZ.out, HY.out]; exact H0.out), hbf⟩, by simp [intOf]; omega⟩
            · have H0 := Lib.hid hlt0
              have hge : 0 ≤ ordE z y := by omega
              clear hlt0
              go_wp2_with fail
              go_ret
              refine ⟨.inr (.inr ⟨by omega, fun hG => ?_, rfl⟩), hbf⟩
              have := hG.2 (m + 1) (by omega) hlt
              rw [HY.out, Nat.add_sub_cancel, HZ.out] at this
              have h3 := H0.out
              omega
        · refine ⟨_, rfl, same_ sa (Save.of_below hbc) ?_⟩
          have HMY := Lib.hid hmay
          have HB1 := Lib.hid hb1'
          clear sa hbc hmay hba hat hb1'
          refine L.seg_ [5, 6, 7, 8, 9, 10, 11, 12, 13, 14, 15, 16, 17, 18, 19, 20, 21, 22] 0 _ (by kernel_rfl) (by kernel_rfl) (by kernel_rfl) (by simp only [pickOps, mask, plain, List.getElem?_toArray, List.getElem?_cons_zero, List.getElem?_cons_succ, if_true, Bool.false_eq_true, if_false]; rfl) ?_
          repeat (go_big_quiet_step (fail))
          refine wpQuiet_nil ?_
          refine L.end_ (by kernel_rfl) ?_
          intro wf sf
          have hbf := HB1.out.trans (sf.all.mono hs1)
          clear sf
          go_wp2_with fail
          go_ret
          exact ⟨.inr (.inr ⟨by omega, fun hG => HMY.out (HY.out ▸ hG.1 k hlt), rfl⟩), hbf⟩
      · obtain rfl : k = x.l.length := by omega
        go_wp2_with fail
        go_ret
        exact ⟨.inr (.inl ⟨by omega, HG.out, rfl⟩), hb⟩

set_option maxRecDepth 100000 in
set_option maxHeartbeats 2000000 in
theorem ralone_any (w : World) (x : Ls) (chip : Int) (h : LsAt w w.heap.size x) : Calls Try.prog 27 #[x.val, .int .i64 chip] w fun e w' => e = .returned (.bool (aloneB x.l chip)) ∧ Below w.heap.size w w' := by
  have hcap := h.cap
  have hle := h.le
  unfold maxLen at hcap
  have HV := Lib.hid (show ∀ w', Below w.heap.size w w' → Calls Try.prog 26 #[x.val] w' fun e w2 => e = .returned (.int .i64 (chk x.l)) ∧ Below w'.heap.size w' w2 from
    fun w' hb => (rmcheck_any w' x ((h.keep hb.block).more hb.size)).mono fun e w2 hc => hc.chk)
  unfold Ls.val at HV ⊢
  go_enter Try.func27, Try.ntmps27
  go_wp2_with fail
  go_loopw [5] (fun i wr => ∃ k : Nat, k ≤ x.l.length ∧ i = .int .i64 k ∧ AloneTo x.l chip k ∧ Below w.heap.size w wr) (fun i _ => x.l.length - (intOf i).toNat)
  case atStart => exact ⟨0, Nat.zero_le _, rfl, fun i hi => by omega, Below.refl _ _⟩
  case round =>
    obtain ⟨k, hk, rfl, ha, hb⟩ := hrel
    have HA := Lib.hid ha
    clear ha
    by_cases hlt : k < x.l.length
    · obtain ⟨b, o, hA, hu⟩ := h.ev hb hlt
      obtain ⟨u, hgu⟩ : ∃ u, x.l.getD k evZ = u := ⟨_, rfl⟩
      rw [hgu] at hu
      have HU := Lib.hid hgu
      rw [hA]
      clear hgu hA
      obtain ⟨c0, c1, c2, c3, c4, c5⟩ := hu
      by_cases hok : u.chip = chip ∧ u.seq = k
      · obtain ⟨h1, h2⟩ := hok
        have hn1 : (u.chip != chip) = false := by simp [h1]
        have hn2 : (u.seq != (k : Int)) = false := by simp [h2]
        have H1 := Lib.hid h1
        have H2 := Lib.hid h2
        clear h1 h2
        go_wp2_with fail
        refine ⟨⟨k + 1, by omega, by go_num, fun i hi => ?_, hb⟩, by simp [intOf]; omega⟩
        by_cases e : i = k
        · subst e; rw [HU.out]; exact ⟨H1.out, H2.out⟩
        · exact HA.out i (by omega)
      · have H := Lib.hid hok
        have hF : aloneB x.l chip = false := decide_eq_false fun hc => hok (by have := hc.1 k hlt; rw [HU.out] at this; exact this)
        have HF := Lib.hid hF
        have hor : (u.chip != chip) = true ∨ ((u.chip != chip) = false ∧ (u.seq != (k : Int)) = true) := by
          by_cases e : u.chip = chip
          · right; exact ⟨by simp [e], by simp; exact fun e2 => hok ⟨e, e2⟩⟩
          · left; simp [e]
        clear hok hF
        rcases hor with h1 | ⟨h1, h2⟩
        all_goals
          go_wp2_with fail
          go_ret
          rw [HF.out]
          exact ⟨rfl, hb⟩
    · obtain rfl : k = x.l.length := by omega
      go_wp2_with fail
      refine (HV.out _ hb).mono ?_
      rintro e w2 ⟨rfl, hb2⟩
      go_wp2_with fail
      go_ret
      have hF : aloneB x.l chip = (chk x.l == 0) := by
        unfold aloneB
        by_cases e : chk x.l = 0
        · rw [decide_eq_true ⟨HA.out, e⟩]; simp [e]
        · rw [decide_eq_false (fun hc => e hc.2)]; symm; simpa using e
      rw [hF]
      exact ⟨rfl, hb.trans (hb2.mono hb.size)⟩
end Go.Proofs.Ythnbpdcjooifbaa
