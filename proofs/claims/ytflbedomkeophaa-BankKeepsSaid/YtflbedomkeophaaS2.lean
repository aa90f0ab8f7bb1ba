
/- The kit's LightPatches, Patches, walked. -/
import Derived.Test.YtflbedomkeophaaS1
import Derived.Test.YtflbedomkeophaaQ3
namespace Go.Proofs.Ytflbedomkeophaa
open Go.RowKit
set_option linter.unusedSimpArgs false
set_option linter.unusedVariables false
set_option maxRecDepth 100000

/-- What a patch that came in is, but for its bytes. -/
structure Pt.wfI (x : Pt) : Prop where
  b : (Lit.int .i64 x.b).wf = true
  p : (Lit.int .i64 x.p).wf = true
  n : x.A = none → x.c = 0
def LightTo (ps : List Pt) (w : World) (e : Ending) (w' : World) : Prop := (∃ q : Bool, e = .returned (.bool q) ∧ (q = true → ps.length ≤ 20 ∧ ∀ x ∈ ps, x.l.length ≤ 400)) ∧ w = w'
set_option maxHeartbeats 4000000 in
theorem light_any (w : World) (A : Option Addr) (n c : Nat) (ps : List Pt) (h : PtsAt w w.heap.size A c ps) (hn : n = ps.length) :
    Calls Try.prog 19 #[.slice A n c, .int .i64 20, .int .i64 400] w (LightTo ps w) := by
  subst hn
  have HL := Lib.hid h
  have hcap := h.cap
  have hle := h.le
  unfold maxLen at hcap
  clear h
  go_enter Try.func19, Try.ntmps19
  go_wp2_with fail
  go_loop [2, 7] (fun m i => ∃ (k : Nat) (r : Int), i = .int .i64 k ∧ m = .int .i64 r ∧ k ≤ ps.length ∧ k ≤ 21 ∧ 0 ≤ r ∧ r ≤ 400 ∧ Hid (∀ j, j < k → (ps.getD j ptZ).l.length ≤ 400)) (fun _ i => 22 - (intOf i).toNat)
  case atStart => exact ⟨0, 400, rfl, rfl, by omega, by omega, by decide, by decide, Lib.hid fun j hj => absurd hj (Nat.not_lt_zero _)⟩
  case round =>
    obtain ⟨k, r, rfl, rfl, hk, hk21, hr0, hr1, HG⟩ := hrel
    by_cases hlt : k < ps.length
    · by_cases h20 : k ≤ 20
      · obtain ⟨b, o, rfl, hb, -⟩ := HL.out.at_ (by omega)
        obtain ⟨y, hy⟩ : ∃ y, ps.getD k ptZ = y := ⟨_, rfl⟩
        obtain ⟨g0, g1, g2⟩ := HL.out.one k hlt y hy
        have hmem : y ∈ ps := by rw [← hy, getD_pt ps k hlt]; exact List.getElem_mem _
        have hyw : y.l.length ≤ 9223372036854775807 := by have h1 := (HL.out.bytes y hmem).le; have h2 := (HL.out.bytes y hmem).cap; unfold maxLen at h2; omega
        have HY : Hid ((ps.getD k ptZ).l.length = y.l.length) := Lib.hid (by rw [hy])
        clear hy hmem
        obtain ⟨n, hn⟩ : ∃ n, y.l.length = n := ⟨_, rfl⟩
        rw [hn] at g2 hyw HY
        clear hn
        have t1 : ((k : Nat) : Int) ≤ 20 := by omega
        by_cases hneg : r - (n : Int) < 0
        · go_wp2_with fail
          go_ret
          exact ⟨⟨false, rfl, fun h => by cases h⟩, rfl⟩
        · go_wp2_with fail
          refine ⟨⟨k + 1, r - n, by go_num, by go_num, by omega, by omega, by omega, by omega, Lib.hid fun j hj => ?_⟩, by simp [intOf]; omega⟩
          rcases Nat.lt_or_ge j k with h1 | h1
          · exact HG.out j h1
          · obtain rfl : j = k := by omega
            have := HY.out
            omega
      · have t1 : ¬ ((k : Nat) : Int) ≤ 20 := by omega
        have t2 : ¬ ((ps.length : Nat) : Int) ≤ 20 := by omega
        go_wp2_with fail
        go_ret
        exact ⟨⟨_, rfl, fun h => by first | (simp at h; done) | (simp at h; omega)⟩, rfl⟩
    · obtain rfl : k = ps.length := by omega
      have hall : Hid (∀ x ∈ ps, x.l.length ≤ 400) := fun x hx => by
        obtain ⟨i, hi, rfl⟩ := List.mem_iff_getElem.1 hx
        rw [← getD_pt ps i hi]; exact HG.out i hi
      go_wp2_with fail
      go_ret
      exact ⟨⟨_, rfl, fun h => ⟨by simp at h; omega, hall.out⟩⟩, rfl⟩

/-- Two lists of patches with the same data. -/
def SameP (ps qs : List Pt) : Prop := ps.length = qs.length ∧ ∀ i, i < ps.length → (ps.getD i ptZ).b = (qs.getD i ptZ).b ∧ (ps.getD i ptZ).p = (qs.getD i ptZ).p ∧ (ps.getD i ptZ).l = (qs.getD i ptZ).l
theorem same_pp {ps qs : List Pt} (h : ps.map Pt.pp = qs.map Pt.pp) (h1 : ∀ x ∈ ps, 0 ≤ x.b ∧ x.b < 1000000 ∧ 0 ≤ x.p ∧ x.p < 1000000 ∧ x.l.length ≤ 140737488355328) (h2 : ∀ x ∈ qs, 0 ≤ x.b ∧ x.b < 1000000 ∧ 0 ≤ x.p ∧ x.p < 1000000 ∧ x.l.length ≤ 140737488355328) : SameP ps qs := by
  have hl : ps.length = qs.length := by have := congrArg List.length h; rwa [List.length_map, List.length_map] at this
  refine ⟨hl, fun i hi => ?_⟩
  have hq : i < qs.length := by omega
  have e : (ps.map Pt.pp)[i]? = (qs.map Pt.pp)[i]? := by rw [h]
  rw [List.getElem?_map, List.getElem?_map, List.getElem?_eq_getElem hi, List.getElem?_eq_getElem hq] at e
  have e2 : ps[i].pp = qs[i].pp := Option.some.inj e
  rw [getD_pt ps i hi, getD_pt qs i hq]
  have a1 := h1 _ (List.getElem_mem hi)
  have a2 := h2 _ (List.getElem_mem hq)
  unfold Pt.pp at e2
  injection e2 with e3 e4
  injection e4 with e4 e5
  exact ⟨by omega, by omega, e5⟩
set_option maxHeartbeats 8000000 in
theorem patches_same (w : World) (A1 A2 : Option Addr) (n1 n2 c1 c2 : Nat) (ps qs : List Pt) (h1 : PtsAt w w.heap.size A1 c1 ps) (h2 : PtsAt w w.heap.size A2 c2 qs) (hs : SameP ps qs) (e1 : n1 = ps.length) (e2 : n2 = qs.length) (hN : ps.length ≤ 1000000) :
    Calls Try.prog 22 #[.slice A1 n1 c1, .slice A2 n2 c2] w fun e w' => e = .returned (.bool true) ∧ Below w.heap.size w w' := by
  subst e1
  obtain rfl : n2 = ps.length := e2.trans hs.1.symm
  have H1 := Lib.hid h1
  have H2 := Lib.hid h2
  have HS := Lib.hid hs
  have hcap := h1.cap
  have hle := h1.le
  have hcap2 := h2.cap
  have hle2 := h2.le
  have hlen := hs.1
  rw [← hlen] at hle2
  unfold maxLen at hcap hcap2
  clear h1 h2 hs e2 hlen
  go_enter Try.func22, Try.ntmps22
  go_wp2_with fail
  go_loopw [5] (fun i wr => ∃ k : Nat, i = .int .i64 k ∧ k ≤ ps.length ∧ Hid (Below w.heap.size w wr)) (fun i _ => ps.length - (intOf i).toNat)
  case atStart => exact ⟨0, rfl, by omega, Lib.hid (Below.refl _ _)⟩
  case round =>
    rename World => wr
    obtain ⟨k, rfl, hk, HB⟩ := hrel
    by_cases hlt : k < ps.length
    · have hlt2 : k < qs.length := by have := HS.out.1; omega
      obtain ⟨b1, o1, rfl, hb1, -⟩ := H1.out.at_ (by omega)
      obtain ⟨b2, o2, rfl, hb2, -⟩ := H2.out.at_ (by omega)
      obtain ⟨y, hy⟩ : ∃ y, ps.getD k ptZ = y := ⟨_, rfl⟩
      obtain ⟨z, hz⟩ : ∃ z, qs.getD k ptZ = z := ⟨_, rfl⟩
      have hm1 : y ∈ ps := by rw [← hy, getD_pt ps k hlt]; exact List.getElem_mem _
      have hm2 : z ∈ qs := by rw [← hz, getD_pt qs k hlt2]; exact List.getElem_mem _
      obtain ⟨s1, s2, s3⟩ := HS.out.2 k hlt
      rw [hy, hz] at s1 s2 s3
      have hf : ∀ p : M.Of (M.Base wr), p.w.cell? ⟨b1, o1 + k * 3, none⟩ = some (.int .i64 y.b) := fun p => ((H1.out.below (HB.out.trans (p.ok.2.mono HB.out.size))).one k hlt y hy).1
      have hf1 : ∀ p : M.Of (M.Base wr), p.w.cell? ⟨b1, o1 + k * 3 + 1, none⟩ = some (.int .i64 y.p) := fun p => ((H1.out.below (HB.out.trans (p.ok.2.mono HB.out.size))).one k hlt y hy).2.1
      have hf2 : ∀ p : M.Of (M.Base wr), p.w.cell? ⟨b1, o1 + k * 3 + 2, none⟩ = some (.slice y.A y.l.length y.c) := fun p => ((H1.out.below (HB.out.trans (p.ok.2.mono HB.out.size))).one k hlt y hy).2.2
      have hg : ∀ p : M.Of (M.Base wr), p.w.cell? ⟨b2, o2 + k * 3, none⟩ = some (.int .i64 z.b) := fun p => ((H2.out.below (HB.out.trans (p.ok.2.mono HB.out.size))).one k hlt2 z hz).1
      have hg1 : ∀ p : M.Of (M.Base wr), p.w.cell? ⟨b2, o2 + k * 3 + 1, none⟩ = some (.int .i64 z.p) := fun p => ((H2.out.below (HB.out.trans (p.ok.2.mono HB.out.size))).one k hlt2 z hz).2.1
      have hg2 : ∀ p : M.Of (M.Base wr), p.w.cell? ⟨b2, o2 + k * 3 + 2, none⟩ = some (.slice z.A z.l.length z.c) := fun p => ((H2.out.below (HB.out.trans (p.ok.2.mono HB.out.size))).one k hlt2 z hz).2.2
      have HBy := Lib.hid (fun wz (sz : M.Base wr wz) => s_bytes y.A z.A y.c z.c _ _ y.l z.l wz _ _ rfl rfl ((H1.out.below (HB.out.trans (sz.2.mono HB.out.size))).bytes y hm1) ((H2.out.below (HB.out.trans (sz.2.mono HB.out.size))).bytes z hm2))
      rw [decide_eq_true s3] at HBy
      rw [← s1] at hg
      rw [← s2] at hg1
      clear s1 s2 s3 hy hz hm1 hm2 hb1 hb2
      go_upto_region 6 with fail
      haveI : Nonempty (M.Of (M.Base wr)) := ⟨⟨wr, M.Base.refl _⟩⟩
      refine M.region_ (by kernel_rfl) ?_
      refine M.seg_ [0, 1, 2, 3, 4, 5, 6, 7, 8, 9, 10, 11, 12, 13, 14, 15, 16, 17, 18, 19, 20, 21, 22, 23, 24, 25, 26, 27, 28, 29, 30, 31, 32, 33, 34] 3 _ _ (M.Base.refl _) (by kernel_rfl) (by kernel_rfl) (by kernel_rfl) (by simp only [pickOps, mask, plain, List.getElem?_toArray, List.getElem?_cons_zero, List.getElem?_cons_succ, if_true, Bool.false_eq_true, if_false]; rfl) ?_
      repeat (go_big_quiet_step (fail))
      refine wpQuiet_nil ?_
      refine M.calm_ (i := 35) (.bool true) rfl (by kernel_rfl) (by kernel_rfl) (by kernel_rfl) (by kernel_rfl) ?_ ?_
      · intro wz sz
        unfold Oper.does
        go_simp
        exact (HBy.out wz sz).mono fun e w' ⟨he, hw⟩ => ⟨_, he, rfl, hw ▸ Save.refl _ _⟩
      go_simp
      refine M.seg_ [36, 37] 0 _ _ (M.Base.refl _) (by kernel_rfl) (by kernel_rfl) (by kernel_rfl) (by simp only [pickOps, mask, plain, List.getElem?_toArray, List.getElem?_cons_zero, List.getElem?_cons_succ, if_true, Bool.false_eq_true, if_false]; rfl) ?_
      repeat (go_big_quiet_step (fail))
      refine wpQuiet_nil ?_
      clear hf hf1 hf2 hg hg1 hg2
      refine M.end_ (by kernel_rfl) ?_
      intro wc sc
      have HB2 := Lib.hid (HB.out.trans (sc.2.mono HB.out.size))
      go_wp2_with fail
      exact ⟨⟨k + 1, by go_num, by omega, HB2⟩, by simp [intOf]; omega⟩
    · obtain rfl : k = ps.length := by omega
      go_wp2_with fail
      go_ret
      exact ⟨rfl, HB.out⟩
end Go.Proofs.Ytflbedomkeophaa
