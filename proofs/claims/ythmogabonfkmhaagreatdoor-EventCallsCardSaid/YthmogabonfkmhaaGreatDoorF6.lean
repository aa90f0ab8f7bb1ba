
/- An event in a block of the call's own; Parse. -/
import Derived.Test.YthmogabonfkmhaaGreatDoorF4
import Derived.Test.YthmogabonfkmhaaGreatDoorG0
namespace Go.Proofs.YthmogabonfkmhaaGreatDoor
open Go.RowKit
set_option linter.unusedSimpArgs false
set_option linter.unusedVariables false
set_option maxRecDepth 100000

/-- The words of a text. -/
def wordsOf (s : ByteArray) : List ByteArray := Lib.splitB ⟨#[32]⟩ 0 (min 6 (s.size + 1) - 1) s
def wd (s : ByteArray) (k : Nat) : ByteArray := (wordsOf s).getD k ⟨#[]⟩
/-- The event that the words say. -/
def sayE (s : ByteArray) : Ev := ⟨valOf (wd s 0).data.toList, chipOf (kindO (wd s 1)), valOf (wd s 2).data.toList, kindO (wd s 1), valOf (wd s 3).data.toList, valOf (wd s 4).data.toList⟩
/-- Is the text an event's? -/
def Told (s : ByteArray) : Prop := (wordsOf s).length = 5 ∧ (sayE s).May ∧ textE (sayE s) = s.data.toList
instance (s : ByteArray) : Decidable (Told s) := inferInstanceAs (Decidable (_ ∧ _))

theorem splitB_size (sep : ByteArray) : ∀ (k : Nat) (s p : ByteArray), p ∈ Lib.splitB sep 0 k s → p.size ≤ s.size
  | 0, s, p, h => by rw [Lib.splitB_zero] at h; simp at h; subst h; exact Nat.le_refl _
  | k + 1, s, p, h => by
    unfold Lib.splitB at h
    split at h
    · simp at h; subst h; exact Nat.le_refl _
    · rcases List.mem_cons.1 h with rfl | h
      · rw [ByteArray.size_extract]; omega
      · have := splitB_size sep k _ p h
        rw [ByteArray.size_extract] at this
        omega
theorem wd_size (s : ByteArray) (k : Nat) (hk : k < (wordsOf s).length) : (wd s k).size ≤ s.size := by
  unfold wd
  rw [List.getD_eq_getElem?_getD, List.getElem?_eq_getElem hk]
  exact splitB_size _ _ _ _ (List.getElem_mem hk)

def Splits (s : ByteArray) (w : World) (e : Ending) (w' : World) : Prop :=
  e = .returned (.slice (some ⟨w.heap.size, 0, none⟩) (wordsOf s).length (min 6 (s.size + 1))) ∧ Below w.heap.size w w' ∧ w'.heap.size = w.heap.size + 1 ∧ ∀ j, j < (wordsOf s).length → w'.cell? ⟨w.heap.size, j, none⟩ = some (.string (wd s j))

theorem cellsOf_at (l : List ByteArray) (N j : Nat) (h : j < l.length) : (Lib.cellsOf l N)[j]? = some (.string (l.getD j ⟨#[]⟩)) := by
  unfold Lib.cellsOf
  rw [List.getElem?_toArray, List.getElem?_append_left (by simpa using h), List.getElem?_map, List.getElem?_eq_getElem h, List.getD_eq_getElem?_getD, List.getElem?_eq_getElem h]
  rfl

theorem split_any (s : ByteArray) (w : World) (hV : Vars w) (hs : s.size ≤ 1000) : Calls Tryz.prog 32 #[.string s, .string ⟨#[32]⟩, .int .i64 6] w (Splits s w) := by
  obtain ⟨m, hm⟩ := hV.ml
  refine (Tryz.strings_SplitN s ⟨#[32]⟩ 6 m w (by omega) hm (by decide) (by decide) (by decide)).mono ?_
  rintro e w' ⟨he, rfl⟩
  refine ⟨he, (Below.refl _ _).alloc (Nat.le_refl _) _, by simp, fun j hj => ?_⟩
  rw [World.cell?_alloc_at _ _ _ _ rfl]
  exact cellsOf_at (wordsOf s) _ j hj

def ParsePost (s : ByteArray) (B : Nat) (w : World) (e : Ending) (w' : World) : Prop :=
  ((Told s ∧ e = .returned (.tuple #[(sayE s).val, .int .i64 0])) ∨ (¬ Told s ∧ e = .returned (.tuple #[zeroE.val, .int .i64 4]))) ∧ Below B w w'

theorem text_any (w : World) (x : Ev) (hV : Vars w) : Calls Tryz.prog 20 #[x.val] w fun e w' => e = .returned (.string (if x.May then ⟨(textE x).toArray⟩ else ⟨#[]⟩)) ∧ Below w.heap.size w w' := by
  by_cases hm : x.May
  · rw [if_pos hm]; exact text_may w x hV hm
  · rw [if_neg hm]; exact text_not w x hm

theorem words_pos (s : ByteArray) (h : (wordsOf s).length = 5) : s.data.toList ≠ [] := by
  intro he
  have hz : s.size = 0 := by
    have h1 : s.size = s.data.toList.length := by rw [Array.length_toList]; rfl
    rw [h1, he]; rfl
  have := Lib.splitB_length_le ⟨#[32]⟩ 0 (min 6 (s.size + 1) - 1) s
  unfold wordsOf at h
  rw [hz, show min 6 (0 + 1) - 1 = 0 from rfl] at this h
  omega

set_option maxHeartbeats 3200000 in
theorem parse_any (s : ByteArray) (w : World) (hV : Vars w) (hs : s.size ≤ 1000) : Calls Tryz.prog 10 #[.string s] w (ParsePost s w.heap.size w) := by
  have hE1 := EW.laid w zeroE
  have hV1 : Vars (w.alloc (evO zeroE)) := hV.on ((Below.refl _ _).alloc (Nat.le_refl _) _)
  have hB1 : Below w.heap.size w (w.alloc (evO zeroE)) := (Below.refl _ _).alloc (Nat.le_refl _) _
  have HS := Lib.hid (split_any s _ hV1 hs)
  go_enter Tryz.func10, Tryz.ntmps10
  go_wp2_with fail
  refine HS.out.mono ?_
  rintro e w3 ⟨rfl, hb, hz, hc⟩
  have hE3 := hE1.below hb (by simp)
  have hV3 := hV1.on hb
  have hB3 : Below w.heap.size w w3 := hB1.trans (hb.mono (by simp))
  have hz3 : w.heap.size + 1 < w3.heap.size := by rw [hz]; simp
  rw [show (w.alloc (evO zeroE)).heap.size = w.heap.size + 1 by simp] at hc
  clear hE1 hV1 hB1 HS hb hz
  by_cases h5 : (wordsOf s).length = 5
  · have hcs : ∀ j, j < 5 → w3.cell? ⟨w.heap.size + 1, j, none⟩ = some (.string (wd s j)) := fun j hj => hc j (by omega)
    have hsz : ∀ j, j < 5 → (wd s j).size ≤ 1000 := fun j hj => Nat.le_trans (wd_size s j (by omega)) hs
    have HP := Lib.hid (words_pos s h5)
    have hin : 5 ≤ min 6 (s.size + 1) := by
      have := Lib.splitB_length_le ⟨#[32]⟩ 0 (min 6 (s.size + 1) - 1) s
      unfold wordsOf at h5
      omega
    clear hc
    have hT : Told s ↔ ((sayE s).May ∧ textE (sayE s) = s.data.toList) := ⟨fun h => h.2, fun h => ⟨h5, h⟩⟩
    have HT := Lib.hid hT
    have H5 := Lib.hid h5
    obtain ⟨cp, hcp⟩ : ∃ cp, min 6 (s.size + 1) = cp := ⟨_, rfl⟩
    rw [hcp] at hin
    rw [h5, hcp]
    clear hT h5 hcp
    generalize wd s 0 = p0 at *
    generalize wd s 1 = p1 at *
    generalize wd s 2 = p2 at *
    generalize wd s 3 = p3 at *
    generalize wd s 4 = p4 at *
    have hq : ∃ p0 p1 p2 p3 p4, w3.cell? ⟨w.heap.size + 1, 0, none⟩ = some (.string p0) ∧ w3.cell? ⟨w.heap.size + 1, 1, none⟩ = some (.string p1) ∧ w3.cell? ⟨w.heap.size + 1, 2, none⟩ = some (.string p2) ∧ w3.cell? ⟨w.heap.size + 1, 3, none⟩ = some (.string p3) ∧ w3.cell? ⟨w.heap.size + 1, 4, none⟩ = some (.string p4) ∧
        p0.size ≤ 1000 ∧ p2.size ≤ 1000 ∧ p3.size ≤ 1000 ∧ p4.size ≤ 1000 ∧ ∃ v0 kk v2 v3 v4, valOf p0.data.toList = v0 ∧ kindO p1 = kk ∧ valOf p2.data.toList = v2 ∧ valOf p3.data.toList = v3 ∧ valOf p4.data.toList = v4 ∧ sayE s = ⟨v0, chipOf kk, v2, kk, v3, v4⟩ :=
      ⟨wd s 0, wd s 1, wd s 2, wd s 3, wd s 4, hcs 0 (by decide), hcs 1 (by decide), hcs 2 (by decide), hcs 3 (by decide), hcs 4 (by decide), hsz 0 (by decide), hsz 2 (by decide), hsz 3 (by decide), hsz 4 (by decide), _, _, _, _, _, rfl, rfl, rfl, rfl, rfl, rfl⟩
    clear hcs hsz
    obtain ⟨p0, p1, p2, p3, p4, a0, a1, a2, a3, a4, z0, z2, z3, z4, v0, kk, v2, v3, v4, hv0, hkk, hv2, hv3, hv4, hsay⟩ := hq
    have HY := Lib.hid hsay
    have W0 := Lib.hid (fun w hV => hv0 ▸ value_any p0 w hV (by omega))
    have W2 := Lib.hid (fun w hV => hv2 ▸ value_any p2 w hV (by omega))
    have W3 := Lib.hid (fun w hV => hv3 ▸ value_any p3 w hV (by omega))
    have W4 := Lib.hid (fun w hV => hv4 ▸ value_any p4 w hV (by omega))
    have KO := Lib.hid (fun w hV => hkk ▸ kindOf_any p1 w hV)
    clear hv0 hv2 hv3 hv4 hkk hsay
    go_wp2_with fail
    refine (KO.out _ hV3).mono ?_
    rintro e w' ⟨rfl, rfl⟩
    have f0 : ∀ p : M.Of (M.Base w3), p.w.cell? ⟨w.heap.size + 1, 0, none⟩ = some (.string p0) := fun p => (p.ok.2.cell (p := ⟨w.heap.size + 1, 0, none⟩) hz3).trans a0
    have f2 : ∀ p : M.Of (M.Base w3), p.w.cell? ⟨w.heap.size + 1, 2, none⟩ = some (.string p2) := fun p => (p.ok.2.cell (p := ⟨w.heap.size + 1, 2, none⟩) hz3).trans a2
    have f3 : ∀ p : M.Of (M.Base w3), p.w.cell? ⟨w.heap.size + 1, 3, none⟩ = some (.string p3) := fun p => (p.ok.2.cell (p := ⟨w.heap.size + 1, 3, none⟩) hz3).trans a3
    have f4 : ∀ p : M.Of (M.Base w3), p.w.cell? ⟨w.heap.size + 1, 4, none⟩ = some (.string p4) := fun p => (p.ok.2.cell (p := ⟨w.heap.size + 1, 4, none⟩) hz3).trans a4
    clear a0 a1 a2 a3 a4
    go_upto_region 5 with fail
    refine M.region_ (by kernel_rfl) ?_
    refine M.seg_ [0, 1, 2, 4, 6, 7, 8, 10, 11, 12, 13, 15, 16, 17] 8 _ w3 (M.Base.refl _) (by kernel_rfl) (by kernel_rfl) (by kernel_rfl) (by simp only [pickOps, mask, plain, List.getElem?_toArray, List.getElem?_cons_zero, List.getElem?_cons_succ, if_true]; rfl) ?_
    repeat (go_big_quiet_step (fail))
    refine wpQuiet_nil ?_
    clear f0 f2 f3 f4
    refine M.calm_ (i := 3) (.int .i64 v0) rfl (by kernel_rfl) (by kernel_rfl) (by kernel_rfl) (by kernel_rfl) ?_ ?_
    · intro wz sz
      unfold Oper.does
      go_simp
      exact (W0.out wz (hV3.on sz.2)).mono fun e w' ⟨he, hw⟩ => ⟨_, he, rfl, Save.of_below hw⟩
    refine M.calm_ (i := 5) (.int .i64 (chipOf kk)) rfl (by kernel_rfl) (by kernel_rfl) (by kernel_rfl) (by kernel_rfl) ?_ ?_
    · intro wz sz
      unfold Oper.does
      go_simp
      exact (chip_any kk wz).mono fun e w' ⟨he, hw⟩ => ⟨_, he, rfl, hw ▸ Save.refl _ _⟩
    refine M.calm_ (i := 9) (.int .i64 v2) rfl (by kernel_rfl) (by kernel_rfl) (by kernel_rfl) (by kernel_rfl) ?_ ?_
    · intro wz sz
      unfold Oper.does
      go_simp
      exact (W2.out wz (hV3.on sz.2)).mono fun e w' ⟨he, hw⟩ => ⟨_, he, rfl, Save.of_below hw⟩
    refine M.calm_ (i := 14) (.int .i64 v3) rfl (by kernel_rfl) (by kernel_rfl) (by kernel_rfl) (by kernel_rfl) ?_ ?_
    · intro wz sz
      unfold Oper.does
      go_simp
      exact (W3.out wz (hV3.on sz.2)).mono fun e w' ⟨he, hw⟩ => ⟨_, he, rfl, Save.of_below hw⟩
    refine M.calm_ (i := 18) (.int .i64 v4) rfl (by kernel_rfl) (by kernel_rfl) (by kernel_rfl) (by kernel_rfl) ?_ ?_
    · intro wz sz
      unfold Oper.does
      go_simp
      exact (W4.out wz (hV3.on sz.2)).mono fun e w' ⟨he, hw⟩ => ⟨_, he, rfl, Save.of_below hw⟩
    refine M.calm_ (i := 19) (.agg #[.int .i64 v0, .int .i64 (chipOf kk), .int .i64 v2, .int .i64 kk, .int .i64 v3, .int .i64 v4]) rfl (by kernel_rfl) (by kernel_rfl) (by kernel_rfl) (by kernel_rfl) ?_ ?_
    · intro wz sz
      unfold Oper.does
      go_simp
      exact Save.refl _ _
    refine M.call_ (i := 20) rfl (by kernel_rfl) (by kernel_rfl) ?_
    intro wa sa
    unfold Oper.does
    go_simp
    have hna : w3.heap.size ≤ wa.heap.size := sa.1
    refine ⟨fun w' => M.Base w3 w' ∧ EW w' wa.heap.size zeroE, ⟨sa.below ((Below.refl _ _).alloc sa.1 _), EW.laid wa zeroE⟩, closed_ev _ _ _, fun w' h => h.1, ?_⟩
    clear sa
    generalize wa.heap.size = n at hna ⊢
    refine M.call_ (i := 21) rfl (by kernel_rfl) (by kernel_rfl) ?_
    rintro wb ⟨sb, hE⟩
    obtain ⟨c0, c1, c2, c3, c4, c5⟩ := hE.ev
    have g0 := hE.free 0
    have g1 := hE.free 1
    have g2 := hE.free 2
    have g3 := hE.free 3
    have g4 := hE.free 4
    have g5 := hE.free 5
    unfold Oper.does
    go_simp
    clear c0 c1 c2 c3 c4 c5 g0 g1 g2 g3 g4 g5
    refine ⟨fun w' => M.Base w3 w' ∧ EW w' n ⟨v0, chipOf kk, v2, kk, v3, v4⟩, ⟨sb.below (putEv_below wb n ⟨v0, chipOf kk, v2, kk, v3, v4⟩ hna), putEv_ew hE ⟨v0, chipOf kk, v2, kk, v3, v4⟩⟩, closed_ev _ _ _, fun w' h => h.1, ?_⟩
    clear sb hE
    refine M.end_ (by kernel_rfl) ?_
    rintro wc ⟨sc, hEc⟩
    rw [← HY.out] at hEc
    have hZ := hE3.below sc.2 (by omega)
    have hVc := hV3.on sc.2
    have hBc := hB3.trans (sc.2.mono hB3.size)
    clear hE3 hV3 hB3 sc
    obtain ⟨x, hx⟩ : ∃ x, sayE s = x := ⟨_, rfl⟩
    have HT2 := HT.out
    clear HT
    rw [hx] at hEc HT2
    have HX := Lib.hid hx
    clear hx
    have hnl : n < wc.heap.size := hEc.lt
    have hn2 : w.heap.size < n := by omega
    have hval : x.val = .agg #[.int .i64 x.time, .int .i64 x.chip, .int .i64 x.seq, .int .i64 x.kind, .int .i64 x.a, .int .i64 x.b] := rfl
    have HV := Lib.hid hval
    clear hval
    by_cases ht : x.May ∧ textE x = s.data.toList
    · have hC : Calls Tryz.prog 20 #[x.val] wc fun e w' => e = .returned (.string s) ∧ Below wc.heap.size wc w' := by
        refine (text_may wc x hVc ht.1).mono ?_
        rintro e w' ⟨he, hb⟩
        exact ⟨by rw [he, ht.2], hb⟩
      have HC := Lib.hid hC
      have HT := Lib.hid (HT2.2 ht)
      clear hC ht HT2
      obtain ⟨c0, c1, c2, c3, c4, c5⟩ := hEc.ev
      go_wp2_with fail
      rw [← HV.out]
      clear c0 c1 c2 c3 c4 c5
      refine HC.out.mono ?_
      rintro e w5 ⟨rfl, hb⟩
      have hE5 := hEc.below hb hnl
      have hZ5 := hZ.below hb hZ.lt
      have hB5 := hBc.trans (hb.mono hBc.size)
      clear hb hEc hZ hBc HC
      obtain ⟨c0, c1, c2, c3, c4, c5⟩ := hE5.ev
      obtain ⟨d0, d1, d2, d3, d4, d5⟩ := hZ5.ev
      have g0 := hZ5.free 0
      have g1 := hZ5.free 1
      have g2 := hZ5.free 2
      have g3 := hZ5.free 3
      have g4 := hZ5.free 4
      have g5 := hZ5.free 5
      go_wp2_with fail
      (try simp only [Exit.inBlock, Exit.then])
      exact bodyPost_ret (v := .tuple #[x.val, .int .i64 0]) (results_ev rfl _ _ _ x _ rfl rfl (putEv_ew hZ5 x)) rfl ⟨Or.inl ⟨HT.out, by rw [HX.out]⟩, hB5.trans (putEv_below _ _ x (Nat.le_refl _))⟩
    · obtain ⟨T, hTd, hTn⟩ : ∃ T : ByteArray, (∀ e w', e = Ending.returned (.string (if x.May then ⟨(textE x).toArray⟩ else ⟨#[]⟩)) → e = .returned (.string T)) ∧ T ≠ s := by
        refine ⟨_, fun e w' h => h, fun h => ?_⟩
        by_cases hm : x.May
        · rw [if_pos hm] at h
          exact ht ⟨hm, by rw [← h]⟩
        · rw [if_neg hm] at h
          exact HP.out (by rw [← h])
      have hC : Calls Tryz.prog 20 #[x.val] wc fun e w' => e = .returned (.string T) ∧ Below wc.heap.size wc w' :=
        (text_any wc x hVc).mono fun e w' ⟨h, hb⟩ => ⟨hTd e w' h, hb⟩
      have HC := Lib.hid hC
      have HT := Lib.hid (fun h => ht (HT2.1 h))
      have b1 := tl_ne hTn
      have b2 : (T.toList != s.toList) = true := by unfold bne; rw [b1]; rfl
      clear hC ht HT2 hTd hTn
      obtain ⟨c0, c1, c2, c3, c4, c5⟩ := hEc.ev
      go_wp2_with fail
      rw [← HV.out]
      clear c0 c1 c2 c3 c4 c5
      refine HC.out.mono ?_
      rintro e w5 ⟨rfl, hb⟩
      have hZ5 := hZ.below hb hZ.lt
      have hB5 := hBc.trans (hb.mono hBc.size)
      clear hb hEc hZ hBc HC
      obtain ⟨d0, d1, d2, d3, d4, d5⟩ := hZ5.ev
      have g0 := hZ5.free 0
      have g1 := hZ5.free 1
      have g2 := hZ5.free 2
      have g3 := hZ5.free 3
      have g4 := hZ5.free 4
      have g5 := hZ5.free 5
      go_wp2_with fail
      (try simp only [Exit.inBlock, Exit.then])
      exact bodyPost_ret (v := .tuple #[zeroE.val, .int .i64 4]) (results_ev rfl _ _ _ zeroE _ rfl rfl (putEv_ew hZ5 zeroE)) rfl ⟨Or.inr ⟨HT.out, rfl⟩, hB5.trans (putEv_below _ _ zeroE (Nat.le_refl _))⟩
  · have HT := Lib.hid (show ¬ Told s from fun h => h5 h.1)
    have b1 : (((wordsOf s).length : Int) != 5) = true := by simp only [bne_iff_ne, ne_eq]; omega
    have b2 : decide ((wordsOf s).length = 5) = false := by simpa using h5
    have b3 : (((wordsOf s).length : Int) == 5) = false := by simp only [beq_eq_false_iff_ne, ne_eq]; omega
    clear h5 hc
    obtain ⟨d0, d1, d2, d3, d4, d5⟩ := hE3.ev
    have g0 := hE3.free 0
    have g1 := hE3.free 1
    have g2 := hE3.free 2
    have g3 := hE3.free 3
    have g4 := hE3.free 4
    have g5 := hE3.free 5
    go_wp2_with fail
    (try simp only [Exit.inBlock, Exit.then])
    exact bodyPost_ret (v := .tuple #[zeroE.val, .int .i64 4]) (results_ev rfl _ _ _ zeroE _ rfl rfl (putEv_ew hE3 zeroE)) rfl ⟨Or.inr ⟨HT.out, rfl⟩, hB3.trans (putEv_below _ _ zeroE (Nat.le_refl _))⟩
end Go.Proofs.YthmogabonfkmhaaGreatDoor
