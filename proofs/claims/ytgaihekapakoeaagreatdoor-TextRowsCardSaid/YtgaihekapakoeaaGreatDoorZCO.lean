/-  -/
import Derived.Test.YtgaihekapakoeaaGreatDoorJ25
import Derived.Test.YtgaihekapakoeaaGreatDoorZBK
namespace Go.Proofs.YtgaihekapakoeaaGreatDoor
open Go.RowKit
set_option linter.unusedVariables false
set_option linter.unusedSimpArgs false
set_option maxRecDepth 100000

namespace M
section
variable {P : Program} {ops : Array Oper} {md : Region.Mode} {C0 : World → Prop}
/-- Two operations that may lay memory, either first. -/
theorem fork_ {F : Act → (World → Prop) → Prop} {C : World → Prop} {i j : Nat} {oi oj : Oper} {fuel : Nat} {listed : Array Bool} {a : Act} (hi : ops[i]? = some oi) (hj : ops[j]? = some oj) (hr : (Region.ready md ops listed == [i, j]) = true)
    (hwi : Region.wanted oi (yielded ops a.tmps) = true) (hwj : Region.wanted oj (yielded ops a.tmps) = true)
    (h1 : ∀ w, C w → Oper.does P oi a w fun v w1 => ∃ C1, C1 w1 ∧ Closed C1 ∧ (∀ w', C1 w' → C0 w') ∧ wpAnyM P md ops C0 F fuel (listed.setIfInBounds i true) (a.put oi.dst v) C1)
    (h2 : ∀ w, C w → Oper.does P oj a w fun v w1 => ∃ C1, C1 w1 ∧ Closed C1 ∧ (∀ w', C1 w' → C0 w') ∧ wpAnyM P md ops C0 F fuel (listed.setIfInBounds j true) (a.put oj.dst v) C1) : wpAnyM P md ops C0 F (fuel + 1) listed a C := by
  have hr' : Region.ready md ops listed = [i, j] := by simpa using hr
  refine ⟨(fun h0 => by rw [h0] at hr'; cases hr'), (fun k hk => ?_)⟩
  rw [hr'] at hk
  simp only [List.mem_cons, List.not_mem_nil, or_false] at hk
  rcases hk with rfl | rfl
  · unfold mOp; simp only [hi, hwi, if_true]; exact .inr h1
  · unfold mOp; simp only [hj, hwj, if_true]; exact .inr h2
end
end M

/-- The worlds in which v is a row of texts of the call's own, laid since b. -/
def RT (b : World) (v : Value) (Ms : List ByteArray) : World → Prop := fun w => M.Base b w ∧ w.ownsRow b.heap.size 9 1 v Ms.length (Ms.map Value.string)
theorem RT.step {b : World} {v : Value} {Ms : List ByteArray} {w w' : World} (h : RT b v Ms w) (hs : Save (fun _ => False) w w') : RT b v Ms w' :=
  ⟨M.closed_base b _ _ h.1 hs, h.2.kept (w' := w') (row := none) ⟨hs.os, hs.tape, hs.output, hs.size, fun i hi _ => hs.block i hi (fun h => h)⟩ (by cases hv : v.ownBlock <;> simp)⟩
/-- .. and the block N holds one text. -/
def RT1 (b : World) (N : Nat) (s : ByteArray) (w : World) : Prop := M.Base b w ∧ b.heap.size ≤ N ∧ N < w.heap.size ∧ w.heap[N]? = some (.cells #[.string s] 9)
theorem RT1.step {b : World} {N : Nat} {s : ByteArray} {w w' : World} (h : RT1 b N s w) (hs : Save (fun _ => False) w w') : RT1 b N s w' :=
  ⟨M.closed_base b _ _ h.1 hs, h.2.1, Nat.lt_of_lt_of_le h.2.2.1 hs.size, (hs.block N h.2.2.1 (fun h => h)).trans h.2.2.2⟩
theorem RT1.tl {b : World} {N : Nat} {s : ByteArray} {w : World} (h : RT1 b N s w) : TL w w.heap.size (some ⟨N, 0, none⟩) 1 [s] :=
  ⟨by simp, by unfold maxLen; omega, fun _ => ⟨N, 0, rfl, h.2.2.1, fun i hi => by
    have : i = 0 := by simpa using hi
    subst this
    unfold World.cell?
    rw [h.2.2.2]
    simp⟩⟩

theorem RB.take {w : World} {B c : Nat} {A : Option Addr} {l : List Int} (h : RB w B A c l) (q : Nat) : RB w B A c (l.take q) := by
  refine ⟨Nat.le_trans (by rw [List.length_take]; omega) h.le, h.cap, fun n hn => h.bytes n (List.mem_of_mem_take hn), ?_⟩
  rcases h.at_ with e | ⟨a, ha, h2⟩
  · exact .inl e
  · refine .inr ⟨a, ha, fun h0 => ?_⟩
    have hl : (l.take q).length ≤ l.length := by rw [List.length_take]; omega
    obtain ⟨x1, x2, x3⟩ := h2 (by rw [List.length_take] at h0; omega)
    refine ⟨x1, x2, fun i hi => ?_⟩
    rw [x3 i (by rw [List.length_take] at hi; omega)]
    rw [List.length_take] at hi
    simp [List.getD_eq_getElem?_getD, List.getElem?_take, show i < q by omega]
set_option maxHeartbeats 16000000 in
theorem walk_TextRows (w : World) (hV : VP w w.heap.size) (A : Option Addr) (c n : Nat) (l : List Int) (hn : n = l.length) (h : RB w w.heap.size A c l) (at9 : Int) (wat : (Lit.int .i64 at9).wf = true) (s : ByteArray) :
    Calls Tryz.prog 7 #[.slice A n c, .int .i64 at9, .string s] w fun e w' => e = .returned (.bool true) ∧ Below w.heap.size w w' := by
  subst hn
  have hP := parse_to w hV
  by_cases hlong : 60 < l.length ∨ 60 < s.size
  · exact rows_long w at9 A c _ s hV.vt hP hlong
  have hl60 : ¬ (60 : Int) < l.length := by omega
  have hs60 : ¬ (60 : Int) < s.size := by omega
  have hby := h.bytes
  have hle := h.le
  have hmax := h.cap
  unfold maxLen at hmax
  have HL := Lib.hid (lives10 w hV.vt hP.ok)
  have HPt := Lib.hid hP.tx
  have HV := Lib.hid hV
  clear hV hP hlong
  go_enter Tryz.func7, Tryz.ntmps7
  go_wp2_with fail
  refine HL.out.mono ?_
  rintro e w1 ⟨rfl, hb1⟩
  have h1 := (h.below hb1).more hb1.size
  go_wp2_with fail
  refine (own_any A c _ l w1 _ rfl h1 (Nat.le_refl _) (by omega)).mono ?_
  rintro e w2 ⟨A2, c2, rfl, ho2, hb⟩
  have hB2 := hb1.trans (hb.mono hb1.size)
  clear hb hb1 h1 HL
  go_wp2_with fail
  refine (list_any l A2 c2 _ w2 hby (by omega) (HV.out.later hB2).vt (all_ob ho2 (by omega) _ rfl)).mono ?_
  rintro e w3 ⟨⟨v3, rfl, ho3⟩, hb⟩
  have hB3 := hB2.trans (hb.mono hB2.size)
  rw [rowT_txs, ← txs_len] at ho3
  obtain ⟨A3, c3, rfl, hA3⟩ := own_shape_or ho3
  have hT3 := TL.own ho3
  clear hb hB2 ho2 ho3
  have hmk := make_list _ l (Nat.le_refl _) hby
  have hsm := txs_small hby
  obtain ⟨q1, -, q3⟩ := allI_left _ l (Nat.le_refl _) hby
  rw [← txs_len] at q3
  have h9 := fun (w0 : World) (h0 : RB w0 w0.heap.size A c l) => r9_all_any A c _ l w0 rfl h0 (by omega)
  unfold AllTo at h9
  simp only [← txs_len] at h9
  have hA3z : (A3 = none ∧ c3 = 0 ∧ txs (allI l).1 = []) ∨ ∃ b o, A3 = some ⟨b, o, none⟩ := by
    rcases hA3 with ⟨e1, e2, e3⟩ | e
    · exact .inl ⟨e1, e2, List.eq_nil_of_length_eq_zero e3⟩
    · exact .inr e
  clear hA3
  obtain ⟨Z, hZ⟩ : ∃ Z, txs (allI l).1 = Z := ⟨_, rfl⟩
  obtain ⟨q, hq⟩ : ∃ q, (allI l).2 = q := ⟨_, rfl⟩
  rw [hZ] at hT3 hsm q3 hA3z ⊢
  rw [hZ, hq] at hmk
  rw [hq] at q1 ⊢
  simp only [hZ, hq] at h9
  clear hZ hq
  have hR3 := (h.below hB3).more hB3.size
  have HB3 := Lib.hid hB3
  have HT3 := Lib.hid hT3
  have HMk := Lib.hid hmk
  have HSm := Lib.hid hsm
  have H9 := Lib.hid h9
  have HR3 := Lib.hid hR3
  have HA3 := Lib.hid hA3z
  clear hB3 hT3 hmk hsm h9 hR3 hA3z h
  go_wp2_with (at_builtin; refine wpList_append_texts _ rfl _ _ rfl w3.heap.size (.slice (some ⟨w3.heap.size, 0, none⟩) 0 0) [] rfl (World.ownsRow_made w3 #[] 0 (Nat.le_refl _) (by unfold maxLen; omega) rfl) A3 _ c3 Z rfl rfl ((HT3.out.below ((Below.refl _ _).alloc (Nat.le_refl _) _)).more (by simp)) HA3.out (by simp; omega) (by simp) ?_; intro v6 w6 ho6 hg6)
  rw [List.nil_append] at ho6
  have hB6 : Below w.heap.size w w6 := (HB3.out.alloc HB3.out.size _).grown hg6 (by have := HB3.out.size; simp; omega) (fun q hq => by
    have := HB3.out.size
    simp [Value.ownBlock] at hq
    omega)
  have hR6 : RB w6 w6.heap.size A c l := by
    have h1 : Below w3.heap.size w3 w6 := ((Below.refl w3.heap.size w3).alloc (Nat.le_refl _) _).grown hg6 (by simp) (fun q hq => by simp [Value.ownBlock] at hq; omega)
    exact (HR3.out.below h1).more h1.size
  have hT6 : TL w6 w6.heap.size A3 c3 Z := by
    have h1 : Below w3.heap.size w3 w6 := ((Below.refl w3.heap.size w3).alloc (Nat.le_refl _) _).grown hg6 (by simp) (fun q hq => by simp [Value.ownBlock] at hq; omega)
    exact (HT3.out.below h1).more h1.size
  obtain ⟨A6, c6, rfl, -⟩ := own_shape_or ho6
  refine (make_any Z A6 c6 _ rfl w6 (TL.own ho6) (by omega) HSm.out (HPt.out.on hB6)).mono ?_
  rintro e w7 ⟨hr7, hb7⟩
  have hP7 : ∃ A7 c7, e = .returned (.tuple #[.slice A7 q c7, .int .i64 0]) ∧ OB w7 w6.heap.size A7 c7 (l.take q) := by
    rcases hr7 with ⟨bs, h1, A7, c7, h2, h3⟩ | ⟨h1, -⟩
    · rw [HMk.out] at h1
      obtain rfl := Option.some.inj h1
      refine ⟨A7, c7, ?_, h3⟩
      rw [h2, List.length_take, Nat.min_eq_left q1]
    · rw [HMk.out] at h1; cases h1
  obtain ⟨A7, c7, rfl, ho7⟩ := hP7
  have HB7 := Lib.hid (hB6.trans (hb7.mono hB6.size))
  have HR7 := Lib.hid ((hR6.below hb7).more hb7.size)
  have HT7 := Lib.hid ((hT6.below hb7).more hb7.size)
  have HO7 := Lib.hid ho7.rb
  clear hr7 hb7 hB6 hR6 hT6 ho6 hg6 ho7
  go_wp2_with fail
  refine (H9.out w7 HR7.out).mono ?_
  rintro e w8 ⟨⟨A9, c9, rfl, -⟩, hb8⟩
  have HB8 := Lib.hid (HB7.out.trans (hb8.mono HB7.out.size))
  have HR8 := Lib.hid ((HR7.out.below hb8).more hb8.size)
  have HT8 := Lib.hid ((HT7.out.below hb8).more hb8.size)
  have HO8 := Lib.hid ((HO7.out.below hb8).more hb8.size)
  clear hb8
  have htl : q = (l.take q).length := by rw [List.length_take]; omega
  have s1 : ∀ p' : M.Of (M.Base w8), (convert 27 9 (.slice A7 q c7)).run Tryz.prog p'.w = .ok (.string (strOfNums (l.take q))) p'.w := fun p' => str_rb p'.w _ A7 c7 q _ (HO8.out.below p'.ok.2) htl
  have s2 : ∀ p' : M.Of (M.Base w8), (convert 27 9 (.slice A q c)).run Tryz.prog p'.w = .ok (.string (strOfNums (l.take q))) p'.w := fun p' => str_rb p'.w _ A c q _ ((HR8.out.take q).below p'.ok.2) htl
  obtain ⟨S, hS⟩ : ∃ S, strOfNums (l.take q) = S := ⟨_, rfl⟩
  simp only [hS] at s1 s2
  clear hS htl
  have hqc : q ≤ c := by omega
  have t1 : decide (l.length < q) = false := decide_eq_false (by omega)
  rcases A with _ | ⟨b8, o8, p8⟩
  all_goals
    go_upto_region 8 with fail
    refine M.region_ (by kernel_rfl) ?_
    refine M.seg_ [0, 1, 2, 3, 4, 5, 6, 7, 8, 9, 10, 11, 12, 13, 14, 15, 16, 17, 18, 19, 20, 21, 22, 23] 0 _ _ (M.Base.refl _) (by kernel_rfl) (by kernel_rfl) (by kernel_rfl) (by simp only [pickOps, mask, plain, List.getElem?_toArray, List.getElem?_cons_zero, List.getElem?_cons_succ, if_true, Bool.false_eq_true, if_false]; rfl) ?_
    repeat (go_big_quiet_step (fail))
    refine wpQuiet_nil ?_
    clear s1 s2 t1
    refine M.end_ (by kernel_rfl) ?_
    intro wc sc
    have HB9 := Lib.hid (HB8.out.trans (sc.2.mono HB8.out.size))
    have HT9 := Lib.hid ((HT8.out.below sc.2).more sc.1)
    clear sc
    rcases HPt.out s (by omega) wc HB9.out with ⟨x, hx, hc⟩ | ⟨hx, hc⟩
    · have HC := Lib.hid hc
      have HX := Lib.hid hx
      clear hc hx
      go_wp2_with fail
      refine HC.out.mono ?_
      rintro e w10 ⟨rfl, hb10⟩
      have HBa := Lib.hid (HB9.out.trans (hb10.mono HB9.out.size))
      have HTa := Lib.hid ((HT9.out.below hb10).more hb10.size)
      clear hb10
      go_wp2_with fail
      refine (pick_in at9 _ w10 wat (by omega) (by omega)).mono ?_
      rintro e wq ⟨⟨k, rfl, hk⟩, rfl⟩
      have hkz : k ≤ Z.length := by omega
      have hkc : k ≤ c3 := by have := HTa.out.le; omega
      rcases HA3.out with ⟨rfl, rfl, rfl⟩ | ⟨b3, o3, rfl⟩
      · obtain rfl : k = 0 := by simpa using hkz
        obtain ⟨LT, hLT⟩ : ∃ L : List ByteArray, [] = L := ⟨_, rfl⟩
        obtain ⟨LD, hLD⟩ : ∃ L : List ByteArray, [] = L := ⟨_, rfl⟩
        have hZk : ([] : List ByteArray) = LT ++ LD := by rw [← hLT, ← hLD]; rfl
        have hlT : LT.length = 0 := by rw [← hLT]; rfl
        have hlD : LD.length = 0 := by rw [← hLD]; rfl
        have hTT : TL w10 w10.heap.size none 0 LT := ⟨by omega, by unfold maxLen; omega, fun h0 => absurd h0 (by omega)⟩
        have hTD : TL w10 w10.heap.size none 0 LD := ⟨by omega, by unfold maxLen; omega, fun h0 => absurd h0 (by omega)⟩
        obtain ⟨Md, hM⟩ : ∃ M, ((LT ++ [s]) ++ LD) = M := ⟨_, rfl⟩
        have hMs : ∀ t ∈ Md, t.size ≤ 100000 := by
          intro t ht
          rw [← hM] at ht
          have hsm := HSm.out
          rw [hZk] at hsm
          simp only [List.nil_append, List.mem_append, List.mem_cons, List.not_mem_nil, or_false] at ht hsm
          rcases ht with (h | rfl) | h
          · exact hsm t (.inl h)
          · omega
          · exact hsm t (.inr h)
        have HM := Lib.hid hM
        have HMs := Lib.hid hMs
        have hmkz := HMk.out
        rw [hZk] at hmkz
        have hMe : Md = LT ++ s :: LD := by rw [← hM]; simp
        have HMx := Lib.hid (show ∃ bs, makeI Md = some bs ∧ 0 < bs.length by
          obtain ⟨pp, qq, hp, hq, -⟩ := make_parts hmkz
          refine ⟨_, by rw [hMe]; exact make_with hp hq HX.out, ?_⟩
          have := bytesI_pos (readI_is HX.out).may
          simp only [List.length_append]
          omega)
        have HLT := Lib.hid hTT
        have HLD := Lib.hid hTD
        clear hTT hTD hM hMs hmkz hMe hZk hLT hLD
        go_upto_region 12 with fail
        refine M.region_ (by kernel_rfl) ?_
        refine M.seg_ [1, 2, 3, 5, 8, 9, 10] 6 _ _ (M.Base.refl _) (by kernel_rfl) (by kernel_rfl) (by kernel_rfl) (by simp only [pickOps, mask, plain, List.getElem?_toArray, List.getElem?_cons_zero, List.getElem?_cons_succ, if_true, Bool.false_eq_true, if_false]; rfl) ?_
        repeat (go_big_quiet_step (fail))
        refine wpQuiet_nil ?_
        refine M.fork_ (i := 0) (j := 6) rfl rfl (by kernel_rfl) (by kernel_rfl) (by kernel_rfl) ?_ ?_
        · intro wz sz
          unfold Oper.does
          go_simp
          refine ⟨RT w10 (.slice (some ⟨wz.heap.size, 0, none⟩) 0 0) [], ⟨sz.below ((Below.refl _ _).alloc sz.1 _), World.ownsRow_made wz #[] 0 sz.1 (by unfold maxLen; omega) rfl⟩, fun _ _ h hs => h.step hs, fun _ h => h.1, ?_⟩
          clear sz
          generalize wz.heap.size = N0
          clear wz
          go_simp
          refine M.fork_ (i := 4) (j := 6) rfl rfl (by kernel_rfl) (by kernel_rfl) (by kernel_rfl) ?_ ?_
          · intro wy sy
            obtain ⟨v4, wn, hrun, hon, hgn⟩ := run_append_texts_any wy 30 w10.heap.size (.slice (some ⟨N0, 0, none⟩) 0 0) [] sy.2 none 0 LT ((HLT.out.below sy.1.2).more sy.1.1) (.inl ⟨rfl, rfl, List.eq_nil_of_length_eq_zero hlT⟩) (by simp only [List.length_append, List.length_cons, List.length_nil]; omega) sy.1.1
            rw [hlT] at hrun
            have hbn : M.Base w10 wn := ⟨Nat.le_trans sy.1.1 hgn.size, sy.1.2.grown hgn sy.1.1 (fun q hq => (sy.2.lt q hq).1)⟩
            refine does_append_any (vs := (.slice (some ⟨N0, 0, none⟩) 0 0)) (vx := .slice none 0 0) (v := v4) _ _ rfl rfl rfl hrun ?_
            refine ⟨RT w10 v4 ([] ++ LT), ⟨hbn, hon⟩, fun _ _ h hs => h.step hs, fun _ h => h.1, ?_⟩
            clear hbn hon hgn hrun sy wy wn
            go_simp

            refine M.call_ (i := 6) rfl (by kernel_rfl) (by kernel_rfl) ?_
            intro wx sx
            unfold Oper.does
            go_simp
            refine ⟨fun w' => RT w10 v4 ([] ++ LT) w' ∧ RT1 w10 wx.heap.size s w', ⟨sx.step (Save.of_below ((Below.refl _ _).alloc (Nat.le_refl _) _)), ⟨sx.1.below ((Below.refl _ _).alloc sx.1.1 _), sx.1.1, by simp, heap_alloc_new wx _⟩⟩, fun _ _ h hs => ⟨h.1.step hs, h.2.step hs⟩, fun _ h => h.1.1, ?_⟩
            clear sx
            generalize wx.heap.size = N6
            clear wx
            go_simp
            refine M.call_ (i := 7) rfl (by kernel_rfl) (by kernel_rfl) ?_
            intro wy sy
            obtain ⟨v7, wn, hrun, hon, hgn⟩ := run_append_texts_any wy 30 w10.heap.size v4 ([] ++ LT) sy.1.2 (some ⟨N6, 0, none⟩) 1 [s] sy.2.tl (.inr ⟨N6, 0, rfl⟩) (by simp only [List.length_append, List.length_cons, List.length_nil]; omega) sy.1.1.1
            rw [show [s].length = 1 from rfl] at hrun
            have hbn : M.Base w10 wn := ⟨Nat.le_trans sy.1.1.1 hgn.size, sy.1.1.2.grown hgn sy.1.1.1 (fun q hq => (sy.1.2.lt q hq).1)⟩
            refine does_append_any (vs := v4) (vx := .slice (some ⟨N6, 0, none⟩) 1 1) (v := v7) _ _ rfl rfl rfl hrun ?_
            refine ⟨RT w10 v7 (([] ++ LT) ++ [s]), ⟨hbn, hon⟩, fun _ _ h hs => h.step hs, fun _ h => h.1, ?_⟩
            clear hbn hon hgn hrun sy wy wn
            go_simp
            refine M.call_ (i := 11) rfl (by kernel_rfl) (by kernel_rfl) ?_
            intro wy sy
            obtain ⟨v11, wn, hrun, hon, hgn⟩ := run_append_texts_any wy 30 w10.heap.size v7 (([] ++ LT) ++ [s]) sy.2 none 0 LD ((HLD.out.below sy.1.2).more sy.1.1) (.inl ⟨rfl, rfl, List.eq_nil_of_length_eq_zero hlD⟩) (by simp only [List.length_append, List.length_cons, List.length_nil]; omega) sy.1.1
            rw [hlD] at hrun
            have hbn : M.Base w10 wn := ⟨Nat.le_trans sy.1.1 hgn.size, sy.1.2.grown hgn sy.1.1 (fun q hq => (sy.2.lt q hq).1)⟩
            refine does_append_any (vs := v7) (vx := .slice none 0 0) (v := v11) _ _ rfl rfl rfl hrun ?_
            refine ⟨RT w10 v11 ((([] ++ LT) ++ [s]) ++ LD), ⟨hbn, hon⟩, fun _ _ h hs => h.step hs, fun _ h => h.1, ?_⟩
            clear hbn hon hgn hrun sy wy wn
            go_simp
            refine M.seg_ [12] 0 _ _ (M.Base.refl _) (by kernel_rfl) (by kernel_rfl) (by kernel_rfl) (by simp only [pickOps, mask, plain, List.getElem?_toArray, List.getElem?_cons_zero, List.getElem?_cons_succ, if_true, Bool.false_eq_true, if_false]; rfl) ?_
            repeat (go_big_quiet_step (fail))
            refine wpQuiet_nil ?_
            refine M.end_ (by kernel_rfl) ?_
            intro wc sc
            obtain ⟨hbd, hod⟩ := sc
            have hMl : Md.length ≤ 500 := by rw [← HM.out]; simp only [List.length_append, List.length_cons, List.length_nil]; omega
            have hBd : Below w.heap.size w wc := HBa.out.trans (hbd.2.mono HBa.out.size)
            replace hod : wc.ownsRow w10.heap.size 9 1 v11 Md.length (Md.map Value.string) := by
              rw [← HM.out]
              first | exact hod | simpa using hod
            obtain ⟨Ad, cd, rfl, -⟩ := own_shape_or hod
            have HOd := Lib.hid (TL.own hod)
            have HBd := Lib.hid hBd
            clear hod hbd hBd
            go_wp2_with fail
            refine (make_any Md Ad cd _ rfl wc HOd.out hMl HMs.out (HPt.out.on HBd.out)).mono ?_
            rintro e we ⟨hre, hbe⟩
            have HBe := Lib.hid (HBd.out.trans (hbe.mono HBd.out.size))
            clear hbe
            have hmk' : ∃ bs, makeI Md = some bs ∧ 0 < bs.length := HMx.out
            obtain ⟨bs, hbs, hpos⟩ := hmk'
            obtain ⟨Ae, ce, rfl, -⟩ : ∃ A c, e = .returned (.tuple #[.slice A bs.length c, .int .i64 0]) ∧ True := by
              rcases hre with ⟨b2, h1, A, c, h2, -⟩ | ⟨h1, -⟩
              · rw [hbs] at h1
                obtain rfl := Option.some.inj h1
                exact ⟨A, c, h2, trivial⟩
              · rw [hbs] at h1; cases h1
            obtain ⟨nb, hnb⟩ : ∃ nb, bs.length = nb := ⟨_, rfl⟩
            rw [hnb] at hpos ⊢
            clear hre hbs hnb
            go_wp2_with fail
            go_ret
            exact ⟨by simp [hpos], HBe.out⟩

          · intro wx sx
            unfold Oper.does
            go_simp
            refine ⟨fun w' => RT w10 (.slice (some ⟨N0, 0, none⟩) 0 0) [] w' ∧ RT1 w10 wx.heap.size s w' ∧ some wx.heap.size ≠ (Value.slice (some ⟨N0, 0, none⟩) 0 0).ownBlock, ⟨sx.step (Save.of_below ((Below.refl _ _).alloc (Nat.le_refl _) _)), ⟨sx.1.below ((Below.refl _ _).alloc sx.1.1 _), sx.1.1, by simp, heap_alloc_new wx _⟩, fun e => absurd (sx.2.lt _ e.symm).2 (by omega)⟩, fun _ _ h hs => ⟨h.1.step hs, h.2.1.step hs, h.2.2⟩, fun _ h => h.1.1, ?_⟩
            clear sx
            generalize wx.heap.size = N6
            clear wx
            go_simp
            refine M.call_ (i := 4) rfl (by kernel_rfl) (by kernel_rfl) ?_
            intro wy sy
            obtain ⟨v4, wn, hrun, hon, hgn⟩ := run_append_texts_any wy 30 w10.heap.size (.slice (some ⟨N0, 0, none⟩) 0 0) [] sy.1.2 none 0 LT ((HLT.out.below sy.1.1.2).more sy.1.1.1) (.inl ⟨rfl, rfl, List.eq_nil_of_length_eq_zero hlT⟩) (by simp only [List.length_append, List.length_cons, List.length_nil]; omega) sy.1.1.1
            rw [hlT] at hrun
            have hbn : M.Base w10 wn := ⟨Nat.le_trans sy.1.1.1 hgn.size, sy.1.1.2.grown hgn sy.1.1.1 (fun q hq => (sy.1.2.lt q hq).1)⟩
            have hkn : RT1 w10 N6 s wn := ⟨hbn, sy.2.1.2.1, Nat.lt_of_lt_of_le sy.2.1.2.2.1 hgn.size, (hgn.block N6 sy.2.1.2.2.1 sy.2.2).trans sy.2.1.2.2.2⟩
            refine does_append_any (vs := (.slice (some ⟨N0, 0, none⟩) 0 0)) (vx := .slice none 0 0) (v := v4) _ _ rfl rfl rfl hrun ?_
            refine ⟨fun w' => RT w10 v4 ([] ++ LT) w' ∧ RT1 w10 N6 s w', ⟨⟨hbn, hon⟩, hkn⟩, fun _ _ h hs => ⟨h.1.step hs, h.2.step hs⟩, fun _ h => h.1.1, ?_⟩
            clear hkn hbn hon hgn hrun sy wy wn
            go_simp

            refine M.call_ (i := 7) rfl (by kernel_rfl) (by kernel_rfl) ?_
            intro wy sy
            obtain ⟨v7, wn, hrun, hon, hgn⟩ := run_append_texts_any wy 30 w10.heap.size v4 ([] ++ LT) sy.1.2 (some ⟨N6, 0, none⟩) 1 [s] sy.2.tl (.inr ⟨N6, 0, rfl⟩) (by simp only [List.length_append, List.length_cons, List.length_nil]; omega) sy.1.1.1
            rw [show [s].length = 1 from rfl] at hrun
            have hbn : M.Base w10 wn := ⟨Nat.le_trans sy.1.1.1 hgn.size, sy.1.1.2.grown hgn sy.1.1.1 (fun q hq => (sy.1.2.lt q hq).1)⟩
            refine does_append_any (vs := v4) (vx := .slice (some ⟨N6, 0, none⟩) 1 1) (v := v7) _ _ rfl rfl rfl hrun ?_
            refine ⟨RT w10 v7 (([] ++ LT) ++ [s]), ⟨hbn, hon⟩, fun _ _ h hs => h.step hs, fun _ h => h.1, ?_⟩
            clear hbn hon hgn hrun sy wy wn
            go_simp
            refine M.call_ (i := 11) rfl (by kernel_rfl) (by kernel_rfl) ?_
            intro wy sy
            obtain ⟨v11, wn, hrun, hon, hgn⟩ := run_append_texts_any wy 30 w10.heap.size v7 (([] ++ LT) ++ [s]) sy.2 none 0 LD ((HLD.out.below sy.1.2).more sy.1.1) (.inl ⟨rfl, rfl, List.eq_nil_of_length_eq_zero hlD⟩) (by simp only [List.length_append, List.length_cons, List.length_nil]; omega) sy.1.1
            rw [hlD] at hrun
            have hbn : M.Base w10 wn := ⟨Nat.le_trans sy.1.1 hgn.size, sy.1.2.grown hgn sy.1.1 (fun q hq => (sy.2.lt q hq).1)⟩
            refine does_append_any (vs := v7) (vx := .slice none 0 0) (v := v11) _ _ rfl rfl rfl hrun ?_
            refine ⟨RT w10 v11 ((([] ++ LT) ++ [s]) ++ LD), ⟨hbn, hon⟩, fun _ _ h hs => h.step hs, fun _ h => h.1, ?_⟩
            clear hbn hon hgn hrun sy wy wn
            go_simp
            refine M.seg_ [12] 0 _ _ (M.Base.refl _) (by kernel_rfl) (by kernel_rfl) (by kernel_rfl) (by simp only [pickOps, mask, plain, List.getElem?_toArray, List.getElem?_cons_zero, List.getElem?_cons_succ, if_true, Bool.false_eq_true, if_false]; rfl) ?_
            repeat (go_big_quiet_step (fail))
            refine wpQuiet_nil ?_
            refine M.end_ (by kernel_rfl) ?_
            intro wc sc
            obtain ⟨hbd, hod⟩ := sc
            have hMl : Md.length ≤ 500 := by rw [← HM.out]; simp only [List.length_append, List.length_cons, List.length_nil]; omega
            have hBd : Below w.heap.size w wc := HBa.out.trans (hbd.2.mono HBa.out.size)
            replace hod : wc.ownsRow w10.heap.size 9 1 v11 Md.length (Md.map Value.string) := by
              rw [← HM.out]
              first | exact hod | simpa using hod
            obtain ⟨Ad, cd, rfl, -⟩ := own_shape_or hod
            have HOd := Lib.hid (TL.own hod)
            have HBd := Lib.hid hBd
            clear hod hbd hBd
            go_wp2_with fail
            refine (make_any Md Ad cd _ rfl wc HOd.out hMl HMs.out (HPt.out.on HBd.out)).mono ?_
            rintro e we ⟨hre, hbe⟩
            have HBe := Lib.hid (HBd.out.trans (hbe.mono HBd.out.size))
            clear hbe
            have hmk' : ∃ bs, makeI Md = some bs ∧ 0 < bs.length := HMx.out
            obtain ⟨bs, hbs, hpos⟩ := hmk'
            obtain ⟨Ae, ce, rfl, -⟩ : ∃ A c, e = .returned (.tuple #[.slice A bs.length c, .int .i64 0]) ∧ True := by
              rcases hre with ⟨b2, h1, A, c, h2, -⟩ | ⟨h1, -⟩
              · rw [hbs] at h1
                obtain rfl := Option.some.inj h1
                exact ⟨A, c, h2, trivial⟩
              · rw [hbs] at h1; cases h1
            obtain ⟨nb, hnb⟩ : ∃ nb, bs.length = nb := ⟨_, rfl⟩
            rw [hnb] at hpos ⊢
            clear hre hbs hnb
            go_wp2_with fail
            go_ret
            exact ⟨by simp [hpos], HBe.out⟩

        · intro wx sx
          unfold Oper.does
          go_simp
          refine ⟨RT1 w10 wx.heap.size s, ⟨sx.below ((Below.refl _ _).alloc sx.1 _), sx.1, by simp, heap_alloc_new wx _⟩, fun _ _ h hs => h.step hs, fun _ h => h.1, ?_⟩
          clear sx
          generalize wx.heap.size = N6
          clear wx
          go_simp
          refine M.call_ (i := 0) rfl (by kernel_rfl) (by kernel_rfl) ?_
          intro wz sz
          unfold Oper.does
          go_simp
          refine ⟨fun w' => RT w10 (.slice (some ⟨wz.heap.size, 0, none⟩) 0 0) [] w' ∧ RT1 w10 N6 s w' ∧ some N6 ≠ (Value.slice (some ⟨wz.heap.size, 0, none⟩) 0 0).ownBlock, ⟨⟨sz.1.below ((Below.refl _ _).alloc sz.1.1 _), World.ownsRow_made wz #[] 0 sz.1.1 (by unfold maxLen; omega) rfl⟩, sz.step (Save.of_below ((Below.refl _ _).alloc (Nat.le_refl _) _)), fun e => by have := sz.2.2.1; simp [Value.ownBlock] at e; omega⟩, fun _ _ h hs => ⟨h.1.step hs, h.2.1.step hs, h.2.2⟩, fun _ h => h.1.1, ?_⟩
          clear sz
          generalize wz.heap.size = N0
          clear wz
          go_simp
          refine M.call_ (i := 4) rfl (by kernel_rfl) (by kernel_rfl) ?_
          intro wy sy
          obtain ⟨v4, wn, hrun, hon, hgn⟩ := run_append_texts_any wy 30 w10.heap.size (.slice (some ⟨N0, 0, none⟩) 0 0) [] sy.1.2 none 0 LT ((HLT.out.below sy.1.1.2).more sy.1.1.1) (.inl ⟨rfl, rfl, List.eq_nil_of_length_eq_zero hlT⟩) (by simp only [List.length_append, List.length_cons, List.length_nil]; omega) sy.1.1.1
          rw [hlT] at hrun
          have hbn : M.Base w10 wn := ⟨Nat.le_trans sy.1.1.1 hgn.size, sy.1.1.2.grown hgn sy.1.1.1 (fun q hq => (sy.1.2.lt q hq).1)⟩
          have hkn : RT1 w10 N6 s wn := ⟨hbn, sy.2.1.2.1, Nat.lt_of_lt_of_le sy.2.1.2.2.1 hgn.size, (hgn.block N6 sy.2.1.2.2.1 sy.2.2).trans sy.2.1.2.2.2⟩
          refine does_append_any (vs := (.slice (some ⟨N0, 0, none⟩) 0 0)) (vx := .slice none 0 0) (v := v4) _ _ rfl rfl rfl hrun ?_
          refine ⟨fun w' => RT w10 v4 ([] ++ LT) w' ∧ RT1 w10 N6 s w', ⟨⟨hbn, hon⟩, hkn⟩, fun _ _ h hs => ⟨h.1.step hs, h.2.step hs⟩, fun _ h => h.1.1, ?_⟩
          clear hkn hbn hon hgn hrun sy wy wn
          go_simp

          refine M.call_ (i := 7) rfl (by kernel_rfl) (by kernel_rfl) ?_
          intro wy sy
          obtain ⟨v7, wn, hrun, hon, hgn⟩ := run_append_texts_any wy 30 w10.heap.size v4 ([] ++ LT) sy.1.2 (some ⟨N6, 0, none⟩) 1 [s] sy.2.tl (.inr ⟨N6, 0, rfl⟩) (by simp only [List.length_append, List.length_cons, List.length_nil]; omega) sy.1.1.1
          rw [show [s].length = 1 from rfl] at hrun
          have hbn : M.Base w10 wn := ⟨Nat.le_trans sy.1.1.1 hgn.size, sy.1.1.2.grown hgn sy.1.1.1 (fun q hq => (sy.1.2.lt q hq).1)⟩
          refine does_append_any (vs := v4) (vx := .slice (some ⟨N6, 0, none⟩) 1 1) (v := v7) _ _ rfl rfl rfl hrun ?_
          refine ⟨RT w10 v7 (([] ++ LT) ++ [s]), ⟨hbn, hon⟩, fun _ _ h hs => h.step hs, fun _ h => h.1, ?_⟩
          clear hbn hon hgn hrun sy wy wn
          go_simp
          refine M.call_ (i := 11) rfl (by kernel_rfl) (by kernel_rfl) ?_
          intro wy sy
          obtain ⟨v11, wn, hrun, hon, hgn⟩ := run_append_texts_any wy 30 w10.heap.size v7 (([] ++ LT) ++ [s]) sy.2 none 0 LD ((HLD.out.below sy.1.2).more sy.1.1) (.inl ⟨rfl, rfl, List.eq_nil_of_length_eq_zero hlD⟩) (by simp only [List.length_append, List.length_cons, List.length_nil]; omega) sy.1.1
          rw [hlD] at hrun
          have hbn : M.Base w10 wn := ⟨Nat.le_trans sy.1.1 hgn.size, sy.1.2.grown hgn sy.1.1 (fun q hq => (sy.2.lt q hq).1)⟩
          refine does_append_any (vs := v7) (vx := .slice none 0 0) (v := v11) _ _ rfl rfl rfl hrun ?_
          refine ⟨RT w10 v11 ((([] ++ LT) ++ [s]) ++ LD), ⟨hbn, hon⟩, fun _ _ h hs => h.step hs, fun _ h => h.1, ?_⟩
          clear hbn hon hgn hrun sy wy wn
          go_simp
          refine M.seg_ [12] 0 _ _ (M.Base.refl _) (by kernel_rfl) (by kernel_rfl) (by kernel_rfl) (by simp only [pickOps, mask, plain, List.getElem?_toArray, List.getElem?_cons_zero, List.getElem?_cons_succ, if_true, Bool.false_eq_true, if_false]; rfl) ?_
          repeat (go_big_quiet_step (fail))
          refine wpQuiet_nil ?_
          refine M.end_ (by kernel_rfl) ?_
          intro wc sc
          obtain ⟨hbd, hod⟩ := sc
          have hMl : Md.length ≤ 500 := by rw [← HM.out]; simp only [List.length_append, List.length_cons, List.length_nil]; omega
          have hBd : Below w.heap.size w wc := HBa.out.trans (hbd.2.mono HBa.out.size)
          replace hod : wc.ownsRow w10.heap.size 9 1 v11 Md.length (Md.map Value.string) := by
            rw [← HM.out]
            first | exact hod | simpa using hod
          obtain ⟨Ad, cd, rfl, -⟩ := own_shape_or hod
          have HOd := Lib.hid (TL.own hod)
          have HBd := Lib.hid hBd
          clear hod hbd hBd
          go_wp2_with fail
          refine (make_any Md Ad cd _ rfl wc HOd.out hMl HMs.out (HPt.out.on HBd.out)).mono ?_
          rintro e we ⟨hre, hbe⟩
          have HBe := Lib.hid (HBd.out.trans (hbe.mono HBd.out.size))
          clear hbe
          have hmk' : ∃ bs, makeI Md = some bs ∧ 0 < bs.length := HMx.out
          obtain ⟨bs, hbs, hpos⟩ := hmk'
          obtain ⟨Ae, ce, rfl, -⟩ : ∃ A c, e = .returned (.tuple #[.slice A bs.length c, .int .i64 0]) ∧ True := by
            rcases hre with ⟨b2, h1, A, c, h2, -⟩ | ⟨h1, -⟩
            · rw [hbs] at h1
              obtain rfl := Option.some.inj h1
              exact ⟨A, c, h2, trivial⟩
            · rw [hbs] at h1; cases h1
          obtain ⟨nb, hnb⟩ : ∃ nb, bs.length = nb := ⟨_, rfl⟩
          rw [hnb] at hpos ⊢
          clear hre hbs hnb
          go_wp2_with fail
          go_ret
          exact ⟨by simp [hpos], HBe.out⟩

      · obtain ⟨LT, hLT⟩ : ∃ L, Z.take k = L := ⟨_, rfl⟩
        obtain ⟨LD, hLD⟩ : ∃ L, Z.drop k = L := ⟨_, rfl⟩
        have hZk : Z = LT ++ LD := by rw [← hLT, ← hLD]; exact (List.take_append_drop k Z).symm
        have hlT : LT.length = k := by rw [← hLT, List.length_take]; omega
        have hlD : LD.length = Z.length - k := by rw [← hLD, List.length_drop]
        have hzl : Z.length ≤ 60 := by omega
        have hTT : TL w10 w10.heap.size (some ⟨b3, o3, none⟩) c3 LT := by
          have := HTa.out.sub 0 k (by omega)
          simp only [Nat.add_zero, Nat.sub_zero, List.drop_zero] at this
          rw [hLT] at this
          exact this
        obtain ⟨AK, hAK⟩ : ∃ AK, (if c3 = k then some (⟨b3, o3, none⟩ : Addr) else some ⟨b3, o3 + k, none⟩) = AK := ⟨_, rfl⟩
        have hAKs : ∃ b o, AK = some ⟨b, o, none⟩ := by
          rw [← hAK]
          split
          · exact ⟨_, _, rfl⟩
          · exact ⟨_, _, rfl⟩
        have hTD : TL w10 w10.heap.size AK (c3 - k) LD := by
          by_cases hkk : k = Z.length
          · exact ⟨by omega, by have := HTa.out.cap; omega, fun h0 => absurd h0 (by omega)⟩
          · have h1 := HTa.out.sub k (Z.length - k) (by omega)
            rw [List.take_of_length_le (by rw [List.length_drop]; exact Nat.le_refl _), hLD] at h1
            have h2 : AK = some ⟨b3, o3 + k, none⟩ := by rw [← hAK, if_neg (by have := HTa.out.le; omega)]
            rw [h2]
            exact h1
        obtain ⟨Md, hM⟩ : ∃ M, ((LT ++ [s]) ++ LD) = M := ⟨_, rfl⟩
        have hMs : ∀ t ∈ Md, t.size ≤ 100000 := by
          intro t ht
          rw [← hM] at ht
          have hsm := HSm.out
          rw [hZk] at hsm
          simp only [List.nil_append, List.mem_append, List.mem_cons, List.not_mem_nil, or_false] at ht hsm
          rcases ht with (h | rfl) | h
          · exact hsm t (.inl h)
          · omega
          · exact hsm t (.inr h)
        have HM := Lib.hid hM
        have HMs := Lib.hid hMs
        have hmkz := HMk.out
        rw [hZk] at hmkz
        have hMe : Md = LT ++ s :: LD := by rw [← hM]; simp
        have HMx := Lib.hid (show ∃ bs, makeI Md = some bs ∧ 0 < bs.length by
          obtain ⟨pp, qq, hp, hq, -⟩ := make_parts hmkz
          refine ⟨_, by rw [hMe]; exact make_with hp hq HX.out, ?_⟩
          have := bytesI_pos (readI_is HX.out).may
          simp only [List.length_append]
          omega)
        have HLT := Lib.hid hTT
        have HLD := Lib.hid hTD
        clear hTT hTD hM hMs hmkz hMe hZk hLT hLD
        have HAK := Lib.hid hAK
        clear hAK
        go_upto_region 12 with fail
        refine M.region_ (by kernel_rfl) ?_
        refine M.seg_ [1, 2, 3, 5, 8, 9, 10] 6 _ _ (M.Base.refl _) (by kernel_rfl) (by kernel_rfl) (by kernel_rfl) (by simp only [pickOps, mask, plain, List.getElem?_toArray, List.getElem?_cons_zero, List.getElem?_cons_succ, if_true, Bool.false_eq_true, if_false]; rfl) ?_
        repeat (go_big_quiet_step (fail))
        refine wpQuiet_nil ?_
        rw [HAK.out]
        refine M.fork_ (i := 0) (j := 6) rfl rfl (by kernel_rfl) (by kernel_rfl) (by kernel_rfl) ?_ ?_
        · intro wz sz
          unfold Oper.does
          go_simp
          refine ⟨RT w10 (.slice (some ⟨wz.heap.size, 0, none⟩) 0 0) [], ⟨sz.below ((Below.refl _ _).alloc sz.1 _), World.ownsRow_made wz #[] 0 sz.1 (by unfold maxLen; omega) rfl⟩, fun _ _ h hs => h.step hs, fun _ h => h.1, ?_⟩
          clear sz
          generalize wz.heap.size = N0
          clear wz
          go_simp
          refine M.fork_ (i := 4) (j := 6) rfl rfl (by kernel_rfl) (by kernel_rfl) (by kernel_rfl) ?_ ?_
          · intro wy sy
            obtain ⟨v4, wn, hrun, hon, hgn⟩ := run_append_texts_any wy 30 w10.heap.size (.slice (some ⟨N0, 0, none⟩) 0 0) [] sy.2 (some ⟨b3, o3, none⟩) c3 LT ((HLT.out.below sy.1.2).more sy.1.1) (.inr ⟨b3, o3, rfl⟩) (by simp only [List.length_append, List.length_cons, List.length_nil]; omega) sy.1.1
            rw [hlT] at hrun
            have hbn : M.Base w10 wn := ⟨Nat.le_trans sy.1.1 hgn.size, sy.1.2.grown hgn sy.1.1 (fun q hq => (sy.2.lt q hq).1)⟩
            refine does_append_any (vs := (.slice (some ⟨N0, 0, none⟩) 0 0)) (vx := .slice (some ⟨b3, o3, none⟩) k c3) (v := v4) _ _ rfl rfl rfl hrun ?_
            refine ⟨RT w10 v4 ([] ++ LT), ⟨hbn, hon⟩, fun _ _ h hs => h.step hs, fun _ h => h.1, ?_⟩
            clear hbn hon hgn hrun sy wy wn
            go_simp

            refine M.call_ (i := 6) rfl (by kernel_rfl) (by kernel_rfl) ?_
            intro wx sx
            unfold Oper.does
            go_simp
            refine ⟨fun w' => RT w10 v4 ([] ++ LT) w' ∧ RT1 w10 wx.heap.size s w', ⟨sx.step (Save.of_below ((Below.refl _ _).alloc (Nat.le_refl _) _)), ⟨sx.1.below ((Below.refl _ _).alloc sx.1.1 _), sx.1.1, by simp, heap_alloc_new wx _⟩⟩, fun _ _ h hs => ⟨h.1.step hs, h.2.step hs⟩, fun _ h => h.1.1, ?_⟩
            clear sx
            generalize wx.heap.size = N6
            clear wx
            go_simp
            refine M.call_ (i := 7) rfl (by kernel_rfl) (by kernel_rfl) ?_
            intro wy sy
            obtain ⟨v7, wn, hrun, hon, hgn⟩ := run_append_texts_any wy 30 w10.heap.size v4 ([] ++ LT) sy.1.2 (some ⟨N6, 0, none⟩) 1 [s] sy.2.tl (.inr ⟨N6, 0, rfl⟩) (by simp only [List.length_append, List.length_cons, List.length_nil]; omega) sy.1.1.1
            rw [show [s].length = 1 from rfl] at hrun
            have hbn : M.Base w10 wn := ⟨Nat.le_trans sy.1.1.1 hgn.size, sy.1.1.2.grown hgn sy.1.1.1 (fun q hq => (sy.1.2.lt q hq).1)⟩
            refine does_append_any (vs := v4) (vx := .slice (some ⟨N6, 0, none⟩) 1 1) (v := v7) _ _ rfl rfl rfl hrun ?_
            refine ⟨RT w10 v7 (([] ++ LT) ++ [s]), ⟨hbn, hon⟩, fun _ _ h hs => h.step hs, fun _ h => h.1, ?_⟩
            clear hbn hon hgn hrun sy wy wn
            go_simp
            refine M.call_ (i := 11) rfl (by kernel_rfl) (by kernel_rfl) ?_
            intro wy sy
            obtain ⟨v11, wn, hrun, hon, hgn⟩ := run_append_texts_any wy 30 w10.heap.size v7 (([] ++ LT) ++ [s]) sy.2 AK (c3 - k) LD ((HLD.out.below sy.1.2).more sy.1.1) (.inr hAKs) (by simp only [List.length_append, List.length_cons, List.length_nil]; omega) sy.1.1
            rw [hlD] at hrun
            have hbn : M.Base w10 wn := ⟨Nat.le_trans sy.1.1 hgn.size, sy.1.2.grown hgn sy.1.1 (fun q hq => (sy.2.lt q hq).1)⟩
            refine does_append_any (vs := v7) (vx := .slice AK (Z.length - k) (c3 - k)) (v := v11) _ _ rfl rfl rfl hrun ?_
            refine ⟨RT w10 v11 ((([] ++ LT) ++ [s]) ++ LD), ⟨hbn, hon⟩, fun _ _ h hs => h.step hs, fun _ h => h.1, ?_⟩
            clear hbn hon hgn hrun sy wy wn
            go_simp
            refine M.seg_ [12] 0 _ _ (M.Base.refl _) (by kernel_rfl) (by kernel_rfl) (by kernel_rfl) (by simp only [pickOps, mask, plain, List.getElem?_toArray, List.getElem?_cons_zero, List.getElem?_cons_succ, if_true, Bool.false_eq_true, if_false]; rfl) ?_
            repeat (go_big_quiet_step (fail))
            refine wpQuiet_nil ?_
            refine M.end_ (by kernel_rfl) ?_
            intro wc sc
            obtain ⟨hbd, hod⟩ := sc
            have hMl : Md.length ≤ 500 := by rw [← HM.out]; simp only [List.length_append, List.length_cons, List.length_nil]; omega
            have hBd : Below w.heap.size w wc := HBa.out.trans (hbd.2.mono HBa.out.size)
            replace hod : wc.ownsRow w10.heap.size 9 1 v11 Md.length (Md.map Value.string) := by
              rw [← HM.out]
              first | exact hod | simpa using hod
            obtain ⟨Ad, cd, rfl, -⟩ := own_shape_or hod
            have HOd := Lib.hid (TL.own hod)
            have HBd := Lib.hid hBd
            clear hod hbd hBd
            go_wp2_with fail
            refine (make_any Md Ad cd _ rfl wc HOd.out hMl HMs.out (HPt.out.on HBd.out)).mono ?_
            rintro e we ⟨hre, hbe⟩
            have HBe := Lib.hid (HBd.out.trans (hbe.mono HBd.out.size))
            clear hbe
            have hmk' : ∃ bs, makeI Md = some bs ∧ 0 < bs.length := HMx.out
            obtain ⟨bs, hbs, hpos⟩ := hmk'
            obtain ⟨Ae, ce, rfl, -⟩ : ∃ A c, e = .returned (.tuple #[.slice A bs.length c, .int .i64 0]) ∧ True := by
              rcases hre with ⟨b2, h1, A, c, h2, -⟩ | ⟨h1, -⟩
              · rw [hbs] at h1
                obtain rfl := Option.some.inj h1
                exact ⟨A, c, h2, trivial⟩
              · rw [hbs] at h1; cases h1
            obtain ⟨nb, hnb⟩ : ∃ nb, bs.length = nb := ⟨_, rfl⟩
            rw [hnb] at hpos ⊢
            clear hre hbs hnb
            go_wp2_with fail
            go_ret
            exact ⟨by simp [hpos], HBe.out⟩

          · intro wx sx
            unfold Oper.does
            go_simp
            refine ⟨fun w' => RT w10 (.slice (some ⟨N0, 0, none⟩) 0 0) [] w' ∧ RT1 w10 wx.heap.size s w' ∧ some wx.heap.size ≠ (Value.slice (some ⟨N0, 0, none⟩) 0 0).ownBlock, ⟨sx.step (Save.of_below ((Below.refl _ _).alloc (Nat.le_refl _) _)), ⟨sx.1.below ((Below.refl _ _).alloc sx.1.1 _), sx.1.1, by simp, heap_alloc_new wx _⟩, fun e => absurd (sx.2.lt _ e.symm).2 (by omega)⟩, fun _ _ h hs => ⟨h.1.step hs, h.2.1.step hs, h.2.2⟩, fun _ h => h.1.1, ?_⟩
            clear sx
            generalize wx.heap.size = N6
            clear wx
            go_simp
            refine M.call_ (i := 4) rfl (by kernel_rfl) (by kernel_rfl) ?_
            intro wy sy
            obtain ⟨v4, wn, hrun, hon, hgn⟩ := run_append_texts_any wy 30 w10.heap.size (.slice (some ⟨N0, 0, none⟩) 0 0) [] sy.1.2 (some ⟨b3, o3, none⟩) c3 LT ((HLT.out.below sy.1.1.2).more sy.1.1.1) (.inr ⟨b3, o3, rfl⟩) (by simp only [List.length_append, List.length_cons, List.length_nil]; omega) sy.1.1.1
            rw [hlT] at hrun
            have hbn : M.Base w10 wn := ⟨Nat.le_trans sy.1.1.1 hgn.size, sy.1.1.2.grown hgn sy.1.1.1 (fun q hq => (sy.1.2.lt q hq).1)⟩
            have hkn : RT1 w10 N6 s wn := ⟨hbn, sy.2.1.2.1, Nat.lt_of_lt_of_le sy.2.1.2.2.1 hgn.size, (hgn.block N6 sy.2.1.2.2.1 sy.2.2).trans sy.2.1.2.2.2⟩
            refine does_append_any (vs := (.slice (some ⟨N0, 0, none⟩) 0 0)) (vx := .slice (some ⟨b3, o3, none⟩) k c3) (v := v4) _ _ rfl rfl rfl hrun ?_
            refine ⟨fun w' => RT w10 v4 ([] ++ LT) w' ∧ RT1 w10 N6 s w', ⟨⟨hbn, hon⟩, hkn⟩, fun _ _ h hs => ⟨h.1.step hs, h.2.step hs⟩, fun _ h => h.1.1, ?_⟩
            clear hkn hbn hon hgn hrun sy wy wn
            go_simp

            refine M.call_ (i := 7) rfl (by kernel_rfl) (by kernel_rfl) ?_
            intro wy sy
            obtain ⟨v7, wn, hrun, hon, hgn⟩ := run_append_texts_any wy 30 w10.heap.size v4 ([] ++ LT) sy.1.2 (some ⟨N6, 0, none⟩) 1 [s] sy.2.tl (.inr ⟨N6, 0, rfl⟩) (by simp only [List.length_append, List.length_cons, List.length_nil]; omega) sy.1.1.1
            rw [show [s].length = 1 from rfl] at hrun
            have hbn : M.Base w10 wn := ⟨Nat.le_trans sy.1.1.1 hgn.size, sy.1.1.2.grown hgn sy.1.1.1 (fun q hq => (sy.1.2.lt q hq).1)⟩
            refine does_append_any (vs := v4) (vx := .slice (some ⟨N6, 0, none⟩) 1 1) (v := v7) _ _ rfl rfl rfl hrun ?_
            refine ⟨RT w10 v7 (([] ++ LT) ++ [s]), ⟨hbn, hon⟩, fun _ _ h hs => h.step hs, fun _ h => h.1, ?_⟩
            clear hbn hon hgn hrun sy wy wn
            go_simp
            refine M.call_ (i := 11) rfl (by kernel_rfl) (by kernel_rfl) ?_
            intro wy sy
            obtain ⟨v11, wn, hrun, hon, hgn⟩ := run_append_texts_any wy 30 w10.heap.size v7 (([] ++ LT) ++ [s]) sy.2 AK (c3 - k) LD ((HLD.out.below sy.1.2).more sy.1.1) (.inr hAKs) (by simp only [List.length_append, List.length_cons, List.length_nil]; omega) sy.1.1
            rw [hlD] at hrun
            have hbn : M.Base w10 wn := ⟨Nat.le_trans sy.1.1 hgn.size, sy.1.2.grown hgn sy.1.1 (fun q hq => (sy.2.lt q hq).1)⟩
            refine does_append_any (vs := v7) (vx := .slice AK (Z.length - k) (c3 - k)) (v := v11) _ _ rfl rfl rfl hrun ?_
            refine ⟨RT w10 v11 ((([] ++ LT) ++ [s]) ++ LD), ⟨hbn, hon⟩, fun _ _ h hs => h.step hs, fun _ h => h.1, ?_⟩
            clear hbn hon hgn hrun sy wy wn
            go_simp
            refine M.seg_ [12] 0 _ _ (M.Base.refl _) (by kernel_rfl) (by kernel_rfl) (by kernel_rfl) (by simp only [pickOps, mask, plain, List.getElem?_toArray, List.getElem?_cons_zero, List.getElem?_cons_succ, if_true, Bool.false_eq_true, if_false]; rfl) ?_
            repeat (go_big_quiet_step (fail))
            refine wpQuiet_nil ?_
            refine M.end_ (by kernel_rfl) ?_
            intro wc sc
            obtain ⟨hbd, hod⟩ := sc
            have hMl : Md.length ≤ 500 := by rw [← HM.out]; simp only [List.length_append, List.length_cons, List.length_nil]; omega
            have hBd : Below w.heap.size w wc := HBa.out.trans (hbd.2.mono HBa.out.size)
            replace hod : wc.ownsRow w10.heap.size 9 1 v11 Md.length (Md.map Value.string) := by
              rw [← HM.out]
              first | exact hod | simpa using hod
            obtain ⟨Ad, cd, rfl, -⟩ := own_shape_or hod
            have HOd := Lib.hid (TL.own hod)
            have HBd := Lib.hid hBd
            clear hod hbd hBd
            go_wp2_with fail
            refine (make_any Md Ad cd _ rfl wc HOd.out hMl HMs.out (HPt.out.on HBd.out)).mono ?_
            rintro e we ⟨hre, hbe⟩
            have HBe := Lib.hid (HBd.out.trans (hbe.mono HBd.out.size))
            clear hbe
            have hmk' : ∃ bs, makeI Md = some bs ∧ 0 < bs.length := HMx.out
            obtain ⟨bs, hbs, hpos⟩ := hmk'
            obtain ⟨Ae, ce, rfl, -⟩ : ∃ A c, e = .returned (.tuple #[.slice A bs.length c, .int .i64 0]) ∧ True := by
              rcases hre with ⟨b2, h1, A, c, h2, -⟩ | ⟨h1, -⟩
              · rw [hbs] at h1
                obtain rfl := Option.some.inj h1
                exact ⟨A, c, h2, trivial⟩
              · rw [hbs] at h1; cases h1
            obtain ⟨nb, hnb⟩ : ∃ nb, bs.length = nb := ⟨_, rfl⟩
            rw [hnb] at hpos ⊢
            clear hre hbs hnb
            go_wp2_with fail
            go_ret
            exact ⟨by simp [hpos], HBe.out⟩

        · intro wx sx
          unfold Oper.does
          go_simp
          refine ⟨RT1 w10 wx.heap.size s, ⟨sx.below ((Below.refl _ _).alloc sx.1 _), sx.1, by simp, heap_alloc_new wx _⟩, fun _ _ h hs => h.step hs, fun _ h => h.1, ?_⟩
          clear sx
          generalize wx.heap.size = N6
          clear wx
          go_simp
          refine M.call_ (i := 0) rfl (by kernel_rfl) (by kernel_rfl) ?_
          intro wz sz
          unfold Oper.does
          go_simp
          refine ⟨fun w' => RT w10 (.slice (some ⟨wz.heap.size, 0, none⟩) 0 0) [] w' ∧ RT1 w10 N6 s w' ∧ some N6 ≠ (Value.slice (some ⟨wz.heap.size, 0, none⟩) 0 0).ownBlock, ⟨⟨sz.1.below ((Below.refl _ _).alloc sz.1.1 _), World.ownsRow_made wz #[] 0 sz.1.1 (by unfold maxLen; omega) rfl⟩, sz.step (Save.of_below ((Below.refl _ _).alloc (Nat.le_refl _) _)), fun e => by have := sz.2.2.1; simp [Value.ownBlock] at e; omega⟩, fun _ _ h hs => ⟨h.1.step hs, h.2.1.step hs, h.2.2⟩, fun _ h => h.1.1, ?_⟩
          clear sz
          generalize wz.heap.size = N0
          clear wz
          go_simp
          refine M.call_ (i := 4) rfl (by kernel_rfl) (by kernel_rfl) ?_
          intro wy sy
          obtain ⟨v4, wn, hrun, hon, hgn⟩ := run_append_texts_any wy 30 w10.heap.size (.slice (some ⟨N0, 0, none⟩) 0 0) [] sy.1.2 (some ⟨b3, o3, none⟩) c3 LT ((HLT.out.below sy.1.1.2).more sy.1.1.1) (.inr ⟨b3, o3, rfl⟩) (by simp only [List.length_append, List.length_cons, List.length_nil]; omega) sy.1.1.1
          rw [hlT] at hrun
          have hbn : M.Base w10 wn := ⟨Nat.le_trans sy.1.1.1 hgn.size, sy.1.1.2.grown hgn sy.1.1.1 (fun q hq => (sy.1.2.lt q hq).1)⟩
          have hkn : RT1 w10 N6 s wn := ⟨hbn, sy.2.1.2.1, Nat.lt_of_lt_of_le sy.2.1.2.2.1 hgn.size, (hgn.block N6 sy.2.1.2.2.1 sy.2.2).trans sy.2.1.2.2.2⟩
          refine does_append_any (vs := (.slice (some ⟨N0, 0, none⟩) 0 0)) (vx := .slice (some ⟨b3, o3, none⟩) k c3) (v := v4) _ _ rfl rfl rfl hrun ?_
          refine ⟨fun w' => RT w10 v4 ([] ++ LT) w' ∧ RT1 w10 N6 s w', ⟨⟨hbn, hon⟩, hkn⟩, fun _ _ h hs => ⟨h.1.step hs, h.2.step hs⟩, fun _ h => h.1.1, ?_⟩
          clear hkn hbn hon hgn hrun sy wy wn
          go_simp

          refine M.call_ (i := 7) rfl (by kernel_rfl) (by kernel_rfl) ?_
          intro wy sy
          obtain ⟨v7, wn, hrun, hon, hgn⟩ := run_append_texts_any wy 30 w10.heap.size v4 ([] ++ LT) sy.1.2 (some ⟨N6, 0, none⟩) 1 [s] sy.2.tl (.inr ⟨N6, 0, rfl⟩) (by simp only [List.length_append, List.length_cons, List.length_nil]; omega) sy.1.1.1
          rw [show [s].length = 1 from rfl] at hrun
          have hbn : M.Base w10 wn := ⟨Nat.le_trans sy.1.1.1 hgn.size, sy.1.1.2.grown hgn sy.1.1.1 (fun q hq => (sy.1.2.lt q hq).1)⟩
          refine does_append_any (vs := v4) (vx := .slice (some ⟨N6, 0, none⟩) 1 1) (v := v7) _ _ rfl rfl rfl hrun ?_
          refine ⟨RT w10 v7 (([] ++ LT) ++ [s]), ⟨hbn, hon⟩, fun _ _ h hs => h.step hs, fun _ h => h.1, ?_⟩
          clear hbn hon hgn hrun sy wy wn
          go_simp
          refine M.call_ (i := 11) rfl (by kernel_rfl) (by kernel_rfl) ?_
          intro wy sy
          obtain ⟨v11, wn, hrun, hon, hgn⟩ := run_append_texts_any wy 30 w10.heap.size v7 (([] ++ LT) ++ [s]) sy.2 AK (c3 - k) LD ((HLD.out.below sy.1.2).more sy.1.1) (.inr hAKs) (by simp only [List.length_append, List.length_cons, List.length_nil]; omega) sy.1.1
          rw [hlD] at hrun
          have hbn : M.Base w10 wn := ⟨Nat.le_trans sy.1.1 hgn.size, sy.1.2.grown hgn sy.1.1 (fun q hq => (sy.2.lt q hq).1)⟩
          refine does_append_any (vs := v7) (vx := .slice AK (Z.length - k) (c3 - k)) (v := v11) _ _ rfl rfl rfl hrun ?_
          refine ⟨RT w10 v11 ((([] ++ LT) ++ [s]) ++ LD), ⟨hbn, hon⟩, fun _ _ h hs => h.step hs, fun _ h => h.1, ?_⟩
          clear hbn hon hgn hrun sy wy wn
          go_simp
          refine M.seg_ [12] 0 _ _ (M.Base.refl _) (by kernel_rfl) (by kernel_rfl) (by kernel_rfl) (by simp only [pickOps, mask, plain, List.getElem?_toArray, List.getElem?_cons_zero, List.getElem?_cons_succ, if_true, Bool.false_eq_true, if_false]; rfl) ?_
          repeat (go_big_quiet_step (fail))
          refine wpQuiet_nil ?_
          refine M.end_ (by kernel_rfl) ?_
          intro wc sc
          obtain ⟨hbd, hod⟩ := sc
          have hMl : Md.length ≤ 500 := by rw [← HM.out]; simp only [List.length_append, List.length_cons, List.length_nil]; omega
          have hBd : Below w.heap.size w wc := HBa.out.trans (hbd.2.mono HBa.out.size)
          replace hod : wc.ownsRow w10.heap.size 9 1 v11 Md.length (Md.map Value.string) := by
            rw [← HM.out]
            first | exact hod | simpa using hod
          obtain ⟨Ad, cd, rfl, -⟩ := own_shape_or hod
          have HOd := Lib.hid (TL.own hod)
          have HBd := Lib.hid hBd
          clear hod hbd hBd
          go_wp2_with fail
          refine (make_any Md Ad cd _ rfl wc HOd.out hMl HMs.out (HPt.out.on HBd.out)).mono ?_
          rintro e we ⟨hre, hbe⟩
          have HBe := Lib.hid (HBd.out.trans (hbe.mono HBd.out.size))
          clear hbe
          have hmk' : ∃ bs, makeI Md = some bs ∧ 0 < bs.length := HMx.out
          obtain ⟨bs, hbs, hpos⟩ := hmk'
          obtain ⟨Ae, ce, rfl, -⟩ : ∃ A c, e = .returned (.tuple #[.slice A bs.length c, .int .i64 0]) ∧ True := by
            rcases hre with ⟨b2, h1, A, c, h2, -⟩ | ⟨h1, -⟩
            · rw [hbs] at h1
              obtain rfl := Option.some.inj h1
              exact ⟨A, c, h2, trivial⟩
            · rw [hbs] at h1; cases h1
          obtain ⟨nb, hnb⟩ : ∃ nb, bs.length = nb := ⟨_, rfl⟩
          rw [hnb] at hpos ⊢
          clear hre hbs hnb
          go_wp2_with fail
          go_ret
          exact ⟨by simp [hpos], HBe.out⟩

    · have HC := Lib.hid hc
      have HX := Lib.hid hx
      clear hc hx
      go_wp2_with fail
      refine HC.out.mono ?_
      rintro e w10 ⟨rfl, hb10⟩
      have HBa := Lib.hid (HB9.out.trans (hb10.mono HB9.out.size))
      have HTa := Lib.hid ((HT9.out.below hb10).more hb10.size)
      clear hb10
      go_wp2_with fail
      refine (pick_in at9 _ w10 wat (by omega) (by omega)).mono ?_
      rintro e wq ⟨⟨k, rfl, hk⟩, rfl⟩
      have hkz : k ≤ Z.length := by omega
      have hkc : k ≤ c3 := by have := HTa.out.le; omega
      rcases HA3.out with ⟨rfl, rfl, rfl⟩ | ⟨b3, o3, rfl⟩
      · obtain rfl : k = 0 := by simpa using hkz
        obtain ⟨LT, hLT⟩ : ∃ L : List ByteArray, [] = L := ⟨_, rfl⟩
        obtain ⟨LD, hLD⟩ : ∃ L : List ByteArray, [] = L := ⟨_, rfl⟩
        have hZk : ([] : List ByteArray) = LT ++ LD := by rw [← hLT, ← hLD]; rfl
        have hlT : LT.length = 0 := by rw [← hLT]; rfl
        have hlD : LD.length = 0 := by rw [← hLD]; rfl
        have hTT : TL w10 w10.heap.size none 0 LT := ⟨by omega, by unfold maxLen; omega, fun h0 => absurd h0 (by omega)⟩
        have hTD : TL w10 w10.heap.size none 0 LD := ⟨by omega, by unfold maxLen; omega, fun h0 => absurd h0 (by omega)⟩
        obtain ⟨Md, hM⟩ : ∃ M, ((LT ++ [s]) ++ LD) = M := ⟨_, rfl⟩
        have hMs : ∀ t ∈ Md, t.size ≤ 100000 := by
          intro t ht
          rw [← hM] at ht
          have hsm := HSm.out
          rw [hZk] at hsm
          simp only [List.nil_append, List.mem_append, List.mem_cons, List.not_mem_nil, or_false] at ht hsm
          rcases ht with (h | rfl) | h
          · exact hsm t (.inl h)
          · omega
          · exact hsm t (.inr h)
        have HM := Lib.hid hM
        have HMs := Lib.hid hMs
        have hmkz := HMk.out
        rw [hZk] at hmkz
        have hMe : Md = LT ++ s :: LD := by rw [← hM]; simp
        have HMx := Lib.hid (show makeI Md = none by rw [hMe]; exact makeI_odd HX.out)
        have HLT := Lib.hid hTT
        have HLD := Lib.hid hTD
        clear hTT hTD hM hMs hmkz hMe hZk hLT hLD
        go_upto_region 12 with fail
        refine M.region_ (by kernel_rfl) ?_
        refine M.seg_ [1, 2, 3, 5, 8, 9, 10] 6 _ _ (M.Base.refl _) (by kernel_rfl) (by kernel_rfl) (by kernel_rfl) (by simp only [pickOps, mask, plain, List.getElem?_toArray, List.getElem?_cons_zero, List.getElem?_cons_succ, if_true, Bool.false_eq_true, if_false]; rfl) ?_
        repeat (go_big_quiet_step (fail))
        refine wpQuiet_nil ?_
        refine M.fork_ (i := 0) (j := 6) rfl rfl (by kernel_rfl) (by kernel_rfl) (by kernel_rfl) ?_ ?_
        · intro wz sz
          unfold Oper.does
          go_simp
          refine ⟨RT w10 (.slice (some ⟨wz.heap.size, 0, none⟩) 0 0) [], ⟨sz.below ((Below.refl _ _).alloc sz.1 _), World.ownsRow_made wz #[] 0 sz.1 (by unfold maxLen; omega) rfl⟩, fun _ _ h hs => h.step hs, fun _ h => h.1, ?_⟩
          clear sz
          generalize wz.heap.size = N0
          clear wz
          go_simp
          refine M.fork_ (i := 4) (j := 6) rfl rfl (by kernel_rfl) (by kernel_rfl) (by kernel_rfl) ?_ ?_
          · intro wy sy
            obtain ⟨v4, wn, hrun, hon, hgn⟩ := run_append_texts_any wy 30 w10.heap.size (.slice (some ⟨N0, 0, none⟩) 0 0) [] sy.2 none 0 LT ((HLT.out.below sy.1.2).more sy.1.1) (.inl ⟨rfl, rfl, List.eq_nil_of_length_eq_zero hlT⟩) (by simp only [List.length_append, List.length_cons, List.length_nil]; omega) sy.1.1
            rw [hlT] at hrun
            have hbn : M.Base w10 wn := ⟨Nat.le_trans sy.1.1 hgn.size, sy.1.2.grown hgn sy.1.1 (fun q hq => (sy.2.lt q hq).1)⟩
            refine does_append_any (vs := (.slice (some ⟨N0, 0, none⟩) 0 0)) (vx := .slice none 0 0) (v := v4) _ _ rfl rfl rfl hrun ?_
            refine ⟨RT w10 v4 ([] ++ LT), ⟨hbn, hon⟩, fun _ _ h hs => h.step hs, fun _ h => h.1, ?_⟩
            clear hbn hon hgn hrun sy wy wn
            go_simp

            refine M.call_ (i := 6) rfl (by kernel_rfl) (by kernel_rfl) ?_
            intro wx sx
            unfold Oper.does
            go_simp
            refine ⟨fun w' => RT w10 v4 ([] ++ LT) w' ∧ RT1 w10 wx.heap.size s w', ⟨sx.step (Save.of_below ((Below.refl _ _).alloc (Nat.le_refl _) _)), ⟨sx.1.below ((Below.refl _ _).alloc sx.1.1 _), sx.1.1, by simp, heap_alloc_new wx _⟩⟩, fun _ _ h hs => ⟨h.1.step hs, h.2.step hs⟩, fun _ h => h.1.1, ?_⟩
            clear sx
            generalize wx.heap.size = N6
            clear wx
            go_simp
            refine M.call_ (i := 7) rfl (by kernel_rfl) (by kernel_rfl) ?_
            intro wy sy
            obtain ⟨v7, wn, hrun, hon, hgn⟩ := run_append_texts_any wy 30 w10.heap.size v4 ([] ++ LT) sy.1.2 (some ⟨N6, 0, none⟩) 1 [s] sy.2.tl (.inr ⟨N6, 0, rfl⟩) (by simp only [List.length_append, List.length_cons, List.length_nil]; omega) sy.1.1.1
            rw [show [s].length = 1 from rfl] at hrun
            have hbn : M.Base w10 wn := ⟨Nat.le_trans sy.1.1.1 hgn.size, sy.1.1.2.grown hgn sy.1.1.1 (fun q hq => (sy.1.2.lt q hq).1)⟩
            refine does_append_any (vs := v4) (vx := .slice (some ⟨N6, 0, none⟩) 1 1) (v := v7) _ _ rfl rfl rfl hrun ?_
            refine ⟨RT w10 v7 (([] ++ LT) ++ [s]), ⟨hbn, hon⟩, fun _ _ h hs => h.step hs, fun _ h => h.1, ?_⟩
            clear hbn hon hgn hrun sy wy wn
            go_simp
            refine M.call_ (i := 11) rfl (by kernel_rfl) (by kernel_rfl) ?_
            intro wy sy
            obtain ⟨v11, wn, hrun, hon, hgn⟩ := run_append_texts_any wy 30 w10.heap.size v7 (([] ++ LT) ++ [s]) sy.2 none 0 LD ((HLD.out.below sy.1.2).more sy.1.1) (.inl ⟨rfl, rfl, List.eq_nil_of_length_eq_zero hlD⟩) (by simp only [List.length_append, List.length_cons, List.length_nil]; omega) sy.1.1
            rw [hlD] at hrun
            have hbn : M.Base w10 wn := ⟨Nat.le_trans sy.1.1 hgn.size, sy.1.2.grown hgn sy.1.1 (fun q hq => (sy.2.lt q hq).1)⟩
            refine does_append_any (vs := v7) (vx := .slice none 0 0) (v := v11) _ _ rfl rfl rfl hrun ?_
            refine ⟨RT w10 v11 ((([] ++ LT) ++ [s]) ++ LD), ⟨hbn, hon⟩, fun _ _ h hs => h.step hs, fun _ h => h.1, ?_⟩
            clear hbn hon hgn hrun sy wy wn
            go_simp
            refine M.seg_ [12] 0 _ _ (M.Base.refl _) (by kernel_rfl) (by kernel_rfl) (by kernel_rfl) (by simp only [pickOps, mask, plain, List.getElem?_toArray, List.getElem?_cons_zero, List.getElem?_cons_succ, if_true, Bool.false_eq_true, if_false]; rfl) ?_
            repeat (go_big_quiet_step (fail))
            refine wpQuiet_nil ?_
            refine M.end_ (by kernel_rfl) ?_
            intro wc sc
            obtain ⟨hbd, hod⟩ := sc
            have hMl : Md.length ≤ 500 := by rw [← HM.out]; simp only [List.length_append, List.length_cons, List.length_nil]; omega
            have hBd : Below w.heap.size w wc := HBa.out.trans (hbd.2.mono HBa.out.size)
            replace hod : wc.ownsRow w10.heap.size 9 1 v11 Md.length (Md.map Value.string) := by
              rw [← HM.out]
              first | exact hod | simpa using hod
            obtain ⟨Ad, cd, rfl, -⟩ := own_shape_or hod
            have HOd := Lib.hid (TL.own hod)
            have HBd := Lib.hid hBd
            clear hod hbd hBd
            go_wp2_with fail
            refine (make_any Md Ad cd _ rfl wc HOd.out hMl HMs.out (HPt.out.on HBd.out)).mono ?_
            rintro e we ⟨hre, hbe⟩
            have HBe := Lib.hid (HBd.out.trans (hbe.mono HBd.out.size))
            clear hbe
            have hmk' : makeI Md = none := HMx.out
            obtain rfl : e = .returned (.tuple #[.slice none 0 0, .int .i64 11]) := by
              rcases hre with ⟨b2, h1, -⟩ | ⟨-, h2⟩
              · rw [hmk'] at h1; cases h1
              · exact h2
            clear hre hmk'
            go_wp2_with fail
            go_ret
            exact ⟨rfl, HBe.out⟩

          · intro wx sx
            unfold Oper.does
            go_simp
            refine ⟨fun w' => RT w10 (.slice (some ⟨N0, 0, none⟩) 0 0) [] w' ∧ RT1 w10 wx.heap.size s w' ∧ some wx.heap.size ≠ (Value.slice (some ⟨N0, 0, none⟩) 0 0).ownBlock, ⟨sx.step (Save.of_below ((Below.refl _ _).alloc (Nat.le_refl _) _)), ⟨sx.1.below ((Below.refl _ _).alloc sx.1.1 _), sx.1.1, by simp, heap_alloc_new wx _⟩, fun e => absurd (sx.2.lt _ e.symm).2 (by omega)⟩, fun _ _ h hs => ⟨h.1.step hs, h.2.1.step hs, h.2.2⟩, fun _ h => h.1.1, ?_⟩
            clear sx
            generalize wx.heap.size = N6
            clear wx
            go_simp
            refine M.call_ (i := 4) rfl (by kernel_rfl) (by kernel_rfl) ?_
            intro wy sy
            obtain ⟨v4, wn, hrun, hon, hgn⟩ := run_append_texts_any wy 30 w10.heap.size (.slice (some ⟨N0, 0, none⟩) 0 0) [] sy.1.2 none 0 LT ((HLT.out.below sy.1.1.2).more sy.1.1.1) (.inl ⟨rfl, rfl, List.eq_nil_of_length_eq_zero hlT⟩) (by simp only [List.length_append, List.length_cons, List.length_nil]; omega) sy.1.1.1
            rw [hlT] at hrun
            have hbn : M.Base w10 wn := ⟨Nat.le_trans sy.1.1.1 hgn.size, sy.1.1.2.grown hgn sy.1.1.1 (fun q hq => (sy.1.2.lt q hq).1)⟩
            have hkn : RT1 w10 N6 s wn := ⟨hbn, sy.2.1.2.1, Nat.lt_of_lt_of_le sy.2.1.2.2.1 hgn.size, (hgn.block N6 sy.2.1.2.2.1 sy.2.2).trans sy.2.1.2.2.2⟩
            refine does_append_any (vs := (.slice (some ⟨N0, 0, none⟩) 0 0)) (vx := .slice none 0 0) (v := v4) _ _ rfl rfl rfl hrun ?_
            refine ⟨fun w' => RT w10 v4 ([] ++ LT) w' ∧ RT1 w10 N6 s w', ⟨⟨hbn, hon⟩, hkn⟩, fun _ _ h hs => ⟨h.1.step hs, h.2.step hs⟩, fun _ h => h.1.1, ?_⟩
            clear hkn hbn hon hgn hrun sy wy wn
            go_simp

            refine M.call_ (i := 7) rfl (by kernel_rfl) (by kernel_rfl) ?_
            intro wy sy
            obtain ⟨v7, wn, hrun, hon, hgn⟩ := run_append_texts_any wy 30 w10.heap.size v4 ([] ++ LT) sy.1.2 (some ⟨N6, 0, none⟩) 1 [s] sy.2.tl (.inr ⟨N6, 0, rfl⟩) (by simp only [List.length_append, List.length_cons, List.length_nil]; omega) sy.1.1.1
            rw [show [s].length = 1 from rfl] at hrun
            have hbn : M.Base w10 wn := ⟨Nat.le_trans sy.1.1.1 hgn.size, sy.1.1.2.grown hgn sy.1.1.1 (fun q hq => (sy.1.2.lt q hq).1)⟩
            refine does_append_any (vs := v4) (vx := .slice (some ⟨N6, 0, none⟩) 1 1) (v := v7) _ _ rfl rfl rfl hrun ?_
            refine ⟨RT w10 v7 (([] ++ LT) ++ [s]), ⟨hbn, hon⟩, fun _ _ h hs => h.step hs, fun _ h => h.1, ?_⟩
            clear hbn hon hgn hrun sy wy wn
            go_simp
            refine M.call_ (i := 11) rfl (by kernel_rfl) (by kernel_rfl) ?_
            intro wy sy
            obtain ⟨v11, wn, hrun, hon, hgn⟩ := run_append_texts_any wy 30 w10.heap.size v7 (([] ++ LT) ++ [s]) sy.2 none 0 LD ((HLD.out.below sy.1.2).more sy.1.1) (.inl ⟨rfl, rfl, List.eq_nil_of_length_eq_zero hlD⟩) (by simp only [List.length_append, List.length_cons, List.length_nil]; omega) sy.1.1
            rw [hlD] at hrun
            have hbn : M.Base w10 wn := ⟨Nat.le_trans sy.1.1 hgn.size, sy.1.2.grown hgn sy.1.1 (fun q hq => (sy.2.lt q hq).1)⟩
            refine does_append_any (vs := v7) (vx := .slice none 0 0) (v := v11) _ _ rfl rfl rfl hrun ?_
            refine ⟨RT w10 v11 ((([] ++ LT) ++ [s]) ++ LD), ⟨hbn, hon⟩, fun _ _ h hs => h.step hs, fun _ h => h.1, ?_⟩
            clear hbn hon hgn hrun sy wy wn
            go_simp
            refine M.seg_ [12] 0 _ _ (M.Base.refl _) (by kernel_rfl) (by kernel_rfl) (by kernel_rfl) (by simp only [pickOps, mask, plain, List.getElem?_toArray, List.getElem?_cons_zero, List.getElem?_cons_succ, if_true, Bool.false_eq_true, if_false]; rfl) ?_
            repeat (go_big_quiet_step (fail))
            refine wpQuiet_nil ?_
            refine M.end_ (by kernel_rfl) ?_
            intro wc sc
            obtain ⟨hbd, hod⟩ := sc
            have hMl : Md.length ≤ 500 := by rw [← HM.out]; simp only [List.length_append, List.length_cons, List.length_nil]; omega
            have hBd : Below w.heap.size w wc := HBa.out.trans (hbd.2.mono HBa.out.size)
            replace hod : wc.ownsRow w10.heap.size 9 1 v11 Md.length (Md.map Value.string) := by
              rw [← HM.out]
              first | exact hod | simpa using hod
            obtain ⟨Ad, cd, rfl, -⟩ := own_shape_or hod
            have HOd := Lib.hid (TL.own hod)
            have HBd := Lib.hid hBd
            clear hod hbd hBd
            go_wp2_with fail
            refine (make_any Md Ad cd _ rfl wc HOd.out hMl HMs.out (HPt.out.on HBd.out)).mono ?_
            rintro e we ⟨hre, hbe⟩
            have HBe := Lib.hid (HBd.out.trans (hbe.mono HBd.out.size))
            clear hbe
            have hmk' : makeI Md = none := HMx.out
            obtain rfl : e = .returned (.tuple #[.slice none 0 0, .int .i64 11]) := by
              rcases hre with ⟨b2, h1, -⟩ | ⟨-, h2⟩
              · rw [hmk'] at h1; cases h1
              · exact h2
            clear hre hmk'
            go_wp2_with fail
            go_ret
            exact ⟨rfl, HBe.out⟩

        · intro wx sx
          unfold Oper.does
          go_simp
          refine ⟨RT1 w10 wx.heap.size s, ⟨sx.below ((Below.refl _ _).alloc sx.1 _), sx.1, by simp, heap_alloc_new wx _⟩, fun _ _ h hs => h.step hs, fun _ h => h.1, ?_⟩
          clear sx
          generalize wx.heap.size = N6
          clear wx
          go_simp
          refine M.call_ (i := 0) rfl (by kernel_rfl) (by kernel_rfl) ?_
          intro wz sz
          unfold Oper.does
          go_simp
          refine ⟨fun w' => RT w10 (.slice (some ⟨wz.heap.size, 0, none⟩) 0 0) [] w' ∧ RT1 w10 N6 s w' ∧ some N6 ≠ (Value.slice (some ⟨wz.heap.size, 0, none⟩) 0 0).ownBlock, ⟨⟨sz.1.below ((Below.refl _ _).alloc sz.1.1 _), World.ownsRow_made wz #[] 0 sz.1.1 (by unfold maxLen; omega) rfl⟩, sz.step (Save.of_below ((Below.refl _ _).alloc (Nat.le_refl _) _)), fun e => by have := sz.2.2.1; simp [Value.ownBlock] at e; omega⟩, fun _ _ h hs => ⟨h.1.step hs, h.2.1.step hs, h.2.2⟩, fun _ h => h.1.1, ?_⟩
          clear sz
          generalize wz.heap.size = N0
          clear wz
          go_simp
          refine M.call_ (i := 4) rfl (by kernel_rfl) (by kernel_rfl) ?_
          intro wy sy
          obtain ⟨v4, wn, hrun, hon, hgn⟩ := run_append_texts_any wy 30 w10.heap.size (.slice (some ⟨N0, 0, none⟩) 0 0) [] sy.1.2 none 0 LT ((HLT.out.below sy.1.1.2).more sy.1.1.1) (.inl ⟨rfl, rfl, List.eq_nil_of_length_eq_zero hlT⟩) (by simp only [List.length_append, List.length_cons, List.length_nil]; omega) sy.1.1.1
          rw [hlT] at hrun
          have hbn : M.Base w10 wn := ⟨Nat.le_trans sy.1.1.1 hgn.size, sy.1.1.2.grown hgn sy.1.1.1 (fun q hq => (sy.1.2.lt q hq).1)⟩
          have hkn : RT1 w10 N6 s wn := ⟨hbn, sy.2.1.2.1, Nat.lt_of_lt_of_le sy.2.1.2.2.1 hgn.size, (hgn.block N6 sy.2.1.2.2.1 sy.2.2).trans sy.2.1.2.2.2⟩
          refine does_append_any (vs := (.slice (some ⟨N0, 0, none⟩) 0 0)) (vx := .slice none 0 0) (v := v4) _ _ rfl rfl rfl hrun ?_
          refine ⟨fun w' => RT w10 v4 ([] ++ LT) w' ∧ RT1 w10 N6 s w', ⟨⟨hbn, hon⟩, hkn⟩, fun _ _ h hs => ⟨h.1.step hs, h.2.step hs⟩, fun _ h => h.1.1, ?_⟩
          clear hkn hbn hon hgn hrun sy wy wn
          go_simp

          refine M.call_ (i := 7) rfl (by kernel_rfl) (by kernel_rfl) ?_
          intro wy sy
          obtain ⟨v7, wn, hrun, hon, hgn⟩ := run_append_texts_any wy 30 w10.heap.size v4 ([] ++ LT) sy.1.2 (some ⟨N6, 0, none⟩) 1 [s] sy.2.tl (.inr ⟨N6, 0, rfl⟩) (by simp only [List.length_append, List.length_cons, List.length_nil]; omega) sy.1.1.1
          rw [show [s].length = 1 from rfl] at hrun
          have hbn : M.Base w10 wn := ⟨Nat.le_trans sy.1.1.1 hgn.size, sy.1.1.2.grown hgn sy.1.1.1 (fun q hq => (sy.1.2.lt q hq).1)⟩
          refine does_append_any (vs := v4) (vx := .slice (some ⟨N6, 0, none⟩) 1 1) (v := v7) _ _ rfl rfl rfl hrun ?_
          refine ⟨RT w10 v7 (([] ++ LT) ++ [s]), ⟨hbn, hon⟩, fun _ _ h hs => h.step hs, fun _ h => h.1, ?_⟩
          clear hbn hon hgn hrun sy wy wn
          go_simp
          refine M.call_ (i := 11) rfl (by kernel_rfl) (by kernel_rfl) ?_
          intro wy sy
          obtain ⟨v11, wn, hrun, hon, hgn⟩ := run_append_texts_any wy 30 w10.heap.size v7 (([] ++ LT) ++ [s]) sy.2 none 0 LD ((HLD.out.below sy.1.2).more sy.1.1) (.inl ⟨rfl, rfl, List.eq_nil_of_length_eq_zero hlD⟩) (by simp only [List.length_append, List.length_cons, List.length_nil]; omega) sy.1.1
          rw [hlD] at hrun
          have hbn : M.Base w10 wn := ⟨Nat.le_trans sy.1.1 hgn.size, sy.1.2.grown hgn sy.1.1 (fun q hq => (sy.2.lt q hq).1)⟩
          refine does_append_any (vs := v7) (vx := .slice none 0 0) (v := v11) _ _ rfl rfl rfl hrun ?_
          refine ⟨RT w10 v11 ((([] ++ LT) ++ [s]) ++ LD), ⟨hbn, hon⟩, fun _ _ h hs => h.step hs, fun _ h => h.1, ?_⟩
          clear hbn hon hgn hrun sy wy wn
          go_simp
          refine M.seg_ [12] 0 _ _ (M.Base.refl _) (by kernel_rfl) (by kernel_rfl) (by kernel_rfl) (by simp only [pickOps, mask, plain, List.getElem?_toArray, List.getElem?_cons_zero, List.getElem?_cons_succ, if_true, Bool.false_eq_true, if_false]; rfl) ?_
          repeat (go_big_quiet_step (fail))
          refine wpQuiet_nil ?_
          refine M.end_ (by kernel_rfl) ?_
          intro wc sc
          obtain ⟨hbd, hod⟩ := sc
          have hMl : Md.length ≤ 500 := by rw [← HM.out]; simp only [List.length_append, List.length_cons, List.length_nil]; omega
          have hBd : Below w.heap.size w wc := HBa.out.trans (hbd.2.mono HBa.out.size)
          replace hod : wc.ownsRow w10.heap.size 9 1 v11 Md.length (Md.map Value.string) := by
            rw [← HM.out]
            first | exact hod | simpa using hod
          obtain ⟨Ad, cd, rfl, -⟩ := own_shape_or hod
          have HOd := Lib.hid (TL.own hod)
          have HBd := Lib.hid hBd
          clear hod hbd hBd
          go_wp2_with fail
          refine (make_any Md Ad cd _ rfl wc HOd.out hMl HMs.out (HPt.out.on HBd.out)).mono ?_
          rintro e we ⟨hre, hbe⟩
          have HBe := Lib.hid (HBd.out.trans (hbe.mono HBd.out.size))
          clear hbe
          have hmk' : makeI Md = none := HMx.out
          obtain rfl : e = .returned (.tuple #[.slice none 0 0, .int .i64 11]) := by
            rcases hre with ⟨b2, h1, -⟩ | ⟨-, h2⟩
            · rw [hmk'] at h1; cases h1
            · exact h2
          clear hre hmk'
          go_wp2_with fail
          go_ret
          exact ⟨rfl, HBe.out⟩

      · obtain ⟨LT, hLT⟩ : ∃ L, Z.take k = L := ⟨_, rfl⟩
        obtain ⟨LD, hLD⟩ : ∃ L, Z.drop k = L := ⟨_, rfl⟩
        have hZk : Z = LT ++ LD := by rw [← hLT, ← hLD]; exact (List.take_append_drop k Z).symm
        have hlT : LT.length = k := by rw [← hLT, List.length_take]; omega
        have hlD : LD.length = Z.length - k := by rw [← hLD, List.length_drop]
        have hzl : Z.length ≤ 60 := by omega
        have hTT : TL w10 w10.heap.size (some ⟨b3, o3, none⟩) c3 LT := by
          have := HTa.out.sub 0 k (by omega)
          simp only [Nat.add_zero, Nat.sub_zero, List.drop_zero] at this
          rw [hLT] at this
          exact this
        obtain ⟨AK, hAK⟩ : ∃ AK, (if c3 = k then some (⟨b3, o3, none⟩ : Addr) else some ⟨b3, o3 + k, none⟩) = AK := ⟨_, rfl⟩
        have hAKs : ∃ b o, AK = some ⟨b, o, none⟩ := by
          rw [← hAK]
          split
          · exact ⟨_, _, rfl⟩
          · exact ⟨_, _, rfl⟩
        have hTD : TL w10 w10.heap.size AK (c3 - k) LD := by
          by_cases hkk : k = Z.length
          · exact ⟨by omega, by have := HTa.out.cap; omega, fun h0 => absurd h0 (by omega)⟩
          · have h1 := HTa.out.sub k (Z.length - k) (by omega)
            rw [List.take_of_length_le (by rw [List.length_drop]; exact Nat.le_refl _), hLD] at h1
            have h2 : AK = some ⟨b3, o3 + k, none⟩ := by rw [← hAK, if_neg (by have := HTa.out.le; omega)]
            rw [h2]
            exact h1
        obtain ⟨Md, hM⟩ : ∃ M, ((LT ++ [s]) ++ LD) = M := ⟨_, rfl⟩
        have hMs : ∀ t ∈ Md, t.size ≤ 100000 := by
          intro t ht
          rw [← hM] at ht
          have hsm := HSm.out
          rw [hZk] at hsm
          simp only [List.nil_append, List.mem_append, List.mem_cons, List.not_mem_nil, or_false] at ht hsm
          rcases ht with (h | rfl) | h
          · exact hsm t (.inl h)
          · omega
          · exact hsm t (.inr h)
        have HM := Lib.hid hM
        have HMs := Lib.hid hMs
        have hmkz := HMk.out
        rw [hZk] at hmkz
        have hMe : Md = LT ++ s :: LD := by rw [← hM]; simp
        have HMx := Lib.hid (show makeI Md = none by rw [hMe]; exact makeI_odd HX.out)
        have HLT := Lib.hid hTT
        have HLD := Lib.hid hTD
        clear hTT hTD hM hMs hmkz hMe hZk hLT hLD
        have HAK := Lib.hid hAK
        clear hAK
        go_upto_region 12 with fail
        refine M.region_ (by kernel_rfl) ?_
        refine M.seg_ [1, 2, 3, 5, 8, 9, 10] 6 _ _ (M.Base.refl _) (by kernel_rfl) (by kernel_rfl) (by kernel_rfl) (by simp only [pickOps, mask, plain, List.getElem?_toArray, List.getElem?_cons_zero, List.getElem?_cons_succ, if_true, Bool.false_eq_true, if_false]; rfl) ?_
        repeat (go_big_quiet_step (fail))
        refine wpQuiet_nil ?_
        rw [HAK.out]
        refine M.fork_ (i := 0) (j := 6) rfl rfl (by kernel_rfl) (by kernel_rfl) (by kernel_rfl) ?_ ?_
        · intro wz sz
          unfold Oper.does
          go_simp
          refine ⟨RT w10 (.slice (some ⟨wz.heap.size, 0, none⟩) 0 0) [], ⟨sz.below ((Below.refl _ _).alloc sz.1 _), World.ownsRow_made wz #[] 0 sz.1 (by unfold maxLen; omega) rfl⟩, fun _ _ h hs => h.step hs, fun _ h => h.1, ?_⟩
          clear sz
          generalize wz.heap.size = N0
          clear wz
          go_simp
          refine M.fork_ (i := 4) (j := 6) rfl rfl (by kernel_rfl) (by kernel_rfl) (by kernel_rfl) ?_ ?_
          · intro wy sy
            obtain ⟨v4, wn, hrun, hon, hgn⟩ := run_append_texts_any wy 30 w10.heap.size (.slice (some ⟨N0, 0, none⟩) 0 0) [] sy.2 (some ⟨b3, o3, none⟩) c3 LT ((HLT.out.below sy.1.2).more sy.1.1) (.inr ⟨b3, o3, rfl⟩) (by simp only [List.length_append, List.length_cons, List.length_nil]; omega) sy.1.1
            rw [hlT] at hrun
            have hbn : M.Base w10 wn := ⟨Nat.le_trans sy.1.1 hgn.size, sy.1.2.grown hgn sy.1.1 (fun q hq => (sy.2.lt q hq).1)⟩
            refine does_append_any (vs := (.slice (some ⟨N0, 0, none⟩) 0 0)) (vx := .slice (some ⟨b3, o3, none⟩) k c3) (v := v4) _ _ rfl rfl rfl hrun ?_
            refine ⟨RT w10 v4 ([] ++ LT), ⟨hbn, hon⟩, fun _ _ h hs => h.step hs, fun _ h => h.1, ?_⟩
            clear hbn hon hgn hrun sy wy wn
            go_simp

            refine M.call_ (i := 6) rfl (by kernel_rfl) (by kernel_rfl) ?_
            intro wx sx
            unfold Oper.does
            go_simp
            refine ⟨fun w' => RT w10 v4 ([] ++ LT) w' ∧ RT1 w10 wx.heap.size s w', ⟨sx.step (Save.of_below ((Below.refl _ _).alloc (Nat.le_refl _) _)), ⟨sx.1.below ((Below.refl _ _).alloc sx.1.1 _), sx.1.1, by simp, heap_alloc_new wx _⟩⟩, fun _ _ h hs => ⟨h.1.step hs, h.2.step hs⟩, fun _ h => h.1.1, ?_⟩
            clear sx
            generalize wx.heap.size = N6
            clear wx
            go_simp
            refine M.call_ (i := 7) rfl (by kernel_rfl) (by kernel_rfl) ?_
            intro wy sy
            obtain ⟨v7, wn, hrun, hon, hgn⟩ := run_append_texts_any wy 30 w10.heap.size v4 ([] ++ LT) sy.1.2 (some ⟨N6, 0, none⟩) 1 [s] sy.2.tl (.inr ⟨N6, 0, rfl⟩) (by simp only [List.length_append, List.length_cons, List.length_nil]; omega) sy.1.1.1
            rw [show [s].length = 1 from rfl] at hrun
            have hbn : M.Base w10 wn := ⟨Nat.le_trans sy.1.1.1 hgn.size, sy.1.1.2.grown hgn sy.1.1.1 (fun q hq => (sy.1.2.lt q hq).1)⟩
            refine does_append_any (vs := v4) (vx := .slice (some ⟨N6, 0, none⟩) 1 1) (v := v7) _ _ rfl rfl rfl hrun ?_
            refine ⟨RT w10 v7 (([] ++ LT) ++ [s]), ⟨hbn, hon⟩, fun _ _ h hs => h.step hs, fun _ h => h.1, ?_⟩
            clear hbn hon hgn hrun sy wy wn
            go_simp
            refine M.call_ (i := 11) rfl (by kernel_rfl) (by kernel_rfl) ?_
            intro wy sy
            obtain ⟨v11, wn, hrun, hon, hgn⟩ := run_append_texts_any wy 30 w10.heap.size v7 (([] ++ LT) ++ [s]) sy.2 AK (c3 - k) LD ((HLD.out.below sy.1.2).more sy.1.1) (.inr hAKs) (by simp only [List.length_append, List.length_cons, List.length_nil]; omega) sy.1.1
            rw [hlD] at hrun
            have hbn : M.Base w10 wn := ⟨Nat.le_trans sy.1.1 hgn.size, sy.1.2.grown hgn sy.1.1 (fun q hq => (sy.2.lt q hq).1)⟩
            refine does_append_any (vs := v7) (vx := .slice AK (Z.length - k) (c3 - k)) (v := v11) _ _ rfl rfl rfl hrun ?_
            refine ⟨RT w10 v11 ((([] ++ LT) ++ [s]) ++ LD), ⟨hbn, hon⟩, fun _ _ h hs => h.step hs, fun _ h => h.1, ?_⟩
            clear hbn hon hgn hrun sy wy wn
            go_simp
            refine M.seg_ [12] 0 _ _ (M.Base.refl _) (by kernel_rfl) (by kernel_rfl) (by kernel_rfl) (by simp only [pickOps, mask, plain, List.getElem?_toArray, List.getElem?_cons_zero, List.getElem?_cons_succ, if_true, Bool.false_eq_true, if_false]; rfl) ?_
            repeat (go_big_quiet_step (fail))
            refine wpQuiet_nil ?_
            refine M.end_ (by kernel_rfl) ?_
            intro wc sc
            obtain ⟨hbd, hod⟩ := sc
            have hMl : Md.length ≤ 500 := by rw [← HM.out]; simp only [List.length_append, List.length_cons, List.length_nil]; omega
            have hBd : Below w.heap.size w wc := HBa.out.trans (hbd.2.mono HBa.out.size)
            replace hod : wc.ownsRow w10.heap.size 9 1 v11 Md.length (Md.map Value.string) := by
              rw [← HM.out]
              first | exact hod | simpa using hod
            obtain ⟨Ad, cd, rfl, -⟩ := own_shape_or hod
            have HOd := Lib.hid (TL.own hod)
            have HBd := Lib.hid hBd
            clear hod hbd hBd
            go_wp2_with fail
            refine (make_any Md Ad cd _ rfl wc HOd.out hMl HMs.out (HPt.out.on HBd.out)).mono ?_
            rintro e we ⟨hre, hbe⟩
            have HBe := Lib.hid (HBd.out.trans (hbe.mono HBd.out.size))
            clear hbe
            have hmk' : makeI Md = none := HMx.out
            obtain rfl : e = .returned (.tuple #[.slice none 0 0, .int .i64 11]) := by
              rcases hre with ⟨b2, h1, -⟩ | ⟨-, h2⟩
              · rw [hmk'] at h1; cases h1
              · exact h2
            clear hre hmk'
            go_wp2_with fail
            go_ret
            exact ⟨rfl, HBe.out⟩

          · intro wx sx
            unfold Oper.does
            go_simp
            refine ⟨fun w' => RT w10 (.slice (some ⟨N0, 0, none⟩) 0 0) [] w' ∧ RT1 w10 wx.heap.size s w' ∧ some wx.heap.size ≠ (Value.slice (some ⟨N0, 0, none⟩) 0 0).ownBlock, ⟨sx.step (Save.of_below ((Below.refl _ _).alloc (Nat.le_refl _) _)), ⟨sx.1.below ((Below.refl _ _).alloc sx.1.1 _), sx.1.1, by simp, heap_alloc_new wx _⟩, fun e => absurd (sx.2.lt _ e.symm).2 (by omega)⟩, fun _ _ h hs => ⟨h.1.step hs, h.2.1.step hs, h.2.2⟩, fun _ h => h.1.1, ?_⟩
            clear sx
            generalize wx.heap.size = N6
            clear wx
            go_simp
            refine M.call_ (i := 4) rfl (by kernel_rfl) (by kernel_rfl) ?_
            intro wy sy
            obtain ⟨v4, wn, hrun, hon, hgn⟩ := run_append_texts_any wy 30 w10.heap.size (.slice (some ⟨N0, 0, none⟩) 0 0) [] sy.1.2 (some ⟨b3, o3, none⟩) c3 LT ((HLT.out.below sy.1.1.2).more sy.1.1.1) (.inr ⟨b3, o3, rfl⟩) (by simp only [List.length_append, List.length_cons, List.length_nil]; omega) sy.1.1.1
            rw [hlT] at hrun
            have hbn : M.Base w10 wn := ⟨Nat.le_trans sy.1.1.1 hgn.size, sy.1.1.2.grown hgn sy.1.1.1 (fun q hq => (sy.1.2.lt q hq).1)⟩
            have hkn : RT1 w10 N6 s wn := ⟨hbn, sy.2.1.2.1, Nat.lt_of_lt_of_le sy.2.1.2.2.1 hgn.size, (hgn.block N6 sy.2.1.2.2.1 sy.2.2).trans sy.2.1.2.2.2⟩
            refine does_append_any (vs := (.slice (some ⟨N0, 0, none⟩) 0 0)) (vx := .slice (some ⟨b3, o3, none⟩) k c3) (v := v4) _ _ rfl rfl rfl hrun ?_
            refine ⟨fun w' => RT w10 v4 ([] ++ LT) w' ∧ RT1 w10 N6 s w', ⟨⟨hbn, hon⟩, hkn⟩, fun _ _ h hs => ⟨h.1.step hs, h.2.step hs⟩, fun _ h => h.1.1, ?_⟩
            clear hkn hbn hon hgn hrun sy wy wn
            go_simp

            refine M.call_ (i := 7) rfl (by kernel_rfl) (by kernel_rfl) ?_
            intro wy sy
            obtain ⟨v7, wn, hrun, hon, hgn⟩ := run_append_texts_any wy 30 w10.heap.size v4 ([] ++ LT) sy.1.2 (some ⟨N6, 0, none⟩) 1 [s] sy.2.tl (.inr ⟨N6, 0, rfl⟩) (by simp only [List.length_append, List.length_cons, List.length_nil]; omega) sy.1.1.1
            rw [show [s].length = 1 from rfl] at hrun
            have hbn : M.Base w10 wn := ⟨Nat.le_trans sy.1.1.1 hgn.size, sy.1.1.2.grown hgn sy.1.1.1 (fun q hq => (sy.1.2.lt q hq).1)⟩
            refine does_append_any (vs := v4) (vx := .slice (some ⟨N6, 0, none⟩) 1 1) (v := v7) _ _ rfl rfl rfl hrun ?_
            refine ⟨RT w10 v7 (([] ++ LT) ++ [s]), ⟨hbn, hon⟩, fun _ _ h hs => h.step hs, fun _ h => h.1, ?_⟩
            clear hbn hon hgn hrun sy wy wn
            go_simp
            refine M.call_ (i := 11) rfl (by kernel_rfl) (by kernel_rfl) ?_
            intro wy sy
            obtain ⟨v11, wn, hrun, hon, hgn⟩ := run_append_texts_any wy 30 w10.heap.size v7 (([] ++ LT) ++ [s]) sy.2 AK (c3 - k) LD ((HLD.out.below sy.1.2).more sy.1.1) (.inr hAKs) (by simp only [List.length_append, List.length_cons, List.length_nil]; omega) sy.1.1
            rw [hlD] at hrun
            have hbn : M.Base w10 wn := ⟨Nat.le_trans sy.1.1 hgn.size, sy.1.2.grown hgn sy.1.1 (fun q hq => (sy.2.lt q hq).1)⟩
            refine does_append_any (vs := v7) (vx := .slice AK (Z.length - k) (c3 - k)) (v := v11) _ _ rfl rfl rfl hrun ?_
            refine ⟨RT w10 v11 ((([] ++ LT) ++ [s]) ++ LD), ⟨hbn, hon⟩, fun _ _ h hs => h.step hs, fun _ h => h.1, ?_⟩
            clear hbn hon hgn hrun sy wy wn
            go_simp
            refine M.seg_ [12] 0 _ _ (M.Base.refl _) (by kernel_rfl) (by kernel_rfl) (by kernel_rfl) (by simp only [pickOps, mask, plain, List.getElem?_toArray, List.getElem?_cons_zero, List.getElem?_cons_succ, if_true, Bool.false_eq_true, if_false]; rfl) ?_
            repeat (go_big_quiet_step (fail))
            refine wpQuiet_nil ?_
            refine M.end_ (by kernel_rfl) ?_
            intro wc sc
            obtain ⟨hbd, hod⟩ := sc
            have hMl : Md.length ≤ 500 := by rw [← HM.out]; simp only [List.length_append, List.length_cons, List.length_nil]; omega
            have hBd : Below w.heap.size w wc := HBa.out.trans (hbd.2.mono HBa.out.size)
            replace hod : wc.ownsRow w10.heap.size 9 1 v11 Md.length (Md.map Value.string) := by
              rw [← HM.out]
              first | exact hod | simpa using hod
            obtain ⟨Ad, cd, rfl, -⟩ := own_shape_or hod
            have HOd := Lib.hid (TL.own hod)
            have HBd := Lib.hid hBd
            clear hod hbd hBd
            go_wp2_with fail
            refine (make_any Md Ad cd _ rfl wc HOd.out hMl HMs.out (HPt.out.on HBd.out)).mono ?_
            rintro e we ⟨hre, hbe⟩
            have HBe := Lib.hid (HBd.out.trans (hbe.mono HBd.out.size))
            clear hbe
            have hmk' : makeI Md = none := HMx.out
            obtain rfl : e = .returned (.tuple #[.slice none 0 0, .int .i64 11]) := by
              rcases hre with ⟨b2, h1, -⟩ | ⟨-, h2⟩
              · rw [hmk'] at h1; cases h1
              · exact h2
            clear hre hmk'
            go_wp2_with fail
            go_ret
            exact ⟨rfl, HBe.out⟩

        · intro wx sx
          unfold Oper.does
          go_simp
          refine ⟨RT1 w10 wx.heap.size s, ⟨sx.below ((Below.refl _ _).alloc sx.1 _), sx.1, by simp, heap_alloc_new wx _⟩, fun _ _ h hs => h.step hs, fun _ h => h.1, ?_⟩
          clear sx
          generalize wx.heap.size = N6
          clear wx
          go_simp
          refine M.call_ (i := 0) rfl (by kernel_rfl) (by kernel_rfl) ?_
          intro wz sz
          unfold Oper.does
          go_simp
          refine ⟨fun w' => RT w10 (.slice (some ⟨wz.heap.size, 0, none⟩) 0 0) [] w' ∧ RT1 w10 N6 s w' ∧ some N6 ≠ (Value.slice (some ⟨wz.heap.size, 0, none⟩) 0 0).ownBlock, ⟨⟨sz.1.below ((Below.refl _ _).alloc sz.1.1 _), World.ownsRow_made wz #[] 0 sz.1.1 (by unfold maxLen; omega) rfl⟩, sz.step (Save.of_below ((Below.refl _ _).alloc (Nat.le_refl _) _)), fun e => by have := sz.2.2.1; simp [Value.ownBlock] at e; omega⟩, fun _ _ h hs => ⟨h.1.step hs, h.2.1.step hs, h.2.2⟩, fun _ h => h.1.1, ?_⟩
          clear sz
          generalize wz.heap.size = N0
          clear wz
          go_simp
          refine M.call_ (i := 4) rfl (by kernel_rfl) (by kernel_rfl) ?_
          intro wy sy
          obtain ⟨v4, wn, hrun, hon, hgn⟩ := run_append_texts_any wy 30 w10.heap.size (.slice (some ⟨N0, 0, none⟩) 0 0) [] sy.1.2 (some ⟨b3, o3, none⟩) c3 LT ((HLT.out.below sy.1.1.2).more sy.1.1.1) (.inr ⟨b3, o3, rfl⟩) (by simp only [List.length_append, List.length_cons, List.length_nil]; omega) sy.1.1.1
          rw [hlT] at hrun
          have hbn : M.Base w10 wn := ⟨Nat.le_trans sy.1.1.1 hgn.size, sy.1.1.2.grown hgn sy.1.1.1 (fun q hq => (sy.1.2.lt q hq).1)⟩
          have hkn : RT1 w10 N6 s wn := ⟨hbn, sy.2.1.2.1, Nat.lt_of_lt_of_le sy.2.1.2.2.1 hgn.size, (hgn.block N6 sy.2.1.2.2.1 sy.2.2).trans sy.2.1.2.2.2⟩
          refine does_append_any (vs := (.slice (some ⟨N0, 0, none⟩) 0 0)) (vx := .slice (some ⟨b3, o3, none⟩) k c3) (v := v4) _ _ rfl rfl rfl hrun ?_
          refine ⟨fun w' => RT w10 v4 ([] ++ LT) w' ∧ RT1 w10 N6 s w', ⟨⟨hbn, hon⟩, hkn⟩, fun _ _ h hs => ⟨h.1.step hs, h.2.step hs⟩, fun _ h => h.1.1, ?_⟩
          clear hkn hbn hon hgn hrun sy wy wn
          go_simp

          refine M.call_ (i := 7) rfl (by kernel_rfl) (by kernel_rfl) ?_
          intro wy sy
          obtain ⟨v7, wn, hrun, hon, hgn⟩ := run_append_texts_any wy 30 w10.heap.size v4 ([] ++ LT) sy.1.2 (some ⟨N6, 0, none⟩) 1 [s] sy.2.tl (.inr ⟨N6, 0, rfl⟩) (by simp only [List.length_append, List.length_cons, List.length_nil]; omega) sy.1.1.1
          rw [show [s].length = 1 from rfl] at hrun
          have hbn : M.Base w10 wn := ⟨Nat.le_trans sy.1.1.1 hgn.size, sy.1.1.2.grown hgn sy.1.1.1 (fun q hq => (sy.1.2.lt q hq).1)⟩
          refine does_append_any (vs := v4) (vx := .slice (some ⟨N6, 0, none⟩) 1 1) (v := v7) _ _ rfl rfl rfl hrun ?_
          refine ⟨RT w10 v7 (([] ++ LT) ++ [s]), ⟨hbn, hon⟩, fun _ _ h hs => h.step hs, fun _ h => h.1, ?_⟩
          clear hbn hon hgn hrun sy wy wn
          go_simp
          refine M.call_ (i := 11) rfl (by kernel_rfl) (by kernel_rfl) ?_
          intro wy sy
          obtain ⟨v11, wn, hrun, hon, hgn⟩ := run_append_texts_any wy 30 w10.heap.size v7 (([] ++ LT) ++ [s]) sy.2 AK (c3 - k) LD ((HLD.out.below sy.1.2).more sy.1.1) (.inr hAKs) (by simp only [List.length_append, List.length_cons, List.length_nil]; omega) sy.1.1
          rw [hlD] at hrun
          have hbn : M.Base w10 wn := ⟨Nat.le_trans sy.1.1 hgn.size, sy.1.2.grown hgn sy.1.1 (fun q hq => (sy.2.lt q hq).1)⟩
          refine does_append_any (vs := v7) (vx := .slice AK (Z.length - k) (c3 - k)) (v := v11) _ _ rfl rfl rfl hrun ?_
          refine ⟨RT w10 v11 ((([] ++ LT) ++ [s]) ++ LD), ⟨hbn, hon⟩, fun _ _ h hs => h.step hs, fun _ h => h.1, ?_⟩
          clear hbn hon hgn hrun sy wy wn
          go_simp
          refine M.seg_ [12] 0 _ _ (M.Base.refl _) (by kernel_rfl) (by kernel_rfl) (by kernel_rfl) (by simp only [pickOps, mask, plain, List.getElem?_toArray, List.getElem?_cons_zero, List.getElem?_cons_succ, if_true, Bool.false_eq_true, if_false]; rfl) ?_
          repeat (go_big_quiet_step (fail))
          refine wpQuiet_nil ?_
          refine M.end_ (by kernel_rfl) ?_
          intro wc sc
          obtain ⟨hbd, hod⟩ := sc
          have hMl : Md.length ≤ 500 := by rw [← HM.out]; simp only [List.length_append, List.length_cons, List.length_nil]; omega
          have hBd : Below w.heap.size w wc := HBa.out.trans (hbd.2.mono HBa.out.size)
          replace hod : wc.ownsRow w10.heap.size 9 1 v11 Md.length (Md.map Value.string) := by
            rw [← HM.out]
            first | exact hod | simpa using hod
          obtain ⟨Ad, cd, rfl, -⟩ := own_shape_or hod
          have HOd := Lib.hid (TL.own hod)
          have HBd := Lib.hid hBd
          clear hod hbd hBd
          go_wp2_with fail
          refine (make_any Md Ad cd _ rfl wc HOd.out hMl HMs.out (HPt.out.on HBd.out)).mono ?_
          rintro e we ⟨hre, hbe⟩
          have HBe := Lib.hid (HBd.out.trans (hbe.mono HBd.out.size))
          clear hbe
          have hmk' : makeI Md = none := HMx.out
          obtain rfl : e = .returned (.tuple #[.slice none 0 0, .int .i64 11]) := by
            rcases hre with ⟨b2, h1, -⟩ | ⟨-, h2⟩
            · rw [hmk'] at h1; cases h1
            · exact h2
          clear hre hmk'
          go_wp2_with fail
          go_ret
          exact ⟨rfl, HBe.out⟩

end Go.Proofs.YtgaihekapakoeaaGreatDoor
