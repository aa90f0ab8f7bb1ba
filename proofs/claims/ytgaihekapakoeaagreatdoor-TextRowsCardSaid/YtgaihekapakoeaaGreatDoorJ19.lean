/-    -/
import Derived.Test.YtgaihekapakoeaaGreatDoorJ17
import Derived.Test.YtgaihekapakoeaaGreatDoorJ18
namespace Go.Proofs.YtgaihekapakoeaaGreatDoor
open Go.RowKit
set_option linter.unusedVariables false
set_option linter.unusedSimpArgs false
set_option maxRecDepth 100000

theorem two_facts : ∀ o : Fin 256, twinO o.val = o.val ∨ ((⟨2, 0, twinO o.val, 0, 0, 2⟩ : In).may = true ∧ dbK 2 0 (twinO o.val) = false ∧ (twinO o.val = 68 ∨ twinO o.val = 69 ∨ twinO o.val = 70 ∨ twinO o.val = 86 ∨ twinO o.val = 94)) := by decide +kernel
theorem two_imm : ∀ o : Fin 256, o.val = 99 ∨ o.val = 107 ∨ twinO o.val = o.val ∨ needN 2 0 o.val = 0 := by decide +kernel
/-- The twin, where it is another one: it may be, and its text is no bytes. -/
theorem twin_may {i : In} (hm : i.may = true) (hi : i.Wf) (hne : twinR i ≠ i) : (twinR i).may = true ∧ (twinR i).Wf ∧ dbK (twinR i).s (twinR i).x (twinR i).o = false ∧ isBytesI i = true ∧ 3 ≤ (textI (twinR i)).length := by
  obtain ⟨h1, h2, h3⟩ := may_one hm
  obtain ⟨-, -, o0, o1⟩ := one_cases h1
  by_cases hs : i.s = 2
  · have hR : twinR i = twinI i := by unfold twinR; rw [if_pos ⟨hm, hs⟩]
    rw [hR] at hne ⊢
    have hx0 := one_x0 (.inr hs) h1
    have hb : isBytesI i = true := by
      rw [isBytes_db hm]
      unfold dbK
      rw [if_neg (by omega), if_pos hs]
      by_cases h99 : i.o = 99
      · rw [h99]; simp
      · by_cases h107 : i.o = 107
        · rw [h107]; simp
        · have : twinO i.o ≠ i.o := fun e => hne (by unfold twinI; rw [if_neg h99, if_neg h107, e])
          rw [bne_iff_ne.2 this]; simp
    have hop := h3
    unfold In.ops at hop
    rw [hs, hx0, nd2, Bool.and_eq_true] at hop
    by_cases h99 : i.o = 99
    · have hT : twinI i = ⟨0, 0, 34, 0, i.m, 3⟩ := by unfold twinI; rw [if_pos h99]
      have hk : needN 2 0 99 = 2 := by decide +kernel
      rw [h99, hk] at hop
      have hmm := hop.2
      unfold fitsI at hmm
      rw [if_neg (by decide), if_neg (by decide), if_neg (by decide), Bool.and_eq_true, decide_eq_true_eq, decide_eq_true_eq] at hmm
      have hmay : (⟨0, 0, 34, 0, i.m, 3⟩ : In).may = true := by
        unfold In.may In.ops In.len
        have e1 : isOneI 0 0 34 = true := by decide +kernel
        have e2 : needN 0 0 34 = 2 := by decide +kernel
        have e3 : lenI 0 0 34 = 3 := by decide +kernel
        have e4 : jumpI 0 34 = false := by decide +kernel
        simp only [e1, e2, e3, e4, nd0]
        unfold fitsI
        simp [num1]
        exact hmm
      have hd : dbK 0 0 34 = false := by decide +kernel
      rw [hT]
      refine ⟨hmay, ⟨by rfl, by rfl, by rfl, by rfl, hi.m, by rfl⟩, hd, hb, ?_⟩
      rw [text_told hmay hd, show toksK (⟨0, 0, 34, 0, i.m, 3⟩ : In).s (⟨0, 0, 34, 0, i.m, 3⟩ : In).x (⟨0, 0, 34, 0, i.m, 3⟩ : In).o = [76, 68, 32, 40, 256, 41, 44, 72, 76] from (by decide +kernel : toksK 0 0 34 = [76, 68, 32, 40, 256, 41, 44, 72, 76])]
      show 3 ≤ ([76, 68, 32] ++ _ : List UInt8).length
      rw [List.length_append]
      exact Nat.le_add_right 3 _
    · by_cases h107 : i.o = 107
      · have hT : twinI i = ⟨0, 0, 42, 0, i.m, 3⟩ := by unfold twinI; rw [if_neg h99, if_pos h107]
        have hk : needN 2 0 107 = 2 := by decide +kernel
        rw [h107, hk] at hop
        have hmm := hop.2
        unfold fitsI at hmm
        rw [if_neg (by decide), if_neg (by decide), if_neg (by decide), Bool.and_eq_true, decide_eq_true_eq, decide_eq_true_eq] at hmm
        have hmay : (⟨0, 0, 42, 0, i.m, 3⟩ : In).may = true := by
          unfold In.may In.ops In.len
          have e1 : isOneI 0 0 42 = true := by decide +kernel
          have e2 : needN 0 0 42 = 2 := by decide +kernel
          have e3 : lenI 0 0 42 = 3 := by decide +kernel
          have e4 : jumpI 0 42 = false := by decide +kernel
          simp only [e1, e2, e3, e4, nd0]
          unfold fitsI
          simp [num1]
          exact hmm
        have hd : dbK 0 0 42 = false := by decide +kernel
        rw [hT]
        refine ⟨hmay, ⟨by rfl, by rfl, by rfl, by rfl, hi.m, by rfl⟩, hd, hb, ?_⟩
        rw [text_told hmay hd, show toksK (⟨0, 0, 42, 0, i.m, 3⟩ : In).s (⟨0, 0, 42, 0, i.m, 3⟩ : In).x (⟨0, 0, 42, 0, i.m, 3⟩ : In).o = [76, 68, 32, 72, 76, 44, 40, 256, 41] from (by decide +kernel : toksK 0 0 42 = [76, 68, 32, 72, 76, 44, 40, 256, 41])]
        show 3 ≤ ([76, 68, 32] ++ _ : List UInt8).length
        rw [List.length_append]
        exact Nat.le_add_right 3 _
      · have hT : twinI i = { i with o := twinO i.o } := by unfold twinI; rw [if_neg h99, if_neg h107]
        have ht : twinO i.o ≠ i.o := fun e => hne (by rw [hT, e])
        rcases fin_o (P := fun o => twinO o = o ∨ ((⟨2, 0, twinO o, 0, 0, 2⟩ : In).may = true ∧ dbK 2 0 (twinO o) = false ∧ (twinO o = 68 ∨ twinO o = 69 ∨ twinO o = 70 ∨ twinO o = 86 ∨ twinO o = 94))) two_facts o0 o1 with e | ⟨e1, e2, e3⟩
        · exact absurd e ht
        · have hk : needN 2 0 i.o = 0 := by
            rcases fin_o (P := fun o => o = 99 ∨ o = 107 ∨ twinO o = o ∨ needN 2 0 o = 0) (fun o => by
              rcases two_imm o with k | k | k | k
              · exact .inl (by omega)
              · exact .inr (.inl (by omega))
              · exact .inr (.inr (.inl k))
              · exact .inr (.inr (.inr k))) o0 o1 with k | k | k | k
            · exact absurd k h99
            · exact absurd k h107
            · exact absurd k ht
            · exact k
          rw [hk] at hop
          have hd0 : i.d = 0 := by have := hop.1; unfold fitsI at this; simpa [num1] using this
          have hm0 : i.m = 0 := by have := hop.2; unfold fitsI at this; simpa using this
          have hn2 : i.n = 2 := by rw [h2]; unfold In.len lenI; rw [hs, hx0, nd2, hk]; rfl
          have hTT : ({ i with o := twinO i.o } : In) = ⟨2, 0, twinO i.o, 0, 0, 2⟩ := by
            obtain ⟨_, _, _, _, _, _⟩ := i
            simp only at hs hx0 hd0 hm0 hn2
            simp only [hs, hx0, hd0, hm0, hn2]
          rw [hT, hTT]
          refine ⟨e1, ⟨by rfl, by rfl, ?_, by rfl, by rfl, by rfl⟩, e2, hb, ?_⟩
          · show (Lit.int .i64 (twinO i.o)).wf = true
            rcases e3 with e | e | e | e | e <;> rw [e] <;> rfl
          · rw [text_told e1 e2]
            show 3 ≤ (rend false 0 0 (toksK 2 0 (twinO i.o))).length
            rcases e3 with e | e | e | e | e <;> rw [e] <;> decide +kernel
  · exact absurd (by unfold twinR; rw [if_neg (fun h => hs h.2)]) hne
/-- What does nothing is told by its bytes. -/
theorem none_bytes {i : In} (hm : i.may = true) (h : noneR i = true) : isBytesI i = true := by
  unfold noneR at h
  rw [hm, Bool.true_and, Bool.and_eq_true, beq_iff_eq] at h
  rw [isBytes_db hm]
  unfold dbK
  rw [if_neg (by omega), if_pos h.1, h.2]; rfl
/-- The first three signs tell bytes. -/
theorem first_bytes {i : In} (hm : i.may = true) (h : isBytesI i = true) : 3 < (textI i).length ∧ (textI i).take 3 = [68, 66, 32] := by
  have hd : dbK i.s i.x i.o = true := by rw [← isBytes_db hm]; exact h
  rw [text_bytes hm hd]
  have hl := bytesI_length hm
  have hg := (may_one hm).2.1
  have h1 := lenI_in i.s i.x i.o
  cases hb : bytesI i with
  | nil => rw [hb] at hl; unfold In.len at hg; simp at hl; omega
  | cons a r =>
    rw [bytesT_eq]
    have := itoa_ne a
    refine ⟨?_, rfl⟩
    simp only [List.length_cons, List.length_append]
    omega
theorem first_told {i : In} (hm : i.may = true) (h : isBytesI i = false) : (textI i).take 3 ≠ [68, 66, 32] := by
  have h1 := (may_one hm).1
  have hd : dbK i.s i.x i.o = false := by rw [← isBytes_db hm]; exact h
  have ho := op_ok h1 hd
  unfold opOk at ho
  simp only [Bool.and_eq_true] at ho
  have h5 := ho.2.2.2.2
  rw [text_told hm hd]
  revert h5
  cases toksK i.s i.x i.o with
  | nil => intro h5; simp at h5
  | cons a K =>
    cases K with
    | nil => intro h5; simp at h5
    | cons b K =>
      intro h5 e
      simp only [Bool.and_eq_true, Bool.or_eq_true, decide_eq_true_eq, bne_iff_ne] at h5
      obtain ⟨ha, h6⟩ := h5
      rw [rend_cons, rendT_lit _ _ _ ha] at e
      simp only [List.cons_append, List.nil_append, List.take_succ_cons, List.cons.injEq] at e
      rcases h6 with h6 | ⟨hb, h6⟩
      · exact h6 (ofNat_inj ha (by decide) e.1)
      · have e2 := e.2
        rw [rend_cons, rendT_lit _ _ _ hb] at e2
        simp only [List.cons_append, List.nil_append, List.take_succ_cons, List.cons.injEq] at e2
        exact h6 (ofNat_inj hb (by decide) e2.1)
end Go.Proofs.YtgaihekapakoeaaGreatDoor
namespace Go.Proofs.YtgaihekapakoeaaGreatDoor
open Go.RowKit
set_option linter.unusedVariables false
set_option linter.unusedSimpArgs false
set_option maxRecDepth 100000

theorem ext3 (t : List UInt8) : ((⟨t.toArray⟩ : ByteArray).extract 0 3).toList = t.take 3 := by
  rw [ByteArray.toList_eq, ByteArray.data_extract]
  simp
theorem cmp3 (t l : List UInt8) : (((⟨t.toArray⟩ : ByteArray).extract 0 3).toList == l) = decide (t.take 3 = l) := by
  rw [ext3]
  by_cases h : t.take 3 = l
  · rw [h]; simp
  · rw [beq_eq_false_iff_ne.2 h]; simp [h]

theorem in_eql_other (a b : In) (h : a ≠ b) (w : World) : (binOp .eql 23 a.val b.val).run Tryz.prog w = .ok (.bool false) w := by
  unfold In.val In.cells
  go_simp
  obtain ⟨a0, a1, a2, a3, a4, a5⟩ := a
  obtain ⟨b0, b1, b2, b3, b4, b5⟩ := b
  simp only [ne_eq, In.mk.injEq, not_and] at h
  exact h

set_option maxHeartbeats 4000000 in
theorem twins_not (i : In) (hi : i.Wf) (hm : ¬ i.may = true) (w : World) (hV : VT w w.heap.size) (hP : ParseOk w) : Calls Tryz.prog 8 #[i.val] w fun e w' => e = .returned (.bool true) ∧ Below w.heap.size w w' := by
  obtain ⟨w1, hw1⟩ : ∃ w1, w.alloc (inO i) = w1 := ⟨_, rfl⟩
  have hL : InW w1 w.heap.size i := hw1 ▸ InW.laid w i
  have hb0 : Below w.heap.size w w1 := hw1 ▸ (Below.refl _ _).alloc (Nat.le_refl _) _
  have HL := Lib.hid hL
  have HV := Lib.hid hV
  have HB := Lib.hid hb0
  have H1 := Lib.hid (lives10 w1 ((hV.below hb0).mono hb0.size) (hP.on hb0))
  have HN := Lib.hid (fun w2 => of_not i hi hm w2)
  clear hL hb0 hV hP hm hi
  rw [in_val]
  unfold inO at hw1
  go_enter Tryz.func8, Tryz.ntmps8
  go_wp2_with fail
  refine H1.out.mono ?_
  rintro e w2 ⟨rfl, hb2⟩
  have HL2 := Lib.hid (HL.out.below hb2 HL.out.lt)
  have hB2 := HB.out.trans (hb2.mono HB.out.size)
  clear hb2 hw1
  go_wp2_with (refine wpList_load_row rfl 23 _ rfl w.heap.size rfl _ _ (0, 0) _ HL2.out Tryz.underlying23 rfl in_info ?_)
  refine (HN.out w2).mono ?_
  rintro e w3 ⟨rfl, hb3⟩
  have hB3 := hB2.trans (hb3.mono hB2.size)
  go_wp2_with fail
  go_ret
  exact ⟨rfl, hB3⟩

set_option maxHeartbeats 8000000 in
theorem twins_mayO (i : In) (hi : i.Wf) (hm : i.may = true) (hT : twinR i ≠ i) (w : World) (hV : VT w w.heap.size) (hP : ParseOk w) : Calls Tryz.prog 8 #[i.val] w fun e w' => e = .returned (.bool true) ∧ Below w.heap.size w w' := by
  obtain ⟨w1, hw1⟩ : ∃ w1, w.alloc (inO i) = w1 := ⟨_, rfl⟩
  have hL : InW w1 w.heap.size i := hw1 ▸ InW.laid w i
  have hb0 : Below w.heap.size w w1 := hw1 ▸ (Below.refl _ _).alloc (Nat.le_refl _) _
  have HL := Lib.hid hL
  have HV := Lib.hid hV
  have HB := Lib.hid hb0
  have H1 := Lib.hid (lives10 w1 ((hV.below hb0).mono hb0.size) (hP.on hb0))
  have HN := Lib.hid (fun w2 hV2 => of_may i hi hm w2 hV2)
  obtain ⟨t1, t2, t3, t4, t5⟩ := twin_may hm hi hT
  obtain ⟨T, hTe⟩ : ∃ T, twinR i = T := ⟨_, rfl⟩
  have HNT := Lib.hid (fun w2 hV2 => of_may (twinR i) t2 t1 w2 hV2)
  obtain ⟨S, hS⟩ : ∃ S : ByteArray, (⟨(textI i).toArray⟩ : ByteArray) = S := ⟨_, rfl⟩
  have HTw := Lib.hid (fun w2 => r9_twin i hi w2)
  have HNo := Lib.hid (fun w2 => r9_nothing i hi w2)
  obtain ⟨U, hU⟩ : ∃ U : ByteArray, (⟨(textI (twinR i)).toArray⟩ : ByteArray) = U := ⟨_, rfl⟩
  rw [hU] at HNT
  have hU3 : ((U.extract 0 3).toList == [68, 66, 32]) = false := by
    rw [← hU, cmp3]
    exact decide_eq_false (first_told t1 (by rw [isBytes_db t1]; exact t3))
  have hUn : 3 ≤ U.size := by rw [← hU]; simpa [ByteArray.size] using t5
  have hUS : (U.toList == S.toList) = false := by
    rw [← hU, ← hS, toList_beq]
    exact decide_eq_false (fun e => hT (text_inj t1 hm e))
  have h3 : 3 < S.size ∧ ((S.extract 0 3).toList == [68, 66, 32]) = true := by
    rw [← hS]
    obtain ⟨l1, l2⟩ := first_bytes hm t4
    refine ⟨by simpa [ByteArray.size] using l1, by rw [cmp3, l2]; rfl⟩
  rw [hTe] at HTw HNT hT
  have hneq := fun w => in_neq_other T i hT w
  have heql := fun w => in_eql_other T i hT w
  simp only [in_val] at HTw HNT hneq heql
  obtain ⟨h31, h32⟩ := h3
  have HU := Lib.hid (And.intro hU3 (And.intro hUn hUS))
  clear hU hTe hT t1 t2 t3 t4 t5 hU3 hUn hUS
  have HE := Lib.hid (And.intro hneq heql)
  clear hneq heql
  rw [hS] at HN
  clear hL hb0 hV hP hm hi hS
  rw [in_val]
  unfold inO at hw1
  go_enter Tryz.func8, Tryz.ntmps8
  go_wp2_with fail
  refine H1.out.mono ?_
  rintro e w2 ⟨rfl, hb2⟩
  have HL2 := Lib.hid (HL.out.below hb2 HL.out.lt)
  have hB2 := HB.out.trans (hb2.mono HB.out.size)
  have HN2 := Lib.hid (HN.out w2 ((HV.out.below hB2).mono hB2.size))
  clear hb2 hw1
  go_wp2_with (refine wpList_load_row rfl 23 _ rfl w.heap.size rfl _ _ (0, 0) _ HL2.out Tryz.underlying23 rfl in_info ?_)
  refine HN2.out.mono ?_
  rintro e w3 ⟨rfl, hb3⟩
  have HL3 := Lib.hid (HL2.out.below hb3 HL2.out.lt)
  have hB3 := hB2.trans (hb3.mono hB2.size)
  clear hb3
  go_wp2_with (refine wpList_load_row rfl 23 _ rfl w.heap.size rfl _ _ (0, 0) _ HL3.out Tryz.underlying23 rfl in_info ?_)
  refine (HTw.out w3).mono ?_
  rintro e w4 ⟨rfl, hb4⟩
  have HL4 := Lib.hid (HL3.out.below hb4 HL3.out.lt)
  have hB4 := hB3.trans (hb4.mono hB3.size)
  clear hb4
  obtain ⟨w5, hw5⟩ : ∃ w5, w4.alloc (inO T) = w5 := ⟨_, rfl⟩
  have hb5 : Below w4.heap.size w4 w5 := hw5 ▸ (Below.refl _ _).alloc (Nat.le_refl _) _
  have hJ5 : w5.heap[w4.heap.size]? = some (.cells (In.cells T) 23 (0, 0)) := hw5 ▸ InW.laid w4 _
  have hL5 : w5.heap[w.heap.size]? = some (.cells i.cells 23 (0, 0)) := HL4.out.below hb5 HL4.out.lt
  have hB5 := hB4.trans (hb5.mono hB4.size)
  have hlt4 := HL4.out.lt
  have hlt5 : w4.heap.size < w5.heap.size := (Array.getElem?_eq_some_iff.1 hJ5).1
  have HNT2 := Lib.hid (HNT.out w5 ((HV.out.below hB5).mono hB5.size))
  unfold inO at hw5
  have hJ6 : w5.heap[w4.heap.size]? = some (.cells #[.int .i64 T.s, .int .i64 T.x, .int .i64 T.o, .int .i64 T.d, .int .i64 T.m, .int .i64 T.n] 23 (0, 0)) := hJ5
  have HL5 := Lib.hid hL5
  clear hb5 hJ5 hL5 HL4 HL3 HL2 HL HN HN2 HNT
  go_wp2_with (refine wpList_load_row rfl 23 _ rfl w4.heap.size rfl _ _ (0, 0) _ hJ6 Tryz.underlying23 rfl in_info ?_)
  refine HNT2.out.mono ?_
  rintro e w6 ⟨rfl, hb6⟩
  have hJ7 : w6.heap[w4.heap.size]? = some (.cells #[.int .i64 T.s, .int .i64 T.x, .int .i64 T.o, .int .i64 T.d, .int .i64 T.m, .int .i64 T.n] 23 (0, 0)) := (hb6.block _ hlt5).trans hJ6
  have hL7 : w6.heap[w.heap.size]? = some (.cells #[.int .i64 i.s, .int .i64 i.x, .int .i64 i.o, .int .i64 i.d, .int .i64 i.m, .int .i64 i.n] 23 (0, 0)) := (hb6.block _ (by omega)).trans HL5.out
  have hB6 := hB5.trans (hb6.mono hB5.size)
  have hlt6 : w4.heap.size < w6.heap.size := Nat.lt_of_lt_of_le hlt5 hb6.size
  have HNo6 := Lib.hid (HNo.out w6)
  clear hJ6 HL5 hb6 hw5 HNT2
  obtain ⟨hneq, heql⟩ := HE.out
  obtain ⟨hU3, hUn, hUS⟩ := HU.out
  have hUS2 : (U.toList != S.toList) = true := by rw [bne, hUS]; rfl
  go_wp2_with (first
    | (refine wpList_load_ins (by rfl) 23 _ rfl w4.heap.size rfl _ _ (0, 0) _ hJ7 Tryz.underlying23 rfl in_info ?_)
    | (refine wpList_load_ins (by rfl) 23 _ rfl w.heap.size rfl _ _ (0, 0) _ hL7 Tryz.underlying23 rfl in_info ?_))
  all_goals
    go_ret
    exact ⟨rfl, hB6⟩

set_option maxHeartbeats 8000000 in
theorem twins_mayS (i : In) (hi : i.Wf) (hm : i.may = true) (hT : twinR i = i) (w : World) (hV : VT w w.heap.size) (hP : ParseOk w) : Calls Tryz.prog 8 #[i.val] w fun e w' => e = .returned (.bool true) ∧ Below w.heap.size w w' := by
  obtain ⟨w1, hw1⟩ : ∃ w1, w.alloc (inO i) = w1 := ⟨_, rfl⟩
  have hL : InW w1 w.heap.size i := hw1 ▸ InW.laid w i
  have hb0 : Below w.heap.size w w1 := hw1 ▸ (Below.refl _ _).alloc (Nat.le_refl _) _
  have HL := Lib.hid hL
  have HV := Lib.hid hV
  have HB := Lib.hid hb0
  have H1 := Lib.hid (lives10 w1 ((hV.below hb0).mono hb0.size) (hP.on hb0))
  have HN := Lib.hid (fun w2 hV2 => of_may i hi hm w2 hV2)
  have HNT := HN
  have hdb : ∃ d, (d = true ∧ isBytesI i = true) ∨ (d = false ∧ isBytesI i = false ∧ noneR i = false) := by
    cases hb : isBytesI i with
    | true => exact ⟨true, .inl ⟨rfl, rfl⟩⟩
    | false =>
      refine ⟨false, .inr ⟨rfl, rfl, ?_⟩⟩
      cases hn : noneR i with
      | false => rfl
      | true => rw [none_bytes hm hn] at hb; cases hb
  obtain ⟨S, hS⟩ : ∃ S : ByteArray, (⟨(textI i).toArray⟩ : ByteArray) = S := ⟨_, rfl⟩
  have HTw := Lib.hid (fun w2 => r9_twin i hi w2)
  have HNo := Lib.hid (fun w2 => r9_nothing i hi w2)
  rw [hT] at HTw
  simp only [in_val] at HTw
  have h3 : (isBytesI i = true → 3 < S.size ∧ ((S.extract 0 3).toList == [68, 66, 32]) = true) ∧ (isBytesI i = false → ((S.extract 0 3).toList == [68, 66, 32]) = false) := by
    rw [← hS]
    refine ⟨fun hb => ?_, fun hb => ?_⟩
    · obtain ⟨l1, l2⟩ := first_bytes hm hb
      refine ⟨by simpa [ByteArray.size] using l1, by rw [cmp3, l2]; rfl⟩
    · rw [cmp3]; exact decide_eq_false (first_told hm hb)
  have H3 := Lib.hid h3
  have HDB := Lib.hid hdb
  clear h3 hdb hT
  obtain ⟨nn, hnn⟩ : ∃ nn, noneR i = nn := ⟨_, rfl⟩
  rw [hnn] at HNo HDB
  clear hnn
  rw [hS] at HN HNT
  clear hL hb0 hV hP hm hi hS
  obtain ⟨d, hd⟩ := HDB.out
  rcases hd with ⟨rfl, hb⟩ | ⟨rfl, hb, rfl⟩
  · obtain ⟨h31, h32⟩ := H3.out.1 hb
    clear hb H3 HDB
    cases nn
    all_goals
      rw [in_val]
      unfold inO at hw1
      go_enter Tryz.func8, Tryz.ntmps8
      go_wp2_with fail
      refine H1.out.mono ?_
      rintro e w2 ⟨rfl, hb2⟩
      have HL2 := Lib.hid (HL.out.below hb2 HL.out.lt)
      have hB2 := HB.out.trans (hb2.mono HB.out.size)
      have HN2 := Lib.hid (HN.out w2 ((HV.out.below hB2).mono hB2.size))
      clear hb2 hw1
      go_wp2_with (refine wpList_load_row rfl 23 _ rfl w.heap.size rfl _ _ (0, 0) _ HL2.out Tryz.underlying23 rfl in_info ?_)
      refine HN2.out.mono ?_
      rintro e w3 ⟨rfl, hb3⟩
      have HL3 := Lib.hid (HL2.out.below hb3 HL2.out.lt)
      have hB3 := hB2.trans (hb3.mono hB2.size)
      clear hb3
      go_wp2_with (refine wpList_load_row rfl 23 _ rfl w.heap.size rfl _ _ (0, 0) _ HL3.out Tryz.underlying23 rfl in_info ?_)
      refine (HTw.out w3).mono ?_
      rintro e w4 ⟨rfl, hb4⟩
      have HL4 := Lib.hid (HL3.out.below hb4 HL3.out.lt)
      have hB4 := hB3.trans (hb4.mono hB3.size)
      clear hb4
      obtain ⟨w5, hw5⟩ : ∃ w5, w4.alloc (inO i) = w5 := ⟨_, rfl⟩
      have hb5 : Below w4.heap.size w4 w5 := hw5 ▸ (Below.refl _ _).alloc (Nat.le_refl _) _
      have hJ5 : w5.heap[w4.heap.size]? = some (.cells (In.cells i) 23 (0, 0)) := hw5 ▸ InW.laid w4 _
      have hL5 : w5.heap[w.heap.size]? = some (.cells i.cells 23 (0, 0)) := HL4.out.below hb5 HL4.out.lt
      have hB5 := hB4.trans (hb5.mono hB4.size)
      have hlt4 := HL4.out.lt
      have hlt5 : w4.heap.size < w5.heap.size := (Array.getElem?_eq_some_iff.1 hJ5).1
      have HNT2 := Lib.hid (HNT.out w5 ((HV.out.below hB5).mono hB5.size))
      unfold inO at hw5
      have hJ6 : w5.heap[w4.heap.size]? = some (.cells #[.int .i64 i.s, .int .i64 i.x, .int .i64 i.o, .int .i64 i.d, .int .i64 i.m, .int .i64 i.n] 23 (0, 0)) := hJ5
      have HL5 := Lib.hid hL5
      clear hb5 hJ5 hL5 HL4 HL3 HL2 HL HN HN2 HNT
      go_wp2_with (refine wpList_load_row rfl 23 _ rfl w4.heap.size rfl _ _ (0, 0) _ hJ6 Tryz.underlying23 rfl in_info ?_)
      refine HNT2.out.mono ?_
      rintro e w6 ⟨rfl, hb6⟩
      have hJ7 : w6.heap[w4.heap.size]? = some (.cells #[.int .i64 i.s, .int .i64 i.x, .int .i64 i.o, .int .i64 i.d, .int .i64 i.m, .int .i64 i.n] 23 (0, 0)) := (hb6.block _ hlt5).trans hJ6
      have hL7 : w6.heap[w.heap.size]? = some (.cells #[.int .i64 i.s, .int .i64 i.x, .int .i64 i.o, .int .i64 i.d, .int .i64 i.m, .int .i64 i.n] 23 (0, 0)) := (hb6.block _ (by omega)).trans HL5.out
      have hB6 := hB5.trans (hb6.mono hB5.size)
      have hlt6 : w4.heap.size < w6.heap.size := Nat.lt_of_lt_of_le hlt5 hb6.size
      have HNo6 := Lib.hid (HNo.out w6)
      clear hJ6 HL5 hb6 hw5 HNT2
      have HL6 := Lib.hid hL7
      go_wp2_with (first
        | (refine wpList_load_ins (by kernel_rfl) 23 _ rfl w4.heap.size rfl _ _ (0, 0) _ hJ7 Tryz.underlying23 rfl in_info ?_)
        | (refine wpList_load_ins (by kernel_rfl) 23 _ rfl w.heap.size rfl _ _ (0, 0) _ hL7 Tryz.underlying23 rfl in_info ?_))
      refine HNo6.out.mono ?_
      rintro e w7 ⟨rfl, hb7⟩
      have hJ8 := (hb7.block _ hlt6).trans hJ7
      have hL8 := (hb7.block _ (show w.heap.size < w6.heap.size by omega)).trans hL7
      have hB7 := hB6.trans (hb7.mono hB6.size)
      clear hJ7 hL7 hb7
      go_wp2_with (first
        | (refine wpList_load_ins (by kernel_rfl) 23 _ rfl w4.heap.size rfl _ _ (0, 0) _ hJ8 Tryz.underlying23 rfl in_info ?_)
        | (refine wpList_load_ins (by kernel_rfl) 23 _ rfl w.heap.size rfl _ _ (0, 0) _ hL8 Tryz.underlying23 rfl in_info ?_))
      all_goals
        go_ret
        exact ⟨rfl, hB7⟩
  · have h32 := H3.out.2 hb
    clear hb H3 HDB
    by_cases h31 : 3 < S.size
    all_goals
      rw [in_val]
      unfold inO at hw1
      go_enter Tryz.func8, Tryz.ntmps8
      go_wp2_with fail
      refine H1.out.mono ?_
      rintro e w2 ⟨rfl, hb2⟩
      have HL2 := Lib.hid (HL.out.below hb2 HL.out.lt)
      have hB2 := HB.out.trans (hb2.mono HB.out.size)
      have HN2 := Lib.hid (HN.out w2 ((HV.out.below hB2).mono hB2.size))
      clear hb2 hw1
      go_wp2_with (refine wpList_load_row rfl 23 _ rfl w.heap.size rfl _ _ (0, 0) _ HL2.out Tryz.underlying23 rfl in_info ?_)
      refine HN2.out.mono ?_
      rintro e w3 ⟨rfl, hb3⟩
      have HL3 := Lib.hid (HL2.out.below hb3 HL2.out.lt)
      have hB3 := hB2.trans (hb3.mono hB2.size)
      clear hb3
      go_wp2_with (refine wpList_load_row rfl 23 _ rfl w.heap.size rfl _ _ (0, 0) _ HL3.out Tryz.underlying23 rfl in_info ?_)
      refine (HTw.out w3).mono ?_
      rintro e w4 ⟨rfl, hb4⟩
      have HL4 := Lib.hid (HL3.out.below hb4 HL3.out.lt)
      have hB4 := hB3.trans (hb4.mono hB3.size)
      clear hb4
      obtain ⟨w5, hw5⟩ : ∃ w5, w4.alloc (inO i) = w5 := ⟨_, rfl⟩
      have hb5 : Below w4.heap.size w4 w5 := hw5 ▸ (Below.refl _ _).alloc (Nat.le_refl _) _
      have hJ5 : w5.heap[w4.heap.size]? = some (.cells (In.cells i) 23 (0, 0)) := hw5 ▸ InW.laid w4 _
      have hL5 : w5.heap[w.heap.size]? = some (.cells i.cells 23 (0, 0)) := HL4.out.below hb5 HL4.out.lt
      have hB5 := hB4.trans (hb5.mono hB4.size)
      have hlt4 := HL4.out.lt
      have hlt5 : w4.heap.size < w5.heap.size := (Array.getElem?_eq_some_iff.1 hJ5).1
      have HNT2 := Lib.hid (HNT.out w5 ((HV.out.below hB5).mono hB5.size))
      unfold inO at hw5
      have hJ6 : w5.heap[w4.heap.size]? = some (.cells #[.int .i64 i.s, .int .i64 i.x, .int .i64 i.o, .int .i64 i.d, .int .i64 i.m, .int .i64 i.n] 23 (0, 0)) := hJ5
      have HL5 := Lib.hid hL5
      clear hb5 hJ5 hL5 HL4 HL3 HL2 HL HN HN2 HNT
      go_wp2_with (refine wpList_load_row rfl 23 _ rfl w4.heap.size rfl _ _ (0, 0) _ hJ6 Tryz.underlying23 rfl in_info ?_)
      refine HNT2.out.mono ?_
      rintro e w6 ⟨rfl, hb6⟩
      have hJ7 : w6.heap[w4.heap.size]? = some (.cells #[.int .i64 i.s, .int .i64 i.x, .int .i64 i.o, .int .i64 i.d, .int .i64 i.m, .int .i64 i.n] 23 (0, 0)) := (hb6.block _ hlt5).trans hJ6
      have hL7 : w6.heap[w.heap.size]? = some (.cells #[.int .i64 i.s, .int .i64 i.x, .int .i64 i.o, .int .i64 i.d, .int .i64 i.m, .int .i64 i.n] 23 (0, 0)) := (hb6.block _ (by omega)).trans HL5.out
      have hB6 := hB5.trans (hb6.mono hB5.size)
      have hlt6 : w4.heap.size < w6.heap.size := Nat.lt_of_lt_of_le hlt5 hb6.size
      have HNo6 := Lib.hid (HNo.out w6)
      clear hJ6 HL5 hb6 hw5 HNT2
      have HL6 := Lib.hid hL7
      go_wp2_with (first
        | (refine wpList_load_ins (by kernel_rfl) 23 _ rfl w4.heap.size rfl _ _ (0, 0) _ hJ7 Tryz.underlying23 rfl in_info ?_)
        | (refine wpList_load_ins (by kernel_rfl) 23 _ rfl w.heap.size rfl _ _ (0, 0) _ hL7 Tryz.underlying23 rfl in_info ?_))
      refine HNo6.out.mono ?_
      rintro e w7 ⟨rfl, hb7⟩
      have hJ8 := (hb7.block _ hlt6).trans hJ7
      have hL8 := (hb7.block _ (show w.heap.size < w6.heap.size by omega)).trans hL7
      have hB7 := hB6.trans (hb7.mono hB6.size)
      clear hJ7 hL7 hb7
      go_wp2_with (first
        | (refine wpList_load_ins (by kernel_rfl) 23 _ rfl w4.heap.size rfl _ _ (0, 0) _ hJ8 Tryz.underlying23 rfl in_info ?_)
        | (refine wpList_load_ins (by kernel_rfl) 23 _ rfl w.heap.size rfl _ _ (0, 0) _ hL8 Tryz.underlying23 rfl in_info ?_))
      all_goals
        go_ret
        exact ⟨rfl, hB7⟩

theorem walk_TextTwins (w : World) (i : In) (hi : i.Wf) (hV : VT w w.heap.size) (hP : ParseOk w) : Calls Tryz.prog 8 #[i.val] w fun e w' => e = .returned (.bool true) ∧ Below w.heap.size w w' := by
  by_cases hm : i.may = true
  · by_cases hT : twinR i = i
    · exact twins_mayS i hi hm hT w hV hP
    · exact twins_mayO i hi hm hT w hV hP
  · exact twins_not i hi hm w hV hP
end Go.Proofs.YtgaihekapakoeaaGreatDoor
namespace Go.Proofs.YtgaihekapakoeaaGreatDoor
open Go.RowKit
set_option linter.unusedVariables false
set_option linter.unusedSimpArgs false
set_option maxRecDepth 100000

/-- What Parse should answer of a text. -/
def ParseTo (w : World) : Prop := ∀ s : ByteArray, s.size ≤ 100000 → ∀ w', Below w.heap.size w w' → ∃ (x : In) (e : Int), Calls Tryz.prog 9 #[.string s] w' (fun e' w2 => e' = .returned (.tuple #[x.val, .int .i64 e]) ∧ Below w'.heap.size w' w2) ∧ x.Wf ∧
  ((e = 0 ∧ x.may = true ∧ (⟨(textI x).toArray⟩ : ByteArray) = s) ∨ (e = 11 ∧ x = zeroI ∧ ∀ j : In, j.may = true → (⟨(textI j).toArray⟩ : ByteArray) ≠ s))
theorem ParseTo.on {w w' : World} (h : ParseTo w) (hb : Below w.heap.size w w') : ParseTo w' := fun s hs w2 h2 => h s hs w2 (hb.trans (h2.mono hb.size))
theorem arr_inj {a b : List UInt8} (h : (⟨a.toArray⟩ : ByteArray) = ⟨b.toArray⟩) : a = b := by
  injection h with e
  have := congrArg Array.toList e
  simpa using this
theorem flat_len (s x o : Int) : ∀ p : List UInt8, (p.flatMap (markK s x o)).length ≤ 8 * p.length
  | [] => by simp
  | c :: p => by
    have h1 := markK_len s x o c
    have h2 := flat_len s x o p
    rw [List.flatMap_cons, List.length_append, List.length_cons]
    omega
theorem byte_nums {i : In} (hm : i.may = true) : AllB (bytesI i) := by
  obtain ⟨hs, hx, o0, o1⟩ := one_cases (may_one hm).1
  have h1 : AllB (aheadB i) := by
    unfold aheadB preB setB
    intro n hn
    repeat' split at hn
    all_goals (simp at hn <;> omega)
  have h2 : AllB (midB i) := by
    unfold midB
    intro n hn
    repeat' split at hn
    all_goals (simp at hn <;> omega)
  unfold bytesI
  exact (h1.append h2).append (immL_all _ _)
theorem text_len {i : In} (hi : i.Wf) (hm : i.may = true) : (textI i).length ≤ 10000 := by
  obtain ⟨hs, hx, o0, o1⟩ := one_cases (may_one hm).1
  have h1 := patOf_len i.s i.o (by omega) (by omega) o0 o1
  have h2 := flat_len i.s i.x i.o (patOf i.s i.o)
  have h3 := rend_len false i.d i.m (wf_in hi.d) (wf_in hi.m) (toksK i.s i.x i.o)
  have h4 := bytesI_short i
  unfold textI
  split
  · unfold bytesT
    have h5 := joinT_len (bytesI i) (byte_nums hm) (bytesI i).length
    rw [List.length_append]
    simp only [List.length_cons, List.length_nil]
    omega
  · unfold toldT
    unfold toksK at h3 ⊢
    omega
theorem ParseTo.ok {w : World} (h : ParseTo w) : ParseOk w := by
  intro i hi hm w' hb
  have hl := text_len hi hm
  obtain ⟨x, e, hc, hx, h3⟩ := h ⟨(textI i).toArray⟩ (by simp [ByteArray.size]; omega) w' hb
  rcases h3 with ⟨rfl, h4, h5⟩ | ⟨-, -, h5⟩
  · obtain rfl := text_inj h4 hm (arr_inj h5)
    exact hc
  · exact absurd rfl (h5 i hm)
def ofTx (i : In) : List UInt8 := if i.may = true then textI i else []
def ofEr (i : In) : Int := if i.may = true then 0 else 2
theorem of_any (i : In) (hi : i.Wf) (w : World) (hV : VT w w.heap.size) : Calls Tryz.prog 13 #[i.val] w fun e w' => e = .returned (.tuple #[.string ⟨(ofTx i).toArray⟩, .int .i64 (ofEr i)]) ∧ Below w.heap.size w w' := by
  unfold ofTx ofEr
  by_cases hm : i.may = true
  · rw [if_pos hm, if_pos hm]; exact of_may i hi hm w hV
  · rw [if_neg hm, if_neg hm]; exact of_not i hi hm w
end Go.Proofs.YtgaihekapakoeaaGreatDoor
