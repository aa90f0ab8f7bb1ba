/-  -/
import Derived.Test.YtgaihekapakoeaaGreatDoorJ19
namespace Go.Proofs.YtgaihekapakoeaaGreatDoor
open Go.RowKit
set_option linter.unusedVariables false
set_option linter.unusedSimpArgs false
set_option maxRecDepth 100000

set_option maxHeartbeats 16000000 in
theorem walk_TextBack (w : World) (i : In) (hi : i.Wf) (j : In) (hj : j.Wf) (s : ByteArray) (hV : VT w w.heap.size) (hP : ParseTo w) : Calls Tryz.prog 6 #[i.val, j.val, .string s] w fun e w' => e = .returned (.bool true) ∧ Below w.heap.size w w' := by
  obtain ⟨w1, hw1⟩ : ∃ w1, (w.alloc (inO i)).alloc (inO j) = w1 := ⟨_, rfl⟩
  have hI1 : InW w1 w.heap.size i := hw1 ▸ (InW.laid w i).more _
  have hJ1 : InW w1 (w.heap.size + 1) j := by
    have := InW.laid (w.alloc (inO i)) j
    rw [hw1, show (w.alloc (inO i)).heap.size = w.heap.size + 1 by simp] at this
    exact this
  have hb0 : Below w.heap.size w w1 := hw1 ▸ ((Below.refl _ _).alloc (Nat.le_refl _) _).alloc (by simp) _
  have HI1 := Lib.hid hI1
  have HJ1 := Lib.hid hJ1
  have HB1 := Lib.hid hb0
  have HP := Lib.hid hP
  have HV := Lib.hid (fun (w2 : World) (hb : Below w.heap.size w w2) => (hV.below hb).mono hb.size)
  have H1 := Lib.hid (lives10 w1 (HV.out w1 hb0) (hP.ok.on hb0))
  have hOi := fun w2 hV2 => of_any i hi w2 hV2
  have hOj := fun w2 hV2 => of_any j hj w2 hV2
  have hCk := fun w2 => r9_check i hi w2
  simp only [in_val] at hOi hOj hCk
  have HOi := Lib.hid hOi
  have HOj := Lib.hid hOj
  have HCk := Lib.hid hCk
  have HOx := Lib.hid (fun (x : In) (hx : x.Wf) w2 hV2 => of_any x hx w2 hV2)
  have Hi := Lib.hid hi
  have Hj := Lib.hid hj
  clear hI1 hJ1 hb0 hV hP hi hj hOi hOj hCk
  rw [in_val i, in_val j]
  unfold inO at hw1
  go_enter Tryz.func6, Tryz.ntmps6
  go_wp2_with fail
  refine H1.out.mono ?_
  rintro e w2 ⟨rfl, hb2⟩
  have HI2 := Lib.hid (HI1.out.below hb2 HI1.out.lt)
  have HJ2 := Lib.hid (HJ1.out.below hb2 HJ1.out.lt)
  have HB2 := Lib.hid (HB1.out.trans (hb2.mono HB1.out.size))
  clear hb2 HI1 HJ1 HB1 H1 hw1
  by_cases hs : (60 : Int) < (s.size : Int)
  · go_wp2_with fail
    go_ret
    exact ⟨rfl, HB2.out⟩
  · obtain ⟨x, ee, hc, hx, hcase⟩ := HP.out s (by omega) w2 HB2.out
    simp only [in_val] at hc
    have HC := Lib.hid hc
    have hOx := fun w2 hV2 => HOx.out x hx w2 hV2
    simp only [in_val] at hOx
    have HOxx := Lib.hid hOx
    clear hc hx hOx
    go_wp2_with fail
    refine HC.out.mono ?_
    rintro e w3 ⟨rfl, hb3⟩
    have HI3 := Lib.hid (HI2.out.below hb3 HI2.out.lt)
    have HJ3 := Lib.hid (HJ2.out.below hb3 HJ2.out.lt)
    have HB3 := Lib.hid (HB2.out.trans (hb3.mono HB2.out.size))
    clear hb3 HI2 HJ2 HB2 HC
    obtain ⟨w4, hw4⟩ : ∃ w4, w3.alloc (inO x) = w4 := ⟨_, rfl⟩
    have h34 : Below w3.heap.size w3 w4 := hw4 ▸ (Below.refl _ _).alloc (Nat.le_refl _) _
    have hX4 : w4.heap[w3.heap.size]? = some (.cells #[.int .i64 x.s, .int .i64 x.x, .int .i64 x.o, .int .i64 x.d, .int .i64 x.m, .int .i64 x.n] 23 (0, 0)) := hw4 ▸ InW.laid w3 x
    have HI4 := Lib.hid (HI3.out.below h34 HI3.out.lt)
    have HJ4 := Lib.hid (HJ3.out.below h34 HJ3.out.lt)
    have HB4 := Lib.hid (HB3.out.trans (h34.mono HB3.out.size))
    have hJ3lt := HJ3.out.lt
    have hX4lt : w3.heap.size < w4.heap.size := (Array.getElem?_eq_some_iff.1 hX4).1
    have HX4 := Lib.hid hX4
    unfold inO at hw4
    clear h34 HI3 HJ3 HB3
    rcases hcase with ⟨rfl, hxm, hxs⟩ | ⟨rfl, -, -⟩
    · have e1 : ofTx x = textI x := by unfold ofTx; rw [if_pos hxm]
      have e2 : ofEr x = 0 := by unfold ofEr; rw [if_pos hxm]
      have hox := HOxx.out w4 (HV.out w4 HB4.out)
      rw [e1, e2, hxs] at hox
      have HO4 := Lib.hid hox
      have hX4c := HX4.out
      have hss : (s.toList == s.toList) = true := beq_self_eq_true _
      clear hox e1 e2 hxm hxs HOxx
      go_wp2_with (refine wpList_load_ins (by rfl) 23 _ rfl w3.heap.size rfl _ _ (0, 0) _ hX4c Tryz.underlying23 rfl in_info ?_)
      refine HO4.out.mono ?_
      rintro e w5 ⟨rfl, hb5⟩
      have HI5 := Lib.hid (HI4.out.below hb5 HI4.out.lt)
      have HJ5 := Lib.hid (HJ4.out.below hb5 HJ4.out.lt)
      have HX5 := Lib.hid ((hb5.block _ hX4lt).trans HX4.out)
      have HB5 := Lib.hid (HB4.out.trans (hb5.mono HB4.out.size))
      have hX5lt : w3.heap.size < w5.heap.size := Nat.lt_of_lt_of_le hX4lt hb5.size
      clear hb5 hX4c HI4 HJ4 HX4 HB4 HO4 hw4
      have hI5c : w5.heap[w.heap.size]? = some (.cells #[.int .i64 i.s, .int .i64 i.x, .int .i64 i.o, .int .i64 i.d, .int .i64 i.m, .int .i64 i.n] 23 (0, 0)) := HI5.out
      have HO5 := Lib.hid (HOi.out w5 (HV.out w5 HB5.out))
      go_wp2_with (refine wpList_load_ins (by rfl) 23 _ rfl w.heap.size rfl _ _ (0, 0) _ hI5c Tryz.underlying23 rfl in_info ?_)
      refine HO5.out.mono ?_
      rintro e w6 ⟨rfl, hb6⟩
      have HI6 := Lib.hid (HI5.out.below hb6 HI5.out.lt)
      have HJ6 := Lib.hid (HJ5.out.below hb6 HJ5.out.lt)
      have HX6 := Lib.hid ((hb6.block _ hX5lt).trans HX5.out)
      have HB6 := Lib.hid (HB5.out.trans (hb6.mono HB5.out.size))
      have hX6lt : w3.heap.size < w6.heap.size := Nat.lt_of_lt_of_le hX5lt hb6.size
      have hJ6c : w6.heap[(w.heap.size + 1)]? = some (.cells #[.int .i64 j.s, .int .i64 j.x, .int .i64 j.o, .int .i64 j.d, .int .i64 j.m, .int .i64 j.n] 23 (0, 0)) := HJ6.out
      have HO6 := Lib.hid (HOj.out w6 (HV.out w6 HB6.out))
      clear hb6 hI5c HO5
      go_wp2_with (refine wpList_load_ins (by rfl) 23 _ rfl (w.heap.size + 1) rfl _ _ (0, 0) _ hJ6c Tryz.underlying23 rfl in_info ?_)
      refine HO6.out.mono ?_
      rintro e w7 ⟨rfl, hb7⟩
      have HI7 := Lib.hid (HI6.out.below hb7 HI6.out.lt)
      have HJ7 := Lib.hid (HJ6.out.below hb7 HJ6.out.lt)
      have HX7 := Lib.hid ((hb7.block _ hX6lt).trans HX6.out)
      have HB7 := Lib.hid (HB6.out.trans (hb7.mono HB6.out.size))
      have hX7lt : w3.heap.size < w7.heap.size := Nat.lt_of_lt_of_le hX6lt hb7.size
      clear hb7 hJ6c HO6
      cases hm : i.may with
      | false =>
        have e1 : ofTx i = [] := by unfold ofTx; rw [if_neg (by rw [hm]; decide)]
        have e2 : ofEr i = 2 := by unfold ofEr; rw [if_neg (by rw [hm]; decide)]
        have HCk2 := Lib.hid (HCk.out w7)
        rw [hm, if_neg (by decide)] at HCk2
        rw [e1, e2]
        have hI7c : w7.heap[w.heap.size]? = some (.cells #[.int .i64 i.s, .int .i64 i.x, .int .i64 i.o, .int .i64 i.d, .int .i64 i.m, .int .i64 i.n] 23 (0, 0)) := HI7.out
        clear e1 e2 hm
        go_wp2_with (refine wpList_load_ins (by rfl) 23 _ rfl w.heap.size rfl _ _ (0, 0) _ hI7c Tryz.underlying23 rfl in_info ?_)
        refine HCk2.out.mono ?_
        rintro e w8 ⟨rfl, hb8⟩
        have hB8 := HB7.out.trans (hb8.mono HB7.out.size)
        go_wp2_with fail
        go_ret
        exact ⟨rfl, hB8⟩
      | true =>
        have e1 : ofTx i = textI i := by unfold ofTx; rw [if_pos hm]
        have e2 : ofEr i = 0 := by unfold ofEr; rw [if_pos hm]
        rw [e1, e2]
        have hpk := HP.out.ok i Hi.out hm w7 HB7.out
        rw [in_val] at hpk
        have HPk := Lib.hid hpk
        have HM := Lib.hid hm
        obtain ⟨Ti, hTi⟩ : ∃ Ti : ByteArray, (⟨(textI i).toArray⟩ : ByteArray) = Ti := ⟨_, rfl⟩
        obtain ⟨Tj, hTj⟩ : ∃ Tj : ByteArray, (⟨(ofTx j).toArray⟩ : ByteArray) = Tj := ⟨_, rfl⟩
        rw [hTi] at HPk ⊢
        rw [hTj]
        have HTi := Lib.hid hTi
        have HTj := Lib.hid hTj
        clear e1 e2 hpk hm hTi hTj
        go_wp2_with fail
        refine HPk.out.mono ?_
        rintro e w8 ⟨rfl, hb8⟩
        have hX8 := (hb8.block _ hX7lt).trans HX7.out
        have HI8 := Lib.hid (HI7.out.below hb8 HI7.out.lt)
        have HJ8 := Lib.hid (HJ7.out.below hb8 HJ7.out.lt)
        have HB8 := Lib.hid (HB7.out.trans (hb8.mono HB7.out.size))
        obtain ⟨w9, hw9⟩ : ∃ w9, w8.setRow w3.heap.size #[.int .i64 i.s, .int .i64 i.x, .int .i64 i.o, .int .i64 i.d, .int .i64 i.m, .int .i64 i.n] = w9 := ⟨_, rfl⟩
        have hX9 : w9.heap[w3.heap.size]? = some (.cells #[.int .i64 i.s, .int .i64 i.x, .int .i64 i.o, .int .i64 i.d, .int .i64 i.m, .int .i64 i.n] 23 (0, 0)) := hw9 ▸ setRow_heap _ _ _ _ _ _ hX8
        have hI9 : w9.heap[w.heap.size]? = some (.cells #[.int .i64 i.s, .int .i64 i.x, .int .i64 i.o, .int .i64 i.d, .int .i64 i.m, .int .i64 i.n] 23 (0, 0)) := hw9 ▸ (setRow_other w8 _ _ _ (show w.heap.size ≠ w3.heap.size by omega)).trans HI8.out
        have hJ9 : w9.heap[(w.heap.size + 1)]? = some (.cells #[.int .i64 j.s, .int .i64 j.x, .int .i64 j.o, .int .i64 j.d, .int .i64 j.m, .int .i64 j.n] 23 (0, 0)) := hw9 ▸ (setRow_other w8 _ _ _ (show w.heap.size + 1 ≠ w3.heap.size by omega)).trans HJ8.out
        have hB9 : Below w.heap.size w w9 := hw9 ▸ below_setRow HB8.out (by omega) _
        clear hb8 HPk HI7 HJ7 HX7 HB7 HI8 HJ8 HB8
        by_cases hmj : j.may = true
        · have e2 : ofEr j = 0 := by unfold ofEr; rw [if_pos hmj]
          have e1 : ofTx j = textI j := by unfold ofTx; rw [if_pos hmj]
          rw [e2]
          by_cases hij : i = j
          · subst hij
            have ht : (Ti.toList == Tj.toList) = true := by rw [← HTi.out, ← HTj.out, e1]; exact beq_self_eq_true _
            clear e1 e2 hmj
            go_wp2_with (first
              | (refine wpList_store_row rfl 23 _ _ rfl w3.heap.size _ rfl rfl _ _ hX8 in_info rfl (in_one i) ?_)
              | (refine wpList_load_ins (by rfl) 23 _ rfl w3.heap.size rfl _ _ (0, 0) _ hX9 Tryz.underlying23 rfl in_info ?_)
              | (refine wpList_load_ins (by rfl) 23 _ rfl w.heap.size rfl _ _ (0, 0) _ hI9 Tryz.underlying23 rfl in_info ?_)
              | (refine wpList_load_ins (by rfl) 23 _ rfl (w.heap.size + 1) rfl _ _ (0, 0) _ hJ9 Tryz.underlying23 rfl in_info ?_))
            all_goals
              go_ret
              exact ⟨rfl, hB9⟩
          · have ht : (Ti.toList == Tj.toList) = false := by rw [← HTi.out, ← HTj.out, e1, toList_beq]; exact decide_eq_false (fun e => hij (text_inj HM.out hmj e))
            have heql := fun w => in_eql_other i j hij w
            simp only [in_val] at heql
            clear e1 e2 hmj hij
            go_wp2_with (first
              | (refine wpList_store_row rfl 23 _ _ rfl w3.heap.size _ rfl rfl _ _ hX8 in_info rfl (in_one i) ?_)
              | (refine wpList_load_ins (by rfl) 23 _ rfl w3.heap.size rfl _ _ (0, 0) _ hX9 Tryz.underlying23 rfl in_info ?_)
              | (refine wpList_load_ins (by rfl) 23 _ rfl w.heap.size rfl _ _ (0, 0) _ hI9 Tryz.underlying23 rfl in_info ?_)
              | (refine wpList_load_ins (by rfl) 23 _ rfl (w.heap.size + 1) rfl _ _ (0, 0) _ hJ9 Tryz.underlying23 rfl in_info ?_))
            all_goals
              go_ret
              exact ⟨rfl, hB9⟩
        · have e2 : ofEr j = 2 := by unfold ofEr; rw [if_neg hmj]
          rw [e2]
          clear e2 hmj
          go_wp2_with (first
            | (refine wpList_store_row rfl 23 _ _ rfl w3.heap.size _ rfl rfl _ _ hX8 in_info rfl (in_one i) ?_)
            | (refine wpList_load_ins (by rfl) 23 _ rfl w3.heap.size rfl _ _ (0, 0) _ hX9 Tryz.underlying23 rfl in_info ?_)
            | (refine wpList_load_ins (by rfl) 23 _ rfl w.heap.size rfl _ _ (0, 0) _ hI9 Tryz.underlying23 rfl in_info ?_)
            | (refine wpList_load_ins (by rfl) 23 _ rfl (w.heap.size + 1) rfl _ _ (0, 0) _ hJ9 Tryz.underlying23 rfl in_info ?_))
          all_goals
            go_ret
            exact ⟨rfl, hB9⟩
    · obtain ⟨w5, hw5⟩ : ∃ w5, w4 = w5 := ⟨_, rfl⟩
      subst hw5
      have HI5 := HI4
      have HJ5 := HJ4
      have HX5 := HX4
      have HB5 := HB4
      have hX5lt := hX4lt
      clear HI4 HJ4 HX4 HB4 HOxx
      have hI5c : w4.heap[w.heap.size]? = some (.cells #[.int .i64 i.s, .int .i64 i.x, .int .i64 i.o, .int .i64 i.d, .int .i64 i.m, .int .i64 i.n] 23 (0, 0)) := HI5.out
      have HO5 := Lib.hid (HOi.out w4 (HV.out w4 HB5.out))
      go_wp2_with (refine wpList_load_ins (by rfl) 23 _ rfl w.heap.size rfl _ _ (0, 0) _ hI5c Tryz.underlying23 rfl in_info ?_)
      refine HO5.out.mono ?_
      rintro e w6 ⟨rfl, hb6⟩
      have HI6 := Lib.hid (HI5.out.below hb6 HI5.out.lt)
      have HJ6 := Lib.hid (HJ5.out.below hb6 HJ5.out.lt)
      have HX6 := Lib.hid ((hb6.block _ hX5lt).trans HX5.out)
      have HB6 := Lib.hid (HB5.out.trans (hb6.mono HB5.out.size))
      have hX6lt : w3.heap.size < w6.heap.size := Nat.lt_of_lt_of_le hX5lt hb6.size
      have hJ6c : w6.heap[(w.heap.size + 1)]? = some (.cells #[.int .i64 j.s, .int .i64 j.x, .int .i64 j.o, .int .i64 j.d, .int .i64 j.m, .int .i64 j.n] 23 (0, 0)) := HJ6.out
      have HO6 := Lib.hid (HOj.out w6 (HV.out w6 HB6.out))
      clear hb6 hI5c HO5
      go_wp2_with (refine wpList_load_ins (by rfl) 23 _ rfl (w.heap.size + 1) rfl _ _ (0, 0) _ hJ6c Tryz.underlying23 rfl in_info ?_)
      refine HO6.out.mono ?_
      rintro e w7 ⟨rfl, hb7⟩
      have HI7 := Lib.hid (HI6.out.below hb7 HI6.out.lt)
      have HJ7 := Lib.hid (HJ6.out.below hb7 HJ6.out.lt)
      have HX7 := Lib.hid ((hb7.block _ hX6lt).trans HX6.out)
      have HB7 := Lib.hid (HB6.out.trans (hb7.mono HB6.out.size))
      have hX7lt : w3.heap.size < w7.heap.size := Nat.lt_of_lt_of_le hX6lt hb7.size
      clear hb7 hJ6c HO6
      cases hm : i.may with
      | false =>
        have e1 : ofTx i = [] := by unfold ofTx; rw [if_neg (by rw [hm]; decide)]
        have e2 : ofEr i = 2 := by unfold ofEr; rw [if_neg (by rw [hm]; decide)]
        have HCk2 := Lib.hid (HCk.out w7)
        rw [hm, if_neg (by decide)] at HCk2
        rw [e1, e2]
        have hI7c : w7.heap[w.heap.size]? = some (.cells #[.int .i64 i.s, .int .i64 i.x, .int .i64 i.o, .int .i64 i.d, .int .i64 i.m, .int .i64 i.n] 23 (0, 0)) := HI7.out
        clear e1 e2 hm
        go_wp2_with (refine wpList_load_ins (by rfl) 23 _ rfl w.heap.size rfl _ _ (0, 0) _ hI7c Tryz.underlying23 rfl in_info ?_)
        refine HCk2.out.mono ?_
        rintro e w8 ⟨rfl, hb8⟩
        have hB8 := HB7.out.trans (hb8.mono HB7.out.size)
        go_wp2_with fail
        go_ret
        exact ⟨rfl, hB8⟩
      | true =>
        have e1 : ofTx i = textI i := by unfold ofTx; rw [if_pos hm]
        have e2 : ofEr i = 0 := by unfold ofEr; rw [if_pos hm]
        rw [e1, e2]
        have hpk := HP.out.ok i Hi.out hm w7 HB7.out
        rw [in_val] at hpk
        have HPk := Lib.hid hpk
        have HM := Lib.hid hm
        obtain ⟨Ti, hTi⟩ : ∃ Ti : ByteArray, (⟨(textI i).toArray⟩ : ByteArray) = Ti := ⟨_, rfl⟩
        obtain ⟨Tj, hTj⟩ : ∃ Tj : ByteArray, (⟨(ofTx j).toArray⟩ : ByteArray) = Tj := ⟨_, rfl⟩
        rw [hTi] at HPk ⊢
        rw [hTj]
        have HTi := Lib.hid hTi
        have HTj := Lib.hid hTj
        clear e1 e2 hpk hm hTi hTj
        go_wp2_with fail
        refine HPk.out.mono ?_
        rintro e w8 ⟨rfl, hb8⟩
        have hX8 := (hb8.block _ hX7lt).trans HX7.out
        have HI8 := Lib.hid (HI7.out.below hb8 HI7.out.lt)
        have HJ8 := Lib.hid (HJ7.out.below hb8 HJ7.out.lt)
        have HB8 := Lib.hid (HB7.out.trans (hb8.mono HB7.out.size))
        obtain ⟨w9, hw9⟩ : ∃ w9, w8.setRow w3.heap.size #[.int .i64 i.s, .int .i64 i.x, .int .i64 i.o, .int .i64 i.d, .int .i64 i.m, .int .i64 i.n] = w9 := ⟨_, rfl⟩
        have hX9 : w9.heap[w3.heap.size]? = some (.cells #[.int .i64 i.s, .int .i64 i.x, .int .i64 i.o, .int .i64 i.d, .int .i64 i.m, .int .i64 i.n] 23 (0, 0)) := hw9 ▸ setRow_heap _ _ _ _ _ _ hX8
        have hI9 : w9.heap[w.heap.size]? = some (.cells #[.int .i64 i.s, .int .i64 i.x, .int .i64 i.o, .int .i64 i.d, .int .i64 i.m, .int .i64 i.n] 23 (0, 0)) := hw9 ▸ (setRow_other w8 _ _ _ (show w.heap.size ≠ w3.heap.size by omega)).trans HI8.out
        have hJ9 : w9.heap[(w.heap.size + 1)]? = some (.cells #[.int .i64 j.s, .int .i64 j.x, .int .i64 j.o, .int .i64 j.d, .int .i64 j.m, .int .i64 j.n] 23 (0, 0)) := hw9 ▸ (setRow_other w8 _ _ _ (show w.heap.size + 1 ≠ w3.heap.size by omega)).trans HJ8.out
        have hB9 : Below w.heap.size w w9 := hw9 ▸ below_setRow HB8.out (by omega) _
        clear hb8 HPk HI7 HJ7 HX7 HB7 HI8 HJ8 HB8
        by_cases hmj : j.may = true
        · have e2 : ofEr j = 0 := by unfold ofEr; rw [if_pos hmj]
          have e1 : ofTx j = textI j := by unfold ofTx; rw [if_pos hmj]
          rw [e2]
          by_cases hij : i = j
          · subst hij
            have ht : (Ti.toList == Tj.toList) = true := by rw [← HTi.out, ← HTj.out, e1]; exact beq_self_eq_true _
            clear e1 e2 hmj
            go_wp2_with (first
              | (refine wpList_store_row rfl 23 _ _ rfl w3.heap.size _ rfl rfl _ _ hX8 in_info rfl (in_one i) ?_)
              | (refine wpList_load_ins (by rfl) 23 _ rfl w3.heap.size rfl _ _ (0, 0) _ hX9 Tryz.underlying23 rfl in_info ?_)
              | (refine wpList_load_ins (by rfl) 23 _ rfl w.heap.size rfl _ _ (0, 0) _ hI9 Tryz.underlying23 rfl in_info ?_)
              | (refine wpList_load_ins (by rfl) 23 _ rfl (w.heap.size + 1) rfl _ _ (0, 0) _ hJ9 Tryz.underlying23 rfl in_info ?_))
            all_goals
              go_ret
              exact ⟨rfl, hB9⟩
          · have ht : (Ti.toList == Tj.toList) = false := by rw [← HTi.out, ← HTj.out, e1, toList_beq]; exact decide_eq_false (fun e => hij (text_inj HM.out hmj e))
            have heql := fun w => in_eql_other i j hij w
            simp only [in_val] at heql
            clear e1 e2 hmj hij
            go_wp2_with (first
              | (refine wpList_store_row rfl 23 _ _ rfl w3.heap.size _ rfl rfl _ _ hX8 in_info rfl (in_one i) ?_)
              | (refine wpList_load_ins (by rfl) 23 _ rfl w3.heap.size rfl _ _ (0, 0) _ hX9 Tryz.underlying23 rfl in_info ?_)
              | (refine wpList_load_ins (by rfl) 23 _ rfl w.heap.size rfl _ _ (0, 0) _ hI9 Tryz.underlying23 rfl in_info ?_)
              | (refine wpList_load_ins (by rfl) 23 _ rfl (w.heap.size + 1) rfl _ _ (0, 0) _ hJ9 Tryz.underlying23 rfl in_info ?_))
            all_goals
              go_ret
              exact ⟨rfl, hB9⟩
        · have e2 : ofEr j = 2 := by unfold ofEr; rw [if_neg hmj]
          rw [e2]
          clear e2 hmj
          go_wp2_with (first
            | (refine wpList_store_row rfl 23 _ _ rfl w3.heap.size _ rfl rfl _ _ hX8 in_info rfl (in_one i) ?_)
            | (refine wpList_load_ins (by rfl) 23 _ rfl w3.heap.size rfl _ _ (0, 0) _ hX9 Tryz.underlying23 rfl in_info ?_)
            | (refine wpList_load_ins (by rfl) 23 _ rfl w.heap.size rfl _ _ (0, 0) _ hI9 Tryz.underlying23 rfl in_info ?_)
            | (refine wpList_load_ins (by rfl) 23 _ rfl (w.heap.size + 1) rfl _ _ (0, 0) _ hJ9 Tryz.underlying23 rfl in_info ?_))
          all_goals
            go_ret
            exact ⟨rfl, hB9⟩
end Go.Proofs.YtgaihekapakoeaaGreatDoor
