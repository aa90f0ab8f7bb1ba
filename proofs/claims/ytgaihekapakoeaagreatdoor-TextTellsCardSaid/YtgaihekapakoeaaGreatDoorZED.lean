/-  -/
import Derived.Test.YtgaihekapakoeaaGreatDoorJ29
import Derived.Test.YtgaihekapakoeaaGreatDoorJ28
import Derived.Test.YtgaihekapakoeaaGreatDoorJ25
import Derived.Test.YtgaihekapakoeaaGreatDoorJ9
namespace Go.Proofs.YtgaihekapakoeaaGreatDoor
open Go.RowKit
set_option linter.unusedVariables false
set_option linter.unusedSimpArgs false
set_option maxRecDepth 100000

set_option maxHeartbeats 8000000 in
theorem card_TextTells (w : World) (hV : VP w w.heap.size) (i : In) (hi : i.Wf) (A : Option Addr) (c n : Nat) (l : List Int) (hn : n = l.length) (h : RB w w.heap.size A c l) :
  Calls Tryz.prog 4 #[i.val, .slice A n c] w fun e w' => e = .returned (.bool true) ∧ Below w.heap.size w w' := by
 subst hn
 have hP := parse_to w hV
 obtain ⟨w1, hw1⟩ : ∃ w1, w.alloc (inO i) = w1 := ⟨_, rfl⟩
 have hb1 : Below w.heap.size w w1 := hw1 ▸ (Below.refl _ _).alloc (Nat.le_refl _) _
 have HI := Lib.hid (hw1 ▸ InW.laid w i : InW w1 w.heap.size i)
 have hV1 := hV.later hb1
 have HL := Lib.hid (lives10 w1 hV1.vt (hP.ok.on hb1))
 have hby := h.bytes
 have hle := h.le
 have hmax := h.cap
 unfold maxLen at hmax
 have HB1 := Lib.hid hb1
 have HV := Lib.hid hV
 have HR1 := Lib.hid ((h.below hb1).more hb1.size)
 have hO1 := fun (w0 : World) (hv : VT w0 w0.heap.size) => of_any i hi w0 hv
 have hO2 := fun (w0 : World) => d10_of i hi w0
 rw [in_val] at hO1 hO2 ⊢
 obtain ⟨T, hT⟩ : ∃ T : ByteArray, (⟨(ofTx i).toArray⟩ : ByteArray) = T := ⟨_, rfl⟩
 obtain ⟨E, hE⟩ : ∃ E, ofEr i = E := ⟨_, rfl⟩
 simp only [hT, hE] at hO1 hO2
 have HO1 := Lib.hid hO1
 have HO2 := Lib.hid hO2
 unfold inO at hw1
 clear hO1 hO2 hT hE hP hV1 hb1 hV h
 by_cases h60 : 60 < l.length
 ·have t60 : (60 : Int) < l.length := by omega
  go_enter Tryz.func4, Tryz.ntmps4
  go_wp2_with (go_at_call 11; refine HL.out.mono ?_; rintro e w2 ⟨rfl, hb2⟩)
  go_ret
  exact ⟨rfl, HB1.out.trans (hb2.mono HB1.out.size)⟩
 ·have t60 : ¬ (60 : Int) < l.length := by omega
  go_enter Tryz.func4, Tryz.ntmps4
  go_wp2_with fail
  refine HL.out.mono ?_
  rintro e w2 ⟨rfl, hb2⟩
  have HB2 := Lib.hid (HB1.out.trans (hb2.mono HB1.out.size))
  have HI2 := Lib.hid (HI.out.below hb2 HI.out.lt)
  have HR2 := Lib.hid ((HR1.out.below hb2).more hb2.size)
  clear hb2 HL
  go_wp2_with (refine wpList_load_row rfl 23 _ rfl w.heap.size rfl _ _ (0, 0) _ HI2.out Tryz.underlying23 rfl in_info ?_)
  refine (HO1.out w2 (HV.out.later HB2.out).vt).mono ?_
  rintro e w3 ⟨rfl, hb3⟩
  have HB3 := Lib.hid (HB2.out.trans (hb3.mono HB2.out.size))
  have HI3 := Lib.hid (HI2.out.below hb3 HI2.out.lt)
  have HR3 := Lib.hid ((HR2.out.below hb3).more hb3.size)
  clear hb3
  go_wp2_with (refine wpList_load_row rfl 23 _ rfl w.heap.size rfl _ _ (0, 0) _ HI3.out Tryz.underlying23 rfl in_info ?_)
  refine (HO2.out w3).mono ?_
  rintro e w4 ⟨rfl, hb4⟩
  have HB4 := Lib.hid (HB3.out.trans (hb4.mono HB3.out.size))
  have HR4 := Lib.hid ((HR3.out.below hb4).more hb4.size)
  clear hb4
  go_wp2_with fail
  refine (own_any A c _ l w4 _ rfl HR4.out (Nat.le_refl _) (by omega)).mono ?_
  rintro e w5 ⟨A5, c5, rfl, ho5, hb5⟩
  have HB5 := Lib.hid (HB4.out.trans (hb5.mono HB4.out.size))
  have HR5 := Lib.hid ((HR4.out.below hb5).more hb5.size)
  clear hb5
  go_wp2_with fail
  refine (list_any l A5 c5 _ w5 hby (by omega) (HV.out.later HB5.out).vt (all_ob ho5 (by omega) _ rfl)).mono ?_
  rintro e w6 ⟨⟨v6, rfl, ho6⟩, hb6⟩
  have HB6 := Lib.hid (HB5.out.trans (hb6.mono HB5.out.size))
  have HR6 := Lib.hid ((HR5.out.below hb6).more hb6.size)
  rw [rowT_txs, ← txs_len] at ho6
  obtain ⟨A6, c6, rfl⟩ := text_own_shape ho6
  have HT6 := Lib.hid (TL.own ho6)
  have hl9 := fun (w0 : World) (h0 : RB w0 w0.heap.size A c l) => d10_list l A c _ w0 hby (by omega) (r9_all_any A c _ l w0 rfl h0 (by omega))
  unfold ListT at hl9
  obtain ⟨q1, -, q3⟩ := allI_left _ l (Nat.le_refl _) hby
  rw [← txs_len] at q3
  simp only [rowT_txs, ← txs_len] at hl9
  obtain ⟨Z, hZ⟩ : ∃ Z, txs (allI l).1 = Z := ⟨_, rfl⟩
  obtain ⟨q, hq⟩ : ∃ q, (allI l).2 = q := ⟨_, rfl⟩
  rw [hZ] at HT6 q3 ⊢
  rw [hq] at q1 ⊢
  simp only [hZ, hq] at hl9
  have HL9 := Lib.hid hl9
  clear hl9 hZ hq hb6 ho6 ho5
  go_wp2_with fail
  refine (HL9.out w6 HR6.out).mono ?_
  rintro e w7 ⟨⟨v7, rfl, ho7⟩, hb7⟩
  obtain ⟨A7, c7, rfl⟩ := text_own_shape ho7
  have HB7 := Lib.hid (HB6.out.trans (hb7.mono HB6.out.size))
  have HT7 := Lib.hid ((HT6.out.below hb7).more hb7.size)
  have HU7 := Lib.hid (TL.own ho7)
  have HS := Lib.hid (texts_same A6 A7 c6 c7 _ _ Z w7 rfl rfl HT7.out HU7.out (by omega))
  clear hb7 ho7 HL9
  go_wp2_with (go_at_call 18; refine HS.out.mono ?_; rintro e w8 ⟨rfl, hb8⟩)
  go_ret
  exact ⟨by simp, HB7.out.trans (hb8.mono HB7.out.size)⟩
end Go.Proofs.YtgaihekapakoeaaGreatDoor
