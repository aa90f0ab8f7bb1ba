/-   -/
import Derived.Test.YtgaihekapakoeaaGreatDoorJ10
set_option linter.unusedVariables false
set_option linter.unusedSimpArgs false
namespace Go.Proofs.YtgaihekapakoeaaGreatDoor
open Go.RowKit


set_option maxRecDepth 100000

def loneI (i : In) : Bool := i.x == 0 && (i.o == 221 || i.o == 253)
def In.bare (i : In) : In := { i with x := 0 }
def isBytesI (i : In) : Bool :=
 if i.s = 0 then loneI i || (i.x != 0 && (⟨(toldT false i).toArray⟩ : ByteArray).toList == (⟨(toldT false i.bare).toArray⟩ : ByteArray).toList)
 else if i.s = 2 then noneI i.o || decide (twinI i ≠ i) else i.s == 3 && (i.o / 64 == 1 && i.o % 8 != 6)
def textI (i : In) : List UInt8 := if isBytesI i = true then bytesT (bytesI i) else toldT false i

theorem InW.px {w : World} {b : Nat} {i : In} (h : InW w b i) (v : Int) : InW (w.setCell ⟨b, 1, none⟩ (.int .i64 v)) b { i with x := v } := by
 unfold InW at *; rw [heap_setCell_same w b 1 _ _ _ h]; rfl

theorem lone_any (i : In) (w : World) : Calls Tryz.prog 68 #[i.val] w fun e w' => e = .returned (.bool (loneI i)) ∧ Below w.heap.size w w' := by
 obtain ⟨w1, hw1⟩ : ∃ w1, w.alloc (inO i) = w1 := ⟨_, rfl⟩
 have hL : InW w1 w.heap.size i := hw1 ▸ InW.laid w i
 have hb0 : Below w.heap.size w w1 := hw1 ▸ (Below.refl _ _).alloc (Nat.le_refl _) _
 have g1 := hL.gx
 have g2 := hL.go
 obtain ⟨q, hq⟩ : ∃ q, loneI i = q := ⟨_, rfl⟩
 rw [hq]
 unfold loneI at hq
 rw [in_val]
 unfold inO at hw1
 obtain ⟨o, ho⟩ : ∃ o, i.o = o := ⟨_, rfl⟩
 obtain ⟨x, hx⟩ : ∃ x, i.x = x := ⟨_, rfl⟩
 rw [ho] at g2 hq
 rw [hx] at g1 hq
 have HQ := z_ hq
 clear ho hx hq hL
 go_enter Tryz.func68, Tryz.ntmps68
 go_wp2
 all_goals
  go_ret
  exact ⟨ret_b (by rw [← HQ.out] <;> simp_all), hb0⟩

set_option maxHeartbeats 1000000 in
theorem bare_any (i : In) (w : World) : Calls Tryz.prog 69 #[i.val] w fun e w' => e = .returned i.bare.val ∧ Below w.heap.size w w' := by
 have hb2 : Below w.heap.size w ((w.alloc (inO i)).alloc (inO zeroI)) := ((Below.refl _ _).alloc (Nat.le_refl _) _).alloc (by simp) _
 have hI := (InW.laid w i).more (inO zeroI)
 have hZ := InW.laid (w.alloc (inO i)) zeroI
 have hsz : (w.alloc (inO i)).heap.size = w.heap.size + 1 := by simp
 rw [hsz] at hZ
 obtain ⟨w1, hw1⟩ : ∃ w2, (w.alloc (inO i)).alloc (inO zeroI) = w2 := ⟨_, rfl⟩
 rw [hw1] at hb2 hI hZ
 have f1 := hI.free 1
 have g1 := hI.gx
 have HL3 := z_ (hI.px 0)
 have HZ3 := z_ (show InW (w1.setCell ⟨w.heap.size, 1, none⟩ (.int .i64 0)) (w.heap.size + 1) zeroI from (heap_setCell_other w1 _ _ _ (by simp)).trans hZ)
 have HB3 := z_ (hb2.setCell (p := ⟨w.heap.size, 1, none⟩) (Nat.le_refl _) (.int .i64 0))
 clear hI hZ hsz hb2
 rw [in_val]
 unfold inO zeroI at hw1
 go_enter Tryz.func69, Tryz.ntmps69
 go_wp2_with (first
  | (refine lr w.heap.size rfl rfl rfl HL3.out ?_)
  | (refine sr (w.heap.size + 1) rfl rfl rfl rfl HZ3.out (in_one _) ?_))
 (try simp only [Exit.inBlock, Exit.then])
 exact bodyPost_ret (results_cell_row rfl _ _ _ _ _ (0, 0) _ rfl (setRow_heap _ _ _ _ _ _ HZ3.out) Tryz.underlying23 rfl in_info) rfl ⟨rfl, below_setRow HB3.out (by omega) _⟩

structure Tells (i : In) : Prop where
 wf : i.Wf
 s0 : 0 ≤ i.s
 s1 : i.s < 4
 x0 : 0 ≤ i.x
 x1 : i.x < 3
 o0 : 0 ≤ i.o
 o1 : i.o < 256
 ne : toldT false i ≠ []
theorem told_of (i : In) (h : Tells i) (w : World) (hV : VT w w.heap.size) : Calls Tryz.prog 35 #[i.val] w fun e w' => e = .returned (.string ⟨(toldT false i).toArray⟩) ∧ Below w.heap.size w w' :=
 told_any i h.wf w hV h.s0 h.s1 h.x0 h.x1 h.o0 h.o1 h.ne

theorem VT.base {b w : World} {B : Nat} (h : VT b B) (hB : B ≤ b.heap.size) (hw : M.Base b w) : VT w w.heap.size := (h.below (hw.2.mono hB)).mono (Nat.le_trans hB hw.1)
theorem InW.base {b w : World} {n : Nat} {i : In} (h : InW b n i) (hw : M.Base b w) : InW w n i := h.keep (hw.2.block _ h.lt)

set_option maxHeartbeats 8000000 in
theorem isbytes_main (i : In) (hm : i.may = true) (hi : i.Wf) (hs : i.s = 0) (ht : i.x ≠ 0 → Tells i ∧ Tells i.bare) (w : World) (hV : VT w w.heap.size) : Calls Tryz.prog 33 #[i.val] w fun e w' => e = .returned (.bool (isBytesI i)) ∧ Below w.heap.size w w' := by
 obtain ⟨-, hx3, o0, o1⟩ := one_cases (may_one hm).1
 obtain ⟨w1, hw1⟩ : ∃ w1, w.alloc (inO i) = w1 := ⟨_, rfl⟩
 have hL : InW w1 w.heap.size i := hw1 ▸ InW.laid w i
 have hb0 : Below w.heap.size w w1 := hw1 ▸ (Below.refl _ _).alloc (Nat.le_refl _) _
 have hV1 : VT w1 w1.heap.size := (hV.below hb0).mono hb0.size
 have g0 := hL.gs
 have g1 := fun p : M.Of (M.Base w1) => (hL.base p.ok).gx
 have g2 := hL.go
 rw [hs] at g0
 have HP := fun w => c9_parts i.o w o0 o1
 obtain ⟨q, hq⟩ : ∃ q, isBytesI i = q := ⟨_, rfl⟩
 rw [hq]
 unfold isBytesI at hq
 rw [if_pos hs] at hq
 have HL := z_ hL
 have HV := z_ hV1
 have HW := z_ hb0
 obtain ⟨o, ho⟩ : ∃ o, i.o = o := ⟨_, rfl⟩
 obtain ⟨x, hx⟩ : ∃ x, i.x = x := ⟨_, rfl⟩
 rw [ho] at g2 HP
 rw [hx] at g1 hq ht
 have HP := z_ HP
 have HN := z_ (lone_any i)
 have HT := z_ ht
 have HTo := z_ (told_of i)
 have HTb := z_ (told_of i.bare)
 have HBa := z_ (bare_any i)
 obtain ⟨l, hl⟩ : ∃ l, loneI i = l := ⟨_, rfl⟩
 rw [hl] at hq HN
 clear ht hL hV1 hV hb0 hm hi hs ho hx hl o0 o1 hx3
 rw [in_val]
 unfold inO at hw1
 cases l with
 | true =>
  rw [Bool.true_or] at hq
  have HQ := z_ hq
  clear hq
  go_enter Tryz.func33, Tryz.ntmps33
  go_upto_region 5 with (go_at_call 67; (with_reducible refine (HP.out _).mono ?_); rintro e w' ⟨rfl, rfl⟩)
  refine M.rg ?_
  refine M.cm 0 i.val ?_ ?_
  ·intro wz sz
   exact dl (HL.out.base sz)
  go_simp
  refine M.cm 1 (.bool true) ?_ ?_
  ·intro wz sz
   unfold Oper.does
   go_simp
   exact (HN.out wz).mono fun e w' ⟨he, hw⟩ => ⟨_, he, rfl, Save.of_below hw⟩
  go_simp
  refine M.sg [2, 3, 4, 5, 6, 7, 8, 9, 10, 11, 12, 13, 14, 15] 0 ?_
  repeat (go_big_quiet_step (fail))
  refine wpQuiet_nil ?_
  refine M.en ?_
  intro wc sc
  go_wp2
  go_ret
  exact ⟨HQ.out ▸ rfl, HW.out.trans (sc.2.mono HW.out.size)⟩
 | false =>
  rw [Bool.false_or] at hq
  by_cases hx0 : x = 0
  ·subst hx0
   have HQ := z_ (show false = q from hq)
   clear hq
   go_enter Tryz.func33, Tryz.ntmps33
   go_upto_region 5 with (go_at_call 67; (with_reducible refine (HP.out _).mono ?_); rintro e w' ⟨rfl, rfl⟩)
   refine M.rg ?_
   refine M.cm 0 i.val ?_ ?_
   ·intro wz sz
    exact dl (HL.out.base sz)
   go_simp
   refine M.cm 1 (.bool false) ?_ ?_
   ·intro wz sz
    unfold Oper.does
    go_simp
    exact (HN.out wz).mono fun e w' ⟨he, hw⟩ => ⟨_, he, rfl, Save.of_below hw⟩
   go_simp
   refine M.sg [2, 3, 4, 5, 6, 7, 8, 9, 10, 11, 12, 13, 14, 15] 0 ?_
   repeat (go_big_quiet_step (fail))
   refine wpQuiet_nil ?_
   refine M.en ?_
   intro wc sc
   go_wp2
   go_ret
   exact ⟨HQ.out ▸ rfl, HW.out.trans (sc.2.mono HW.out.size)⟩
  ·have hne : (x == 0) = false := beq_eq_false_iff_ne.2 hx0
   have hnb : (x != 0) = true := bne_iff_ne.2 hx0
   rw [hnb, Bool.true_and] at hq
   obtain ⟨hT1, hT2⟩ := HT.out hx0
   have HT1 := z_ hT1
   have HT2 := z_ hT2
   clear hT1 hT2 hx0
   obtain ⟨ta, hta⟩ : ∃ ta : ByteArray, (⟨(toldT false i).toArray⟩ : ByteArray) = ta := ⟨_, rfl⟩
   obtain ⟨tb, htb⟩ : ∃ tb : ByteArray, (⟨(toldT false i.bare).toArray⟩ : ByteArray) = tb := ⟨_, rfl⟩
   rw [hta] at HTo hq
   rw [htb] at HTb hq
   have HQ := z_ hq
   clear hq hta htb
   go_enter Tryz.func33, Tryz.ntmps33
   go_upto_region 5 with (go_at_call 67; (with_reducible refine (HP.out _).mono ?_); rintro e w' ⟨rfl, rfl⟩)
   refine M.rg ?_
   refine M.cm 0 i.val ?_ ?_
   ·intro wz sz
    exact dl (HL.out.base sz)
   go_simp
   refine M.cm 1 (.bool false) ?_ ?_
   ·intro wz sz
    unfold Oper.does
    go_simp
    exact (HN.out wz).mono fun e w' ⟨he, hw⟩ => ⟨_, he, rfl, Save.of_below hw⟩
   go_simp
   refine M.sg [2, 3, 4, 5, 6] 9 ?_
   repeat (go_big_quiet_step (fail))
   refine wpQuiet_nil ?_
   refine M.cm 7 i.val ?_ ?_
   ·intro wz sz
    exact dl (HL.out.base sz)
   go_simp
   refine M.cm 8 (.string ta) ?_ ?_
   ·intro wz sz
    unfold Oper.does
    go_simp
    exact (HTo.out HT1.out wz (HV.out.base (Nat.le_refl _) sz)).mono fun e w' ⟨he, hw⟩ => ⟨_, he, rfl, Save.of_below hw⟩
   go_simp
   refine M.cm 9 i.val ?_ ?_
   ·intro wz sz
    exact dl (HL.out.base sz)
   go_simp
   refine M.cm 10 i.bare.val ?_ ?_
   ·intro wz sz
    unfold Oper.does
    go_simp
    exact (HBa.out wz).mono fun e w' ⟨he, hw⟩ => ⟨_, he, rfl, Save.of_below hw⟩
   go_simp
   refine M.cm 11 (.string tb) ?_ ?_
   ·intro wz sz
    unfold Oper.does
    go_simp
    exact (HTb.out HT2.out wz (HV.out.base (Nat.le_refl _) sz)).mono fun e w' ⟨he, hw⟩ => ⟨_, he, rfl, Save.of_below hw⟩
   go_simp
   refine M.sg [12, 13, 14, 15] 0 ?_
   repeat (go_big_quiet_step (fail))
   refine wpQuiet_nil ?_
   refine M.en ?_
   intro wc sc
   go_wp2
   go_ret
   exact ⟨HQ.out ▸ rfl, HW.out.trans (sc.2.mono HW.out.size)⟩
end Go.Proofs.YtgaihekapakoeaaGreatDoor
namespace Go.Proofs.YtgaihekapakoeaaGreatDoor
open Go.RowKit


set_option maxRecDepth 100000

set_option maxHeartbeats 8000000 in
theorem isbytes_more (i : In) (hm : i.may = true) (hi : i.Wf) (hs : i.s = 2) (w : World) : Calls Tryz.prog 33 #[i.val] w fun e w' => e = .returned (.bool (isBytesI i)) ∧ Below w.heap.size w w' := by
 obtain ⟨-, -, o0, o1⟩ := one_cases (may_one hm).1
 obtain ⟨w1, hw1⟩ : ∃ w1, w.alloc (inO i) = w1 := ⟨_, rfl⟩
 have hL : InW w1 w.heap.size i := hw1 ▸ InW.laid w i
 have hb0 : Below w.heap.size w w1 := hw1 ▸ (Below.refl _ _).alloc (Nat.le_refl _) _
 have g0 := hL.gs
 have g2 := hL.go
 rw [hs] at g0
 have HP := fun w => c9_parts i.o w o0 o1
 obtain ⟨q, hq⟩ : ∃ q, isBytesI i = q := ⟨_, rfl⟩
 rw [hq]
 unfold isBytesI at hq
 rw [if_neg (by rw [hs]; decide), if_pos hs] at hq
 have HL := z_ hL
 have HW := z_ hb0
 have HN := z_ (nothing_any i hi hm hs)
 have HT := z_ (twin_any i hi hm hs)
 obtain ⟨o, ho⟩ : ∃ o, i.o = o := ⟨_, rfl⟩
 rw [ho] at g2 HP hq HN
 have HP := z_ HP
 obtain ⟨l, hl⟩ : ∃ l, noneI o = l := ⟨_, rfl⟩
 rw [hl] at hq HN
 obtain ⟨j, hj⟩ : ∃ j, twinI i = j := ⟨_, rfl⟩
 rw [hj] at hq HT
 obtain ⟨d, hd⟩ : ∃ d, decide (j ≠ i) = d := ⟨_, rfl⟩
 rw [hd] at hq
 have HD := z_ hd
 clear hL hb0 hm hi hs ho hl hj hd o0 o1
 rw [in_val]
 unfold inO at hw1
 cases l with
 | true =>
  rw [Bool.true_or] at hq
  have HQ := z_ hq
  clear hq
  go_enter Tryz.func33, Tryz.ntmps33
  go_upto_region 7 with (go_at_call 67; (with_reducible refine (HP.out _).mono ?_); rintro e w' ⟨rfl, rfl⟩)
  refine M.rg ?_
  refine M.cm 0 i.val ?_ ?_
  ·intro wz sz
   exact dl (HL.out.base sz)
  go_simp
  refine M.cm 1 (.bool true) ?_ ?_
  ·intro wz sz
   unfold Oper.does
   go_simp
   exact (HN.out wz).mono fun e w' ⟨he, hw⟩ => ⟨_, he, rfl, Save.of_below hw⟩
  go_simp
  refine M.sg [2, 3, 4, 5, 6, 7, 8] 0 ?_
  repeat (go_big_quiet_step (fail))
  refine wpQuiet_nil ?_
  refine M.en ?_
  intro wc sc
  go_wp2
  go_ret
  exact ⟨HQ.out ▸ rfl, HW.out.trans (sc.2.mono HW.out.size)⟩
 | false =>
  rw [Bool.false_or] at hq
  have HQ := z_ hq
  clear hq
  go_enter Tryz.func33, Tryz.ntmps33
  go_upto_region 7 with (go_at_call 67; (with_reducible refine (HP.out _).mono ?_); rintro e w' ⟨rfl, rfl⟩)
  refine M.rg ?_
  refine M.cm 0 i.val ?_ ?_
  ·intro wz sz
   exact dl (HL.out.base sz)
  go_simp
  refine M.cm 1 (.bool false) ?_ ?_
  ·intro wz sz
   unfold Oper.does
   go_simp
   exact (HN.out wz).mono fun e w' ⟨he, hw⟩ => ⟨_, he, rfl, Save.of_below hw⟩
  go_simp
  refine M.sg [2] 6 ?_
  repeat (go_big_quiet_step (fail))
  refine wpQuiet_nil ?_
  refine M.cm 3 i.val ?_ ?_
  ·intro wz sz
   exact dl (HL.out.base sz)
  go_simp
  refine M.cm 4 j.val ?_ ?_
  ·intro wz sz
   unfold Oper.does
   go_simp
   exact (HT.out wz).mono fun e w' ⟨he, hw⟩ => ⟨_, he, rfl, Save.of_below hw⟩
  go_simp
  refine M.cm 5 i.val ?_ ?_
  ·intro wz sz
   exact dl (HL.out.base sz)
  go_simp
  refine M.cm 6 (.bool d) ?_ ?_
  ·intro wz sz
   exact does_in_neq _ _ rfl j i rfl rfl ⟨by rw [HD.out], Save.refl _ _⟩
  go_simp
  refine M.sg [7, 8] 0 ?_
  repeat (go_big_quiet_step (fail))
  refine wpQuiet_nil ?_
  refine M.en ?_
  intro wc sc
  go_wp2
  go_ret
  exact ⟨HQ.out ▸ rfl, HW.out.trans (sc.2.mono HW.out.size)⟩

set_option maxHeartbeats 8000000 in
theorem isbytes_bits (i : In) (hm : i.may = true) (hs : i.s = 1 ∨ i.s = 3) (w : World) : Calls Tryz.prog 33 #[i.val] w fun e w' => e = .returned (.bool (isBytesI i)) ∧ Below w.heap.size w w' := by
 obtain ⟨-, -, o0, o1⟩ := one_cases (may_one hm).1
 obtain ⟨w1, hw1⟩ : ∃ w1, w.alloc (inO i) = w1 := ⟨_, rfl⟩
 have hL : InW w1 w.heap.size i := hw1 ▸ InW.laid w i
 have hb0 : Below w.heap.size w w1 := hw1 ▸ (Below.refl _ _).alloc (Nat.le_refl _) _
 have g0 := hL.gs
 have HP := fun w => c9_parts i.o w o0 o1
 have g2 := hL.go
 obtain ⟨q, hq⟩ : ∃ q, isBytesI i = q := ⟨_, rfl⟩
 rw [hq]
 unfold isBytesI at hq
 rw [if_neg (by omega), if_neg (by omega)] at hq
 obtain ⟨X, hX⟩ : ∃ X, i.o / 64 = X := ⟨_, rfl⟩
 obtain ⟨Z, hZ⟩ : ∃ Z, i.o % 8 = Z := ⟨_, rfl⟩
 rw [hX, hZ] at HP hq
 clear hL hm o0 o1 hX hZ
 rw [in_val]
 unfold inO at hw1
 obtain ⟨s, hse⟩ : ∃ s, i.s = s := ⟨_, rfl⟩
 obtain ⟨o, ho⟩ : ∃ o, i.o = o := ⟨_, rfl⟩
 rw [hse] at g0 hq hs
 rw [ho] at g2 HP
 have HQ := z_ hq
 have HP := z_ HP
 clear hq hse ho
 rcases hs with rfl | rfl
 all_goals
  go_enter Tryz.func33, Tryz.ntmps33
  go_wp2_with (go_at_call 67; (with_reducible refine (HP.out _).mono ?_); rintro e w' ⟨rfl, rfl⟩)
  all_goals
   go_ret
   exact ⟨ret_b (by rw [← HQ.out] <;> simp_all), hb0⟩

theorem told_ne (s x o d m : Int) (h : (toksK s x o).headD 300 < 256) : rend false d m (toksK s x o) ≠ [] := by
 revert h
 cases toksK s x o with
 | nil => intro h; simp at h
 | cons a K =>
  intro h
  simp only [List.headD_cons] at h
  have : rend false d m (a :: K) = rendT false d m a ++ rend false d m K := rfl
  rw [this]
  have h2 : rendT false d m a = [UInt8.ofNat a] := by
   unfold rendT
   rw [if_neg (by omega), if_neg (by omega), if_neg (by omega)]
  rw [h2]
  simp
def heads (s x o : Int) : Bool := decide ((toksK s x o).headD 300 < 256)
theorem heads_main : ∀ x : Fin 3, ∀ o : Fin 256, (o.val : Int) ≠ 203 → heads 0 x.val o.val = true := by decide +kernel
theorem heads_bits : ∀ o : Fin 256, heads 1 0 o.val = true := by decide +kernel
theorem heads_both : ∀ x : Fin 3, ∀ o : Fin 256, ((o.val : Int) / 64 = 1 ∧ (o.val : Int) % 8 ≠ 6) ∨ heads 3 x.val o.val = true := by decide +kernel
theorem heads_more : ∀ o : Fin 256, noneI o.val = true ∨ twinO o.val ≠ o.val ∨ heads 2 0 o.val = true := by decide +kernel
theorem fin_x {P : Int → Prop} (h : ∀ x : Fin 3, P x.val) {x : Int} (hx : x = 0 ∨ x = 1 ∨ x = 2) : P x := by
 rcases hx with rfl | rfl | rfl
 ·exact h 0
 ·exact h 1
 ·exact h 2
theorem fin_o {P : Int → Prop} (h : ∀ o : Fin 256, P o.val) {o : Int} (h0 : 0 ≤ o) (h1 : o < 256) : P o := by
 have := h ⟨o.toNat, by omega⟩
 simpa only [Int.toNat_of_nonneg h0] using this

theorem told_says (i : In) (h : heads i.s i.x i.o = true) : toldT false i ≠ [] := told_ne _ _ _ _ _ (of_decide_eq_true h)
theorem main_not203 {x o : Int} (h : isOneI 0 x o = true) : o ≠ 203 := by
 rintro rfl
 unfold isOneI isByteI at h
 simp at h
theorem tells_main (i : In) (hm : i.may = true) (hi : i.Wf) (hs : i.s = 0) : Tells i ∧ Tells i.bare := by
 obtain ⟨h1, -, -⟩ := may_one hm
 obtain ⟨-, hx, o0, o1⟩ := one_cases h1
 rw [hs] at h1
 have h2 := main_not203 h1
 have hh : ∀ x : Int, (x = 0 ∨ x = 1 ∨ x = 2) → heads 0 x i.o = true := fun x hx => fin_o (P := fun o => o ≠ 203 → heads 0 x o = true) (fin_x (P := fun x => ∀ o : Fin 256, (o.val : Int) ≠ 203 → heads 0 x o.val = true) heads_main hx) o0 o1 h2
 refine ⟨⟨hi, by omega, by omega, by omega, by omega, o0, o1, told_says i (by rw [hs]; exact hh _ hx)⟩, ⟨⟨hi.s, by rfl, hi.o, hi.d, hi.m, hi.n⟩, by show 0 ≤ i.s; omega, by show i.s < 4; omega, Int.le_refl 0, (by decide : (0 : Int) < 3), o0, o1, told_says i.bare (by show heads i.s 0 i.o = true; rw [hs]; exact hh _ (.inl rfl))⟩⟩

theorem isbytes_any (i : In) (hm : i.may = true) (hi : i.Wf) (w : World) (hV : VT w w.heap.size) : Calls Tryz.prog 33 #[i.val] w fun e w' => e = .returned (.bool (isBytesI i)) ∧ Below w.heap.size w w' := by
 rcases (one_cases (may_one hm).1).1 with h | h | h | h
 ·exact isbytes_main i hm hi h (fun _ => tells_main i hm hi h) w hV
 ·exact isbytes_bits i hm (.inl h) w
 ·exact isbytes_more i hm hi h w
 ·exact isbytes_bits i hm (.inr h) w
theorem twin_same {i : In} (hs : i.s = 2) (h : twinI i = i) : twinO i.o = i.o := by
 unfold twinI at h
 split at h
 ·have := congrArg In.s h; simp only at this; omega
 ·split at h
  ·have := congrArg In.s h; simp only at this; omega
  ·exact congrArg In.o h
theorem tells_any (i : In) (hm : i.may = true) (hi : i.Wf) (hb : isBytesI i = false) : Tells i := by
 obtain ⟨h1, -, -⟩ := may_one hm
 obtain ⟨hs, hx, o0, o1⟩ := one_cases h1
 rcases hs with h | h | h | h
 ·exact (tells_main i hm hi h).1
 ·have hx0 := one_x0 (.inl h) h1
  exact ⟨hi, by omega, by omega, by omega, by omega, o0, o1, told_says i (by rw [h, hx0]; exact fin_o (P := fun o => heads 1 0 o = true) heads_bits o0 o1)⟩
 ·have hx0 := one_x0 (.inr h) h1
  unfold isBytesI at hb
  rw [if_neg (by omega), if_pos h, Bool.or_eq_false_iff] at hb
  obtain ⟨b1, b2⟩ := hb
  have b3 : twinI i = i := by simpa using b2
  have b4 := twin_same h b3
  have := fin_o (P := fun o => noneI o = true ∨ twinO o ≠ o ∨ heads 2 0 o = true) heads_more o0 o1
  exact ⟨hi, by omega, by omega, by omega, by omega, o0, o1, told_says i (by
   rw [h, hx0]
   rcases this with k | k | k
   ·rw [b1] at k; cases k
   ·exact absurd b4 k
   ·exact k)⟩
 ·have hk := fin_o (P := fun o => (o / 64 = 1 ∧ o % 8 ≠ 6) ∨ heads 3 i.x o = true) (fin_x (P := fun x => ∀ o : Fin 256, ((o.val : Int) / 64 = 1 ∧ (o.val : Int) % 8 ≠ 6) ∨ heads 3 x o.val = true) heads_both hx) o0 o1
  unfold isBytesI at hb
  rw [if_neg (by omega), if_neg (by omega), h] at hb
  exact ⟨hi, by omega, by omega, by omega, by omega, o0, o1, told_says i (by
   rw [h]
   rcases hk with ⟨k1, k2⟩ | k
   ·rw [k1, bne_iff_ne.2 k2] at hb
    simp at hb
   ·exact k)⟩
end Go.Proofs.YtgaihekapakoeaaGreatDoor
