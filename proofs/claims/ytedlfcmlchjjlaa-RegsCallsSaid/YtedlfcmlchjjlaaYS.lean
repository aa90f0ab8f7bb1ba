
/- Registers, the code: bytes.Equal; Read. -/
import Derived.Test.YtedlfcmlchjjlaaYR
namespace Go.Proofs.Ytedlfcmlchjjlaa
open Go.RowKit
set_option linter.unusedSimpArgs false
set_option linter.unusedVariables false
set_option maxRecDepth 100000

theorem strOfNums_inj : ∀ {a b : List Int}, AllB a → AllB b → strOfNums a = strOfNums b → a = b := by
  intro a b ha hb h
  have h1 : (strOfNums a).data.toList = (strOfNums b).data.toList := by rw [h]
  rw [strOfNums_data, strOfNums_data] at h1
  have h2 : (a.map fun n => UInt8.ofNat n.toNat).map (fun x => (x.toNat : Int)) = (b.map fun n => UInt8.ofNat n.toNat).map (fun x => (x.toNat : Int)) := by rw [h1]
  have back : ∀ l : List Int, AllB l → (l.map fun n => UInt8.ofNat n.toNat).map (fun x => (x.toNat : Int)) = l := fun l hl => by
    rw [List.map_map]
    conv => rhs; rw [← List.map_id l]
    refine List.map_congr_left fun x hx => ?_
    obtain ⟨x0, x1⟩ := hl x hx
    simp only [Function.comp, id]
    rw [UInt8.toNat_ofNat']
    omega
  rwa [back a ha, back b hb] at h2
theorem equal_any (A1 A2 : Option Addr) (c1 c2 n1 n2 : Nat) (l1 l2 : List Int) (w : World) (B1 B2 : Nat) (e1 : n1 = l1.length) (e2 : n2 = l2.length) (h1 : RB w B1 A1 c1 l1) (h2 : RB w B2 A2 c2 l2) :
    Calls Try.prog 52 #[.slice A1 n1 c1, .slice A2 n2 c2] w fun e w' => e = .returned (.bool (decide (l1 = l2))) ∧ w = w' := by
  subst e1 e2
  have s1 := run_string_rb w B1 A1 c1 l1 h1
  have s2 := run_string_rb w B2 A2 c2 l2 h2
  have hd : ((strOfNums l1).toList == (strOfNums l2).toList) = decide (l1 = l2) := by
    rw [ByteArray.toList_eq, ByteArray.toList_eq]
    by_cases h : l1 = l2
    · rw [h, beq_self_eq_true, decide_eq_true rfl]
    · rw [decide_eq_false h, beq_eq_false_iff_ne]
      exact fun e => h (strOfNums_inj h1.bytes h2.bytes (Go.WideShapes.bytes_inj e))
  obtain ⟨S1, hS1⟩ : ∃ S, strOfNums l1 = S := ⟨_, rfl⟩
  obtain ⟨S2, hS2⟩ : ∃ S, strOfNums l2 = S := ⟨_, rfl⟩
  rw [hS1] at s1 hd
  rw [hS2] at s2 hd
  have HD := Lib.hid hd
  clear hd hS1 hS2 h1 h2
  go_enter Try.func52, Try.ntmps52
  go_wp2
  go_ret
  exact ⟨congrArg (fun z => Ending.returned (.bool z)) HD.out, rfl⟩

def readOk (l : List Int) : Prop := (tR l).May ∧ bytesR (tR l) = l
instance (l : List Int) : Decidable (readOk l) := inferInstanceAs (Decidable (_ ∧ _))
def readR (l : List Int) : Rg := if readOk l then tR l else zeroR
def readE (l : List Int) : Int := if readOk l then 0 else 4

set_option maxHeartbeats 4000000 in
theorem c8_read (A : Option Addr) (c : Nat) (l : List Int) (w : World) (h : RB w w.heap.size A c l) (hl : l.length = 32) : Calls Try.prog 10 #[.slice A 32 c] w fun e w' => e = .returned (.tuple #[(readR l).val, .int .i64 (readE l)]) ∧ Below w.heap.size w w' := by
  generalize hX : readR l = X
  generalize hE : readE l = E
  unfold readR at hX
  unfold readE at hE
  have hok := tR_ok h.bytes
  obtain ⟨w1, hw1⟩ : ∃ w1, w.alloc (rgO zeroR) = w1 := ⟨_, rfl⟩
  have hZ1 : RowW w1 w.heap.size zeroR.cells := hw1 ▸ RgW.laid w zeroR
  have hB1 : Below w.heap.size w w1 := hw1 ▸ (Below.refl _ _).alloc (Nat.le_refl _) _
  have h1 : RB w1 w1.heap.size A c l := (h.below hB1).more hB1.size
  have HT := Lib.hid (c8_taken A c l w1 h1 hl)
  have HZ1 := Lib.hid hZ1
  have HX := Lib.hid hX
  have HE := Lib.hid hE
  have HH := Lib.hid h1
  clear hX hE hZ1 h1 h
  obtain ⟨t, ht⟩ : ∃ t, tR l = t := ⟨_, rfl⟩
  rw [ht] at HT hok
  have HTe := Lib.hid ht
  clear ht
  unfold rgO zeroR at hw1
  go_enter Try.func10, Try.ntmps10
  go_wp2_with fail
  refine (HT.out).mono ?_
  rintro e w2 ⟨rfl, hb⟩
  have hZ2 : RowW w2 w.heap.size zeroR.cells := RowW.below HZ1.out hb (RowW.lt HZ1.out)
  have hB2 := hB1.trans (hb.mono hB1.size)
  have hH2 := (HH.out.below hb).more hb.size
  clear hb hB1 HZ1 HH hw1
  obtain ⟨b2, hb2⟩ : ∃ b2, w2.heap.size = b2 := ⟨_, rfl⟩
  obtain ⟨wa, hwa⟩ : ∃ wa, w2.alloc (rgO zeroR) = wa := ⟨_, rfl⟩
  have hNa : RowW wa b2 zeroR.cells := by rw [← hwa, ← hb2]; exact RgW.laid w2 zeroR
  have hba : Below w2.heap.size w2 wa := hwa ▸ (Below.refl _ _).alloc (Nat.le_refl _) _
  have hne : w.heap.size ≠ b2 := by have := hZ2.lt; omega
  have hle : w.heap.size ≤ b2 := hb2 ▸ hB2.size
  have hZa := hZ2.below hba hZ2.lt
  have hBa := hB2.trans (hba.mono hB2.size)
  have hHa := (hH2.below hba).more hba.size
  have hN3 := setRow_heap wa b2 _ t.cells _ _ hNa
  have hZ3 : RowW (wa.setRow b2 t.cells) w.heap.size zeroR.cells := (setRow_other wa b2 w.heap.size t.cells hne).trans hZa
  have hB3 := below_setRow hBa hle t.cells
  have hH3 := hH2.below ((below_setRow ((Below.refl w2.heap.size w2).trans hba) (by omega) t.cells : Below w2.heap.size w2 (wa.setRow b2 t.cells)))
  unfold rgO zeroR at hwa
  rw [show t.val = .agg t.cells from rfl]
  have HN3 := Lib.hid hN3
  have HZ3 := Lib.hid hZ3
  have HB3 := Lib.hid hB3
  have HH3 := Lib.hid hH3
  clear hN3 hZ3 hB3 hH3 hHa hBa hZa hba hZ2 hB2 hH2
  go_wp2_with (first | (refine wpList_store_row rfl 24 _ _ rfl b2 t.cells rfl rfl _ _ hNa rg_info rfl (rg_one _) ?_) | (refine wpList_load_row rfl 24 _ rfl b2 rfl _ _ (0, 0) _ HN3.out Try.underlying24 rfl rg_info ?_))
  by_cases hm : t.May
  · refine (c8_bytes_may t hok hm _).mono ?_
    rintro e w4 ⟨⟨A4, c4, rfl, ho4⟩, hb⟩
    have hN4 : RowW w4 b2 t.cells := RowW.below HN3.out hb (RowW.lt HN3.out)
    have hZ4 := HZ3.out.below hb HZ3.out.lt
    have hB4 := HB3.out.trans (hb.mono HB3.out.size)
    have hH4 := (HH3.out.below (hb.mono (by have h9 := (Array.getElem?_eq_some_iff.1 HN3.out).1; omega)))
    have HQ := Lib.hid (equal_any A4 A c4 c 32 32 (bytesR t) l w4 _ _ (bytesR_len t).symm hl.symm ho4.rb hH4)
    clear hb HN3 HZ3 HB3 HH3 ho4 hH4
    by_cases hq : bytesR t = l
    · rw [decide_eq_true hq] at HQ
      have HX2 := Lib.hid (show t = X from HTe.out.symm.trans ((if_pos (show readOk l by unfold readOk; rw [HTe.out]; exact ⟨hm, hq⟩)).symm.trans HX.out))
      have HE2 := Lib.hid (show (0 : Int) = E from (if_pos (show readOk l by unfold readOk; rw [HTe.out]; exact ⟨hm, hq⟩)).symm.trans HE.out)
      clear hq hm
      go_wp2_with (first | (go_at_call 52; (with_reducible refine (HQ.out).mono ?_); rintro e w' ⟨rfl, rfl⟩) | (refine wpList_load_row rfl 24 _ rfl b2 rfl _ _ (0, 0) _ hN4 Try.underlying24 rfl rg_info ?_) | (refine wpList_store_row rfl 24 _ _ rfl w.heap.size t.cells rfl rfl _ _ hZ4 rg_info rfl (rg_one _) ?_))
      (try simp only [Exit.inBlock, Exit.then])
      exact bodyPost_ret (results_row_tmp rfl _ _ _ _ _ (0, 0) _ _ rfl rfl (setRow_heap _ _ _ _ _ _ hZ4) Try.underlying24 rfl rg_info) rfl ⟨by rw [← HX2.out, ← HE2.out]; rfl, below_setRow hB4 (Nat.le_refl _) _⟩
    · rw [decide_eq_false hq] at HQ
      have HX2 := Lib.hid (show zeroR = X from (if_neg (show ¬ readOk l by unfold readOk; rw [HTe.out]; exact fun h => hq h.2)).symm.trans HX.out)
      have HE2 := Lib.hid (show (4 : Int) = E from (if_neg (show ¬ readOk l by unfold readOk; rw [HTe.out]; exact fun h => hq h.2)).symm.trans HE.out)
      clear hq hm
      go_wp2_with (first | (go_at_call 52; (with_reducible refine (HQ.out).mono ?_); rintro e w' ⟨rfl, rfl⟩) | (refine wpList_store_row rfl 24 _ _ rfl w.heap.size zeroR.cells rfl rfl _ _ hZ4 rg_info rfl (rg_one _) ?_))
      (try simp only [Exit.inBlock, Exit.then])
      exact bodyPost_ret (results_row_tmp rfl _ _ _ _ _ (0, 0) _ _ rfl rfl (setRow_heap _ _ _ _ _ _ hZ4) Try.underlying24 rfl rg_info) rfl ⟨by rw [← HX2.out, ← HE2.out]; rfl, below_setRow hB4 (Nat.le_refl _) _⟩
  · refine (c8_bytes_no t hm _).mono ?_
    rintro e w4 ⟨rfl, hb⟩
    have hZ4 := HZ3.out.below hb HZ3.out.lt
    have hB4 := HB3.out.trans (hb.mono HB3.out.size)
    have HX2 := Lib.hid (show zeroR = X from (if_neg (show ¬ readOk l by unfold readOk; rw [HTe.out]; exact fun h => hm h.1)).symm.trans HX.out)
    have HE2 := Lib.hid (show (4 : Int) = E from (if_neg (show ¬ readOk l by unfold readOk; rw [HTe.out]; exact fun h => hm h.1)).symm.trans HE.out)
    clear hb hm HN3 HZ3 HB3 HH3
    go_wp2_with (first | (refine wpList_store_row rfl 24 _ _ rfl w.heap.size zeroR.cells rfl rfl _ _ hZ4 rg_info rfl (rg_one _) ?_))
    (try simp only [Exit.inBlock, Exit.then])
    exact bodyPost_ret (results_row_tmp rfl _ _ _ _ _ (0, 0) _ _ rfl rfl (setRow_heap _ _ _ _ _ _ hZ4) Try.underlying24 rfl rg_info) rfl ⟨by rw [← HX2.out, ← HE2.out]; rfl, below_setRow hB4 (Nat.le_refl _) _⟩

end Go.Proofs.Ytedlfcmlchjjlaa
