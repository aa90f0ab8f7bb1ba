/-  -/
import Derived.Test.YtgaihekapakoeaaGreatDoorZE9
import Derived.Test.YtgaihekapakoeaaGreatDoorJ10
import Derived.Test.YtgaihekapakoeaaGreatDoorJ19
set_option linter.unusedVariables false
set_option linter.unusedSimpArgs false
namespace Go.Proofs.YtgaihekapakoeaaGreatDoor
open Go.RowKit


set_option maxRecDepth 100000

theorem piece_len (l : List Int) (hl : AllB l) (k : Nat) : (joinT l k).length ≤ 22 * k := by
 induction k with
 | zero => simp [joinT]
 | succ k ih =>
  have := pieceT_len l hl k
  rw [joinT_succ, List.length_append]
  omega
set_option maxHeartbeats 16000000 in
theorem d10_of (i : In) (hi : i.Wf) (w : World) : Calls Tryz.prog 14 #[i.val] w fun e w' => e = .returned (.tuple #[.string ⟨(ofTx i).toArray⟩, .int .i64 (ofEr i)]) ∧ Below w.heap.size w w' := by
 obtain ⟨w1, hw1⟩ : ∃ w1, w.alloc (inO i) = w1 := ⟨_, rfl⟩
 have hb1 : Below w.heap.size w w1 := hw1 ▸ (Below.refl _ _).alloc (Nat.le_refl _) _
 have HR := z_ (hw1 ▸ InW.laid w i : InW w1 w.heap.size i)
 have HB := z_ hb1
 unfold ofTx ofEr
 by_cases hm : i.may = true
 ·rw [if_pos hm, if_pos hm]
  have hBy := fun w => r9_bytes i hi hm w
  have hBa := fun w => d10_bare i hi hm w
  unfold BytesTo9 at hBy
  have hlen := bytesI_length hm
  have hn4 : (bytesI i).length ≤ 6 := by
   have h2 : i.n = lenI i.s i.x i.o := (may_one hm).2.1
   have h3 := (lenI_in i.s i.x i.o).2.2
   omega
  have hby : AllB (bytesI i) := byte_nums hm
  cases hq : isBytesI i with
  | false =>
   have hP := (plok_may hm (fun h2 => by
    have hd : dbK i.s i.x i.o = false := by rw [← isBytes_db hm]; exact hq
    unfold dbK at hd
    rw [h2] at hd
    simp only [show ¬ (2 : Int) = 0 by decide, if_false, if_true, Bool.or_eq_false_iff] at hd
    exact hd.1))
   obtain ⟨X, hX, cX⟩ := (say_plain i hP).named
   have hXt : X = ⟨(textI i).toArray⟩ := by rw [hX.out]; exact plain_text hm hq
   rw [hq] at hBa
   rw [in_val] at hBy hBa cX ⊢
   obtain ⟨L, hL⟩ : ∃ L, bytesI i = L := ⟨_, rfl⟩
   rw [hL] at hBy
   have HBy := z_ hBy
   have HBa := z_ hBa
   have HX := z_ hXt
   unfold inO at hw1
   clear hb1 hBy hBa hX hXt hP hlen hn4 hby hL
   go_enter Tryz.func14, Tryz.ntmps14
   go_wp2_with (first
    | (refine lr w.heap.size rfl rfl rfl HR4.out ?_)
    | (refine lr w.heap.size rfl rfl rfl HR2.out ?_)
    | (refine lr w.heap.size rfl rfl rfl HR.out ?_)
    | (go_at_call 36; refine (HBy.out _).mono ?_; rintro e w2 ⟨⟨A2, c2, rfl, hr2⟩, hb2⟩; have HR2 := z_ (HR.out.below hb2 HR.out.lt); have HB2 := z_ (HB.out.trans (hb2.mono HB.out.size)); clear hb2 hr2)
    | (go_at_call 37; refine (HBa.out _).mono ?_; rintro e w4 ⟨rfl, hb4⟩; have HR4 := z_ (HR2.out.below hb4 HR2.out.lt); have HB4 := z_ (HB2.out.trans (hb4.mono HB2.out.size)); clear hb4)
    | (go_at_call 38; refine (cX.out _).mono ?_; rintro e w5 ⟨rfl, hb5⟩))
   go_ret2
   exact ⟨by rw [HX.out]; rfl, HB4.out.trans (hb5.mono HB4.out.size)⟩
  | true =>
   have hT : textI i = [68, 66, 32] ++ joinT (bytesI i) (bytesI i).length := by unfold textI bytesT; rw [if_pos hq]
   rw [hT]
   rw [hq] at hBa
   rw [in_val] at hBy hBa ⊢
   obtain ⟨L, hL⟩ : ∃ L, bytesI i = L := ⟨_, rfl⟩
   rw [hL] at hBy hby hn4 ⊢
   have HBy := z_ hBy
   have HBa := z_ hBa
   have HAll := z_ hby
   unfold inO at hw1
   clear hb1 hBy hBa hlen hL hT hby
   go_enter Tryz.func14, Tryz.ntmps14
   go_wp2_with (first
    | (refine lr w.heap.size rfl rfl rfl HR2.out ?_)
    | (refine lr w.heap.size rfl rfl rfl HR.out ?_)
    | (go_at_call 36; refine (HBy.out _).mono ?_; rintro e w2 ⟨⟨A2, c2, rfl, hr2⟩, hb2⟩; have HR2 := z_ (HR.out.below hb2 HR.out.lt); have HB2 := z_ (HB.out.trans (hb2.mono HB.out.size)); have HA2 := z_ hr2; clear hb2 hr2)
    | (go_at_call 37; refine (HBa.out _).mono ?_; rintro e w4 ⟨rfl, hb4⟩; have HB4 := z_ (HB2.out.trans (hb4.mono HB2.out.size)); have HA4 := z_ ((HA2.out.below hb4).more hb4.size); clear hb4))
   go_loopw [6, 7] (fun v i wr => ∃ k : Nat, k ≤ L.length ∧ v = .string ⟨([68, 66, 32] ++ joinT L k).toArray⟩ ∧ i = .int .i64 k ∧ Below w4.heap.size w4 wr) (fun _ i _ => L.length - (intOf i).toNat)
   case atStart => exact ⟨0, by omega, rfl, rfl, Below.refl _ _⟩
   case round =>
    rename World => wr
    obtain ⟨k, hk, rfl, rfl, hb⟩ := hrel
    have HBr := z_ hb
    by_cases hkl : k < L.length
    ·obtain ⟨b, off, rfl, hbb, hat⟩ := HA4.out.pos (by omega)
     have hd := (World.cell?_of_block (hb.block b hbb)).trans (hat k hkl)
     have hvb := HAll.out.getD k
     have hpl := piece_len L HAll.out k
     have hnx : ([68, 66, 32] : List UInt8) ++ joinT L (k + 1) = ([68, 66, 32] ++ joinT L k) ++ pieceT L k := by rw [joinT_succ, List.append_assoc]
     unfold pieceT at hnx
     obtain ⟨v, hv⟩ : ∃ v, L.getD k 0 = v := ⟨_, rfl⟩
     rw [hv] at hd hvb hnx
     obtain ⟨v0, v1⟩ := hvb
     have hD := fun w => d10_digits v w v0 (by omega)
     have hds := itoa_size (n := v) v0 (by omega)
     have hw : wrap64 v = v := by unfold wrap64; omega
     have hPs : (⟨([68, 66, 32] ++ joinT L k).toArray⟩ : ByteArray).size ≤ 200 := by
      rw [sz_len ([68, 66, 32] ++ joinT L k)]
      simp only [List.length_append, List.length_cons, List.length_nil]
      omega
     obtain ⟨D, hDD⟩ : ∃ D : ByteArray, (⟨(Lib.itoa v).toArray⟩ : ByteArray) = D := ⟨_, rfl⟩
     obtain ⟨P, hP⟩ : ∃ P : ByteArray, (⟨([68, 66, 32] ++ joinT L k).toArray⟩ : ByteArray) = P := ⟨_, rfl⟩
     rw [hDD] at hds
     simp only [hDD] at hD
     rw [hP] at hPs ⊢
     by_cases hk0 : k = 0
     ·subst hk0
      rw [Nat.add_zero] at hd
      have hR : P ++ D = ⟨([68, 66, 32] ++ joinT L (0 + 1)).toArray⟩ := by
       rw [hnx, ← hP, ← hDD, str_add ([68, 66, 32] ++ joinT L 0) (Lib.itoa v), if_pos rfl, List.nil_append]
      have hadd := add_run P D (by omega)
      rw [hR] at hadd
      obtain ⟨R, hRR⟩ : ∃ R : ByteArray, (⟨([68, 66, 32] ++ joinT L (0 + 1)).toArray⟩ : ByteArray) = R := ⟨_, rfl⟩
      rw [hRR] at hadd
      have HRR := z_ hRR
      have HD := z_ hD
      clear hR hRR hD hDD hP hPs hds hnx hpl hat hbb hv hb
      go_wp2_with (go_at_call 39; (with_reducible refine (HD.out _).mono ?_); rintro e w6 ⟨rfl, hb6⟩)
      go_roundw
      case rel => exact ⟨1, by omega, by rw [HRR.out], by go_num, HBr.out.trans (hb6.mono HBr.out.size)⟩
      case measure => simp [intOf]; omega
     ·have hkp : (0 : Int) < k := by omega
      have hR : (P ++ ⟨#[44]⟩) ++ D = ⟨([68, 66, 32] ++ joinT L (k + 1)).toArray⟩ := by
       rw [hnx, ← hP, ← hDD, if_neg hk0, show (⟨#[44]⟩ : ByteArray) = ⟨[44].toArray⟩ from rfl, str_add ([68, 66, 32] ++ joinT L k) [44], str_add ([68, 66, 32] ++ joinT L k ++ [44]) (Lib.itoa v), List.append_assoc]
      have hadd1 := add_run P ⟨#[44]⟩ (by show P.size + 1 ≤ _; omega)
      obtain ⟨Q, hQ⟩ : ∃ Q : ByteArray, P ++ ⟨#[44]⟩ = Q := ⟨_, rfl⟩
      have hQs : Q.size ≤ 201 := by rw [← hQ, ByteArray.size_append]; show P.size + 1 ≤ 201; omega
      rw [hQ] at hadd1 hR
      have hadd := add_run Q D (by omega)
      rw [hR] at hadd
      obtain ⟨R, hRR⟩ : ∃ R : ByteArray, (⟨([68, 66, 32] ++ joinT L (k + 1)).toArray⟩ : ByteArray) = R := ⟨_, rfl⟩
      rw [hRR] at hadd
      have HRR := z_ hRR
      have HD := z_ hD
      clear hR hRR hD hDD hP hPs hds hnx hpl hat hbb hv hb hQ hQs
      go_wp2_with (go_at_call 39; (with_reducible refine (HD.out _).mono ?_); rintro e w6 ⟨rfl, hb6⟩)
      go_roundw
      case rel => exact ⟨k + 1, by omega, by rw [HRR.out], by go_num, HBr.out.trans (hb6.mono HBr.out.size)⟩
      case measure => simp [intOf]; omega
    ·obtain rfl : k = L.length := by omega
     clear hb
     go_wp2_with fail
     go_ret2
     exact ⟨rfl, HB4.out.trans (HBr.out.mono HB4.out.size)⟩
 ·rw [if_neg hm, if_neg hm]
  have hNo := fun w => r9_bytes_no i hi (by simpa using hm) w
  rw [in_val] at hNo ⊢
  have HNo := z_ hNo
  unfold inO at hw1
  clear hb1 hNo
  go_enter Tryz.func14, Tryz.ntmps14
  go_wp2_with (first
   | (refine lr w.heap.size rfl rfl rfl HR.out ?_)
   | (go_at_call 36; refine (HNo.out _).mono ?_; rintro e w2 ⟨rfl, hb2⟩))
  go_ret2
  exact ⟨rfl, HB.out.trans (hb2.mono HB.out.size)⟩
end Go.Proofs.YtgaihekapakoeaaGreatDoor
