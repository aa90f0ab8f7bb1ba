
/- Registers, the code: Bytes. -/
import Derived.Test.YtedlfcmlchjjlaaYO
import Derived.Test.YtedlfcmlchjjlaaYH
namespace Go.Proofs.Ytedlfcmlchjjlaa
open Go.RowKit
set_option linter.unusedSimpArgs false
set_option linter.unusedVariables false
set_option maxRecDepth 100000

theorem rgB_len (r : Rg) : (rgB r).length = 30 := by unfold rgB; rw [List.length_append, List.length_append, twoB_len]; rfl
theorem bytesR_len (r : Rg) : (bytesR r).length = 32 := by unfold bytesR; rw [List.length_append, rgB_len]; rfl

theorem c8_bytes_no (r : Rg) (hm : ¬ r.May) (w : World) : Calls Try.prog 8 #[r.val] w fun e w' => e = .returned (.tuple #[.slice none 0 0, .int .i64 2]) ∧ Below w.heap.size w w' := by
  have HC := Lib.hid (fun w => c8_check r w)
  rw [if_neg hm] at HC
  have HR := Lib.hid (RgW.laid w r)
  have hb0 : Below w.heap.size w (w.alloc (rgO r)) := (Below.refl _ _).alloc (Nat.le_refl _) _
  have hval : r.val = .agg #[.int .u8 r.A, .int .u8 r.F, .int .u8 r.B, .int .u8 r.C, .int .u8 r.D, .int .u8 r.E, .int .u8 r.H, .int .u8 r.L, .int .u8 r.I, .int .u8 r.R, .int .u16 r.IX, .int .u16 r.IY, .int .u16 r.SP, .int .u16 r.PC, .int .u16 r.WZ, .int .u16 r.AF2, .int .u16 r.BC2, .int .u16 r.DE2, .int .u16 r.HL2, .bool r.IFF1, .bool r.IFF2, .int .i64 r.IM, .bool r.Halt, .bool r.Late] := rfl
  rw [hval]
  clear hval
  go_enter Try.func8, Try.ntmps8
  go_wp2_with (refine wpList_load_row rfl 24 _ rfl w.heap.size rfl _ _ (0, 0) _ HR.out Try.underlying24 rfl rg_info ?_)
  refine (HC.out _).mono ?_
  rintro e w3 ⟨rfl, hb⟩
  go_wp2
  go_ret2
  exact ⟨rfl, hb0.trans (hb.mono hb0.size)⟩

set_option maxHeartbeats 8000000 in
theorem c8_bytes_may (r : Rg) (hr : r.Ok) (hm : r.May) (w : World) : Calls Try.prog 8 #[r.val] w fun e w' => (∃ A c, e = .returned (.tuple #[.slice A 32 c, .int .i64 0]) ∧ OB w' w.heap.size A c (bytesR r)) ∧ Below w.heap.size w w' := by
  obtain ⟨i, hi, hz0, hz1, hz2⟩ := info_parts infoB
  have HC := Lib.hid (fun w => c8_check r w)
  rw [if_pos hm] at HC
  obtain ⟨m0, m1⟩ := hm
  have HR := Lib.hid (show RowW (w.alloc (rgO r)) w.heap.size r.cells from RgW.laid w r)
  have hb0 : Below w.heap.size w (w.alloc (rgO r)) := (Below.refl _ _).alloc (Nat.le_refl _) _
  have hval : r.val = .agg #[.int .u8 r.A, .int .u8 r.F, .int .u8 r.B, .int .u8 r.C, .int .u8 r.D, .int .u8 r.E, .int .u8 r.H, .int .u8 r.L, .int .u8 r.I, .int .u8 r.R, .int .u16 r.IX, .int .u16 r.IY, .int .u16 r.SP, .int .u16 r.PC, .int .u16 r.WZ, .int .u16 r.AF2, .int .u16 r.BC2, .int .u16 r.DE2, .int .u16 r.HL2, .bool r.IFF1, .bool r.IFF2, .int .i64 r.IM, .bool r.Halt, .bool r.Late] := rfl
  rw [hval]
  clear hval
  go_enter Try.func8, Try.ntmps8
  go_wp2_with (refine wpList_load_row rfl 24 _ rfl w.heap.size rfl _ _ (0, 0) _ HR.out Try.underlying24 rfl rg_info ?_)
  refine (HC.out _).mono ?_
  rintro e w3 ⟨rfl, hb⟩
  have hR3 := HR.out.below hb HR.out.lt
  have hB3 := hb0.trans (hb.mono hb0.size)
  clear hb hb0 HR HC
  obtain ⟨g, hg⟩ : ∃ g, w3.heap.size = g := ⟨_, rfl⟩
  have hgb : w.heap.size < g := by have := hR3.lt; omega
  have HG3 := Lib.hid (show g ≤ w3.heap.size by omega)
  go_wp2_with (at_make; refine wpList_make_own _ rfl _ _ 25 rfl g 5 i (.int .u8 0) 1 Try.underlying25 hi hz0 hz1 _ _ _ 32 rfl rfl rfl (by rw [hz2]; omega) (by unfold maxLen; omega) HG3.out ?_; intro w4 hown hgrow)
  have hO4 : OB w4 g (some ⟨w3.heap.size, 0, none⟩) 32 [] := ⟨hown, AllB.nil⟩
  have hb4 : Below w3.heap.size w3 w4 := (Below.refl _ _).grown hgrow (Nat.le_refl _) (fun _ h => by cases h)
  have hR4 := hR3.below hb4 hR3.lt
  have hB4 := hB3.trans (hb4.mono hB3.size)
  have hG4 : g ≤ w4.heap.size := Nat.le_trans HG3.out hb4.size
  rw [hg] at hO4
  clear hown hgrow hb4 hR3 hB3 HG3 hg hi hz0 hz1 hz2
  refine (c8_singles w.heap.size _).mono ?_
  rintro e w5 ⟨rfl, hb⟩
  have hO5 := hO4.below hb (Nat.le_refl _)
  have hR5 := hR4.below hb hR4.lt
  have hB5 := hB4.trans (hb.mono hB4.size)
  have hG5 : g ≤ w5.heap.size := Nat.le_trans hG4 hb.size
  clear hb hO4 hR4 hB4 hG4
  go_wp2_with fail
  go_loopw [5, 17] (fun v i wr => ∃ (k : Nat) (A : Option Addr) (c : Nat), k ≤ 10 ∧ i = .int .i64 k ∧ v = .slice A ((sing r).take k).length c ∧ OB wr g A c ((sing r).take k) ∧ RowW wr w.heap.size r.cells ∧ Below w.heap.size w wr ∧ g ≤ wr.heap.size) (fun _ i _ => 10 - (intOf i).toNat)
  case atStart => exact ⟨0, _, _, by omega, rfl, rfl, hO5, hR5, hB5, hG5⟩
  case round =>
    clear hO5 hR5 hB5 hG5
    obtain ⟨k, A, c, hk, rfl, rfl, ho, hR, hB, hG⟩ := hrel
    by_cases hlt : k < 10
    · have hI : ∀ w', (Instr.index 63 (.agg #[.pointer (some ⟨w.heap.size, 0, none⟩), .pointer (some ⟨w.heap.size, 1, none⟩), .pointer (some ⟨w.heap.size, 2, none⟩), .pointer (some ⟨w.heap.size, 3, none⟩), .pointer (some ⟨w.heap.size, 4, none⟩), .pointer (some ⟨w.heap.size, 5, none⟩), .pointer (some ⟨w.heap.size, 6, none⟩), .pointer (some ⟨w.heap.size, 7, none⟩), .pointer (some ⟨w.heap.size, 8, none⟩), .pointer (some ⟨w.heap.size, 9, none⟩)]) (.int .i64 k)).run Try.prog w' = .ok (.pointer (some ⟨w.heap.size, k, none⟩)) w' := fun w' => by
        have := ixs_any w.heap.size k hlt w'
        rwa [Nat.zero_add] at this
      have x0 := hR.at_ k _ (sing_at hlt)
      have HT := Lib.hid (take_more (l := sing r) (k := k) hlt)
      have hX := sing_bytes hr ((sing r).getD k 0) (by rw [List.getD, List.getElem?_eq_getElem (show k < (sing r).length from hlt)]; exact List.getElem_mem _)
      obtain ⟨X, hXe⟩ : ∃ X, (sing r).getD k 0 = X := ⟨_, rfl⟩
      rw [hXe] at x0 hX HT
      have hll : ((sing r).take k).length ≤ 10 := by rw [List.length_take]; omega
      obtain ⟨L, hL⟩ : ∃ L, (sing r).take k = L := ⟨_, rfl⟩
      rw [hL] at ho HT hll ⊢
      obtain ⟨X0, X1⟩ := hX
      have HO := Lib.hid ho
      have HB := Lib.hid hB
      have HRr := Lib.hid hR
      clear hXe hL ho hB hR
      go_wp2_with (at_builtin; refine wpList_append_rb _ rfl _ _ rfl g _ _ _ _ L rfl rfl (HO.out.alloc _) _ _ _ [X] rfl rfl (RB.lit1 _ _ X0 X1) (by simp; omega) (by simp; omega) ?_; intro A' c' w6 hob hbel hne)
      have hbg : Below g wr w6 := ((Below.refl g wr).alloc hG _).trans hbel
      clear hI x0
      go_roundw
      case rel => exact ⟨k + 1, A', c', by omega, by go_num, (by rw [HT.out, List.length_append]; rfl), (by rw [HT.out]; exact hob), HRr.out.below hbg hgb, HB.out.trans (hbg.mono (by omega)), Nat.le_trans hG hbg.size⟩
      case measure => simp [intOf]; omega
    · obtain rfl : k = 10 := by omega
      rw [show (sing r).take 10 = sing r from rfl] at ho ⊢
      have HO := Lib.hid ho
      have HRr := Lib.hid hR
      clear ho hR
      go_wp2_with fail
      refine (c8_words w.heap.size _).mono ?_
      rintro e w7 ⟨rfl, hb⟩
      have hO7 := HO.out.below hb (Nat.le_refl _)
      have hR7 := HRr.out.below hb HRr.out.lt
      have hB7 := hB.trans (hb.mono hB.size)
      have hG7 : g ≤ w7.heap.size := Nat.le_trans hG hb.size
      clear hb HO HRr hB hG
      go_wp2_with fail
      go_loopw [5, 28] (fun v i wr => ∃ (k : Nat) (A : Option Addr) (c : Nat), k ≤ 9 ∧ i = .int .i64 k ∧ v = .slice A (sing r ++ twoB ((wrds r).take k)).length c ∧ OB wr g A c (sing r ++ twoB ((wrds r).take k)) ∧ RowW wr w.heap.size r.cells ∧ Below w.heap.size w wr ∧ g ≤ wr.heap.size) (fun _ i _ => 9 - (intOf i).toNat)
      case atStart => exact ⟨0, A, c, by omega, rfl, rfl, hO7, hR7, hB7, hG7⟩
      case round =>
        clear hO7 hR7 hB7 hG7
        obtain ⟨k, A, c, hk, rfl, rfl, ho, hR, hB, hG⟩ := hrel
        by_cases hlt : k < 9
        · have hI := fun w' => ixw_any w.heap.size k hlt w'
          have x0 := hR.at_ (10 + k) _ (wrds_at hlt)
          have hX := wrds_words hr ((wrds r).getD k 0) (by rw [List.getD, List.getElem?_eq_getElem (show k < (wrds r).length from hlt)]; exact List.getElem_mem _)
          have ht : sing r ++ twoB ((wrds r).take (k + 1)) = (sing r ++ twoB ((wrds r).take k)) ++ [(wrds r).getD k 0 / 256, (wrds r).getD k 0 % 256] := by
            rw [take_more (l := wrds r) (k := k) hlt, twoB_append, List.append_assoc]; rfl
          have HT := Lib.hid ht
          clear ht
          obtain ⟨X, hXe⟩ : ∃ X, (wrds r).getD k 0 = X := ⟨_, rfl⟩
          rw [hXe] at x0 hX HT
          have hll : (sing r ++ twoB ((wrds r).take k)).length ≤ 28 := by rw [List.length_append, twoB_len, List.length_take]; simp [sing]; omega
          obtain ⟨L, hL⟩ : ∃ L, sing r ++ twoB ((wrds r).take k) = L := ⟨_, rfl⟩
          rw [hL] at ho HT hll ⊢
          obtain ⟨X0, X1⟩ := hX
          have HO := Lib.hid ho
          have HB := Lib.hid hB
          have HRr := Lib.hid hR
          clear hXe hL ho hB hR
          go_wp2_with fail
          refine (appendword_any _ g A c L HO.out hG (by omega) X X0 X1).mono ?_
          rintro e w6 ⟨⟨A', c', rfl, hob⟩, hbg⟩
          clear hI x0
          go_wp2_with fail
          go_roundw
          case rel => exact ⟨k + 1, A', c', by omega, by go_num, (by rw [HT.out, List.length_append]; rfl), (by rw [HT.out]; exact hob), HRr.out.below hbg hgb, HB.out.trans (hbg.mono (by omega)), Nat.le_trans hG hbg.size⟩
          case measure => simp [intOf]; omega
        · obtain rfl : k = 9 := by omega
          rw [show (wrds r).take 9 = wrds r from rfl] at ho ⊢
          have hll : (sing r ++ twoB (wrds r)).length = 28 := by rw [List.length_append, twoB_len]; rfl
          have HQ := Lib.hid (show rgB r = (sing r ++ twoB (wrds r)) ++ [swN r 4, r.IM] from rfl)
          obtain ⟨L, hL⟩ : ∃ L, sing r ++ twoB (wrds r) = L := ⟨_, rfl⟩
          rw [hL] at ho hll HQ ⊢
          clear hL
          obtain ⟨w10, hw10⟩ : ∃ w10, wr = w10 := ⟨_, rfl⟩
          rw [hw10] at ho hR hB hG ⊢
          clear hw10
          obtain ⟨S, hS⟩ : ∃ S : Nat → Prop, ∀ k, S k ↔ g ≤ k := ⟨fun k => g ≤ k, fun _ => Iff.rfl⟩
          have x0 : ∀ p : Later S w10, p.w.cell? ⟨w.heap.size, 21, none⟩ = some (.int .i64 r.IM) := fun p => by
            have h1 : RowW p.w w.heap.size r.cells := (p.ok.block w.heap.size hR.lt (fun h => by have := (hS _).1 h; omega)).trans hR
            exact h1.at_ 21 _ rfl
          have hIM : IntKind.u8.wrap r.IM = r.IM := by rw [wrap_u8]; omega
          have HRl := Lib.hid (fun (w' : World) (h : Save S w10 w') => show RowW w' w.heap.size r.cells from (h.block w.heap.size hR.lt (fun h => by have := (hS _).1 h; omega)).trans hR)
          have HS := Lib.hid hS
          have HO := Lib.hid ho
          have HRr := Lib.hid hR
          have HB := Lib.hid hB
          have HG := Lib.hid hG
          clear hS ho hR hB hG
          go_upto_region 15 with fail
          refine region_ S (by kernel_rfl) ?_
          refine seg_ [0, 3, 4, 5] 5 _ (by kernel_rfl) (by kernel_rfl) (by kernel_rfl) (by simp only [pickOps, mask, plain, List.getElem?_toArray, List.getElem?_cons_zero, List.getElem?_cons_succ, if_true]; rfl) ?_
          repeat (go_big_quiet_step (fail))
          refine wpQuiet_nil ?_
          clear x0
          refine calm_ (i := 1) r.val rfl (by kernel_rfl) (by kernel_rfl) (by kernel_rfl) (by kernel_rfl) ?_ ?_
          · intro wz sz
            exact does_load_row 24 _ rfl _ rfl _ _ (0, 0) _ (HRl.out wz sz) Try.underlying24 rfl rg_info ⟨rfl, ⟨wz.drawn, rfl⟩⟩
          go_simp
          have hR_w10 := HRr.out
          have hO_w10 := HO.out
          have hB_w10 := HB.out
          have hG_w10 := HG.out
          clear HRr HO HB HG HRl
          refine callx_ (i := 2) rfl (by kernel_rfl) (by kernel_rfl) ?_
          intro nn
          have hV := Save.drawn S w10 nn
          have hR_w11 : RowW { w10 with drawn := nn } w.heap.size r.cells := hR_w10
          have hO_w11 : OB { w10 with drawn := nn } g A c L := ⟨hO_w10.own, hO_w10.bytes⟩
          have hB_w11 : Below w.heap.size w { w10 with drawn := nn } := hB_w10.trans ((Save.drawn (fun _ => False) w10 nn).all.mono hB_w10.size)
          have hG_w11 : g ≤ ({ w10 with drawn := nn } : World).heap.size := hG_w10
          generalize hw : ({ w10 with drawn := nn } : World) = w11 at *
          clear hw hR_w10 hO_w10 hB_w10 hG_w10
          unfold Oper.does
          go_simp
          refine (c8_switchbyte r _).mono ?_
          rintro e w12 ⟨rfl, hb⟩
          refine ⟨_, rfl, same_ hV (below_save hb (Nat.le_refl _) S) ?_⟩
          have hR_w12 := hR_w11.below hb hR_w11.lt
          have hO_w12 := hO_w11.below hb (Nat.le_refl _)
          have hB_w12 := hB_w11.trans (hb.mono hB_w11.size)
          have hG_w12 : g ≤ w12.heap.size := Nat.le_trans hG_w11 hb.size
          clear hb hV hR_w11 hO_w11 hB_w11 hG_w11
          refine callx_ (i := 6) rfl (by kernel_rfl) (by kernel_rfl) ?_
          intro nn2
          have hV := Save.drawn S w12 nn2
          have hR_w13 : RowW { w12 with drawn := nn2 } w.heap.size r.cells := hR_w12
          have hO_w13 : OB { w12 with drawn := nn2 } g A c L := ⟨hO_w12.own, hO_w12.bytes⟩
          have hB_w13 : Below w.heap.size w { w12 with drawn := nn2 } := hB_w12.trans ((Save.drawn (fun _ => False) w12 nn2).all.mono hB_w12.size)
          have hG_w13 : g ≤ ({ w12 with drawn := nn2 } : World).heap.size := hG_w12
          generalize hw : ({ w12 with drawn := nn2 } : World) = w13 at *
          clear hw hR_w12 hO_w12 hB_w12 hG_w12
          unfold Oper.does
          go_simp
          have hsw := swN_in r
          obtain ⟨Y, hY⟩ : ∃ Y, swN r 4 = Y := ⟨_, rfl⟩
          rw [hY] at hsw HQ
          simp only [hY]
          obtain ⟨s0, s1⟩ := hsw
          have hL : OB (w13.alloc (.cells #[.int .u8 Y, .int .u8 r.IM] 5)) w13.heap.size (some ⟨w13.heap.size, 0, none⟩) 2 [Y, r.IM] :=
            OB.lit w13 [Y, r.IM] (AllB.cons s0 s1 (AllB.cons (by omega) (by omega) AllB.nil)) (by unfold maxLen; simp)
          have hb := (Below.refl w13.heap.size w13).alloc (Nat.le_refl _) (.cells #[.int .u8 Y, .int .u8 r.IM] 5)
          refine same_ hV (below_save hb (Nat.le_refl _) S) ?_
          have hL14 := hL.rb
          have hR_w14 := hR_w13.below hb hR_w13.lt
          have hO_w14 := hO_w13.below hb (Nat.le_refl _)
          have hB_w14 := hB_w13.trans (hb.mono hB_w13.size)
          have hG_w14 : g ≤ (w13.alloc (.cells #[.int .u8 Y, .int .u8 r.IM] 5)).heap.size := Nat.le_trans hG_w13 hb.size
          obtain ⟨G, hGe⟩ : ∃ G, w13.heap.size = G := ⟨_, rfl⟩
          generalize hw : w13.alloc (.cells #[.int .u8 Y, .int .u8 r.IM] 5) = w14 at *
          rw [hGe] at hL14
          simp only [hGe]
          clear hw hL hb hV hR_w13 hO_w13 hB_w13 hG_w13 hGe
          refine callx_ (i := 7) rfl (by kernel_rfl) (by kernel_rfl) ?_
          intro nn3
          have hL15 : RB { w14 with drawn := nn3 } ({ w14 with drawn := nn3 } : World).heap.size (some ⟨G, 0, none⟩) 2 [Y, r.IM] := ⟨hL14.le, hL14.cap, hL14.bytes, hL14.at_⟩
          clear hL14
          have hV := Save.drawn S w14 nn3
          have hR_w15 : RowW { w14 with drawn := nn3 } w.heap.size r.cells := hR_w14
          have hO_w15 : OB { w14 with drawn := nn3 } g A c L := ⟨hO_w14.own, hO_w14.bytes⟩
          have hB_w15 : Below w.heap.size w { w14 with drawn := nn3 } := hB_w14.trans ((Save.drawn (fun _ => False) w14 nn3).all.mono hB_w14.size)
          have hG_w15 : g ≤ ({ w14 with drawn := nn3 } : World).heap.size := hG_w14
          generalize hw : ({ w14 with drawn := nn3 } : World) = w15 at *
          clear hw hR_w14 hO_w14 hB_w14 hG_w14
          obtain ⟨A3, c3, w16, hrun, hO16, hb16, -, -⟩ := run_append_rb w15 25 g _ A c L hO_w15 _ 2 [Y, r.IM] hL15 (by simp; omega) hG_w15
          have h5 : [Y, r.IM].length = 2 := rfl
          rw [h5, hll] at hrun
          refine does_append_ob _ _ rfl rfl rfl hrun ?_
          refine turn_ (S1 := fun _ => False) hV (⟨hb16.os, hb16.tape, hb16.output, hb16.size, fun k hk hs => hb16.block k (Nat.lt_of_not_le (fun h => hs ((HS.out k).2 h)))⟩ : Save S w15 w16) (fun k hk h => h.elim) ?_
          have hR16 := hR_w15.below hb16 hgb
          have hB16 := hB_w15.trans (hb16.mono (by omega))
          have hG16 : g ≤ w16.heap.size := Nat.le_trans hG_w15 hb16.size
          rw [← HQ.out] at hO16 ⊢
          clear hV hrun hL15 hR_w15 hO_w15 hB_w15 hG_w15 hb16 h5
          go_simp
          refine seg_ [8] 0 _ (by kernel_rfl) (by kernel_rfl) (by kernel_rfl) (by simp only [pickOps, mask, plain, List.getElem?_toArray, List.getElem?_cons_zero, List.getElem?_cons_succ, if_true]; rfl) ?_
          repeat (go_big_quiet_step (fail))
          refine wpQuiet_nil ?_
          refine end_ (by kernel_rfl) ?_
          intro wc sc
          have hb17 := sc.below (B := w16.heap.size) (Nat.le_refl _) (fun _ h => h.elim)
          have hO17 := hO16.below hb17 (Nat.le_refl _)
          have hB17 := hB16.trans (hb17.mono hB16.size)
          have hG17 : g ≤ wc.heap.size := Nat.le_trans hG16 hb17.size
          clear hR16 hO16 hB16 hG16 hb17 sc
          have hq30 := rgB_len r
          have HX := Lib.hid (show bytesR r = rgB r ++ [((sumL (rgB r)).toNat : Int) / 256, ((sumL (rgB r)).toNat : Int) % 256] from rfl)
          have HLn := Lib.hid (bytesR_len r)
          obtain ⟨q, hq⟩ : ∃ q, rgB r = q := ⟨_, rfl⟩
          rw [hq] at hO17 hq30 HX ⊢
          have hs0 : (0 : Int) ≤ ((sumL q).toNat : Int) ∧ ((sumL q).toNat : Int) < 65536 := ⟨by omega, by have := (sumL q).isLt; omega⟩
          have HSm := Lib.hid (sum8_1 wc.heap.size A3 c3 30 q wc rfl hq30.symm hO17.rb (by omega))
          obtain ⟨Z, hZ⟩ : ∃ Z, ((sumL q).toNat : Int) = Z := ⟨_, rfl⟩
          rw [hZ] at hs0 HX HSm
          obtain ⟨z0, z1⟩ := hs0
          have hO18 := Lib.hid (hO17.alloc (.cells #[.slice A3 30 c3] 25))
          have hB18 := Lib.hid (hB17.alloc hB17.size (.cells #[.slice A3 30 c3] 25))
          have hG18 := Lib.hid (Nat.le_trans hG17 ((Below.refl wc.heap.size wc).alloc (Nat.le_refl _) (.cells #[.slice A3 30 c3] 25)).size)
          rw [hq30]
          clear hq hZ hO17 hB17 hG17
          go_wp2_with (first | (go_at_call 47; (with_reducible refine (HSm.out).mono ?_); rintro e w' ⟨rfl, rfl⟩))
          refine ((hq30 ▸ appendword_any _ g A3 c3 q hO18.out hG18.out (by omega) Z z0 z1 : Calls Try.prog 45 #[.slice A3 30 c3, .int .u16 Z] _ _)).mono ?_
          rintro e w19 ⟨⟨A', c', rfl, hob⟩, hbg⟩
          rw [← HX.out] at hob ⊢
          rw [HLn.out]
          go_wp2_with fail
          go_ret2
          exact ⟨⟨A', c', rfl, hob.mono (by omega)⟩, hB18.out.trans (hbg.mono (by omega))⟩

end Go.Proofs.Ytedlfcmlchjjlaa
