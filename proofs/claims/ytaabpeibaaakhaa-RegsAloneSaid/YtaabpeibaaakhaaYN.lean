
/- Registers: what is put is there, and nothing else is another: the walk of RegsAlone. -/
import Derived.Test.YtaabpeibaaakhaaYM
import Derived.Test.YtaabpeibaaakhaaYL
import Derived.Deep.CutRange
namespace Go.Proofs.Ytaabpeibaaakhaa
open Go.RowKit
set_option linter.unusedSimpArgs false
set_option linter.unusedVariables false
set_option maxRecDepth 100000

theorem putR_Ok {r : Rg} (h : r.Ok) (i c v : Int) (hv : isB v) : (putR r i c v).Ok := putR_ok h i c v hv

set_option maxHeartbeats 16000000 in
theorem walk_RegsAlone (w : World) (r : Rg) (hr : r.Ok) (i : Int) (wi : (Lit.int .i64 i).wf = true) (c : Int) (cwf : (Lit.int .i64 c).wf = true) (st : Bool) (v : Int) (wv : (Lit.int .u8 v).wf = true) (x : Int) (wx : (Lit.int .u16 x).wf = true) :
    Calls Try.prog 6 #[r.val, .int .i64 i, .int .i64 c, .bool st, .int .u8 v, .int .u16 x] w fun e w' => e = .returned (.bool true) ∧ Below w.heap.size w w' := by
  have hv : isB v := wf_u8 wv
  have hxw : isW x := by have := bounds_u16 wx; unfold isW; omega
  clear wv wx
  have HR0 := Lib.hid (show RowW (w.alloc (rgO r)) w.heap.size r.cells from RgW.laid w r)
  have hB0 : Below w.heap.size w (w.alloc (rgO r)) := (Below.refl _ _).alloc (Nat.le_refl _) _
  have HP8 := Lib.hid (fun w => pick_8 c w cwf)
  have HP4 := Lib.hid (fun w => pick_4 c w cwf)
  have HPut := Lib.hid (fun w => c8_put r hr i c v hv w wi cwf)
  have HPP := Lib.hid (fun w => c8_putpair r i c st x hxw w wi cwf)
  have HGs := Lib.hid (fun k (wk : (Lit.int .i64 k).wf = true) w => c8_get _ (putR_ok hr i c v hv) i k w wi wk)
  have HGr := Lib.hid (fun k (wk : (Lit.int .i64 k).wf = true) w => c8_get r hr i k w wi wk)
  have HGt := Lib.hid (fun k (wk : (Lit.int .i64 k).wf = true) w => c8_get _ (putPairR_ok hr i c st x hxw) i k w wi wk)
  have HPt := Lib.hid (fun k (wk : (Lit.int .i64 k).wf = true) w => c8_pair _ (putPairR_ok hr i c st x hxw) i k st w wi wk)
  have HPr := Lib.hid (fun k (wk : (Lit.int .i64 k).wf = true) w => c8_pair r hr i k st w wi wk)
  have E6 := Lib.hid (fun h : c % 8 = 6 => put_6 (r := r) (i := i) (c := c) (v := v) h)
  have Eg := Lib.hid (fun h : c % 8 ≠ 6 => get_put (r := r) (i := i) (c := c) hv h)
  have Eo := Lib.hid (fun k (k0 : 0 ≤ k) (k1 : k < 8) (h : k ≠ c % 8) => get_other hr (i := i) (c := c) hv k0 k1 h)
  have Ep := Lib.hid (pair_put_same (r := r) (i := i) (c := c) (v := x) (st := st))
  have Eq := Lib.hid (fun k (k0 : 0 ≤ k) (k1 : k < 4) (h : k ≠ c % 4) => pair_other (r := r) (i := i) (c := c) (v := x) (st := st) k0 k1 h)
  have E2 := Lib.hid (fun k (k0 : 0 ≤ k) (k1 : k < 3) => two_bytes (putPairR_ok hr i c st x hxw) (i := i) (k := k) (st := st) k0 k1)
  have EB := Lib.hid (fun k => getR_in (putPairR_ok hr i c st x hxw) i k)
  obtain ⟨s, hs⟩ : ∃ s, putR r i c v = s := ⟨_, rfl⟩
  obtain ⟨t, ht⟩ : ∃ t, putPairR r i c st x = t := ⟨_, rfl⟩
  rw [hs] at HPut
  rw [ht] at HPP
  simp only [hs] at HGs E6 Eg Eo
  simp only [ht] at HGt HPt Ep Eq E2 EB
  clear hs ht
  obtain ⟨N, hN⟩ : ∃ N, c % 8 = N := ⟨_, rfl⟩
  obtain ⟨M4, hM⟩ : ∃ N, c % 4 = N := ⟨_, rfl⟩
  have hN8 : 0 ≤ N ∧ N < 8 := by omega
  have hM8 : 0 ≤ M4 ∧ M4 < 4 := by omega
  simp only [hN] at HP8 E6 Eg Eo
  simp only [hM] at HP4 Eq
  clear hN hM hv hxw hr
  obtain ⟨hN0, hN1⟩ := hN8
  obtain ⟨hM0, hM1⟩ := hM8
  have hval : r.val = .agg #[.int .u8 r.A, .int .u8 r.F, .int .u8 r.B, .int .u8 r.C, .int .u8 r.D, .int .u8 r.E, .int .u8 r.H, .int .u8 r.L, .int .u8 r.I, .int .u8 r.R, .int .u16 r.IX, .int .u16 r.IY, .int .u16 r.SP, .int .u16 r.PC, .int .u16 r.WZ, .int .u16 r.AF2, .int .u16 r.BC2, .int .u16 r.DE2, .int .u16 r.HL2, .bool r.IFF1, .bool r.IFF2, .int .i64 r.IM, .bool r.Halt, .bool r.Late] := rfl
  rw [hval]
  clear hval
  obtain ⟨w0, hw0⟩ : ∃ w0, w.alloc (rgO r) = w0 := ⟨_, rfl⟩
  rw [hw0] at HR0 hB0
  unfold rgO at hw0
  go_enter Try.func6, Try.ntmps6
  go_wp2_with fail
  generalize (.agg #[.int .u8 r.A, .int .u8 r.F, .int .u8 r.B, .int .u8 r.C, .int .u8 r.D, .int .u8 r.E, .int .u8 r.H, .int .u8 r.L, .int .u8 r.I, .int .u8 r.R, .int .u16 r.IX, .int .u16 r.IY, .int .u16 r.SP, .int .u16 r.PC, .int .u16 r.WZ, .int .u16 r.AF2, .int .u16 r.BC2, .int .u16 r.DE2, .int .u16 r.HL2, .bool r.IFF1, .bool r.IFF2, .int .i64 r.IM, .bool r.Halt, .bool r.Late] : Value) = V0
  refine (lives8_any _).mono ?_
  rintro e w1 ⟨rfl, hb⟩
  have HR1 := Lib.hid (HR0.out.below hb HR0.out.lt)
  have hB1 := hB0.trans (hb.mono hB0.size)
  clear hb hB0 HR0 hw0
  go_wp2_with (first
    | (go_at_call 33; (with_reducible refine (HP8.out _).mono ?_); rintro e w' ⟨rfl, rfl⟩)
    | (refine wpList_load_row rfl 28 _ rfl w.heap.size rfl _ _ (0, 0) _ HR1.out Try.underlying28 rfl rg_info ?_))
  refine (HPut.out _).mono ?_
  rintro e w3 ⟨rfl, hb⟩
  have hR3 := HR1.out.below hb HR1.out.lt
  have hB3 := hB1.trans (hb.mono hB1.size)
  clear hb hB1 HR1
  obtain ⟨b2, hb2⟩ : ∃ b2, w3.heap.size = b2 := ⟨_, rfl⟩
  obtain ⟨wa, hwa⟩ : ∃ wa, w3.alloc (rgO zeroR) = wa := ⟨_, rfl⟩
  have hZ_wa : RowW wa b2 zeroR.cells := by rw [← hwa, ← hb2]; exact RgW.laid w3 zeroR
  have hb_wa : Below w3.heap.size w3 wa := hwa ▸ (Below.refl _ _).alloc (Nat.le_refl _) _
  have hRa := hR3.below hb_wa hR3.lt
  have hBa := hB3.trans (hb_wa.mono hB3.size)
  have hne : w.heap.size ≠ b2 := by have := hR3.lt; omega
  have hle : w.heap.size ≤ b2 := hb2 ▸ hB3.size
  unfold rgO zeroR at hwa
  go_upto_if 30 with (refine wpList_store_row rfl 28 _ _ rfl b2 s.cells rfl rfl _ _ hZ_wa rg_info rfl (rg_one _) ?_)
  have hS4 := setRow_heap wa b2 _ s.cells _ _ hZ_wa
  have hR4 : RowW (wa.setRow b2 s.cells) w.heap.size r.cells := (setRow_other wa b2 w.heap.size s.cells hne).trans hRa
  have hB4 := below_setRow hBa hle s.cells
  generalize hw4 : wa.setRow b2 s.cells = w4 at *
  clear hw4 hZ_wa hb_wa hRa hBa hwa hR3 hB3 hb2
  go_cut [] from 30 to 39 (fun wc => RowW wc w.heap.size r.cells ∧ RowW wc b2 s.cells ∧ Below w.heap.size w wc)
  case first =>
    by_cases h6 : N = 6
    · have es := E6.out h6
      rw [es] at hS4
      have ES := Lib.hid es
      have hg : (N == 6) = true := by rw [beq_iff_eq]; exact h6
      clear es h6
      have hq : ∀ w', (binOp .neq 28 (.agg r.cells) (.agg r.cells)).run Try.prog w' = .ok (.bool false) w' := fun w' => rg_neq r w'
      go_wp2_with (first | (refine wpList_load_row rfl 28 _ rfl b2 rfl _ _ (0, 0) _ hS4 Try.underlying28 rfl rg_info ?_) | (refine wpList_load_row rfl 28 _ rfl w.heap.size rfl _ _ (0, 0) _ hR4 Try.underlying28 rfl rg_info ?_))
      go_meet
      exact ⟨hR4, by rw [ES.out]; exact hS4, hB4⟩
    · have eg := Eg.out h6
      have hg : (N == 6) = false := by rw [beq_eq_false_iff_ne]; exact h6
      clear h6
      have hG := HGs.out c cwf
      rw [eg] at hG
      have HG := Lib.hid hG
      clear hG eg
      have HS4 := Lib.hid hS4
      have HR4 := Lib.hid hR4
      clear hS4 hR4
      go_wp2_with (refine wpList_load_row rfl 28 _ rfl b2 rfl _ _ (0, 0) _ HS4.out Try.underlying28 rfl rg_info ?_)
      refine (HG.out _).mono ?_
      rintro e w5 ⟨rfl, hb⟩
      have hS5 : RowW w5 b2 s.cells := RowW.below HS4.out hb (RowW.lt HS4.out)
      have hR5 := HR4.out.below hb HR4.out.lt
      have hB5 := hB4.trans (hb.mono hB4.size)
      clear hb
      go_wp2_with fail
      go_meet
      exact ⟨hR5, hS5, hB5⟩
  case rest =>
    obtain ⟨hR5, hS5, hB5⟩ := hcut
    clear hS4 hR4 hB4 E6 Eg
    go_wp2_with fail
    go_loopw [15] (fun i wr => ∃ k : Nat, k ≤ 8 ∧ i = .int .i64 k ∧ RowW wr w.heap.size r.cells ∧ RowW wr b2 s.cells ∧ Below w.heap.size w wr) (fun i _ => 8 - (intOf i).toNat)
    case atStart => exact ⟨0, by omega, rfl, hR5, hS5, hB5⟩
    case round =>
      clear hR5 hS5 hB5
      obtain ⟨k, hk, rfl, hR6, hS6, hB6⟩ := hrel
      have HR6 := Lib.hid hR6
      have HS6 := Lib.hid hS6
      clear hR6 hS6
      by_cases hk3 : k < 8
      · by_cases hkN : (k : Int) = N
        · have hg : ((k : Int) != N) = false := by rw [bne_eq_false_iff_eq]; exact hkN
          clear hkN
          go_upto_region 13 with fail
          refine M.region_ (by kernel_rfl) ?_
          refine M.seg_ [0, 1, 2, 3, 4, 5, 6, 7, 8, 9, 10, 11, 12, 13] 0 _ _ (M.Base.refl _) (by kernel_rfl) (by kernel_rfl) (by kernel_rfl) (by simp only [pickOps, mask, plain, List.getElem?_toArray, List.getElem?_cons_zero, List.getElem?_cons_succ, if_true, Bool.false_eq_true, if_false]; rfl) ?_
          repeat (go_big_quiet_step (fail))
          refine wpQuiet_nil ?_
          refine M.end_ (by kernel_rfl) ?_
          intro wc sc
          have hR7 := HR6.out.below sc.2 HR6.out.lt
          have hS7 := HS6.out.below sc.2 HS6.out.lt
          have hB7 := hB6.trans (sc.2.mono hB6.size)
          clear HR6 HS6 hB6 sc
          go_wp2_with fail
          go_roundw
          case rel => exact ⟨k + 1, by omega, by go_num, hR7, hS7, hB7⟩
          case measure => simp [intOf]; omega
        · have hg : ((k : Int) != N) = true := by rw [bne_iff_ne]; exact hkN
          have eo := Eo.out k (by omega) (by omega) hkN
          have hGs := HGs.out k (wf_i64 (by omega) (by omega))
          rw [eo] at hGs
          have hGr := HGr.out k (wf_i64 (by omega) (by omega))
          obtain ⟨X, hX⟩ : ∃ X, getR r i k = X := ⟨_, rfl⟩
          rw [hX] at hGs hGr
          have G1 := Lib.hid hGs
          have G2 := Lib.hid hGr
          clear hGs hGr hX eo
          go_upto_region 13 with fail
          refine M.region_ (by kernel_rfl) ?_
          refine M.seg_ [0, 1, 2, 3] 10 _ _ (M.Base.refl _) (by kernel_rfl) (by kernel_rfl) (by kernel_rfl) (by simp only [pickOps, mask, plain, List.getElem?_toArray, List.getElem?_cons_zero, List.getElem?_cons_succ, if_true]; rfl) ?_
          repeat (go_big_quiet_step (fail))
          refine wpQuiet_nil ?_
          refine M.calm_ (i := 4) s.val rfl (by kernel_rfl) (by kernel_rfl) (by kernel_rfl) (by kernel_rfl) ?_ ?_
          · intro wz sz
            exact does_load_row 28 _ rfl _ rfl _ _ (0, 0) _ (HS6.out.below sz.2 HS6.out.lt) Try.underlying28 rfl rg_info ⟨rfl, Save.refl _ _⟩
          go_simp
          refine M.seg_ [5, 6] 7 _ _ (M.Base.refl _) (by kernel_rfl) (by kernel_rfl) (by kernel_rfl) (by simp only [pickOps, mask, plain, List.getElem?_toArray, List.getElem?_cons_zero, List.getElem?_cons_succ, if_true]; rfl) ?_
          repeat (go_big_quiet_step (fail))
          refine wpQuiet_nil ?_
          refine M.calm_ (i := 7) (.int .u8 X) rfl (by kernel_rfl) (by kernel_rfl) (by kernel_rfl) (by kernel_rfl) ?_ ?_
          · intro wz sz
            unfold Oper.does
            go_simp
            exact (G1.out wz).mono fun e w' ⟨he, hw⟩ => ⟨_, he, rfl, Save.of_below hw⟩
          go_simp
          refine M.calm_ (i := 8) r.val rfl (by kernel_rfl) (by kernel_rfl) (by kernel_rfl) (by kernel_rfl) ?_ ?_
          · intro wz sz
            exact does_load_row 28 _ rfl _ rfl _ _ (0, 0) _ (HR6.out.below sz.2 HR6.out.lt) Try.underlying28 rfl rg_info ⟨rfl, Save.refl _ _⟩
          go_simp
          refine M.seg_ [9, 10] 3 _ _ (M.Base.refl _) (by kernel_rfl) (by kernel_rfl) (by kernel_rfl) (by simp only [pickOps, mask, plain, List.getElem?_toArray, List.getElem?_cons_zero, List.getElem?_cons_succ, if_true]; rfl) ?_
          repeat (go_big_quiet_step (fail))
          refine wpQuiet_nil ?_
          refine M.calm_ (i := 11) (.int .u8 X) rfl (by kernel_rfl) (by kernel_rfl) (by kernel_rfl) (by kernel_rfl) ?_ ?_
          · intro wz sz
            unfold Oper.does
            go_simp
            exact (G2.out wz).mono fun e w' ⟨he, hw⟩ => ⟨_, he, rfl, Save.of_below hw⟩
          go_simp
          refine M.seg_ [12, 13] 0 _ _ (M.Base.refl _) (by kernel_rfl) (by kernel_rfl) (by kernel_rfl) (by simp only [pickOps, mask, plain, List.getElem?_toArray, List.getElem?_cons_zero, List.getElem?_cons_succ, if_true]; rfl) ?_
          repeat (go_big_quiet_step (fail))
          refine wpQuiet_nil ?_
          refine M.end_ (by kernel_rfl) ?_
          intro wc sc
          have hR7 := HR6.out.below sc.2 HR6.out.lt
          have hS7 := HS6.out.below sc.2 HS6.out.lt
          have hB7 := hB6.trans (sc.2.mono hB6.size)
          clear HR6 HS6 hB6 sc G1 G2
          go_wp2_with fail
          go_roundw
          case rel => exact ⟨k + 1, by omega, by go_num, hR7, hS7, hB7⟩
          case measure => simp [intOf]; omega
      · rw [show ((k : Nat) : Int) = 8 by omega]
        clear HGs Eo HPut HP8
        go_wp2_with (refine wpList_load_row rfl 28 _ rfl w.heap.size rfl _ _ (0, 0) _ HR6.out Try.underlying28 rfl rg_info ?_)
        refine (HPP.out _).mono ?_
        rintro e w7 ⟨rfl, hb⟩
        have hR7 := HR6.out.below hb HR6.out.lt
        have hB7 := hB6.trans (hb.mono hB6.size)
        clear hb hB6 HR6 HS6
        obtain ⟨b3, hb3⟩ : ∃ b3, w7.heap.size = b3 := ⟨_, rfl⟩
        obtain ⟨wd, hwd⟩ : ∃ wd, w7.alloc (rgO zeroR) = wd := ⟨_, rfl⟩
        have hZ_wd : RowW wd b3 zeroR.cells := by rw [← hwd, ← hb3]; exact RgW.laid w7 zeroR
        have hb_wd : Below w7.heap.size w7 wd := hwd ▸ (Below.refl _ _).alloc (Nat.le_refl _) _
        have hRa := hR7.below hb_wd hR7.lt
        have hBa := hB7.trans (hb_wd.mono hB7.size)
        have hne3 : w.heap.size ≠ b3 := by have := hR7.lt; omega
        have hle3 : w.heap.size ≤ b3 := hb3 ▸ hB7.size
        have hT8 := setRow_heap wd b3 _ t.cells _ _ hZ_wd
        have hR8 : RowW (wd.setRow b3 t.cells) w.heap.size r.cells := (setRow_other wd b3 w.heap.size t.cells hne3).trans hRa
        have hB8 := below_setRow hBa hle3 t.cells
        unfold rgO zeroR at hwd
        have HT8 := Lib.hid hT8
        have HR8 := Lib.hid hR8
        have HB8 := Lib.hid hB8
        clear hT8 hR8 hB8 hRa hBa hb_wd hR7 hB7
        go_wp2_with (first
          | (refine wpList_store_row rfl 28 _ _ rfl b3 t.cells rfl rfl _ _ hZ_wd rg_info rfl (rg_one _) ?_)
          | (go_at_call 33; (with_reducible refine (HP4.out _).mono ?_); rintro e w' ⟨rfl, rfl⟩)
          | (refine wpList_load_row rfl 28 _ rfl b3 rfl _ _ (0, 0) _ HT8.out Try.underlying28 rfl rg_info ?_))
        have hPt := HPt.out c cwf
        rw [Ep.out] at hPt
        refine (hPt _).mono ?_
        rintro e w9 ⟨rfl, hb⟩
        have hT9 : RowW w9 b3 t.cells := RowW.below HT8.out hb (RowW.lt HT8.out)
        have hR9 := HR8.out.below hb HR8.out.lt
        have hB9 := HB8.out.trans (hb.mono HB8.out.size)
        clear hb HT8 HR8 HB8 hZ_wd hwd hPt Ep HPP HP4
        go_wp2_with fail
        go_loopw [18] (fun i wr => ∃ k : Nat, k ≤ 4 ∧ i = .int .i64 k ∧ RowW wr w.heap.size r.cells ∧ RowW wr b3 t.cells ∧ Below w.heap.size w wr) (fun i _ => 4 - (intOf i).toNat)
        case atStart => exact ⟨0, by omega, rfl, hR9, hT9, hB9⟩
        case round =>
          clear hR9 hT9 hB9
          obtain ⟨k, hk, rfl, hR6, hS6, hB6⟩ := hrel
          have HR6 := Lib.hid hR6
          have HS6 := Lib.hid hS6
          clear hR6 hS6
          by_cases hk3 : k < 4
          · by_cases hkN : (k : Int) = M4
            · have hg : ((k : Int) != M4) = false := by rw [bne_eq_false_iff_eq]; exact hkN
              clear hkN
              go_upto_region 22 with fail
              refine M.region_ (by kernel_rfl) ?_
              refine M.seg_ [0, 1, 2, 3, 4, 5, 6, 7, 8, 9, 10, 11, 12, 13, 14, 15] 0 _ _ (M.Base.refl _) (by kernel_rfl) (by kernel_rfl) (by kernel_rfl) (by simp only [pickOps, mask, plain, List.getElem?_toArray, List.getElem?_cons_zero, List.getElem?_cons_succ, if_true, Bool.false_eq_true, if_false]; rfl) ?_
              repeat (go_big_quiet_step (fail))
              refine wpQuiet_nil ?_
              refine M.end_ (by kernel_rfl) ?_
              intro wc sc
              have hR7 := HR6.out.below sc.2 HR6.out.lt
              have hS7 := HS6.out.below sc.2 HS6.out.lt
              have hB7 := hB6.trans (sc.2.mono hB6.size)
              clear HR6 HS6 hB6 sc
              go_wp2_with fail
              go_roundw
              case rel => exact ⟨k + 1, by omega, by go_num, hR7, hS7, hB7⟩
              case measure => simp [intOf]; omega
            · have hg : ((k : Int) != M4) = true := by rw [bne_iff_ne]; exact hkN
              have eo := Eq.out k (by omega) (by omega) hkN
              have hGs := HPt.out k (wf_i64 (by omega) (by omega))
              rw [eo] at hGs
              have hGr := HPr.out k (wf_i64 (by omega) (by omega))
              obtain ⟨X, hX⟩ : ∃ X, pairR r i k st = X := ⟨_, rfl⟩
              rw [hX] at hGs hGr
              have G1 := Lib.hid hGs
              have G2 := Lib.hid hGr
              clear hGs hGr hX eo
              go_upto_region 22 with fail
              refine M.region_ (by kernel_rfl) ?_
              refine M.seg_ [0, 1, 2, 3] 12 _ _ (M.Base.refl _) (by kernel_rfl) (by kernel_rfl) (by kernel_rfl) (by simp only [pickOps, mask, plain, List.getElem?_toArray, List.getElem?_cons_zero, List.getElem?_cons_succ, if_true]; rfl) ?_
              repeat (go_big_quiet_step (fail))
              refine wpQuiet_nil ?_
              refine M.calm_ (i := 4) t.val rfl (by kernel_rfl) (by kernel_rfl) (by kernel_rfl) (by kernel_rfl) ?_ ?_
              · intro wz sz
                exact does_load_row 28 _ rfl _ rfl _ _ (0, 0) _ (HS6.out.below sz.2 HS6.out.lt) Try.underlying28 rfl rg_info ⟨rfl, Save.refl _ _⟩
              go_simp
              refine M.seg_ [5, 6, 7] 8 _ _ (M.Base.refl _) (by kernel_rfl) (by kernel_rfl) (by kernel_rfl) (by simp only [pickOps, mask, plain, List.getElem?_toArray, List.getElem?_cons_zero, List.getElem?_cons_succ, if_true]; rfl) ?_
              repeat (go_big_quiet_step (fail))
              refine wpQuiet_nil ?_
              refine M.calm_ (i := 8) (.int .u16 X) rfl (by kernel_rfl) (by kernel_rfl) (by kernel_rfl) (by kernel_rfl) ?_ ?_
              · intro wz sz
                unfold Oper.does
                go_simp
                exact (G1.out wz).mono fun e w' ⟨he, hw⟩ => ⟨_, he, rfl, Save.of_below hw⟩
              go_simp
              refine M.calm_ (i := 9) r.val rfl (by kernel_rfl) (by kernel_rfl) (by kernel_rfl) (by kernel_rfl) ?_ ?_
              · intro wz sz
                exact does_load_row 28 _ rfl _ rfl _ _ (0, 0) _ (HR6.out.below sz.2 HR6.out.lt) Try.underlying28 rfl rg_info ⟨rfl, Save.refl _ _⟩
              go_simp
              refine M.seg_ [10, 11, 12] 3 _ _ (M.Base.refl _) (by kernel_rfl) (by kernel_rfl) (by kernel_rfl) (by simp only [pickOps, mask, plain, List.getElem?_toArray, List.getElem?_cons_zero, List.getElem?_cons_succ, if_true]; rfl) ?_
              repeat (go_big_quiet_step (fail))
              refine wpQuiet_nil ?_
              refine M.calm_ (i := 13) (.int .u16 X) rfl (by kernel_rfl) (by kernel_rfl) (by kernel_rfl) (by kernel_rfl) ?_ ?_
              · intro wz sz
                unfold Oper.does
                go_simp
                exact (G2.out wz).mono fun e w' ⟨he, hw⟩ => ⟨_, he, rfl, Save.of_below hw⟩
              go_simp
              refine M.seg_ [14, 15] 0 _ _ (M.Base.refl _) (by kernel_rfl) (by kernel_rfl) (by kernel_rfl) (by simp only [pickOps, mask, plain, List.getElem?_toArray, List.getElem?_cons_zero, List.getElem?_cons_succ, if_true]; rfl) ?_
              repeat (go_big_quiet_step (fail))
              refine wpQuiet_nil ?_
              refine M.end_ (by kernel_rfl) ?_
              intro wc sc
              have hR7 := HR6.out.below sc.2 HR6.out.lt
              have hS7 := HS6.out.below sc.2 HS6.out.lt
              have hB7 := hB6.trans (sc.2.mono hB6.size)
              clear HR6 HS6 hB6 sc G1 G2
              go_wp2_with fail
              go_roundw
              case rel => exact ⟨k + 1, by omega, by go_num, hR7, hS7, hB7⟩
              case measure => simp [intOf]; omega
          · rw [show ((k : Nat) : Int) = 4 by omega]
            clear Eq HPr HGr
            go_wp2_with fail
            go_loopw [19] (fun i wr => ∃ k : Nat, k ≤ 3 ∧ i = .int .i64 k ∧ RowW wr b3 t.cells ∧ Below w.heap.size w wr) (fun i _ => 3 - (intOf i).toNat)
            case atStart => exact ⟨0, by omega, rfl, HS6.out, hB6⟩
            case round =>
              clear HR6 HS6 hB6
              obtain ⟨k, hk, rfl, hS6, hB6⟩ := hrel
              have HS6 := Lib.hid hS6
              clear hS6
              by_cases hk3 : k < 3
              · have e2 := E2.out k (by omega) (by omega)
                have hA := EB.out (2 * (k : Int))
                have hBb := EB.out (2 * (k : Int) + 1)
                have hG1 := HGt.out (2 * (k : Int)) (wf_i64 (by omega) (by omega))
                have hG2 := HGt.out (2 * (k : Int) + 1) (wf_i64 (by omega) (by omega))
                have hG3 := HPt.out k (wf_i64 (by omega) (by omega))
                obtain ⟨X, hX⟩ : ∃ X, getR t i (2 * (k : Int)) = X := ⟨_, rfl⟩
                obtain ⟨Y, hY⟩ : ∃ X, getR t i (2 * (k : Int) + 1) = X := ⟨_, rfl⟩
                obtain ⟨Z, hZ⟩ : ∃ X, pairR t i k st = X := ⟨_, rfl⟩
                rw [hX] at hG1 e2 hA
                rw [hY] at hG2 e2 hBb
                rw [hZ] at hG3 e2
                clear hX hY hZ
                obtain ⟨X0, X1⟩ := hA
                obtain ⟨Y0, Y1⟩ := hBb
                have hsh : X * 256 % 65536 = X * 256 := by omega
                have hor : bits .or .u16 (X * 256) Y = Z := (pair_eq X Y X0 X1 Y0 Y1).trans e2
                have G1 := Lib.hid hG1
                have G2 := Lib.hid hG2
                have G3 := Lib.hid hG3
                clear hG1 hG2 hG3 e2
                go_upto_region 27 with fail
                refine M.region_ (by kernel_rfl) ?_
                refine M.calm_ (i := 0) t.val rfl (by kernel_rfl) (by kernel_rfl) (by kernel_rfl) (by kernel_rfl) ?_ ?_
                · intro wz sz
                  exact does_load_row 28 _ rfl _ rfl _ _ (0, 0) _ (HS6.out.below sz.2 HS6.out.lt) Try.underlying28 rfl rg_info ⟨rfl, Save.refl _ _⟩
                go_simp
                refine M.seg_ [1, 2, 3] 17 _ _ (M.Base.refl _) (by kernel_rfl) (by kernel_rfl) (by kernel_rfl) (by simp only [pickOps, mask, plain, List.getElem?_toArray, List.getElem?_cons_zero, List.getElem?_cons_succ, if_true]; rfl) ?_
                repeat (go_big_quiet_step (fail))
                refine wpQuiet_nil ?_
                refine M.calm_ (i := 4) (.int .u8 X) rfl (by kernel_rfl) (by kernel_rfl) (by kernel_rfl) (by kernel_rfl) ?_ ?_
                · intro wz sz
                  unfold Oper.does
                  go_simp
                  exact (G1.out wz).mono fun e w' ⟨he, hw⟩ => ⟨_, he, rfl, Save.of_below hw⟩
                go_simp
                refine M.seg_ [5, 6] 14 _ _ (M.Base.refl _) (by kernel_rfl) (by kernel_rfl) (by kernel_rfl) (by simp only [pickOps, mask, plain, List.getElem?_toArray, List.getElem?_cons_zero, List.getElem?_cons_succ, if_true]; rfl) ?_
                repeat (go_big_quiet_step (fail))
                refine wpQuiet_nil ?_
                refine M.calm_ (i := 7) t.val rfl (by kernel_rfl) (by kernel_rfl) (by kernel_rfl) (by kernel_rfl) ?_ ?_
                · intro wz sz
                  exact does_load_row 28 _ rfl _ rfl _ _ (0, 0) _ (HS6.out.below sz.2 HS6.out.lt) Try.underlying28 rfl rg_info ⟨rfl, Save.refl _ _⟩
                go_simp
                refine M.seg_ [8, 9, 10, 11] 9 _ _ (M.Base.refl _) (by kernel_rfl) (by kernel_rfl) (by kernel_rfl) (by simp only [pickOps, mask, plain, List.getElem?_toArray, List.getElem?_cons_zero, List.getElem?_cons_succ, if_true]; rfl) ?_
                repeat (go_big_quiet_step (fail))
                refine wpQuiet_nil ?_
                refine M.calm_ (i := 12) (.int .u8 Y) rfl (by kernel_rfl) (by kernel_rfl) (by kernel_rfl) (by kernel_rfl) ?_ ?_
                · intro wz sz
                  unfold Oper.does
                  go_simp
                  exact (G2.out wz).mono fun e w' ⟨he, hw⟩ => ⟨_, he, rfl, Save.of_below hw⟩
                go_simp
                refine M.seg_ [13, 14] 6 _ _ (M.Base.refl _) (by kernel_rfl) (by kernel_rfl) (by kernel_rfl) (by simp only [pickOps, mask, plain, List.getElem?_toArray, List.getElem?_cons_zero, List.getElem?_cons_succ, if_true]; rfl) ?_
                repeat (go_big_quiet_step (fail))
                refine wpQuiet_nil ?_
                refine M.calm_ (i := 15) t.val rfl (by kernel_rfl) (by kernel_rfl) (by kernel_rfl) (by kernel_rfl) ?_ ?_
                · intro wz sz
                  exact does_load_row 28 _ rfl _ rfl _ _ (0, 0) _ (HS6.out.below sz.2 HS6.out.lt) Try.underlying28 rfl rg_info ⟨rfl, Save.refl _ _⟩
                go_simp
                refine M.seg_ [16, 17, 18] 2 _ _ (M.Base.refl _) (by kernel_rfl) (by kernel_rfl) (by kernel_rfl) (by simp only [pickOps, mask, plain, List.getElem?_toArray, List.getElem?_cons_zero, List.getElem?_cons_succ, if_true]; rfl) ?_
                repeat (go_big_quiet_step (fail))
                refine wpQuiet_nil ?_
                refine M.calm_ (i := 19) (.int .u16 Z) rfl (by kernel_rfl) (by kernel_rfl) (by kernel_rfl) (by kernel_rfl) ?_ ?_
                · intro wz sz
                  unfold Oper.does
                  go_simp
                  exact (G3.out wz).mono fun e w' ⟨he, hw⟩ => ⟨_, he, rfl, Save.of_below hw⟩
                go_simp
                refine M.seg_ [20] 0 _ _ (M.Base.refl _) (by kernel_rfl) (by kernel_rfl) (by kernel_rfl) (by simp only [pickOps, mask, plain, List.getElem?_toArray, List.getElem?_cons_zero, List.getElem?_cons_succ, if_true]; rfl) ?_
                repeat (go_big_quiet_step (fail))
                refine wpQuiet_nil ?_
                refine M.end_ (by kernel_rfl) ?_
                intro wc sc
                have hS7 := HS6.out.below sc.2 HS6.out.lt
                have hB7 := hB6.trans (sc.2.mono hB6.size)
                clear HS6 hB6 sc G1 G2 G3
                go_wp2_with fail
                go_roundw
                case rel => exact ⟨k + 1, by omega, by go_num, hS7, hB7⟩
                case measure => simp [intOf]; omega
              · rw [show ((k : Nat) : Int) = 3 by omega]
                go_wp2_with fail
                go_ret
                exact ⟨rfl, hB6⟩

end Go.Proofs.Ytaabpeibaaakhaa
