
/- Registers: the code's answers are the document's own: the walk of RegsCalls. -/
import Derived.Test.YtedlfcmlchjjlaaZ1
import Derived.Test.YtedlfcmlchjjlaaYZ
namespace Go.Proofs.Ytedlfcmlchjjlaa
open Go.RowKit
set_option linter.unusedSimpArgs false
set_option linter.unusedVariables false
set_option maxRecDepth 100000

def bS (r : Rg) : List Int := if r.May then bytesR r else []
def bE (r : Rg) : Int := if r.May then 0 else 2
theorem c8_bytes_any (r : Rg) (hr : r.Ok) (w : World) : Calls Try.prog 8 #[.agg r.cells] w fun e w' => (∃ A c n, e = .returned (.tuple #[.slice A n c, .int .i64 (bE r)]) ∧ n = (bS r).length ∧ RB w' w'.heap.size A c (bS r)) ∧ Below w.heap.size w w' := by
  unfold bS bE
  by_cases hm : r.May
  · rw [if_pos hm, if_pos hm]
    exact (c8_bytes_may r hr hm w).mono fun e w' ⟨⟨A, c, h1, h2⟩, h3⟩ => ⟨⟨A, c, 32, h1, (bytesR_len r).symm, h2.rb⟩, h3⟩
  · rw [if_neg hm, if_neg hm]
    exact (c8_bytes_no r hm w).mono fun e w' ⟨h1, h3⟩ => ⟨⟨none, 0, 0, h1, rfl, RB.nil _ _⟩, h3⟩
theorem r8_bytes_any (r : Rg) (hr : r.Ok) (w : World) : Calls Try.prog 9 #[.agg r.cells] w fun e w' => (∃ A c n, e = .returned (.tuple #[.slice A n c, .int .i64 (bE r)]) ∧ n = (bS r).length ∧ RB w' w'.heap.size A c (bS r)) ∧ Below w.heap.size w w' := by
  unfold bS bE
  by_cases hm : r.May
  · rw [if_pos hm, if_pos hm]
    exact (r8_bytes_may r hr hm w).mono fun e w' ⟨⟨A, c, h1, h2⟩, h3⟩ => ⟨⟨A, c, 32, h1, (bytesR_len r).symm, h2.rb⟩, h3⟩
  · rw [if_neg hm, if_neg hm]
    exact (r8_bytes_no r hm w).mono fun e w' ⟨h1, h3⟩ => ⟨⟨none, 0, 0, h1, rfl, RB.nil _ _⟩, h3⟩

set_option maxHeartbeats 4000000 in
theorem calls8_long (w : World) (r : Rg) (ix cd : Int) (st : Bool) (v : Int) (A : Option Addr) (c n : Nat) (h1 : 100 < n) : Calls Try.prog 3 #[r.val, .int .i64 ix, .int .i64 cd, .bool st, .int .u16 v, .slice A n c] w fun e w' => e = .returned (.bool true) ∧ Below w.heap.size w w' := by
  have hB0 : Below w.heap.size w (w.alloc (rgO r)) := (Below.refl _ _).alloc (Nat.le_refl _) _
  rw [rg_val r]
  go_enter Try.func3, Try.ntmps3
  go_wp2_with fail
  refine (lives8_any _).mono ?_
  rintro e w1 ⟨rfl, hb⟩
  go_wp2_with fail
  go_ret
  exact ⟨rfl, hB0.trans (hb.mono hB0.size)⟩

set_option maxHeartbeats 32000000 in
theorem walk_RegsCalls (w : World) (r : Rg) (hr : r.Ok) (ix : Int) (wix : (Lit.int .i64 ix).wf = true) (cd : Int) (wcd : (Lit.int .i64 cd).wf = true) (st : Bool) (v : Int) (wv : (Lit.int .u16 v).wf = true) (A : Option Addr) (c n : Nat) (l : List Int) (hn : n = l.length) (h : RB w w.heap.size A c l) :
    Calls Try.prog 3 #[r.val, .int .i64 ix, .int .i64 cd, .bool st, .int .u16 v, .slice A n c] w fun e w' => e = .returned (.bool true) ∧ Below w.heap.size w w' := by
  subst hn
  by_cases h100 : 100 < l.length
  · exact calls8_long w r ix cd st v A c _ h100
  have hv := bounds_u16 wv
  have hvW : isW v := ⟨by omega, by omega⟩
  obtain ⟨b8, hb8⟩ : ∃ b, IntKind.u8.wrap v = b := ⟨_, rfl⟩
  have hb8B : isB b8 := by rw [← hb8, wrap_u8]; unfold isB; omega
  have HR0 := Lib.hid (show RowW (w.alloc (rgO r)) w.heap.size r.cells from RgW.laid w r)
  have hB0 : Below w.heap.size w (w.alloc (rgO r)) := (Below.refl _ _).alloc (Nat.le_refl _) _
  have hval := rg_val r
  have hCk1 := fun w => c8_check r w
  have hCk2 := fun w => r8_check r w
  generalize (if r.May then (0 : Int) else 2) = XCk at hCk1 hCk2
  have HCk1 := Lib.hid hCk1
  have HCk2 := Lib.hid hCk2
  clear hCk1 hCk2
  have hGe1 := fun w => c8_get r hr ix cd w wix wcd
  have hGe2 := fun w => r8_get r hr ix cd w wix wcd
  generalize getR r ix cd = XGe at hGe1 hGe2
  have HGe1 := Lib.hid hGe1
  have HGe2 := Lib.hid hGe2
  clear hGe1 hGe2
  have hPu1 := fun w => c8_put r hr ix cd b8 hb8B w wix wcd
  have hPu2 := fun w => r8_put r hr ix cd b8 hb8B w wix wcd
  generalize putR r ix cd b8 = XPu at hPu1 hPu2
  have HPu1 := Lib.hid hPu1
  have HPu2 := Lib.hid hPu2
  clear hPu1 hPu2
  have hPa1 := fun w => c8_pair r hr ix cd st w wix wcd
  have hPa2 := fun w => r8_pair r hr ix cd st w wix wcd
  generalize pairR r ix cd st = XPa at hPa1 hPa2
  have HPa1 := Lib.hid hPa1
  have HPa2 := Lib.hid hPa2
  clear hPa1 hPa2
  have hPp1 := fun w => c8_putpair r ix cd st v hvW w wix wcd
  have hPp2 := fun w => r8_putpair r ix cd st v hvW w wix wcd
  generalize putPairR r ix cd st v = XPp at hPp1 hPp2
  have HPp1 := Lib.hid hPp1
  have HPp2 := Lib.hid hPp2
  clear hPp1 hPp2
  have hCo1 := fun w => c8_cond b8 cd w wcd
  have hCo2 := fun w => r8_cond b8 cd w wcd
  generalize condR b8 cd = XCo at hCo1 hCo2
  have HCo1 := Lib.hid hCo1
  have HCo2 := Lib.hid hCo2
  clear hCo1 hCo2
  have hSw1 := fun w => c8_swap r hr cd w wcd
  have hSw2 := fun w => r8_swap r hr cd w wcd
  generalize swapR r cd = XSw at hSw1 hSw2
  have HSw1 := Lib.hid hSw1
  have HSw2 := Lib.hid hSw2
  clear hSw1 hSw2
  have hRe1 := fun w => c8_refresh r hr.R w
  have hRe2 := fun w => r8_refresh r hr.R w
  generalize refreshR r = XRe at hRe1 hRe2
  have HRe1 := Lib.hid hRe1
  have HRe2 := Lib.hid hRe2
  clear hRe1 hRe2
  have hTe1 := fun w => c8_text r hr w
  have hTe2 := fun w => r8_text r hr w
  generalize strOfNums (textB r) = XTe at hTe1 hTe2
  have HTe1 := Lib.hid hTe1
  have HTe2 := Lib.hid hTe2
  clear hTe1 hTe2
  have Hb8 := Lib.hid hb8
  clear hb8 wix wcd wv hvW hv
  rw [hval]
  clear hval
  obtain ⟨w0, hw0⟩ : ∃ w0, w.alloc (rgO r) = w0 := ⟨_, rfl⟩
  rw [hw0] at HR0 hB0
  unfold rgO at hw0
  go_enter Try.func3, Try.ntmps3
  go_wp2_with fail
  generalize (.agg #[.int .u8 r.A, .int .u8 r.F, .int .u8 r.B, .int .u8 r.C, .int .u8 r.D, .int .u8 r.E, .int .u8 r.H, .int .u8 r.L, .int .u8 r.I, .int .u8 r.R, .int .u16 r.IX, .int .u16 r.IY, .int .u16 r.SP, .int .u16 r.PC, .int .u16 r.WZ, .int .u16 r.AF2, .int .u16 r.BC2, .int .u16 r.DE2, .int .u16 r.HL2, .bool r.IFF1, .bool r.IFF2, .int .i64 r.IM, .bool r.Halt, .bool r.Late] : Value) = V0
  refine (lives8_any _).mono ?_
  rintro e w1 ⟨rfl, hb⟩
  have HR1 := Lib.hid (HR0.out.below hb HR0.out.lt)
  have hB1 := hB0.trans (hb.mono hB0.size)
  clear hb hB0 HR0 hw0
  have h1 := (h.below hB1).more hB1.size
  go_wp2_with (refine wpList_load_row rfl 24 _ rfl w.heap.size rfl _ _ (0, 0) _ HR1.out Try.underlying24 rfl rg_info ?_)
  refine (c8_bytes_any r hr _).mono ?_
  rintro e w2 ⟨⟨A2, c2, n2, rfl, hn2, ha2⟩, hb⟩
  have HR2 := Lib.hid (HR1.out.below hb HR1.out.lt)
  have hB2 := hB1.trans (hb.mono hB1.size)
  have h2 := h1.belowH hb
  clear hb hB1 HR1 h1
  go_wp2_with (refine wpList_load_row rfl 24 _ rfl w.heap.size rfl _ _ (0, 0) _ HR2.out Try.underlying24 rfl rg_info ?_)
  refine (r8_bytes_any r hr _).mono ?_
  rintro e w3 ⟨⟨A3, c3, n3, rfl, hn3, ha3⟩, hb⟩
  have HR3 := Lib.hid (HR2.out.below hb HR2.out.lt)
  have hB3 := hB2.trans (hb.mono hB2.size)
  have h3 := h2.belowH hb
  have ha2 := ha2.belowH hb
  generalize bE r = Er at *
  generalize bS r = Sr at *
  clear hb hB2 HR2 h2
  go_wp2_with fail
  refine (own_any A c _ l w3 _ rfl h3 (Nat.le_refl _) (by omega)).mono ?_
  rintro e w4 ⟨A4, c4, rfl, ho4, hb⟩
  have HR4 := Lib.hid (HR3.out.below hb HR3.out.lt)
  have hB4 := hB3.trans (hb.mono hB3.size)
  have h4 := h3.belowH hb
  have ha2 := ha2.belowH hb
  have ha3 := ha3.belowH hb
  have hr4 := ho4.rb
  clear hb hB3 HR3 h3 ho4
  go_wp2_with fail
  refine (c8_read_any A4 c4 _ l w4 rfl hr4).mono ?_
  rintro e w5 ⟨rfl, hb⟩
  have hR5 := HR4.out.below hb HR4.out.lt
  have hB5 := hB4.trans (hb.mono hB4.size)
  have h5 := h4.belowH hb
  have ha2 := ha2.belowH hb
  have ha3 := ha3.belowH hb
  clear hb hB4 HR4 h4 hr4
  have hrd := fun w h => r8_read_any A c _ l w rfl h
  generalize rdR l = s at *
  generalize rdE l = E at *
  rw [show s.val = .agg s.cells from rfl]
  obtain ⟨b2, hb2⟩ : ∃ b2, w5.heap.size = b2 := ⟨_, rfl⟩
  obtain ⟨wd, hwd⟩ : ∃ wd, w5.alloc (rgO zeroR) = wd := ⟨_, rfl⟩
  have hZ : RowW wd b2 zeroR.cells := by rw [← hwd, ← hb2]; exact RgW.laid w5 zeroR
  have hbd : Below w5.heap.size w5 wd := hwd ▸ (Below.refl _ _).alloc (Nat.le_refl _) _
  have hne : w.heap.size ≠ b2 := by have := hR5.lt; omega
  have hle : w.heap.size ≤ b2 := hb2 ▸ hB5.size
  have hRd := hR5.below hbd hR5.lt
  have hBd := hB5.trans (hbd.mono hB5.size)
  have hS6 : RowW (wd.setRow b2 s.cells) b2 s.cells := setRow_heap wd b2 _ s.cells _ _ hZ
  have hR6 : RowW (wd.setRow b2 s.cells) w.heap.size r.cells := (setRow_other wd b2 w.heap.size s.cells hne).trans hRd
  have hB6 := below_setRow hBd hle s.cells
  have hb56 : Below w5.heap.size w5 (wd.setRow b2 s.cells) := below_setRow hbd (by omega) s.cells
  have h6 := h5.belowH hb56
  have ha2 := ha2.belowH hb56
  have ha3 := ha3.belowH hb56
  unfold rgO zeroR at hwd
  clear hRd hBd hbd hR5 hB5 h5 hb56
  have HS6 := Lib.hid hS6
  have HR6 := Lib.hid hR6
  have HB6 := Lib.hid hB6
  have H6 := Lib.hid h6
  have HA2 := Lib.hid ha2
  have HA3 := Lib.hid ha3
  clear hS6 hR6 hB6 h6 ha2 ha3
  go_wp2_with (refine wpList_store_row rfl 24 _ _ rfl b2 s.cells rfl rfl _ _ hZ rg_info rfl (rg_one _) ?_)
  clear hZ hwd hb2
  generalize wd.setRow b2 s.cells = w6 at *
  refine (hrd w6 H6.out).mono ?_
  rintro e w7 ⟨rfl, hb⟩
  have hR7 : RgW w7 w.heap.size r := RowW.below HR6.out hb (RowW.lt HR6.out)
  have hS7 : RgW w7 b2 s := RowW.below HS6.out hb (RowW.lt HS6.out)
  have hB7 := HB6.out.trans (hb.mono HB6.out.size)
  have ha2 := HA2.out.belowH hb
  have ha3 := HA3.out.belowH hb
  clear hb HR6 HS6 HB6 H6 HA2 HA3 hrd
  rw [show s.val = .agg s.cells from rfl]
  obtain ⟨b3, hb3⟩ : ∃ b3, w7.heap.size = b3 := ⟨_, rfl⟩
  obtain ⟨we, hwe⟩ : ∃ we, w7.alloc (rgO zeroR) = we := ⟨_, rfl⟩
  have hZ : RowW we b3 zeroR.cells := by rw [← hwe, ← hb3]; exact RgW.laid w7 zeroR
  have hbe : Below w7.heap.size w7 we := hwe ▸ (Below.refl _ _).alloc (Nat.le_refl _) _
  have hn1 : w.heap.size ≠ b3 := by have := hR7.lt; omega
  have hn2' : b2 ≠ b3 := by have := hS7.lt; omega
  have hle3 : w.heap.size ≤ b3 := hb3 ▸ hB7.size
  have hRe := hR7.below hbe hR7.lt
  have hSe := hS7.below hbe hS7.lt
  have hBe := hB7.trans (hbe.mono hB7.size)
  have hT8 : RgW (we.setRow b3 s.cells) b3 s := setRow_heap we b3 _ s.cells _ _ hZ
  have hR8 : RgW (we.setRow b3 s.cells) w.heap.size r := (setRow_other we b3 w.heap.size s.cells hn1).trans hRe
  have hS8 : RgW (we.setRow b3 s.cells) b2 s := (setRow_other we b3 b2 s.cells hn2').trans hSe
  have hB8 := below_setRow hBe hle3 s.cells
  have hb78 : Below w7.heap.size w7 (we.setRow b3 s.cells) := below_setRow hbe (by omega) s.cells
  have ha2 := ha2.belowH hb78
  have ha3 := ha3.belowH hb78
  unfold rgO zeroR at hwe
  clear hRe hSe hBe hbe hR7 hS7 hB7 hb78
  have HR8 := Lib.hid hR8
  have HS8 := Lib.hid hS8
  have HT8 := Lib.hid hT8
  have HB8 := Lib.hid hB8
  have HA2 := Lib.hid ha2
  have HA3 := Lib.hid ha3
  clear hR8 hS8 hT8 hB8 ha2 ha3
  go_upto_region 9 with (refine wpList_store_row rfl 24 _ _ rfl b3 s.cells rfl rfl _ _ hZ rg_info rfl (rg_one _) ?_)
  clear hZ hwe hb3
  generalize we.setRow b3 s.cells = w8 at *
  have s1 : ∀ p : M.Of (M.Base w8), (convert 25 9 (.slice A2 Sr.length c2)).run Try.prog p.w = .ok (.string (strOfNums Sr)) p.w := fun p => run_string_rb p.w _ A2 c2 Sr (HA2.out.below p.ok.2)
  have s2 : ∀ p : M.Of (M.Base w8), (convert 25 9 (.slice A3 Sr.length c3)).run Try.prog p.w = .ok (.string (strOfNums Sr)) p.w := fun p => run_string_rb p.w _ A3 c3 Sr (HA3.out.below p.ok.2)
  generalize strOfNums Sr = SS at s1 s2
  clear hn2 hn3 HA2 HA3 h
  have hltR := HR8.out.lt
  have hltS := HS8.out.lt
  have hltT := HT8.out.lt
  have hb8' := Hb8.out
  simp only [List.append_eq, List.cons_append, List.nil_append]
  refine M.region_ (by kernel_rfl) ?_
  refine M.seg_ [0, 1, 2, 3, 4, 5, 6, 7, 8, 9, 10] 105 _ _ (M.Base.refl _) (by kernel_rfl) (by kernel_rfl) (by kernel_rfl) (by simp only [pickOps, mask, plain, List.getElem?_toArray, List.getElem?_cons_zero, List.getElem?_cons_succ, if_true, Bool.false_eq_true, if_false]; rfl) ?_
  repeat (go_big_quiet_step (fail))
  refine wpQuiet_nil ?_
  clear s1 s2
  refine M.calm_ (i := 11) (s.val) rfl (by kernel_rfl) (by kernel_rfl) (by kernel_rfl) (by kernel_rfl) ?_ ?_
  · intro wz sz
    exact does_load_row 24 _ rfl _ rfl _ _ (0, 0) _ (HS8.out.below sz.2 hltS) Try.underlying24 rfl rg_info ⟨rfl, Save.refl _ _⟩
  go_simp
  refine M.calm_ (i := 12) (s.val) rfl (by kernel_rfl) (by kernel_rfl) (by kernel_rfl) (by kernel_rfl) ?_ ?_
  · intro wz sz
    exact does_load_row 24 _ rfl _ rfl _ _ (0, 0) _ (HT8.out.below sz.2 hltT) Try.underlying24 rfl rg_info ⟨rfl, Save.refl _ _⟩
  go_simp
  refine M.calm_ (i := 13) (.bool true) rfl (by kernel_rfl) (by kernel_rfl) (by kernel_rfl) (by kernel_rfl) ?_ ?_
  · intro wz sz
    exact does_rg_eql _ _ rfl s rfl rfl ⟨rfl, Save.refl _ _⟩
  go_simp
  refine M.seg_ [14, 15, 16, 17, 18, 19, 20] 95 _ _ (M.Base.refl _) (by kernel_rfl) (by kernel_rfl) (by kernel_rfl) (by simp only [pickOps, mask, plain, List.getElem?_toArray, List.getElem?_cons_zero, List.getElem?_cons_succ, if_true, Bool.false_eq_true, if_false]; rfl) ?_
  repeat (go_big_quiet_step (fail))
  refine wpQuiet_nil ?_
  as_aux_lemma =>
    refine M.calm_ (i := 21) (r.val) rfl (by kernel_rfl) (by kernel_rfl) (by kernel_rfl) (by kernel_rfl) ?_ ?_
    · intro wz sz
      exact does_load_row 24 _ rfl _ rfl _ _ (0, 0) _ (HR8.out.below sz.2 hltR) Try.underlying24 rfl rg_info ⟨rfl, Save.refl _ _⟩
    go_simp
    refine M.calm_ (i := 22) (.int .i64 XCk) rfl (by kernel_rfl) (by kernel_rfl) (by kernel_rfl) (by kernel_rfl) ?_ ?_
    · intro wz sz
      unfold Oper.does
      go_simp
      exact (HCk1.out wz).mono fun e w' ⟨he, hw⟩ => ⟨_, he, rfl, Save.of_below hw⟩
    go_simp
    refine M.calm_ (i := 23) (r.val) rfl (by kernel_rfl) (by kernel_rfl) (by kernel_rfl) (by kernel_rfl) ?_ ?_
    · intro wz sz
      exact does_load_row 24 _ rfl _ rfl _ _ (0, 0) _ (HR8.out.below sz.2 hltR) Try.underlying24 rfl rg_info ⟨rfl, Save.refl _ _⟩
    go_simp
    refine M.calm_ (i := 24) (.int .i64 XCk) rfl (by kernel_rfl) (by kernel_rfl) (by kernel_rfl) (by kernel_rfl) ?_ ?_
    · intro wz sz
      unfold Oper.does
      go_simp
      exact (HCk2.out wz).mono fun e w' ⟨he, hw⟩ => ⟨_, he, rfl, Save.of_below hw⟩
    go_simp
    refine M.seg_ [25, 26, 27] 88 _ _ (M.Base.refl _) (by kernel_rfl) (by kernel_rfl) (by kernel_rfl) (by simp only [pickOps, mask, plain, List.getElem?_toArray, List.getElem?_cons_zero, List.getElem?_cons_succ, if_true, Bool.false_eq_true, if_false]; rfl) ?_
    repeat (go_big_quiet_step (fail))
    refine wpQuiet_nil ?_
    as_aux_lemma =>
      refine M.calm_ (i := 28) (r.val) rfl (by kernel_rfl) (by kernel_rfl) (by kernel_rfl) (by kernel_rfl) ?_ ?_
      · intro wz sz
        exact does_load_row 24 _ rfl _ rfl _ _ (0, 0) _ (HR8.out.below sz.2 hltR) Try.underlying24 rfl rg_info ⟨rfl, Save.refl _ _⟩
      go_simp
      refine M.seg_ [29, 30] 85 _ _ (M.Base.refl _) (by kernel_rfl) (by kernel_rfl) (by kernel_rfl) (by simp only [pickOps, mask, plain, List.getElem?_toArray, List.getElem?_cons_zero, List.getElem?_cons_succ, if_true, Bool.false_eq_true, if_false]; rfl) ?_
      repeat (go_big_quiet_step (fail))
      refine wpQuiet_nil ?_
      refine M.calm_ (i := 31) (.int .u8 XGe) rfl (by kernel_rfl) (by kernel_rfl) (by kernel_rfl) (by kernel_rfl) ?_ ?_
      · intro wz sz
        unfold Oper.does
        go_simp
        exact (HGe1.out wz).mono fun e w' ⟨he, hw⟩ => ⟨_, he, rfl, Save.of_below hw⟩
      go_simp
      refine M.calm_ (i := 32) (r.val) rfl (by kernel_rfl) (by kernel_rfl) (by kernel_rfl) (by kernel_rfl) ?_ ?_
      · intro wz sz
        exact does_load_row 24 _ rfl _ rfl _ _ (0, 0) _ (HR8.out.below sz.2 hltR) Try.underlying24 rfl rg_info ⟨rfl, Save.refl _ _⟩
      go_simp
      refine M.seg_ [33, 34] 81 _ _ (M.Base.refl _) (by kernel_rfl) (by kernel_rfl) (by kernel_rfl) (by simp only [pickOps, mask, plain, List.getElem?_toArray, List.getElem?_cons_zero, List.getElem?_cons_succ, if_true, Bool.false_eq_true, if_false]; rfl) ?_
      repeat (go_big_quiet_step (fail))
      refine wpQuiet_nil ?_
      refine M.calm_ (i := 35) (.int .u8 XGe) rfl (by kernel_rfl) (by kernel_rfl) (by kernel_rfl) (by kernel_rfl) ?_ ?_
      · intro wz sz
        unfold Oper.does
        go_simp
        exact (HGe2.out wz).mono fun e w' ⟨he, hw⟩ => ⟨_, he, rfl, Save.of_below hw⟩
      go_simp
      refine M.seg_ [36, 37, 38] 77 _ _ (M.Base.refl _) (by kernel_rfl) (by kernel_rfl) (by kernel_rfl) (by simp only [pickOps, mask, plain, List.getElem?_toArray, List.getElem?_cons_zero, List.getElem?_cons_succ, if_true, Bool.false_eq_true, if_false]; rfl) ?_
      repeat (go_big_quiet_step (fail))
      refine wpQuiet_nil ?_
      as_aux_lemma =>
        refine M.calm_ (i := 39) (r.val) rfl (by kernel_rfl) (by kernel_rfl) (by kernel_rfl) (by kernel_rfl) ?_ ?_
        · intro wz sz
          exact does_load_row 24 _ rfl _ rfl _ _ (0, 0) _ (HR8.out.below sz.2 hltR) Try.underlying24 rfl rg_info ⟨rfl, Save.refl _ _⟩
        go_simp
        refine M.seg_ [40, 41, 42, 43] 72 _ _ (M.Base.refl _) (by kernel_rfl) (by kernel_rfl) (by kernel_rfl) (by simp only [pickOps, mask, plain, List.getElem?_toArray, List.getElem?_cons_zero, List.getElem?_cons_succ, if_true, Bool.false_eq_true, if_false]; rfl) ?_
        repeat (go_big_quiet_step (fail))
        refine wpQuiet_nil ?_
        refine M.calm_ (i := 44) (XPu.val) rfl (by kernel_rfl) (by kernel_rfl) (by kernel_rfl) (by kernel_rfl) ?_ ?_
        · intro wz sz
          unfold Oper.does
          go_simp
          exact (HPu1.out wz).mono fun e w' ⟨he, hw⟩ => ⟨_, he, rfl, Save.of_below hw⟩
        go_simp
        refine M.calm_ (i := 45) (r.val) rfl (by kernel_rfl) (by kernel_rfl) (by kernel_rfl) (by kernel_rfl) ?_ ?_
        · intro wz sz
          exact does_load_row 24 _ rfl _ rfl _ _ (0, 0) _ (HR8.out.below sz.2 hltR) Try.underlying24 rfl rg_info ⟨rfl, Save.refl _ _⟩
        go_simp
        refine M.seg_ [46, 47, 48, 49] 66 _ _ (M.Base.refl _) (by kernel_rfl) (by kernel_rfl) (by kernel_rfl) (by simp only [pickOps, mask, plain, List.getElem?_toArray, List.getElem?_cons_zero, List.getElem?_cons_succ, if_true, Bool.false_eq_true, if_false]; rfl) ?_
        repeat (go_big_quiet_step (fail))
        refine wpQuiet_nil ?_
        refine M.calm_ (i := 50) (XPu.val) rfl (by kernel_rfl) (by kernel_rfl) (by kernel_rfl) (by kernel_rfl) ?_ ?_
        · intro wz sz
          unfold Oper.does
          go_simp
          exact (HPu2.out wz).mono fun e w' ⟨he, hw⟩ => ⟨_, he, rfl, Save.of_below hw⟩
        go_simp
        refine M.calm_ (i := 51) (.bool true) rfl (by kernel_rfl) (by kernel_rfl) (by kernel_rfl) (by kernel_rfl) ?_ ?_
        · intro wz sz
          exact does_rg_eql _ _ rfl XPu rfl rfl ⟨rfl, Save.refl _ _⟩
        go_simp
        refine M.seg_ [52, 53] 62 _ _ (M.Base.refl _) (by kernel_rfl) (by kernel_rfl) (by kernel_rfl) (by simp only [pickOps, mask, plain, List.getElem?_toArray, List.getElem?_cons_zero, List.getElem?_cons_succ, if_true, Bool.false_eq_true, if_false]; rfl) ?_
        repeat (go_big_quiet_step (fail))
        refine wpQuiet_nil ?_
        as_aux_lemma =>
          refine M.calm_ (i := 54) (r.val) rfl (by kernel_rfl) (by kernel_rfl) (by kernel_rfl) (by kernel_rfl) ?_ ?_
          · intro wz sz
            exact does_load_row 24 _ rfl _ rfl _ _ (0, 0) _ (HR8.out.below sz.2 hltR) Try.underlying24 rfl rg_info ⟨rfl, Save.refl _ _⟩
          go_simp
          refine M.seg_ [55, 56, 57] 58 _ _ (M.Base.refl _) (by kernel_rfl) (by kernel_rfl) (by kernel_rfl) (by simp only [pickOps, mask, plain, List.getElem?_toArray, List.getElem?_cons_zero, List.getElem?_cons_succ, if_true, Bool.false_eq_true, if_false]; rfl) ?_
          repeat (go_big_quiet_step (fail))
          refine wpQuiet_nil ?_
          refine M.calm_ (i := 58) (.int .u16 XPa) rfl (by kernel_rfl) (by kernel_rfl) (by kernel_rfl) (by kernel_rfl) ?_ ?_
          · intro wz sz
            unfold Oper.does
            go_simp
            exact (HPa1.out wz).mono fun e w' ⟨he, hw⟩ => ⟨_, he, rfl, Save.of_below hw⟩
          go_simp
          refine M.calm_ (i := 59) (r.val) rfl (by kernel_rfl) (by kernel_rfl) (by kernel_rfl) (by kernel_rfl) ?_ ?_
          · intro wz sz
            exact does_load_row 24 _ rfl _ rfl _ _ (0, 0) _ (HR8.out.below sz.2 hltR) Try.underlying24 rfl rg_info ⟨rfl, Save.refl _ _⟩
          go_simp
          refine M.seg_ [60, 61, 62] 53 _ _ (M.Base.refl _) (by kernel_rfl) (by kernel_rfl) (by kernel_rfl) (by simp only [pickOps, mask, plain, List.getElem?_toArray, List.getElem?_cons_zero, List.getElem?_cons_succ, if_true, Bool.false_eq_true, if_false]; rfl) ?_
          repeat (go_big_quiet_step (fail))
          refine wpQuiet_nil ?_
          refine M.calm_ (i := 63) (.int .u16 XPa) rfl (by kernel_rfl) (by kernel_rfl) (by kernel_rfl) (by kernel_rfl) ?_ ?_
          · intro wz sz
            unfold Oper.does
            go_simp
            exact (HPa2.out wz).mono fun e w' ⟨he, hw⟩ => ⟨_, he, rfl, Save.of_below hw⟩
          go_simp
          refine M.seg_ [64, 65, 66] 49 _ _ (M.Base.refl _) (by kernel_rfl) (by kernel_rfl) (by kernel_rfl) (by simp only [pickOps, mask, plain, List.getElem?_toArray, List.getElem?_cons_zero, List.getElem?_cons_succ, if_true, Bool.false_eq_true, if_false]; rfl) ?_
          repeat (go_big_quiet_step (fail))
          refine wpQuiet_nil ?_
          as_aux_lemma =>
            refine M.calm_ (i := 67) (r.val) rfl (by kernel_rfl) (by kernel_rfl) (by kernel_rfl) (by kernel_rfl) ?_ ?_
            · intro wz sz
              exact does_load_row 24 _ rfl _ rfl _ _ (0, 0) _ (HR8.out.below sz.2 hltR) Try.underlying24 rfl rg_info ⟨rfl, Save.refl _ _⟩
            go_simp
            refine M.seg_ [68, 69, 70, 71] 44 _ _ (M.Base.refl _) (by kernel_rfl) (by kernel_rfl) (by kernel_rfl) (by simp only [pickOps, mask, plain, List.getElem?_toArray, List.getElem?_cons_zero, List.getElem?_cons_succ, if_true, Bool.false_eq_true, if_false]; rfl) ?_
            repeat (go_big_quiet_step (fail))
            refine wpQuiet_nil ?_
            refine M.calm_ (i := 72) (XPp.val) rfl (by kernel_rfl) (by kernel_rfl) (by kernel_rfl) (by kernel_rfl) ?_ ?_
            · intro wz sz
              unfold Oper.does
              go_simp
              exact (HPp1.out wz).mono fun e w' ⟨he, hw⟩ => ⟨_, he, rfl, Save.of_below hw⟩
            go_simp
            refine M.calm_ (i := 73) (r.val) rfl (by kernel_rfl) (by kernel_rfl) (by kernel_rfl) (by kernel_rfl) ?_ ?_
            · intro wz sz
              exact does_load_row 24 _ rfl _ rfl _ _ (0, 0) _ (HR8.out.below sz.2 hltR) Try.underlying24 rfl rg_info ⟨rfl, Save.refl _ _⟩
            go_simp
            refine M.seg_ [74, 75, 76, 77] 38 _ _ (M.Base.refl _) (by kernel_rfl) (by kernel_rfl) (by kernel_rfl) (by simp only [pickOps, mask, plain, List.getElem?_toArray, List.getElem?_cons_zero, List.getElem?_cons_succ, if_true, Bool.false_eq_true, if_false]; rfl) ?_
            repeat (go_big_quiet_step (fail))
            refine wpQuiet_nil ?_
            refine M.calm_ (i := 78) (XPp.val) rfl (by kernel_rfl) (by kernel_rfl) (by kernel_rfl) (by kernel_rfl) ?_ ?_
            · intro wz sz
              unfold Oper.does
              go_simp
              exact (HPp2.out wz).mono fun e w' ⟨he, hw⟩ => ⟨_, he, rfl, Save.of_below hw⟩
            go_simp
            refine M.calm_ (i := 79) (.bool true) rfl (by kernel_rfl) (by kernel_rfl) (by kernel_rfl) (by kernel_rfl) ?_ ?_
            · intro wz sz
              exact does_rg_eql _ _ rfl XPp rfl rfl ⟨rfl, Save.refl _ _⟩
            go_simp
            refine M.seg_ [80, 81] 34 _ _ (M.Base.refl _) (by kernel_rfl) (by kernel_rfl) (by kernel_rfl) (by simp only [pickOps, mask, plain, List.getElem?_toArray, List.getElem?_cons_zero, List.getElem?_cons_succ, if_true, Bool.false_eq_true, if_false]; rfl) ?_
            repeat (go_big_quiet_step (fail))
            refine wpQuiet_nil ?_
            as_aux_lemma =>
              refine M.seg_ [82, 83, 84] 31 _ _ (M.Base.refl _) (by kernel_rfl) (by kernel_rfl) (by kernel_rfl) (by simp only [pickOps, mask, plain, List.getElem?_toArray, List.getElem?_cons_zero, List.getElem?_cons_succ, if_true, Bool.false_eq_true, if_false]; rfl) ?_
              repeat (go_big_quiet_step (fail))
              refine wpQuiet_nil ?_
              refine M.calm_ (i := 85) (.bool XCo) rfl (by kernel_rfl) (by kernel_rfl) (by kernel_rfl) (by kernel_rfl) ?_ ?_
              · intro wz sz
                unfold Oper.does
                go_simp
                exact (HCo1.out wz).mono fun e w' ⟨he, hw⟩ => ⟨_, he, rfl, Save.of_below hw⟩
              go_simp
              refine M.seg_ [86, 87, 88] 27 _ _ (M.Base.refl _) (by kernel_rfl) (by kernel_rfl) (by kernel_rfl) (by simp only [pickOps, mask, plain, List.getElem?_toArray, List.getElem?_cons_zero, List.getElem?_cons_succ, if_true, Bool.false_eq_true, if_false]; rfl) ?_
              repeat (go_big_quiet_step (fail))
              refine wpQuiet_nil ?_
              refine M.calm_ (i := 89) (.bool XCo) rfl (by kernel_rfl) (by kernel_rfl) (by kernel_rfl) (by kernel_rfl) ?_ ?_
              · intro wz sz
                unfold Oper.does
                go_simp
                exact (HCo2.out wz).mono fun e w' ⟨he, hw⟩ => ⟨_, he, rfl, Save.of_below hw⟩
              go_simp
              refine M.seg_ [90, 91, 92] 23 _ _ (M.Base.refl _) (by kernel_rfl) (by kernel_rfl) (by kernel_rfl) (by simp only [pickOps, mask, plain, List.getElem?_toArray, List.getElem?_cons_zero, List.getElem?_cons_succ, if_true, Bool.false_eq_true, if_false]; rfl) ?_
              repeat (go_big_quiet_step (fail))
              refine wpQuiet_nil ?_
              as_aux_lemma =>
                refine M.calm_ (i := 93) (r.val) rfl (by kernel_rfl) (by kernel_rfl) (by kernel_rfl) (by kernel_rfl) ?_ ?_
                · intro wz sz
                  exact does_load_row 24 _ rfl _ rfl _ _ (0, 0) _ (HR8.out.below sz.2 hltR) Try.underlying24 rfl rg_info ⟨rfl, Save.refl _ _⟩
                go_simp
                refine M.seg_ [94] 21 _ _ (M.Base.refl _) (by kernel_rfl) (by kernel_rfl) (by kernel_rfl) (by simp only [pickOps, mask, plain, List.getElem?_toArray, List.getElem?_cons_zero, List.getElem?_cons_succ, if_true, Bool.false_eq_true, if_false]; rfl) ?_
                repeat (go_big_quiet_step (fail))
                refine wpQuiet_nil ?_
                refine M.calm_ (i := 95) (XSw.val) rfl (by kernel_rfl) (by kernel_rfl) (by kernel_rfl) (by kernel_rfl) ?_ ?_
                · intro wz sz
                  unfold Oper.does
                  go_simp
                  exact (HSw1.out wz).mono fun e w' ⟨he, hw⟩ => ⟨_, he, rfl, Save.of_below hw⟩
                go_simp
                refine M.calm_ (i := 96) (r.val) rfl (by kernel_rfl) (by kernel_rfl) (by kernel_rfl) (by kernel_rfl) ?_ ?_
                · intro wz sz
                  exact does_load_row 24 _ rfl _ rfl _ _ (0, 0) _ (HR8.out.below sz.2 hltR) Try.underlying24 rfl rg_info ⟨rfl, Save.refl _ _⟩
                go_simp
                refine M.seg_ [97] 18 _ _ (M.Base.refl _) (by kernel_rfl) (by kernel_rfl) (by kernel_rfl) (by simp only [pickOps, mask, plain, List.getElem?_toArray, List.getElem?_cons_zero, List.getElem?_cons_succ, if_true, Bool.false_eq_true, if_false]; rfl) ?_
                repeat (go_big_quiet_step (fail))
                refine wpQuiet_nil ?_
                refine M.calm_ (i := 98) (XSw.val) rfl (by kernel_rfl) (by kernel_rfl) (by kernel_rfl) (by kernel_rfl) ?_ ?_
                · intro wz sz
                  unfold Oper.does
                  go_simp
                  exact (HSw2.out wz).mono fun e w' ⟨he, hw⟩ => ⟨_, he, rfl, Save.of_below hw⟩
                go_simp
                refine M.calm_ (i := 99) (.bool true) rfl (by kernel_rfl) (by kernel_rfl) (by kernel_rfl) (by kernel_rfl) ?_ ?_
                · intro wz sz
                  exact does_rg_eql _ _ rfl XSw rfl rfl ⟨rfl, Save.refl _ _⟩
                go_simp
                refine M.seg_ [100, 101] 14 _ _ (M.Base.refl _) (by kernel_rfl) (by kernel_rfl) (by kernel_rfl) (by simp only [pickOps, mask, plain, List.getElem?_toArray, List.getElem?_cons_zero, List.getElem?_cons_succ, if_true, Bool.false_eq_true, if_false]; rfl) ?_
                repeat (go_big_quiet_step (fail))
                refine wpQuiet_nil ?_
                as_aux_lemma =>
                  refine M.calm_ (i := 102) (r.val) rfl (by kernel_rfl) (by kernel_rfl) (by kernel_rfl) (by kernel_rfl) ?_ ?_
                  · intro wz sz
                    exact does_load_row 24 _ rfl _ rfl _ _ (0, 0) _ (HR8.out.below sz.2 hltR) Try.underlying24 rfl rg_info ⟨rfl, Save.refl _ _⟩
                  go_simp
                  refine M.calm_ (i := 103) (XRe.val) rfl (by kernel_rfl) (by kernel_rfl) (by kernel_rfl) (by kernel_rfl) ?_ ?_
                  · intro wz sz
                    unfold Oper.does
                    go_simp
                    exact (HRe1.out wz).mono fun e w' ⟨he, hw⟩ => ⟨_, he, rfl, Save.of_below hw⟩
                  go_simp
                  refine M.calm_ (i := 104) (r.val) rfl (by kernel_rfl) (by kernel_rfl) (by kernel_rfl) (by kernel_rfl) ?_ ?_
                  · intro wz sz
                    exact does_load_row 24 _ rfl _ rfl _ _ (0, 0) _ (HR8.out.below sz.2 hltR) Try.underlying24 rfl rg_info ⟨rfl, Save.refl _ _⟩
                  go_simp
                  refine M.calm_ (i := 105) (XRe.val) rfl (by kernel_rfl) (by kernel_rfl) (by kernel_rfl) (by kernel_rfl) ?_ ?_
                  · intro wz sz
                    unfold Oper.does
                    go_simp
                    exact (HRe2.out wz).mono fun e w' ⟨he, hw⟩ => ⟨_, he, rfl, Save.of_below hw⟩
                  go_simp
                  refine M.calm_ (i := 106) (.bool true) rfl (by kernel_rfl) (by kernel_rfl) (by kernel_rfl) (by kernel_rfl) ?_ ?_
                  · intro wz sz
                    exact does_rg_eql _ _ rfl XRe rfl rfl ⟨rfl, Save.refl _ _⟩
                  go_simp
                  refine M.seg_ [107, 108] 7 _ _ (M.Base.refl _) (by kernel_rfl) (by kernel_rfl) (by kernel_rfl) (by simp only [pickOps, mask, plain, List.getElem?_toArray, List.getElem?_cons_zero, List.getElem?_cons_succ, if_true, Bool.false_eq_true, if_false]; rfl) ?_
                  repeat (go_big_quiet_step (fail))
                  refine wpQuiet_nil ?_
                  as_aux_lemma =>
                    refine M.calm_ (i := 109) (r.val) rfl (by kernel_rfl) (by kernel_rfl) (by kernel_rfl) (by kernel_rfl) ?_ ?_
                    · intro wz sz
                      exact does_load_row 24 _ rfl _ rfl _ _ (0, 0) _ (HR8.out.below sz.2 hltR) Try.underlying24 rfl rg_info ⟨rfl, Save.refl _ _⟩
                    go_simp
                    refine M.calm_ (i := 110) (.string XTe) rfl (by kernel_rfl) (by kernel_rfl) (by kernel_rfl) (by kernel_rfl) ?_ ?_
                    · intro wz sz
                      unfold Oper.does
                      go_simp
                      exact (HTe1.out wz).mono fun e w' ⟨he, hw⟩ => ⟨_, he, rfl, Save.of_below hw⟩
                    go_simp
                    refine M.calm_ (i := 111) (r.val) rfl (by kernel_rfl) (by kernel_rfl) (by kernel_rfl) (by kernel_rfl) ?_ ?_
                    · intro wz sz
                      exact does_load_row 24 _ rfl _ rfl _ _ (0, 0) _ (HR8.out.below sz.2 hltR) Try.underlying24 rfl rg_info ⟨rfl, Save.refl _ _⟩
                    go_simp
                    refine M.calm_ (i := 112) (.string XTe) rfl (by kernel_rfl) (by kernel_rfl) (by kernel_rfl) (by kernel_rfl) ?_ ?_
                    · intro wz sz
                      unfold Oper.does
                      go_simp
                      exact (HTe2.out wz).mono fun e w' ⟨he, hw⟩ => ⟨_, he, rfl, Save.of_below hw⟩
                    go_simp
                    refine M.seg_ [113, 114, 115] 0 _ _ (M.Base.refl _) (by kernel_rfl) (by kernel_rfl) (by kernel_rfl) (by simp only [pickOps, mask, plain, List.getElem?_toArray, List.getElem?_cons_zero, List.getElem?_cons_succ, if_true, Bool.false_eq_true, if_false]; rfl) ?_
                    repeat (go_big_quiet_step (fail))
                    refine wpQuiet_nil ?_
                    refine M.end_ (by kernel_rfl) ?_
                    intro wc sc
                    have hBc := HB8.out.trans (sc.2.mono HB8.out.size)
                    go_wp2
                    go_ret
                    exact ⟨rfl, hBc⟩
end Go.Proofs.Ytedlfcmlchjjlaa
