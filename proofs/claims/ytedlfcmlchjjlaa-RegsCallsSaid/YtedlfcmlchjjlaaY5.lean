
/- The document's own answers of chapter 8: Get, Put, Cond, Refresh, Check, Reset. -/
import Derived.Test.YtedlfcmlchjjlaaY4
namespace Go.Proofs.Ytedlfcmlchjjlaa
open Go.RowKit
set_option linter.unusedSimpArgs false
set_option linter.unusedVariables false
set_option maxRecDepth 100000

theorem r8_pair_c (r : Rg) (hr : r.Ok) (i c : Int) (st : Bool) (w : World) (wi : (Lit.int .i64 i).wf = true) (wc : (Lit.int .i64 c).wf = true) : Calls Try.prog 20 #[.agg r.cells, .int .i64 i, .int .i64 c, .bool st] w fun e w' => e = .returned (.int .u16 (pairR r i c st)) ∧ Below w.heap.size w w' := r8_pair r hr i c st w wi wc
theorem r8_putpair_c (r : Rg) (i c : Int) (st : Bool) (v : Int) (hv : isW v) (w : World) (wi : (Lit.int .i64 i).wf = true) (wc : (Lit.int .i64 c).wf = true) : Calls Try.prog 22 #[.agg r.cells, .int .i64 i, .int .i64 c, .bool st, .int .u16 v] w fun e w' => e = .returned (.agg (putPairR r i c st v).cells) ∧ Below w.heap.size w w' := r8_putpair r i c st v hv w wi wc
theorem pair_hl (r : Rg) (i : Int) : pairR r i 2 false = hlR r i := rfl
theorem putpair_hl (r : Rg) (i v : Int) : putPairR r i 2 false v = setHl r i v := rfl

set_option maxHeartbeats 4000000 in
theorem r8_get (r : Rg) (hr : r.Ok) (i c : Int) (w : World) (wi : (Lit.int .i64 i).wf = true) (wc : (Lit.int .i64 c).wf = true) : Calls Try.prog 16 #[r.val, .int .i64 i, .int .i64 c] w fun e w' => e = .returned (.int .u8 (getR r i c)) ∧ Below w.heap.size w w' := by
  have hM := Lib.hid (fun w => r5_mod_8 c w wc)
  have hP := Lib.hid (fun w => r8_pair_c r hr i 2 false w wi (by decide))
  have hX := pairR_in hr i 2 false
  have hXe := pair_hl r i
  obtain ⟨X, hXX⟩ : ∃ X, hlR r i = X := ⟨_, rfl⟩
  rw [hXe, hXX] at hX
  rw [hXe, hXX] at hP
  obtain ⟨X0, X1⟩ := hX
  have q1 := div256 X X0 X1
  have q2 := mod256 X X0 X1
  obtain ⟨k, hk⟩ : ∃ k, c % 8 = k := ⟨_, rfl⟩
  have hk8 : k = 0 ∨ k = 1 ∨ k = 2 ∨ k = 3 ∨ k = 4 ∨ k = 5 ∨ k = 6 ∨ k = 7 := by omega
  have hR := RgW.laid w r
  have hB : Below w.heap.size w (w.alloc (rgO r)) := (Below.refl _ _).alloc (Nat.le_refl _) _
  obtain ⟨x, hx⟩ : ∃ x, getR r i c = x := ⟨_, rfl⟩
  rw [hx]
  unfold getR at hx
  rw [hk] at hM hx
  rw [hXX] at hx
  clear hk wi wc hXe hXX
  have hval : r.val = .agg #[.int .u8 r.A, .int .u8 r.F, .int .u8 r.B, .int .u8 r.C, .int .u8 r.D, .int .u8 r.E, .int .u8 r.H, .int .u8 r.L, .int .u8 r.I, .int .u8 r.R, .int .u16 r.IX, .int .u16 r.IY, .int .u16 r.SP, .int .u16 r.PC, .int .u16 r.WZ, .int .u16 r.AF2, .int .u16 r.BC2, .int .u16 r.DE2, .int .u16 r.HL2, .bool r.IFF1, .bool r.IFF2, .int .i64 r.IM, .bool r.Halt, .bool r.Late] := rfl
  rw [hval]
  clear hval
  obtain rfl | rfl | rfl | rfl | rfl | rfl | rfl | rfl := hk8
  · have HX := Lib.hid (show _ = x from hx)
    clear hx
    have HR := Lib.hid hR
    clear hR
    go_enter Try.func16, Try.ntmps16
    go_wp2_with (refine wpList_load_row rfl 24 _ rfl w.heap.size rfl _ _ (0, 0) _ HR.out Try.underlying24 rfl (by kernel_rfl) ?_)
    refine (hP.out _).mono ?_
    rintro e w3 ⟨rfl, hb⟩
    have hR3 := HR.out.below hb (by simp)
    have hB3 := hB.trans (hb.mono (by simp))
    clear hb hB
    have g0 := hR3.gB
    go_wp2_with (go_at_call 57; (with_reducible refine (hM.out _).mono ?_); rintro e w' ⟨rfl, rfl⟩)
    go_ret
    exact ⟨congrArg (fun z => Ending.returned (.int .u8 z)) HX.out, hB3⟩
  · have HX := Lib.hid (show _ = x from hx)
    clear hx
    have HR := Lib.hid hR
    clear hR
    go_enter Try.func16, Try.ntmps16
    go_wp2_with (refine wpList_load_row rfl 24 _ rfl w.heap.size rfl _ _ (0, 0) _ HR.out Try.underlying24 rfl (by kernel_rfl) ?_)
    refine (hP.out _).mono ?_
    rintro e w3 ⟨rfl, hb⟩
    have hR3 := HR.out.below hb (by simp)
    have hB3 := hB.trans (hb.mono (by simp))
    clear hb hB
    have g0 := hR3.gC
    go_wp2_with (go_at_call 57; (with_reducible refine (hM.out _).mono ?_); rintro e w' ⟨rfl, rfl⟩)
    go_ret
    exact ⟨congrArg (fun z => Ending.returned (.int .u8 z)) HX.out, hB3⟩
  · have HX := Lib.hid (show _ = x from hx)
    clear hx
    have HR := Lib.hid hR
    clear hR
    go_enter Try.func16, Try.ntmps16
    go_wp2_with (refine wpList_load_row rfl 24 _ rfl w.heap.size rfl _ _ (0, 0) _ HR.out Try.underlying24 rfl (by kernel_rfl) ?_)
    refine (hP.out _).mono ?_
    rintro e w3 ⟨rfl, hb⟩
    have hR3 := HR.out.below hb (by simp)
    have hB3 := hB.trans (hb.mono (by simp))
    clear hb hB
    have g0 := hR3.gD
    go_wp2_with (go_at_call 57; (with_reducible refine (hM.out _).mono ?_); rintro e w' ⟨rfl, rfl⟩)
    go_ret
    exact ⟨congrArg (fun z => Ending.returned (.int .u8 z)) HX.out, hB3⟩
  · have HX := Lib.hid (show _ = x from hx)
    clear hx
    have HR := Lib.hid hR
    clear hR
    go_enter Try.func16, Try.ntmps16
    go_wp2_with (refine wpList_load_row rfl 24 _ rfl w.heap.size rfl _ _ (0, 0) _ HR.out Try.underlying24 rfl (by kernel_rfl) ?_)
    refine (hP.out _).mono ?_
    rintro e w3 ⟨rfl, hb⟩
    have hR3 := HR.out.below hb (by simp)
    have hB3 := hB.trans (hb.mono (by simp))
    clear hb hB
    have g0 := hR3.gE
    go_wp2_with (go_at_call 57; (with_reducible refine (hM.out _).mono ?_); rintro e w' ⟨rfl, rfl⟩)
    go_ret
    exact ⟨congrArg (fun z => Ending.returned (.int .u8 z)) HX.out, hB3⟩
  · have HX := Lib.hid (show _ = x from hx)
    clear hx
    have HR := Lib.hid hR
    clear hR
    go_enter Try.func16, Try.ntmps16
    go_wp2_with (refine wpList_load_row rfl 24 _ rfl w.heap.size rfl _ _ (0, 0) _ HR.out Try.underlying24 rfl (by kernel_rfl) ?_)
    refine (hP.out _).mono ?_
    rintro e w3 ⟨rfl, hb⟩
    have hR3 := HR.out.below hb (by simp)
    have hB3 := hB.trans (hb.mono (by simp))
    clear hb hB
    go_wp2_with (go_at_call 57; (with_reducible refine (hM.out _).mono ?_); rintro e w' ⟨rfl, rfl⟩)
    go_ret
    exact ⟨congrArg (fun z => Ending.returned (.int .u8 z)) HX.out, hB3⟩
  · have HX := Lib.hid (show _ = x from hx)
    clear hx
    have HR := Lib.hid hR
    clear hR
    go_enter Try.func16, Try.ntmps16
    go_wp2_with (refine wpList_load_row rfl 24 _ rfl w.heap.size rfl _ _ (0, 0) _ HR.out Try.underlying24 rfl (by kernel_rfl) ?_)
    refine (hP.out _).mono ?_
    rintro e w3 ⟨rfl, hb⟩
    have hR3 := HR.out.below hb (by simp)
    have hB3 := hB.trans (hb.mono (by simp))
    clear hb hB
    go_wp2_with (go_at_call 57; (with_reducible refine (hM.out _).mono ?_); rintro e w' ⟨rfl, rfl⟩)
    go_ret
    exact ⟨congrArg (fun z => Ending.returned (.int .u8 z)) HX.out, hB3⟩
  · have HX := Lib.hid (show _ = x from hx)
    clear hx
    have HR := Lib.hid hR
    clear hR
    go_enter Try.func16, Try.ntmps16
    go_wp2_with (refine wpList_load_row rfl 24 _ rfl w.heap.size rfl _ _ (0, 0) _ HR.out Try.underlying24 rfl (by kernel_rfl) ?_)
    refine (hP.out _).mono ?_
    rintro e w3 ⟨rfl, hb⟩
    have hR3 := HR.out.below hb (by simp)
    have hB3 := hB.trans (hb.mono (by simp))
    clear hb hB
    go_wp2_with (go_at_call 57; (with_reducible refine (hM.out _).mono ?_); rintro e w' ⟨rfl, rfl⟩)
    go_ret
    exact ⟨congrArg (fun z => Ending.returned (.int .u8 z)) HX.out, hB3⟩
  · have HX := Lib.hid (show _ = x from hx)
    clear hx
    have HR := Lib.hid hR
    clear hR
    go_enter Try.func16, Try.ntmps16
    go_wp2_with (refine wpList_load_row rfl 24 _ rfl w.heap.size rfl _ _ (0, 0) _ HR.out Try.underlying24 rfl (by kernel_rfl) ?_)
    refine (hP.out _).mono ?_
    rintro e w3 ⟨rfl, hb⟩
    have hR3 := HR.out.below hb (by simp)
    have hB3 := hB.trans (hb.mono (by simp))
    clear hb hB
    have g0 := hR3.gA
    go_wp2_with (go_at_call 57; (with_reducible refine (hM.out _).mono ?_); rintro e w' ⟨rfl, rfl⟩)
    go_ret
    exact ⟨congrArg (fun z => Ending.returned (.int .u8 z)) HX.out, hB3⟩

set_option maxHeartbeats 4000000 in
theorem r8_put (r : Rg) (hr : r.Ok) (i c v : Int) (hv : isB v) (w : World) (wi : (Lit.int .i64 i).wf = true) (wc : (Lit.int .i64 c).wf = true) : Calls Try.prog 18 #[r.val, .int .i64 i, .int .i64 c, .int .u8 v] w fun e w' => e = .returned (putR r i c v).val ∧ Below w.heap.size w w' := by
  have hM := Lib.hid (fun w => r5_mod_8 c w wc)
  have hP := Lib.hid (fun w => r8_pair_c r hr i 2 false w wi (by decide))
  have hX := pairR_in hr i 2 false
  have hXe := pair_hl r i
  obtain ⟨X, hXX⟩ : ∃ X, hlR r i = X := ⟨_, rfl⟩
  rw [hXe, hXX] at hX
  rw [hXe, hXX] at hP
  obtain ⟨X0, X1⟩ := hX
  have q1 := div256 X X0 X1
  have q2 := mod256 X X0 X1
  obtain ⟨k, hk⟩ : ∃ k, c % 8 = k := ⟨_, rfl⟩
  have hk8 : k = 0 ∨ k = 1 ∨ k = 2 ∨ k = 3 ∨ k = 4 ∨ k = 5 ∨ k = 6 ∨ k = 7 := by omega
  obtain ⟨v0, v1⟩ := hv
  have hPA := Lib.hid (fun w => r8_putpair_c r i 2 false (v * 256 + X % 256) ⟨by omega, by omega⟩ w wi (by decide))
  have hPB := Lib.hid (fun w => r8_putpair_c r i 2 false (X / 256 * 256 + v) ⟨by omega, by omega⟩ w wi (by decide))
  have hR := W2_r w r
  have hZ := W2_z w r
  have hB := W2_b w r
  have hne : w.heap.size + 1 ≠ w.heap.size := by omega
  obtain ⟨x, hx⟩ : ∃ x, putR r i c v = x := ⟨_, rfl⟩
  rw [hx]
  unfold putR at hx
  rw [hk] at hM hx
  rw [hXX] at hx
  rw [putpair_hl] at hPA hPB
  clear hk wi wc hXe hXX
  have hval : r.val = .agg #[.int .u8 r.A, .int .u8 r.F, .int .u8 r.B, .int .u8 r.C, .int .u8 r.D, .int .u8 r.E, .int .u8 r.H, .int .u8 r.L, .int .u8 r.I, .int .u8 r.R, .int .u16 r.IX, .int .u16 r.IY, .int .u16 r.SP, .int .u16 r.PC, .int .u16 r.WZ, .int .u16 r.AF2, .int .u16 r.BC2, .int .u16 r.DE2, .int .u16 r.HL2, .bool r.IFF1, .bool r.IFF2, .int .i64 r.IM, .bool r.Halt, .bool r.Late] := rfl
  rw [hval]
  clear hval
  obtain rfl | rfl | rfl | rfl | rfl | rfl | rfl | rfl := hk8
  · have HX := Lib.hid (show _ = x from hx)
    clear hx
    have HR := Lib.hid hR
    have HZ := Lib.hid hZ
    clear hR hZ
    go_enter Try.func18, Try.ntmps18
    go_wp2_with (refine wpList_load_row rfl 24 _ rfl w.heap.size rfl _ _ (0, 0) _ HR.out Try.underlying24 rfl (by kernel_rfl) ?_)
    refine (hP.out _).mono ?_
    rintro e w3 ⟨rfl, hb⟩
    have hR3 := HR.out.below hb (by simp; omega)
    have hZ3 := HZ.out.below hb (by simp)
    have hB3 := hB.trans (hb.mono (by simp; omega))
    clear hb hB HR HZ
    have HL := Lib.hid (hR3.sB v)
    have HZ := Lib.hid (hZ3.set_other ⟨w.heap.size, 2, none⟩ (.int .u8 v) hne)
    have HB := Lib.hid (hB3.setCell (p := ⟨w.heap.size, 2, none⟩) (Nat.le_refl _) (.int .u8 v))
    have g0 := hR3.gB
    have f0 := hR3.free 2
    go_wp2_with (first | (go_at_call 57; (with_reducible refine (hM.out _).mono ?_); rintro e w' ⟨rfl, rfl⟩) | (refine wpList_load_row rfl 24 _ rfl w.heap.size rfl _ _ (0, 0) _ HL.out Try.underlying24 rfl (by kernel_rfl) ?_) | (refine wpList_store_row rfl 24 _ _ rfl (w.heap.size + 1) _ rfl rfl _ _ HZ.out rg_info rfl (rg_one _) ?_))
    (try simp only [Exit.inBlock, Exit.then])
    exact bodyPost_ret (results_rg rfl _ _ _ _ rfl (HZ.out.row _)) rfl ⟨by rw [← HX.out]; rfl, below_setRow HB.out (by omega) _⟩
  · have HX := Lib.hid (show _ = x from hx)
    clear hx
    have HR := Lib.hid hR
    have HZ := Lib.hid hZ
    clear hR hZ
    go_enter Try.func18, Try.ntmps18
    go_wp2_with (refine wpList_load_row rfl 24 _ rfl w.heap.size rfl _ _ (0, 0) _ HR.out Try.underlying24 rfl (by kernel_rfl) ?_)
    refine (hP.out _).mono ?_
    rintro e w3 ⟨rfl, hb⟩
    have hR3 := HR.out.below hb (by simp; omega)
    have hZ3 := HZ.out.below hb (by simp)
    have hB3 := hB.trans (hb.mono (by simp; omega))
    clear hb hB HR HZ
    have HL := Lib.hid (hR3.sC v)
    have HZ := Lib.hid (hZ3.set_other ⟨w.heap.size, 3, none⟩ (.int .u8 v) hne)
    have HB := Lib.hid (hB3.setCell (p := ⟨w.heap.size, 3, none⟩) (Nat.le_refl _) (.int .u8 v))
    have g0 := hR3.gC
    have f0 := hR3.free 3
    go_wp2_with (first | (go_at_call 57; (with_reducible refine (hM.out _).mono ?_); rintro e w' ⟨rfl, rfl⟩) | (refine wpList_load_row rfl 24 _ rfl w.heap.size rfl _ _ (0, 0) _ HL.out Try.underlying24 rfl (by kernel_rfl) ?_) | (refine wpList_store_row rfl 24 _ _ rfl (w.heap.size + 1) _ rfl rfl _ _ HZ.out rg_info rfl (rg_one _) ?_))
    (try simp only [Exit.inBlock, Exit.then])
    exact bodyPost_ret (results_rg rfl _ _ _ _ rfl (HZ.out.row _)) rfl ⟨by rw [← HX.out]; rfl, below_setRow HB.out (by omega) _⟩
  · have HX := Lib.hid (show _ = x from hx)
    clear hx
    have HR := Lib.hid hR
    have HZ := Lib.hid hZ
    clear hR hZ
    go_enter Try.func18, Try.ntmps18
    go_wp2_with (refine wpList_load_row rfl 24 _ rfl w.heap.size rfl _ _ (0, 0) _ HR.out Try.underlying24 rfl (by kernel_rfl) ?_)
    refine (hP.out _).mono ?_
    rintro e w3 ⟨rfl, hb⟩
    have hR3 := HR.out.below hb (by simp; omega)
    have hZ3 := HZ.out.below hb (by simp)
    have hB3 := hB.trans (hb.mono (by simp; omega))
    clear hb hB HR HZ
    have HL := Lib.hid (hR3.sD v)
    have HZ := Lib.hid (hZ3.set_other ⟨w.heap.size, 4, none⟩ (.int .u8 v) hne)
    have HB := Lib.hid (hB3.setCell (p := ⟨w.heap.size, 4, none⟩) (Nat.le_refl _) (.int .u8 v))
    have g0 := hR3.gD
    have f0 := hR3.free 4
    go_wp2_with (first | (go_at_call 57; (with_reducible refine (hM.out _).mono ?_); rintro e w' ⟨rfl, rfl⟩) | (refine wpList_load_row rfl 24 _ rfl w.heap.size rfl _ _ (0, 0) _ HL.out Try.underlying24 rfl (by kernel_rfl) ?_) | (refine wpList_store_row rfl 24 _ _ rfl (w.heap.size + 1) _ rfl rfl _ _ HZ.out rg_info rfl (rg_one _) ?_))
    (try simp only [Exit.inBlock, Exit.then])
    exact bodyPost_ret (results_rg rfl _ _ _ _ rfl (HZ.out.row _)) rfl ⟨by rw [← HX.out]; rfl, below_setRow HB.out (by omega) _⟩
  · have HX := Lib.hid (show _ = x from hx)
    clear hx
    have HR := Lib.hid hR
    have HZ := Lib.hid hZ
    clear hR hZ
    go_enter Try.func18, Try.ntmps18
    go_wp2_with (refine wpList_load_row rfl 24 _ rfl w.heap.size rfl _ _ (0, 0) _ HR.out Try.underlying24 rfl (by kernel_rfl) ?_)
    refine (hP.out _).mono ?_
    rintro e w3 ⟨rfl, hb⟩
    have hR3 := HR.out.below hb (by simp; omega)
    have hZ3 := HZ.out.below hb (by simp)
    have hB3 := hB.trans (hb.mono (by simp; omega))
    clear hb hB HR HZ
    have HL := Lib.hid (hR3.sE v)
    have HZ := Lib.hid (hZ3.set_other ⟨w.heap.size, 5, none⟩ (.int .u8 v) hne)
    have HB := Lib.hid (hB3.setCell (p := ⟨w.heap.size, 5, none⟩) (Nat.le_refl _) (.int .u8 v))
    have g0 := hR3.gE
    have f0 := hR3.free 5
    go_wp2_with (first | (go_at_call 57; (with_reducible refine (hM.out _).mono ?_); rintro e w' ⟨rfl, rfl⟩) | (refine wpList_load_row rfl 24 _ rfl w.heap.size rfl _ _ (0, 0) _ HL.out Try.underlying24 rfl (by kernel_rfl) ?_) | (refine wpList_store_row rfl 24 _ _ rfl (w.heap.size + 1) _ rfl rfl _ _ HZ.out rg_info rfl (rg_one _) ?_))
    (try simp only [Exit.inBlock, Exit.then])
    exact bodyPost_ret (results_rg rfl _ _ _ _ rfl (HZ.out.row _)) rfl ⟨by rw [← HX.out]; rfl, below_setRow HB.out (by omega) _⟩
  · have HX := Lib.hid (show _ = x from hx)
    clear hx
    have HR := Lib.hid hR
    have HZ := Lib.hid hZ
    clear hR hZ
    go_enter Try.func18, Try.ntmps18
    go_wp2_with (refine wpList_load_row rfl 24 _ rfl w.heap.size rfl _ _ (0, 0) _ HR.out Try.underlying24 rfl (by kernel_rfl) ?_)
    refine (hP.out _).mono ?_
    rintro e w3 ⟨rfl, hb⟩
    have hR3 := HR.out.below hb (by simp; omega)
    have hZ3 := HZ.out.below hb (by simp)
    have hB3 := hB.trans (hb.mono (by simp; omega))
    clear hb hB HR HZ
    have HL := Lib.hid hR3
    go_wp2_with (first | (go_at_call 57; (with_reducible refine (hM.out _).mono ?_); rintro e w' ⟨rfl, rfl⟩) | (refine wpList_load_row rfl 24 _ rfl w.heap.size rfl _ _ (0, 0) _ HL.out Try.underlying24 rfl (by kernel_rfl) ?_))
    refine (hPA.out _).mono ?_
    rintro e w4 ⟨rfl, hb⟩
    have HZ := Lib.hid (hZ3.below hb (by have := hZ3.lt; omega))
    have HB := Lib.hid (hB3.trans (hb.mono hB3.size))
    clear hb
    go_wp2_with (refine wpList_store_row rfl 24 _ _ rfl (w.heap.size + 1) _ rfl rfl _ _ HZ.out rg_info rfl (rg_one _) ?_)
    (try simp only [Exit.inBlock, Exit.then])
    exact bodyPost_ret (results_rg rfl _ _ _ _ rfl (HZ.out.row _)) rfl ⟨by rw [← HX.out]; rfl, below_setRow HB.out (by omega) _⟩
  · have HX := Lib.hid (show _ = x from hx)
    clear hx
    have HR := Lib.hid hR
    have HZ := Lib.hid hZ
    clear hR hZ
    go_enter Try.func18, Try.ntmps18
    go_wp2_with (refine wpList_load_row rfl 24 _ rfl w.heap.size rfl _ _ (0, 0) _ HR.out Try.underlying24 rfl (by kernel_rfl) ?_)
    refine (hP.out _).mono ?_
    rintro e w3 ⟨rfl, hb⟩
    have hR3 := HR.out.below hb (by simp; omega)
    have hZ3 := HZ.out.below hb (by simp)
    have hB3 := hB.trans (hb.mono (by simp; omega))
    clear hb hB HR HZ
    have HL := Lib.hid hR3
    go_wp2_with (first | (go_at_call 57; (with_reducible refine (hM.out _).mono ?_); rintro e w' ⟨rfl, rfl⟩) | (refine wpList_load_row rfl 24 _ rfl w.heap.size rfl _ _ (0, 0) _ HL.out Try.underlying24 rfl (by kernel_rfl) ?_))
    refine (hPB.out _).mono ?_
    rintro e w4 ⟨rfl, hb⟩
    have HZ := Lib.hid (hZ3.below hb (by have := hZ3.lt; omega))
    have HB := Lib.hid (hB3.trans (hb.mono hB3.size))
    clear hb
    go_wp2_with (refine wpList_store_row rfl 24 _ _ rfl (w.heap.size + 1) _ rfl rfl _ _ HZ.out rg_info rfl (rg_one _) ?_)
    (try simp only [Exit.inBlock, Exit.then])
    exact bodyPost_ret (results_rg rfl _ _ _ _ rfl (HZ.out.row _)) rfl ⟨by rw [← HX.out]; rfl, below_setRow HB.out (by omega) _⟩
  · have HX := Lib.hid (show _ = x from hx)
    clear hx
    have HR := Lib.hid hR
    have HZ := Lib.hid hZ
    clear hR hZ
    go_enter Try.func18, Try.ntmps18
    go_wp2_with (refine wpList_load_row rfl 24 _ rfl w.heap.size rfl _ _ (0, 0) _ HR.out Try.underlying24 rfl (by kernel_rfl) ?_)
    refine (hP.out _).mono ?_
    rintro e w3 ⟨rfl, hb⟩
    have hR3 := HR.out.below hb (by simp; omega)
    have hZ3 := HZ.out.below hb (by simp)
    have hB3 := hB.trans (hb.mono (by simp; omega))
    clear hb hB HR HZ
    have HL := Lib.hid hR3
    have HZ := Lib.hid hZ3
    have HB := Lib.hid hB3
    go_wp2_with (first | (go_at_call 57; (with_reducible refine (hM.out _).mono ?_); rintro e w' ⟨rfl, rfl⟩) | (refine wpList_load_row rfl 24 _ rfl w.heap.size rfl _ _ (0, 0) _ HL.out Try.underlying24 rfl (by kernel_rfl) ?_) | (refine wpList_store_row rfl 24 _ _ rfl (w.heap.size + 1) _ rfl rfl _ _ HZ.out rg_info rfl (rg_one _) ?_))
    (try simp only [Exit.inBlock, Exit.then])
    exact bodyPost_ret (results_rg rfl _ _ _ _ rfl (HZ.out.row _)) rfl ⟨by rw [← HX.out]; rfl, below_setRow HB.out (by omega) _⟩
  · have HX := Lib.hid (show _ = x from hx)
    clear hx
    have HR := Lib.hid hR
    have HZ := Lib.hid hZ
    clear hR hZ
    go_enter Try.func18, Try.ntmps18
    go_wp2_with (refine wpList_load_row rfl 24 _ rfl w.heap.size rfl _ _ (0, 0) _ HR.out Try.underlying24 rfl (by kernel_rfl) ?_)
    refine (hP.out _).mono ?_
    rintro e w3 ⟨rfl, hb⟩
    have hR3 := HR.out.below hb (by simp; omega)
    have hZ3 := HZ.out.below hb (by simp)
    have hB3 := hB.trans (hb.mono (by simp; omega))
    clear hb hB HR HZ
    have HL := Lib.hid (hR3.sA v)
    have HZ := Lib.hid (hZ3.set_other ⟨w.heap.size, 0, none⟩ (.int .u8 v) hne)
    have HB := Lib.hid (hB3.setCell (p := ⟨w.heap.size, 0, none⟩) (Nat.le_refl _) (.int .u8 v))
    have g0 := hR3.gA
    have f0 := hR3.free 0
    go_wp2_with (first | (go_at_call 57; (with_reducible refine (hM.out _).mono ?_); rintro e w' ⟨rfl, rfl⟩) | (refine wpList_load_row rfl 24 _ rfl w.heap.size rfl _ _ (0, 0) _ HL.out Try.underlying24 rfl (by kernel_rfl) ?_) | (refine wpList_store_row rfl 24 _ _ rfl (w.heap.size + 1) _ rfl rfl _ _ HZ.out rg_info rfl (rg_one _) ?_))
    (try simp only [Exit.inBlock, Exit.then])
    exact bodyPost_ret (results_rg rfl _ _ _ _ rfl (HZ.out.row _)) rfl ⟨by rw [← HX.out]; rfl, below_setRow HB.out (by omega) _⟩
end Go.Proofs.Ytedlfcmlchjjlaa
