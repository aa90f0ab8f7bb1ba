
/- The document's own answers of chapter 8 that are registers. -/
import Derived.Test.YtedlfcmlchjjlaaY3
import Derived.Laws.CopyOwn
import Derived.Laws.Tables
import Derived.Deep.DeepCutAuto
namespace Go.Proofs.Ytedlfcmlchjjlaa
open Go.RowKit
set_option linter.unusedSimpArgs false
set_option linter.unusedVariables false
set_option maxRecDepth 100000

def zeroR : Rg := ⟨0, 0, 0, 0, 0, 0, 0, 0, 0, 0, 0, 0, 0, 0, 0, 0, 0, 0, 0, false, false, 0, false, false⟩
theorem RgW.set_other {w : World} {b : Nat} {r : Rg} (h : RgW w b r) (a : Addr) (v : Value) (hn : b ≠ a.block) : RgW (w.setCell a v) b r := h.keep (heap_setCell_other w a b v hn)
theorem RgW.row {w : World} {b : Nat} {y : Rg} (h : RgW w b y) (r : Rg) : RgW (w.setRow b r.cells) b r := setRow_heap w b _ _ _ _ h
theorem RgW.row_other {w : World} {b g : Nat} {y : Rg} (h : RgW w b y) (cs : Array Value) (hn : b ≠ g) : RgW (w.setRow g cs) b y := h.keep (setRow_other w g b cs hn)
theorem at_world {P : Program} {c : Code} {Q : Exit → Act → World → Prop} {a : Act} {W : World} (W' : World) (h : W' = W) (hk : Code.wp P c Q a W') : Code.wp P c Q a W := h ▸ hk
abbrev W2 (w : World) (r : Rg) : World := (w.alloc (rgO r)).alloc (rgO zeroR)
theorem W2_r (w : World) (r : Rg) : RgW (W2 w r) w.heap.size r := (RgW.laid w r).more _
theorem W2_z (w : World) (r : Rg) : RgW (W2 w r) (w.heap.size + 1) zeroR := by have := RgW.laid (w.alloc (rgO r)) zeroR; rw [show (w.alloc (rgO r)).heap.size = w.heap.size + 1 by simp] at this; exact this
theorem W2_b (w : World) (r : Rg) : Below w.heap.size w (W2 w r) := ((Below.refl _ _).alloc (Nat.le_refl _) _).alloc (by simp) _
theorem rg_info : (Try.prog.info? 24).map (·.size) = some 24 := by kernel_rfl
theorem rg_one (r : Rg) : r.cells.all (·.oneCell') = true := by unfold Rg.cells; rw [List.all_toArray]; rfl
theorem results_rg {fn : Func} {p : Tmp} (h : fn.results = #[.cell p 24]) (tmps : Array Value) (w : World) (b : Nat) (r : Rg) (hp : tmps.getD p undef = .pointer (some ⟨b, 0, none⟩)) (hR : RgW w b r) :
    (results fn tmps).run Try.prog w = .ok r.val w := results_cell_row h tmps w b _ _ (0, 0) _ hp hR Try.underlying24 rfl rg_info

set_option maxHeartbeats 4000000 in
theorem r8_putpair (r : Rg) (i c : Int) (st : Bool) (v : Int) (hv : isW v) (w : World) (wi : (Lit.int .i64 i).wf = true) (wc : (Lit.int .i64 c).wf = true) : Calls Try.prog 22 #[r.val, .int .i64 i, .int .i64 c, .bool st, .int .u16 v] w fun e w' => e = .returned (putPairR r i c st v).val ∧ Below w.heap.size w w' := by
  have hM := Lib.hid (fun w => r5_mod_4 c w wc)
  have hN := Lib.hid (fun w => r5_mod_3 i w wi)
  obtain ⟨v0, v1⟩ := hv
  have hR := W2_r w r
  obtain ⟨n, hn⟩ : ∃ n, c % 4 = n := ⟨_, rfl⟩
  have hn4 : n = 0 ∨ n = 1 ∨ n = 2 ∨ n = 3 := by omega
  obtain ⟨x, hx⟩ : ∃ x, putPairR r i c st v = x := ⟨_, rfl⟩
  rw [hx]
  unfold putPairR at hx
  rw [hn] at hM hx
  clear hn wi wc
  have hval : r.val = .agg #[.int .u8 r.A, .int .u8 r.F, .int .u8 r.B, .int .u8 r.C, .int .u8 r.D, .int .u8 r.E, .int .u8 r.H, .int .u8 r.L, .int .u8 r.I, .int .u8 r.R, .int .u16 r.IX, .int .u16 r.IY, .int .u16 r.SP, .int .u16 r.PC, .int .u16 r.WZ, .int .u16 r.AF2, .int .u16 r.BC2, .int .u16 r.DE2, .int .u16 r.HL2, .bool r.IFF1, .bool r.IFF2, .int .i64 r.IM, .bool r.Halt, .bool r.Late] := rfl
  rw [hval]
  clear hval
  obtain rfl | rfl | rfl | rfl := hn4
  · have HX := Lib.hid (show _ = x from hx)
    clear hx
    have HL := Lib.hid (W2_r w { r with B := v / 256, C := v % 256 })
    have HZ := Lib.hid (W2_z w { r with B := v / 256, C := v % 256 })
    have hB2 := Lib.hid (W2_b w { r with B := v / 256, C := v % 256 })
    have qB := hR.gB
    have fB := hR.free 2
    have qC := hR.gC
    have fC := hR.free 3
    clear hR
    go_enter Try.func22, Try.ntmps22
    go_wp2_with (first
      | (go_at_call 48; (with_reducible refine (r7_split _ _ v0 v1).mono ?_); rintro e w' ⟨rfl, rfl⟩)
      | (go_at_call 57; (first | with_reducible refine (hM.out _).mono ?_ | with_reducible refine (hN.out _).mono ?_); rintro e w' ⟨rfl, rfl⟩)
      | (refine wpList_load_row rfl 24 _ rfl w.heap.size rfl _ _ (0, 0) _ HL.out Try.underlying24 rfl (by kernel_rfl) ?_)
      | (refine wpList_store_row rfl 24 _ _ rfl (w.heap.size + 1) _ rfl rfl _ _ HZ.out rg_info rfl (rg_one _) ?_))
    (try simp only [Exit.inBlock, Exit.then])
    exact bodyPost_ret (results_rg rfl _ _ _ _ rfl (HZ.out.row _)) rfl ⟨by rw [← HX.out]; rfl, below_setRow hB2.out (by omega) _⟩
  · have HX := Lib.hid (show _ = x from hx)
    clear hx
    have HL := Lib.hid (W2_r w { r with D := v / 256, E := v % 256 })
    have HZ := Lib.hid (W2_z w { r with D := v / 256, E := v % 256 })
    have hB2 := Lib.hid (W2_b w { r with D := v / 256, E := v % 256 })
    have qD := hR.gD
    have fD := hR.free 4
    have qE := hR.gE
    have fE := hR.free 5
    clear hR
    go_enter Try.func22, Try.ntmps22
    go_wp2_with (first
      | (go_at_call 48; (with_reducible refine (r7_split _ _ v0 v1).mono ?_); rintro e w' ⟨rfl, rfl⟩)
      | (go_at_call 57; (first | with_reducible refine (hM.out _).mono ?_ | with_reducible refine (hN.out _).mono ?_); rintro e w' ⟨rfl, rfl⟩)
      | (refine wpList_load_row rfl 24 _ rfl w.heap.size rfl _ _ (0, 0) _ HL.out Try.underlying24 rfl (by kernel_rfl) ?_)
      | (refine wpList_store_row rfl 24 _ _ rfl (w.heap.size + 1) _ rfl rfl _ _ HZ.out rg_info rfl (rg_one _) ?_))
    (try simp only [Exit.inBlock, Exit.then])
    exact bodyPost_ret (results_rg rfl _ _ _ _ rfl (HZ.out.row _)) rfl ⟨by rw [← HX.out]; rfl, below_setRow hB2.out (by omega) _⟩
  · unfold setHl at hx
    obtain ⟨j, hj⟩ : ∃ j, i % 3 = j := ⟨_, rfl⟩
    have hj3 : j = 0 ∨ j = 1 ∨ j = 2 := by omega
    rw [hj] at hN hx
    clear hj
    obtain rfl | rfl | rfl := hj3
    · have HX := Lib.hid (show _ = x from hx)
      clear hx
      have HL := Lib.hid (W2_r w { r with H := v / 256, L := v % 256 })
      have HZ := Lib.hid (W2_z w { r with H := v / 256, L := v % 256 })
      have hB2 := Lib.hid (W2_b w { r with H := v / 256, L := v % 256 })
      have qH := hR.gH
      have fH := hR.free 6
      have qL := hR.gL
      have fL := hR.free 7
      clear hR
      go_enter Try.func22, Try.ntmps22
      go_wp2_with (first
        | (go_at_call 48; (with_reducible refine (r7_split _ _ v0 v1).mono ?_); rintro e w' ⟨rfl, rfl⟩)
        | (go_at_call 57; (first | with_reducible refine (hM.out _).mono ?_ | with_reducible refine (hN.out _).mono ?_); rintro e w' ⟨rfl, rfl⟩)
        | (refine wpList_load_row rfl 24 _ rfl w.heap.size rfl _ _ (0, 0) _ HL.out Try.underlying24 rfl (by kernel_rfl) ?_)
        | (refine wpList_store_row rfl 24 _ _ rfl (w.heap.size + 1) _ rfl rfl _ _ HZ.out rg_info rfl (rg_one _) ?_))
      (try simp only [Exit.inBlock, Exit.then])
      exact bodyPost_ret (results_rg rfl _ _ _ _ rfl (HZ.out.row _)) rfl ⟨by rw [← HX.out]; rfl, below_setRow hB2.out (by omega) _⟩
    · have HX := Lib.hid (show _ = x from hx)
      clear hx
      have HL := Lib.hid (W2_r w { r with IX := v })
      have HZ := Lib.hid (W2_z w { r with IX := v })
      have hB2 := Lib.hid (W2_b w { r with IX := v })
      have qIX := hR.gIX
      have fIX := hR.free 10
      clear hR
      go_enter Try.func22, Try.ntmps22
      go_wp2_with (first
        | (go_at_call 48; (with_reducible refine (r7_split _ _ v0 v1).mono ?_); rintro e w' ⟨rfl, rfl⟩)
        | (go_at_call 57; (first | with_reducible refine (hM.out _).mono ?_ | with_reducible refine (hN.out _).mono ?_); rintro e w' ⟨rfl, rfl⟩)
        | (refine wpList_load_row rfl 24 _ rfl w.heap.size rfl _ _ (0, 0) _ HL.out Try.underlying24 rfl (by kernel_rfl) ?_)
        | (refine wpList_store_row rfl 24 _ _ rfl (w.heap.size + 1) _ rfl rfl _ _ HZ.out rg_info rfl (rg_one _) ?_))
      (try simp only [Exit.inBlock, Exit.then])
      exact bodyPost_ret (results_rg rfl _ _ _ _ rfl (HZ.out.row _)) rfl ⟨by rw [← HX.out]; rfl, below_setRow hB2.out (by omega) _⟩
    · have HX := Lib.hid (show _ = x from hx)
      clear hx
      have HL := Lib.hid (W2_r w { r with IY := v })
      have HZ := Lib.hid (W2_z w { r with IY := v })
      have hB2 := Lib.hid (W2_b w { r with IY := v })
      have qIY := hR.gIY
      have fIY := hR.free 11
      clear hR
      go_enter Try.func22, Try.ntmps22
      go_wp2_with (first
        | (go_at_call 48; (with_reducible refine (r7_split _ _ v0 v1).mono ?_); rintro e w' ⟨rfl, rfl⟩)
        | (go_at_call 57; (first | with_reducible refine (hM.out _).mono ?_ | with_reducible refine (hN.out _).mono ?_); rintro e w' ⟨rfl, rfl⟩)
        | (refine wpList_load_row rfl 24 _ rfl w.heap.size rfl _ _ (0, 0) _ HL.out Try.underlying24 rfl (by kernel_rfl) ?_)
        | (refine wpList_store_row rfl 24 _ _ rfl (w.heap.size + 1) _ rfl rfl _ _ HZ.out rg_info rfl (rg_one _) ?_))
      (try simp only [Exit.inBlock, Exit.then])
      exact bodyPost_ret (results_rg rfl _ _ _ _ rfl (HZ.out.row _)) rfl ⟨by rw [← HX.out]; rfl, below_setRow hB2.out (by omega) _⟩
  · cases st
    · have HX := Lib.hid (show _ = x from hx)
      clear hx
      have HL := Lib.hid (W2_r w { r with SP := v })
      have HZ := Lib.hid (W2_z w { r with SP := v })
      have hB2 := Lib.hid (W2_b w { r with SP := v })
      have qSP := hR.gSP
      have fSP := hR.free 12
      clear hR
      go_enter Try.func22, Try.ntmps22
      go_wp2_with (first
        | (go_at_call 48; (with_reducible refine (r7_split _ _ v0 v1).mono ?_); rintro e w' ⟨rfl, rfl⟩)
        | (go_at_call 57; (first | with_reducible refine (hM.out _).mono ?_ | with_reducible refine (hN.out _).mono ?_); rintro e w' ⟨rfl, rfl⟩)
        | (refine wpList_load_row rfl 24 _ rfl w.heap.size rfl _ _ (0, 0) _ HL.out Try.underlying24 rfl (by kernel_rfl) ?_)
        | (refine wpList_store_row rfl 24 _ _ rfl (w.heap.size + 1) _ rfl rfl _ _ HZ.out rg_info rfl (rg_one _) ?_))
      (try simp only [Exit.inBlock, Exit.then])
      exact bodyPost_ret (results_rg rfl _ _ _ _ rfl (HZ.out.row _)) rfl ⟨by rw [← HX.out]; rfl, below_setRow hB2.out (by omega) _⟩
    · have HX := Lib.hid (show _ = x from hx)
      clear hx
      have HL := Lib.hid (W2_r w { r with A := v / 256, F := v % 256 })
      have HZ := Lib.hid (W2_z w { r with A := v / 256, F := v % 256 })
      have hB2 := Lib.hid (W2_b w { r with A := v / 256, F := v % 256 })
      have qA := hR.gA
      have fA := hR.free 0
      have qF := hR.gF
      have fF := hR.free 1
      clear hR
      go_enter Try.func22, Try.ntmps22
      go_wp2_with (first
        | (go_at_call 48; (with_reducible refine (r7_split _ _ v0 v1).mono ?_); rintro e w' ⟨rfl, rfl⟩)
        | (go_at_call 57; (first | with_reducible refine (hM.out _).mono ?_ | with_reducible refine (hN.out _).mono ?_); rintro e w' ⟨rfl, rfl⟩)
        | (refine wpList_load_row rfl 24 _ rfl w.heap.size rfl _ _ (0, 0) _ HL.out Try.underlying24 rfl (by kernel_rfl) ?_)
        | (refine wpList_store_row rfl 24 _ _ rfl (w.heap.size + 1) _ rfl rfl _ _ HZ.out rg_info rfl (rg_one _) ?_))
      (try simp only [Exit.inBlock, Exit.then])
      exact bodyPost_ret (results_rg rfl _ _ _ _ rfl (HZ.out.row _)) rfl ⟨by rw [← HX.out]; rfl, below_setRow hB2.out (by omega) _⟩
end Go.Proofs.Ytedlfcmlchjjlaa
