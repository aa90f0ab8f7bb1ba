
/- Registers in a block of memory. -/
import Derived.Test.YtedlfcmlchjjlaaY1
import Derived.Below
import Derived.Laws.ResultCell
namespace Go.Proofs.Ytedlfcmlchjjlaa
open Go.RowKit
set_option linter.unusedSimpArgs false
set_option linter.unusedVariables false
set_option maxRecDepth 100000

abbrev rgO (r : Rg) : Obj := .cells #[.int .u8 r.A, .int .u8 r.F, .int .u8 r.B, .int .u8 r.C, .int .u8 r.D, .int .u8 r.E, .int .u8 r.H, .int .u8 r.L, .int .u8 r.I, .int .u8 r.R, .int .u16 r.IX, .int .u16 r.IY, .int .u16 r.SP, .int .u16 r.PC, .int .u16 r.WZ, .int .u16 r.AF2, .int .u16 r.BC2, .int .u16 r.DE2, .int .u16 r.HL2, .bool r.IFF1, .bool r.IFF2, .int .i64 r.IM, .bool r.Halt, .bool r.Late] 24
/-- A block that is registers. -/
def RgW (w : World) (b : Nat) (r : Rg) : Prop := w.heap[b]? = some (.cells r.cells 24 (0, 0))
theorem RgW.free {w : World} {b : Nat} {r : Rg} (h : RgW w b r) (i : Nat) : w.frozen? ⟨b, i, none⟩ = false := frozen_of_row w b i _ _ h
theorem RgW.lt {w : World} {b : Nat} {r : Rg} (h : RgW w b r) : b < w.heap.size := (Array.getElem?_eq_some_iff.1 h).1
theorem RgW.keep {w w' : World} {b : Nat} {r : Rg} (h : RgW w b r) (hb : w'.heap[b]? = w.heap[b]?) : RgW w' b r := hb.trans h
theorem RgW.laid (w : World) (r : Rg) : RgW (w.alloc (rgO r)) w.heap.size r := heap_alloc_new _ _
theorem RgW.below {w w' : World} {b B : Nat} {r : Rg} (h : RgW w b r) (hb : Below B w w') (hB : b < B) : RgW w' b r := h.keep (hb.block _ hB)
theorem RgW.more {w : World} {b : Nat} {r : Rg} (h : RgW w b r) (o : Obj) : RgW (w.alloc o) b r := h.below ((Below.refl w.heap.size _).alloc (Nat.le_refl _) _) h.lt
theorem RgW.at_ {w : World} {b : Nat} {r : Rg} (h : RgW w b r) (i : Nat) (v : Value) (hv : r.cells[i]? = some v) : w.cell? ⟨b, i, none⟩ = some v := by rw [cell_of_row _ _ _ _ _ _ h]; exact hv
theorem RgW.gA {w : World} {b : Nat} {r : Rg} (h : RgW w b r) : w.cell? ⟨b, 0, none⟩ = some (.int .u8 r.A) := h.at_ 0 _ rfl
theorem RgW.gF {w : World} {b : Nat} {r : Rg} (h : RgW w b r) : w.cell? ⟨b, 1, none⟩ = some (.int .u8 r.F) := h.at_ 1 _ rfl
theorem RgW.gB {w : World} {b : Nat} {r : Rg} (h : RgW w b r) : w.cell? ⟨b, 2, none⟩ = some (.int .u8 r.B) := h.at_ 2 _ rfl
theorem RgW.gC {w : World} {b : Nat} {r : Rg} (h : RgW w b r) : w.cell? ⟨b, 3, none⟩ = some (.int .u8 r.C) := h.at_ 3 _ rfl
theorem RgW.gD {w : World} {b : Nat} {r : Rg} (h : RgW w b r) : w.cell? ⟨b, 4, none⟩ = some (.int .u8 r.D) := h.at_ 4 _ rfl
theorem RgW.gE {w : World} {b : Nat} {r : Rg} (h : RgW w b r) : w.cell? ⟨b, 5, none⟩ = some (.int .u8 r.E) := h.at_ 5 _ rfl
theorem RgW.gH {w : World} {b : Nat} {r : Rg} (h : RgW w b r) : w.cell? ⟨b, 6, none⟩ = some (.int .u8 r.H) := h.at_ 6 _ rfl
theorem RgW.gL {w : World} {b : Nat} {r : Rg} (h : RgW w b r) : w.cell? ⟨b, 7, none⟩ = some (.int .u8 r.L) := h.at_ 7 _ rfl
theorem RgW.gI {w : World} {b : Nat} {r : Rg} (h : RgW w b r) : w.cell? ⟨b, 8, none⟩ = some (.int .u8 r.I) := h.at_ 8 _ rfl
theorem RgW.gR {w : World} {b : Nat} {r : Rg} (h : RgW w b r) : w.cell? ⟨b, 9, none⟩ = some (.int .u8 r.R) := h.at_ 9 _ rfl
theorem RgW.gIX {w : World} {b : Nat} {r : Rg} (h : RgW w b r) : w.cell? ⟨b, 10, none⟩ = some (.int .u16 r.IX) := h.at_ 10 _ rfl
theorem RgW.gIY {w : World} {b : Nat} {r : Rg} (h : RgW w b r) : w.cell? ⟨b, 11, none⟩ = some (.int .u16 r.IY) := h.at_ 11 _ rfl
theorem RgW.gSP {w : World} {b : Nat} {r : Rg} (h : RgW w b r) : w.cell? ⟨b, 12, none⟩ = some (.int .u16 r.SP) := h.at_ 12 _ rfl
theorem RgW.gPC {w : World} {b : Nat} {r : Rg} (h : RgW w b r) : w.cell? ⟨b, 13, none⟩ = some (.int .u16 r.PC) := h.at_ 13 _ rfl
theorem RgW.gWZ {w : World} {b : Nat} {r : Rg} (h : RgW w b r) : w.cell? ⟨b, 14, none⟩ = some (.int .u16 r.WZ) := h.at_ 14 _ rfl
theorem RgW.gAF2 {w : World} {b : Nat} {r : Rg} (h : RgW w b r) : w.cell? ⟨b, 15, none⟩ = some (.int .u16 r.AF2) := h.at_ 15 _ rfl
theorem RgW.gBC2 {w : World} {b : Nat} {r : Rg} (h : RgW w b r) : w.cell? ⟨b, 16, none⟩ = some (.int .u16 r.BC2) := h.at_ 16 _ rfl
theorem RgW.gDE2 {w : World} {b : Nat} {r : Rg} (h : RgW w b r) : w.cell? ⟨b, 17, none⟩ = some (.int .u16 r.DE2) := h.at_ 17 _ rfl
theorem RgW.gHL2 {w : World} {b : Nat} {r : Rg} (h : RgW w b r) : w.cell? ⟨b, 18, none⟩ = some (.int .u16 r.HL2) := h.at_ 18 _ rfl
theorem RgW.gIFF1 {w : World} {b : Nat} {r : Rg} (h : RgW w b r) : w.cell? ⟨b, 19, none⟩ = some (.bool r.IFF1) := h.at_ 19 _ rfl
theorem RgW.gIFF2 {w : World} {b : Nat} {r : Rg} (h : RgW w b r) : w.cell? ⟨b, 20, none⟩ = some (.bool r.IFF2) := h.at_ 20 _ rfl
theorem RgW.gIM {w : World} {b : Nat} {r : Rg} (h : RgW w b r) : w.cell? ⟨b, 21, none⟩ = some (.int .i64 r.IM) := h.at_ 21 _ rfl
theorem RgW.gHalt {w : World} {b : Nat} {r : Rg} (h : RgW w b r) : w.cell? ⟨b, 22, none⟩ = some (.bool r.Halt) := h.at_ 22 _ rfl
theorem RgW.gLate {w : World} {b : Nat} {r : Rg} (h : RgW w b r) : w.cell? ⟨b, 23, none⟩ = some (.bool r.Late) := h.at_ 23 _ rfl
theorem RgW.sA {w : World} {b : Nat} {r : Rg} (h : RgW w b r) (v : Int) : RgW (w.setCell ⟨b, 0, none⟩ (.int .u8 v)) b { r with A := v } := by
  unfold RgW at *; rw [heap_setCell_same w b 0 _ _ _ h]; rfl
theorem RgW.sF {w : World} {b : Nat} {r : Rg} (h : RgW w b r) (v : Int) : RgW (w.setCell ⟨b, 1, none⟩ (.int .u8 v)) b { r with F := v } := by
  unfold RgW at *; rw [heap_setCell_same w b 1 _ _ _ h]; rfl
theorem RgW.sB {w : World} {b : Nat} {r : Rg} (h : RgW w b r) (v : Int) : RgW (w.setCell ⟨b, 2, none⟩ (.int .u8 v)) b { r with B := v } := by
  unfold RgW at *; rw [heap_setCell_same w b 2 _ _ _ h]; rfl
theorem RgW.sC {w : World} {b : Nat} {r : Rg} (h : RgW w b r) (v : Int) : RgW (w.setCell ⟨b, 3, none⟩ (.int .u8 v)) b { r with C := v } := by
  unfold RgW at *; rw [heap_setCell_same w b 3 _ _ _ h]; rfl
theorem RgW.sD {w : World} {b : Nat} {r : Rg} (h : RgW w b r) (v : Int) : RgW (w.setCell ⟨b, 4, none⟩ (.int .u8 v)) b { r with D := v } := by
  unfold RgW at *; rw [heap_setCell_same w b 4 _ _ _ h]; rfl
theorem RgW.sE {w : World} {b : Nat} {r : Rg} (h : RgW w b r) (v : Int) : RgW (w.setCell ⟨b, 5, none⟩ (.int .u8 v)) b { r with E := v } := by
  unfold RgW at *; rw [heap_setCell_same w b 5 _ _ _ h]; rfl
theorem RgW.sH {w : World} {b : Nat} {r : Rg} (h : RgW w b r) (v : Int) : RgW (w.setCell ⟨b, 6, none⟩ (.int .u8 v)) b { r with H := v } := by
  unfold RgW at *; rw [heap_setCell_same w b 6 _ _ _ h]; rfl
theorem RgW.sL {w : World} {b : Nat} {r : Rg} (h : RgW w b r) (v : Int) : RgW (w.setCell ⟨b, 7, none⟩ (.int .u8 v)) b { r with L := v } := by
  unfold RgW at *; rw [heap_setCell_same w b 7 _ _ _ h]; rfl
theorem RgW.sI {w : World} {b : Nat} {r : Rg} (h : RgW w b r) (v : Int) : RgW (w.setCell ⟨b, 8, none⟩ (.int .u8 v)) b { r with I := v } := by
  unfold RgW at *; rw [heap_setCell_same w b 8 _ _ _ h]; rfl
theorem RgW.sR {w : World} {b : Nat} {r : Rg} (h : RgW w b r) (v : Int) : RgW (w.setCell ⟨b, 9, none⟩ (.int .u8 v)) b { r with R := v } := by
  unfold RgW at *; rw [heap_setCell_same w b 9 _ _ _ h]; rfl
theorem RgW.sIX {w : World} {b : Nat} {r : Rg} (h : RgW w b r) (v : Int) : RgW (w.setCell ⟨b, 10, none⟩ (.int .u16 v)) b { r with IX := v } := by
  unfold RgW at *; rw [heap_setCell_same w b 10 _ _ _ h]; rfl
theorem RgW.sIY {w : World} {b : Nat} {r : Rg} (h : RgW w b r) (v : Int) : RgW (w.setCell ⟨b, 11, none⟩ (.int .u16 v)) b { r with IY := v } := by
  unfold RgW at *; rw [heap_setCell_same w b 11 _ _ _ h]; rfl
theorem RgW.sSP {w : World} {b : Nat} {r : Rg} (h : RgW w b r) (v : Int) : RgW (w.setCell ⟨b, 12, none⟩ (.int .u16 v)) b { r with SP := v } := by
  unfold RgW at *; rw [heap_setCell_same w b 12 _ _ _ h]; rfl
theorem RgW.sPC {w : World} {b : Nat} {r : Rg} (h : RgW w b r) (v : Int) : RgW (w.setCell ⟨b, 13, none⟩ (.int .u16 v)) b { r with PC := v } := by
  unfold RgW at *; rw [heap_setCell_same w b 13 _ _ _ h]; rfl
theorem RgW.sWZ {w : World} {b : Nat} {r : Rg} (h : RgW w b r) (v : Int) : RgW (w.setCell ⟨b, 14, none⟩ (.int .u16 v)) b { r with WZ := v } := by
  unfold RgW at *; rw [heap_setCell_same w b 14 _ _ _ h]; rfl
theorem RgW.sAF2 {w : World} {b : Nat} {r : Rg} (h : RgW w b r) (v : Int) : RgW (w.setCell ⟨b, 15, none⟩ (.int .u16 v)) b { r with AF2 := v } := by
  unfold RgW at *; rw [heap_setCell_same w b 15 _ _ _ h]; rfl
theorem RgW.sBC2 {w : World} {b : Nat} {r : Rg} (h : RgW w b r) (v : Int) : RgW (w.setCell ⟨b, 16, none⟩ (.int .u16 v)) b { r with BC2 := v } := by
  unfold RgW at *; rw [heap_setCell_same w b 16 _ _ _ h]; rfl
theorem RgW.sDE2 {w : World} {b : Nat} {r : Rg} (h : RgW w b r) (v : Int) : RgW (w.setCell ⟨b, 17, none⟩ (.int .u16 v)) b { r with DE2 := v } := by
  unfold RgW at *; rw [heap_setCell_same w b 17 _ _ _ h]; rfl
theorem RgW.sHL2 {w : World} {b : Nat} {r : Rg} (h : RgW w b r) (v : Int) : RgW (w.setCell ⟨b, 18, none⟩ (.int .u16 v)) b { r with HL2 := v } := by
  unfold RgW at *; rw [heap_setCell_same w b 18 _ _ _ h]; rfl
theorem RgW.sIFF1 {w : World} {b : Nat} {r : Rg} (h : RgW w b r) (v : Bool) : RgW (w.setCell ⟨b, 19, none⟩ (.bool v)) b { r with IFF1 := v } := by
  unfold RgW at *; rw [heap_setCell_same w b 19 _ _ _ h]; rfl
theorem RgW.sIFF2 {w : World} {b : Nat} {r : Rg} (h : RgW w b r) (v : Bool) : RgW (w.setCell ⟨b, 20, none⟩ (.bool v)) b { r with IFF2 := v } := by
  unfold RgW at *; rw [heap_setCell_same w b 20 _ _ _ h]; rfl
theorem RgW.sIM {w : World} {b : Nat} {r : Rg} (h : RgW w b r) (v : Int) : RgW (w.setCell ⟨b, 21, none⟩ (.int .i64 v)) b { r with IM := v } := by
  unfold RgW at *; rw [heap_setCell_same w b 21 _ _ _ h]; rfl
theorem RgW.sHalt {w : World} {b : Nat} {r : Rg} (h : RgW w b r) (v : Bool) : RgW (w.setCell ⟨b, 22, none⟩ (.bool v)) b { r with Halt := v } := by
  unfold RgW at *; rw [heap_setCell_same w b 22 _ _ _ h]; rfl
theorem RgW.sLate {w : World} {b : Nat} {r : Rg} (h : RgW w b r) (v : Bool) : RgW (w.setCell ⟨b, 23, none⟩ (.bool v)) b { r with Late := v } := by
  unfold RgW at *; rw [heap_setCell_same w b 23 _ _ _ h]; rfl
end Go.Proofs.Ytedlfcmlchjjlaa
