
/- Registers (chapter 8): the plain mathematics. -/
import Derived.Test.YtedlfcmlchjjlaaW1
namespace Go.Proofs.Ytedlfcmlchjjlaa
open Go.RowKit
set_option linter.unusedVariables false

structure Rg where
  A : Int
  F : Int
  B : Int
  C : Int
  D : Int
  E : Int
  H : Int
  L : Int
  I : Int
  R : Int
  IX : Int
  IY : Int
  SP : Int
  PC : Int
  WZ : Int
  AF2 : Int
  BC2 : Int
  DE2 : Int
  HL2 : Int
  IFF1 : Bool
  IFF2 : Bool
  IM : Int
  Halt : Bool
  Late : Bool

def Rg.cells (r : Rg) : Array Value := #[.int .u8 r.A, .int .u8 r.F, .int .u8 r.B, .int .u8 r.C, .int .u8 r.D, .int .u8 r.E, .int .u8 r.H, .int .u8 r.L, .int .u8 r.I, .int .u8 r.R, .int .u16 r.IX, .int .u16 r.IY, .int .u16 r.SP, .int .u16 r.PC, .int .u16 r.WZ, .int .u16 r.AF2, .int .u16 r.BC2, .int .u16 r.DE2, .int .u16 r.HL2, .bool r.IFF1, .bool r.IFF2, .int .i64 r.IM, .bool r.Halt, .bool r.Late]
def Rg.val (r : Rg) : Value := .agg r.cells
def isB (x : Int) : Prop := 0 ≤ x ∧ x < 256
def isW (x : Int) : Prop := 0 ≤ x ∧ x < 65536
structure Rg.Ok (r : Rg) : Prop where
  A : isB r.A
  F : isB r.F
  B : isB r.B
  C : isB r.C
  D : isB r.D
  E : isB r.E
  H : isB r.H
  L : isB r.L
  I : isB r.I
  R : isB r.R
  IX : isW r.IX
  IY : isW r.IY
  SP : isW r.SP
  PC : isW r.PC
  WZ : isW r.WZ
  AF2 : isW r.AF2
  BC2 : isW r.BC2
  DE2 : isW r.DE2
  HL2 : isW r.HL2
  IM : (Lit.int .i64 r.IM).wf = true

def resetR : Rg := ⟨255, 255, 0, 0, 0, 0, 0, 0, 0, 0, 0, 0, 65535, 0, 0, 65535, 0, 0, 0, false, false, 0, false, false⟩
def Rg.May (r : Rg) : Prop := 0 ≤ r.IM ∧ r.IM ≤ 2
instance (r : Rg) : Decidable r.May := inferInstanceAs (Decidable (_ ∧ _))
def hlR (r : Rg) (i : Int) : Int := if i % 3 = 1 then r.IX else if i % 3 = 2 then r.IY else r.H * 256 + r.L
def setHl (r : Rg) (i x : Int) : Rg := if i % 3 = 1 then { r with IX := x } else if i % 3 = 2 then { r with IY := x } else { r with H := x / 256, L := x % 256 }
def pairR (r : Rg) (i c : Int) (st : Bool) : Int :=
  if c % 4 = 0 then r.B * 256 + r.C else if c % 4 = 1 then r.D * 256 + r.E else if c % 4 = 2 then hlR r i else if st = true then r.A * 256 + r.F else r.SP
def putPairR (r : Rg) (i c : Int) (st : Bool) (v : Int) : Rg :=
  if c % 4 = 0 then { r with B := v / 256, C := v % 256 } else if c % 4 = 1 then { r with D := v / 256, E := v % 256 } else if c % 4 = 2 then setHl r i v else if st = true then { r with A := v / 256, F := v % 256 } else { r with SP := v }
def getR (r : Rg) (i c : Int) : Int :=
  if c % 8 = 0 then r.B else if c % 8 = 1 then r.C else if c % 8 = 2 then r.D else if c % 8 = 3 then r.E else if c % 8 = 4 then hlR r i / 256 else if c % 8 = 5 then hlR r i % 256 else if c % 8 = 7 then r.A else 0
def putR (r : Rg) (i c v : Int) : Rg :=
  if c % 8 = 0 then { r with B := v } else if c % 8 = 1 then { r with C := v } else if c % 8 = 2 then { r with D := v } else if c % 8 = 3 then { r with E := v }
  else if c % 8 = 4 then setHl r i (v * 256 + hlR r i % 256) else if c % 8 = 5 then setHl r i (hlR r i / 256 * 256 + v) else if c % 8 = 7 then { r with A := v } else r
def condM (c : Int) : Int := if c % 8 / 2 = 0 then 64 else if c % 8 / 2 = 1 then 1 else if c % 8 / 2 = 2 then 4 else 128
def condR (f c : Int) : Bool := (bits .and .u8 f (condM c) != 0) == (c % 8 % 2 == 1)
def swapR (r : Rg) (k : Int) : Rg :=
  if k % 3 = 0 then { r with AF2 := r.A * 256 + r.F, A := r.AF2 / 256, F := r.AF2 % 256 }
  else if k % 3 = 1 then { r with BC2 := r.B * 256 + r.C, DE2 := r.D * 256 + r.E, HL2 := r.H * 256 + r.L, B := r.BC2 / 256, C := r.BC2 % 256, D := r.DE2 / 256, E := r.DE2 % 256, H := r.HL2 / 256, L := r.HL2 % 256 }
  else { r with D := r.H, E := r.L, H := r.D, L := r.E }
def refreshR (r : Rg) : Rg := { r with R := r.R / 128 * 128 + (r.R + 1) % 128 }

theorem hlR_in {r : Rg} (h : r.Ok) (i : Int) : isW (hlR r i) := by
  unfold hlR; repeat' split
  · exact h.IX
  · exact h.IY
  · have h1 := h.H; have h2 := h.L; unfold isB at h1 h2; unfold isW; omega
theorem setHl_ok {r : Rg} (h : r.Ok) (i x : Int) (hx : isW x) : (setHl r i x).Ok := by
  obtain ⟨x0, x1⟩ := hx
  unfold setHl; repeat' split
  · exact { h with IX := ⟨x0, x1⟩ }
  · exact { h with IY := ⟨x0, x1⟩ }
  · exact { h with H := ⟨by show 0 ≤ x / 256; omega, by show x / 256 < 256; omega⟩, L := ⟨by show 0 ≤ x % 256; omega, by show x % 256 < 256; omega⟩ }
theorem putPairR_ok {r : Rg} (h : r.Ok) (i c : Int) (st : Bool) (v : Int) (hv : isW v) : (putPairR r i c st v).Ok := by
  have hv' := hv
  obtain ⟨x0, x1⟩ := hv'
  have a : isB (v / 256) := ⟨by omega, by omega⟩
  have b : isB (v % 256) := ⟨by omega, by omega⟩
  unfold putPairR; repeat' split
  · exact { h with B := a, C := b }
  · exact { h with D := a, E := b }
  · exact setHl_ok h i v hv
  · exact { h with A := a, F := b }
  · exact { h with SP := hv }
theorem pairR_in {r : Rg} (h : r.Ok) (i c : Int) (st : Bool) : isW (pairR r i c st) := by
  have h1 := h.A; have h2 := h.F; have h3 := h.B; have h4 := h.C; have h5 := h.D; have h6 := h.E
  have h7 := h.SP; have h8 := hlR_in h i
  unfold isB at h1 h2 h3 h4 h5 h6
  unfold pairR; repeat' split
  all_goals first | exact h8 | exact h7 | (unfold isW; omega)
theorem putR_ok {r : Rg} (h : r.Ok) (i c v : Int) (hv : isB v) : (putR r i c v).Ok := by
  have hh := hlR_in h i
  have hv' := hv
  unfold isW at hh
  unfold isB at hv'
  unfold putR; repeat' split
  · exact { h with B := hv }
  · exact { h with C := hv }
  · exact { h with D := hv }
  · exact { h with E := hv }
  · exact setHl_ok h i _ (by unfold isW; omega)
  · exact setHl_ok h i _ (by unfold isW; omega)
  · exact { h with A := hv }
  · exact h
end Go.Proofs.Ytedlfcmlchjjlaa
