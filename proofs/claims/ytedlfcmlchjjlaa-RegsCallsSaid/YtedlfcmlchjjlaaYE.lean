
/- Registers, the code: Get. -/
import Derived.Test.YtedlfcmlchjjlaaYD
namespace Go.Proofs.Ytedlfcmlchjjlaa
open Go.RowKit
set_option linter.unusedSimpArgs false
set_option linter.unusedVariables false
set_option maxRecDepth 100000

theorem idx8_0 (p0 p1 p2 p3 p4 p5 p6 p7 : Option Addr) (w : World) : (Instr.index 83 (.agg #[.pointer p0, .pointer p1, .pointer p2, .pointer p3, .pointer p4, .pointer p5, .pointer p6, .pointer p7]) (.int .i64 0)).run Try.prog w = .ok (.pointer p0) w := by kernel_rfl
theorem idx8_1 (p0 p1 p2 p3 p4 p5 p6 p7 : Option Addr) (w : World) : (Instr.index 83 (.agg #[.pointer p0, .pointer p1, .pointer p2, .pointer p3, .pointer p4, .pointer p5, .pointer p6, .pointer p7]) (.int .i64 1)).run Try.prog w = .ok (.pointer p1) w := by kernel_rfl
theorem idx8_2 (p0 p1 p2 p3 p4 p5 p6 p7 : Option Addr) (w : World) : (Instr.index 83 (.agg #[.pointer p0, .pointer p1, .pointer p2, .pointer p3, .pointer p4, .pointer p5, .pointer p6, .pointer p7]) (.int .i64 2)).run Try.prog w = .ok (.pointer p2) w := by kernel_rfl
theorem idx8_3 (p0 p1 p2 p3 p4 p5 p6 p7 : Option Addr) (w : World) : (Instr.index 83 (.agg #[.pointer p0, .pointer p1, .pointer p2, .pointer p3, .pointer p4, .pointer p5, .pointer p6, .pointer p7]) (.int .i64 3)).run Try.prog w = .ok (.pointer p3) w := by kernel_rfl
theorem idx8_4 (p0 p1 p2 p3 p4 p5 p6 p7 : Option Addr) (w : World) : (Instr.index 83 (.agg #[.pointer p0, .pointer p1, .pointer p2, .pointer p3, .pointer p4, .pointer p5, .pointer p6, .pointer p7]) (.int .i64 4)).run Try.prog w = .ok (.pointer p4) w := by kernel_rfl
theorem idx8_5 (p0 p1 p2 p3 p4 p5 p6 p7 : Option Addr) (w : World) : (Instr.index 83 (.agg #[.pointer p0, .pointer p1, .pointer p2, .pointer p3, .pointer p4, .pointer p5, .pointer p6, .pointer p7]) (.int .i64 5)).run Try.prog w = .ok (.pointer p5) w := by kernel_rfl
theorem idx8_6 (p0 p1 p2 p3 p4 p5 p6 p7 : Option Addr) (w : World) : (Instr.index 83 (.agg #[.pointer p0, .pointer p1, .pointer p2, .pointer p3, .pointer p4, .pointer p5, .pointer p6, .pointer p7]) (.int .i64 6)).run Try.prog w = .ok (.pointer p6) w := by kernel_rfl
theorem idx8_7 (p0 p1 p2 p3 p4 p5 p6 p7 : Option Addr) (w : World) : (Instr.index 83 (.agg #[.pointer p0, .pointer p1, .pointer p2, .pointer p3, .pointer p4, .pointer p5, .pointer p6, .pointer p7]) (.int .i64 7)).run Try.prog w = .ok (.pointer p7) w := by kernel_rfl

/-- Where the index's bytes are, and what they hold. -/
structure HL (w : World) (r : Rg) (i : Int) (P Q : Addr) : Prop where
  p : w.cell? P = some (.int .u8 (hlR r i / 256))
  q : w.cell? Q = some (.int .u8 (hlR r i % 256))
  pb : P.block < w.heap.size
  qb : Q.block < w.heap.size
theorem HL.more {w w' : World} {r : Rg} {i : Int} {P Q : Addr} (h : HL w r i P Q) (hb : Below w.heap.size w w') : HL w' r i P Q :=
  ⟨(hb.cell h.pb).trans h.p, (hb.cell h.qb).trans h.q, by have := h.pb; have := hb.size; omega, by have := h.qb; have := hb.size; omega⟩
theorem c8_halves_get (b : Nat) (i : Int) (r : Rg) (hr : r.Ok) (w : World) (wi : (Lit.int .i64 i).wf = true) (hR : RowW w b r.cells) :
    Calls Try.prog 54 #[.pointer (some ⟨b, 0, none⟩), .int .i64 i] w fun e w' => ∃ P Q J, e = .returned (.tuple #[.agg #[.pointer (some P), .pointer (some Q)], J]) ∧ HL w' r i P Q ∧ Below w.heap.size w w' := by
  have hj3 : i % 3 = 0 ∨ i % 3 = 1 ∨ i % 3 = 2 := by omega
  rcases hj3 with hj | hj | hj
  · refine (c8_halves_0 b i w wi hj).mono ?_
    rintro e w' ⟨rfl, hb⟩
    have h1 := hR.below hb hR.lt
    have e0 : hlR r i = r.H * 256 + r.L := by unfold hlR; simp [hj]
    have k1 := hr.H
    have k2 := hr.L
    unfold isB at k1 k2
    exact ⟨_, _, _, rfl, ⟨h1.at_ 6 _ (by rw [e0, show (r.H * 256 + r.L) / 256 = r.H by omega]; rfl), h1.at_ 7 _ (by rw [e0, show (r.H * 256 + r.L) % 256 = r.L by omega]; rfl), h1.lt, h1.lt⟩, hb⟩
  · refine (c8_halves_1 b i r.cells r.IX w wi hj hR rfl hr.IX).mono ?_
    rintro e w' ⟨H, L, W, rfl, h⟩
    have e0 : hlR r i = r.IX := by unfold hlR; simp [hj]
    exact ⟨_, _, _, rfl, ⟨by rw [e0, cell_of_row _ _ _ _ _ _ h.h]; rfl, by rw [e0, cell_of_row _ _ _ _ _ _ h.l]; rfl, (Array.getElem?_eq_some_iff.1 h.h).1, (Array.getElem?_eq_some_iff.1 h.l).1⟩, h.b⟩
  · refine (c8_halves_2 b i r.cells r.IY w wi hj hR rfl hr.IY).mono ?_
    rintro e w' ⟨H, L, W, rfl, h⟩
    have e0 : hlR r i = r.IY := by unfold hlR; simp [hj]
    exact ⟨_, _, _, rfl, ⟨by rw [e0, cell_of_row _ _ _ _ _ _ h.h]; rfl, by rw [e0, cell_of_row _ _ _ _ _ _ h.l]; rfl, (Array.getElem?_eq_some_iff.1 h.h).1, (Array.getElem?_eq_some_iff.1 h.l).1⟩, h.b⟩

set_option maxHeartbeats 4000000 in
theorem c8_get (r : Rg) (hr : r.Ok) (i c : Int) (w : World) (wi : (Lit.int .i64 i).wf = true) (wc : (Lit.int .i64 c).wf = true) : Calls Try.prog 15 #[r.val, .int .i64 i, .int .i64 c] w fun e w' => e = .returned (.int .u8 (getR r i c)) ∧ Below w.heap.size w w' := by
  have HM := Lib.hid (fun w => c8_mod_8 c w wc)
  have hR := RgW.laid w r
  have hb0 : Below w.heap.size w (w.alloc (rgO r)) := (Below.refl _ _).alloc (Nat.le_refl _) _
  obtain ⟨x, hx⟩ : ∃ x, getR r i c = x := ⟨_, rfl⟩
  rw [hx]
  unfold getR at hx
  have hval : r.val = .agg #[.int .u8 r.A, .int .u8 r.F, .int .u8 r.B, .int .u8 r.C, .int .u8 r.D, .int .u8 r.E, .int .u8 r.H, .int .u8 r.L, .int .u8 r.I, .int .u8 r.R, .int .u16 r.IX, .int .u16 r.IY, .int .u16 r.SP, .int .u16 r.PC, .int .u16 r.WZ, .int .u16 r.AF2, .int .u16 r.BC2, .int .u16 r.DE2, .int .u16 r.HL2, .bool r.IFF1, .bool r.IFF2, .int .i64 r.IM, .bool r.Halt, .bool r.Late] := rfl
  rw [hval]
  clear hval
  have HR := Lib.hid (show RowW (w.alloc (rgO r)) w.heap.size r.cells from hR)
  clear hR
  go_enter Try.func15, Try.ntmps15
  go_wp2_with fail
  refine (c8_halves_get w.heap.size i r hr _ wi HR.out).mono ?_
  rintro e w3 ⟨P, Q, J, rfl, hH3, hb⟩
  have hR3 := HR.out.below hb HR.out.lt
  have hB3 := hb0.trans (hb.mono hb0.size)
  clear hb hb0 HR
  have hb := (Below.refl w3.heap.size w3).alloc (Nat.le_refl _) (.cells #[.pointer (some P), .pointer (some Q)] 80)
  have HH4 := Lib.hid (hH3.more hb)
  have HR4 := Lib.hid (hR3.below hb hR3.lt)
  have HB4 := Lib.hid (hB3.trans (hb.mono hB3.size))
  clear hb hH3 hR3 hB3
  go_wp2_with fail
  refine (c8_bycode w.heap.size P Q _).mono ?_
  rintro e w5 ⟨⟨N, rfl, hN, hN5⟩, hb⟩
  have hH5 := HH4.out.more hb
  have hR5 := HR4.out.below hb HR4.out.lt
  have HB5 := Lib.hid (HB4.out.trans (hb.mono HB4.out.size))
  clear hb HH4 HR4 HB4
  have hk8 : c % 8 = 0 ∨ c % 8 = 1 ∨ c % 8 = 2 ∨ c % 8 = 3 ∨ c % 8 = 4 ∨ c % 8 = 5 ∨ c % 8 = 6 ∨ c % 8 = 7 := by omega
  rcases hk8 with hk | hk | hk | hk | hk | hk | hk | hk <;> rw [hk] at hx HM <;> clear hk
  · have HX := Lib.hid (show _ = x from hx)
    have hf := hR5.at_ 2 (.int .u8 r.B) rfl
    have hI := fun w' => idx8_0 (some ⟨w.heap.size, 2, none⟩) (some ⟨w.heap.size, 3, none⟩) (some ⟨w.heap.size, 4, none⟩) (some ⟨w.heap.size, 5, none⟩) (some P) (some Q) (some ⟨N, 0, none⟩) (some ⟨w.heap.size, 0, none⟩) w'
    clear hx hR5 hH5 hN5
    go_wp2_with (first | (go_at_call 56; (with_reducible refine (HM.out _).mono ?_); rintro e w' ⟨rfl, rfl⟩))
    go_ret
    exact ⟨congrArg (fun z => Ending.returned (.int .u8 z)) HX.out, HB5.out⟩
  · have HX := Lib.hid (show _ = x from hx)
    have hf := hR5.at_ 3 (.int .u8 r.C) rfl
    have hI := fun w' => idx8_1 (some ⟨w.heap.size, 2, none⟩) (some ⟨w.heap.size, 3, none⟩) (some ⟨w.heap.size, 4, none⟩) (some ⟨w.heap.size, 5, none⟩) (some P) (some Q) (some ⟨N, 0, none⟩) (some ⟨w.heap.size, 0, none⟩) w'
    clear hx hR5 hH5 hN5
    go_wp2_with (first | (go_at_call 56; (with_reducible refine (HM.out _).mono ?_); rintro e w' ⟨rfl, rfl⟩))
    go_ret
    exact ⟨congrArg (fun z => Ending.returned (.int .u8 z)) HX.out, HB5.out⟩
  · have HX := Lib.hid (show _ = x from hx)
    have hf := hR5.at_ 4 (.int .u8 r.D) rfl
    have hI := fun w' => idx8_2 (some ⟨w.heap.size, 2, none⟩) (some ⟨w.heap.size, 3, none⟩) (some ⟨w.heap.size, 4, none⟩) (some ⟨w.heap.size, 5, none⟩) (some P) (some Q) (some ⟨N, 0, none⟩) (some ⟨w.heap.size, 0, none⟩) w'
    clear hx hR5 hH5 hN5
    go_wp2_with (first | (go_at_call 56; (with_reducible refine (HM.out _).mono ?_); rintro e w' ⟨rfl, rfl⟩))
    go_ret
    exact ⟨congrArg (fun z => Ending.returned (.int .u8 z)) HX.out, HB5.out⟩
  · have HX := Lib.hid (show _ = x from hx)
    have hf := hR5.at_ 5 (.int .u8 r.E) rfl
    have hI := fun w' => idx8_3 (some ⟨w.heap.size, 2, none⟩) (some ⟨w.heap.size, 3, none⟩) (some ⟨w.heap.size, 4, none⟩) (some ⟨w.heap.size, 5, none⟩) (some P) (some Q) (some ⟨N, 0, none⟩) (some ⟨w.heap.size, 0, none⟩) w'
    clear hx hR5 hH5 hN5
    go_wp2_with (first | (go_at_call 56; (with_reducible refine (HM.out _).mono ?_); rintro e w' ⟨rfl, rfl⟩))
    go_ret
    exact ⟨congrArg (fun z => Ending.returned (.int .u8 z)) HX.out, HB5.out⟩
  · have HX := Lib.hid (show _ = x from hx)
    have hf := hH5.p
    have hI := fun w' => idx8_4 (some ⟨w.heap.size, 2, none⟩) (some ⟨w.heap.size, 3, none⟩) (some ⟨w.heap.size, 4, none⟩) (some ⟨w.heap.size, 5, none⟩) (some P) (some Q) (some ⟨N, 0, none⟩) (some ⟨w.heap.size, 0, none⟩) w'
    clear hx hR5 hH5 hN5
    go_wp2_with (first | (go_at_call 56; (with_reducible refine (HM.out _).mono ?_); rintro e w' ⟨rfl, rfl⟩))
    go_ret
    exact ⟨congrArg (fun z => Ending.returned (.int .u8 z)) HX.out, HB5.out⟩
  · have HX := Lib.hid (show _ = x from hx)
    have hf := hH5.q
    have hI := fun w' => idx8_5 (some ⟨w.heap.size, 2, none⟩) (some ⟨w.heap.size, 3, none⟩) (some ⟨w.heap.size, 4, none⟩) (some ⟨w.heap.size, 5, none⟩) (some P) (some Q) (some ⟨N, 0, none⟩) (some ⟨w.heap.size, 0, none⟩) w'
    clear hx hR5 hH5 hN5
    go_wp2_with (first | (go_at_call 56; (with_reducible refine (HM.out _).mono ?_); rintro e w' ⟨rfl, rfl⟩))
    go_ret
    exact ⟨congrArg (fun z => Ending.returned (.int .u8 z)) HX.out, HB5.out⟩
  · have HX := Lib.hid (show _ = x from hx)
    have hf := (show w5.cell? ⟨N, 0, none⟩ = some (.int .u8 0) by rw [cell_of_row _ _ _ _ _ _ hN5]; rfl)
    have hI := fun w' => idx8_6 (some ⟨w.heap.size, 2, none⟩) (some ⟨w.heap.size, 3, none⟩) (some ⟨w.heap.size, 4, none⟩) (some ⟨w.heap.size, 5, none⟩) (some P) (some Q) (some ⟨N, 0, none⟩) (some ⟨w.heap.size, 0, none⟩) w'
    clear hx hR5 hH5 hN5
    go_wp2_with (first | (go_at_call 56; (with_reducible refine (HM.out _).mono ?_); rintro e w' ⟨rfl, rfl⟩))
    go_ret
    exact ⟨congrArg (fun z => Ending.returned (.int .u8 z)) HX.out, HB5.out⟩
  · have HX := Lib.hid (show _ = x from hx)
    have hf := hR5.at_ 0 (.int .u8 r.A) rfl
    have hI := fun w' => idx8_7 (some ⟨w.heap.size, 2, none⟩) (some ⟨w.heap.size, 3, none⟩) (some ⟨w.heap.size, 4, none⟩) (some ⟨w.heap.size, 5, none⟩) (some P) (some Q) (some ⟨N, 0, none⟩) (some ⟨w.heap.size, 0, none⟩) w'
    clear hx hR5 hH5 hN5
    go_wp2_with (first | (go_at_call 56; (with_reducible refine (HM.out _).mono ?_); rintro e w' ⟨rfl, rfl⟩))
    go_ret
    exact ⟨congrArg (fun z => Ending.returned (.int .u8 z)) HX.out, HB5.out⟩

end Go.Proofs.Ytedlfcmlchjjlaa
