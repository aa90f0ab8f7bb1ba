
/- Registers, the code: Text; the chapter's examples. -/
import Derived.Test.YtedlfcmlchjjlaaYH
import Derived.Test.YtedlfcmlchjjlaaYG
namespace Go.Proofs.Ytedlfcmlchjjlaa
open Go.RowKit
set_option linter.unusedSimpArgs false
set_option linter.unusedVariables false
set_option maxRecDepth 100000

def tl (l : List Int) (a b v : Int) : List Int := tellB l [a, b] v
theorem tl_len (l : List Int) (a b v : Int) : (tl l a b v).length ≤ l.length + 8 := by
  unfold tl tellB fourB
  split
  · next h => subst h; simp
  · simp
def textB (r : Rg) : List Int := if r.May then tl (tl (tl (tl (tl (tl (tl (tl [] 80 67 r.PC) 83 80 r.SP) 65 70 (r.A * 256 + r.F)) 66 67 (r.B * 256 + r.C)) 68 69 (r.D * 256 + r.E)) 72 76 (r.H * 256 + r.L)) 73 88 r.IX) 73 89 r.IY else []
theorem tell_tl (V B : Nat) (l : List Int) (a b : UInt8) (v : Int) (w : World) (hT : TellW w V B l) (hVB : V < B) (hB : B ≤ w.heap.size) (hl : l.length ≤ 100) (hv : isW v) :
    Calls Try.prog 62 #[.string { data := #[a, b] }, .int .u16 v, .pointer (some ⟨V, 0, none⟩)] w fun e w' => e = .returned (.tuple #[]) ∧ TellW w' V B (tl l a.toNat b.toNat v) ∧ Save (fun k => k = V ∨ B ≤ k) w w' :=
  tell_any V B l { data := #[a, b] } v w hT hVB hB rfl hl hv
/-- Text under way: the registers, what is told so far. -/
structure Telling (w : World) (r : Rg) (V : Nat) (l : List Int) (w1 : World) : Prop where
  r : RowW w1 w.heap.size r.cells
  t : TellW w1 V (V + 1) l
  b : Below w.heap.size w w1
  vb : w.heap.size < V
  vs : V < w1.heap.size
theorem Telling.turn {w w1 w2 : World} {r : Rg} {V : Nat} {l l2 : List Int} (h : Telling w r V l w1) (ht : TellW w2 V (V + 1) l2) (hs : Save (fun k => k = V ∨ V + 1 ≤ k) w1 w2) : Telling w r V l2 w2 := by
  have hv := h.vb
  exact ⟨(hs.block _ h.r.lt (by omega)).trans h.r, ht, h.b.trans (hs.below (B := w.heap.size) h.b.size (fun k hk => by omega)), hv, Nat.lt_of_lt_of_le h.vs hs.size⟩

theorem text_no (r : Rg) (hr : r.Ok) (hm : ¬ r.May) (w : World) : Calls Try.prog 29 #[r.val] w fun e w' => e = .returned (.string { data := #[] }) ∧ Below w.heap.size w w' := by
  have HC := Lib.hid (fun w => c8_check r w)
  rw [if_neg hm] at HC
  have HR := Lib.hid (RgW.laid w r)
  have hb0 : Below w.heap.size w (w.alloc (rgO r)) := (Below.refl _ _).alloc (Nat.le_refl _) _
  have hval : r.val = .agg #[.int .u8 r.A, .int .u8 r.F, .int .u8 r.B, .int .u8 r.C, .int .u8 r.D, .int .u8 r.E, .int .u8 r.H, .int .u8 r.L, .int .u8 r.I, .int .u8 r.R, .int .u16 r.IX, .int .u16 r.IY, .int .u16 r.SP, .int .u16 r.PC, .int .u16 r.WZ, .int .u16 r.AF2, .int .u16 r.BC2, .int .u16 r.DE2, .int .u16 r.HL2, .bool r.IFF1, .bool r.IFF2, .int .i64 r.IM, .bool r.Halt, .bool r.Late] := rfl
  rw [hval]
  clear hval
  go_enter Try.func29, Try.ntmps29
  go_wp2_with (refine wpList_load_row rfl 24 _ rfl w.heap.size rfl _ _ (0, 0) _ HR.out Try.underlying24 rfl (by kernel_rfl) ?_)
  refine (HC.out _).mono ?_
  rintro e w3 ⟨rfl, hb⟩
  go_wp2
  go_ret
  exact ⟨rfl, hb0.trans (hb.mono hb0.size)⟩

set_option maxHeartbeats 4000000 in
theorem text_may (r : Rg) (hr : r.Ok) (hm : r.May) (w : World) : Calls Try.prog 29 #[r.val] w fun e w' => e = .returned (.string (strOfNums (textB r))) ∧ Below w.heap.size w w' := by
  have HC := Lib.hid (fun w => c8_check r w)
  rw [if_pos hm] at HC
  have HX := Lib.hid (show textB r = tl (tl (tl (tl (tl (tl (tl (tl [] 80 67 r.PC) 83 80 r.SP) 65 70 (r.A * 256 + r.F)) 66 67 (r.B * 256 + r.C)) 68 69 (r.D * 256 + r.E)) 72 76 (r.H * 256 + r.L)) 73 88 r.IX) 73 89 r.IY by unfold textB; rw [if_pos hm])
  obtain ⟨X, hX⟩ : ∃ X, textB r = X := ⟨_, rfl⟩
  rw [hX] at HX ⊢
  clear hX hm
  have HR := Lib.hid (RgW.laid w r)
  have hb0 : Below w.heap.size w (w.alloc (rgO r)) := (Below.refl _ _).alloc (Nat.le_refl _) _
  obtain ⟨hA0, hA1⟩ := hr.A
  obtain ⟨hF0, hF1⟩ := hr.F
  obtain ⟨hB0, hB1⟩ := hr.B
  obtain ⟨hC0, hC1⟩ := hr.C
  obtain ⟨hD0, hD1⟩ := hr.D
  obtain ⟨hE0, hE1⟩ := hr.E
  obtain ⟨hH0, hH1⟩ := hr.H
  obtain ⟨hL0, hL1⟩ := hr.L
  have hval : r.val = .agg #[.int .u8 r.A, .int .u8 r.F, .int .u8 r.B, .int .u8 r.C, .int .u8 r.D, .int .u8 r.E, .int .u8 r.H, .int .u8 r.L, .int .u8 r.I, .int .u8 r.R, .int .u16 r.IX, .int .u16 r.IY, .int .u16 r.SP, .int .u16 r.PC, .int .u16 r.WZ, .int .u16 r.AF2, .int .u16 r.BC2, .int .u16 r.DE2, .int .u16 r.HL2, .bool r.IFF1, .bool r.IFF2, .int .i64 r.IM, .bool r.Halt, .bool r.Late] := rfl
  rw [hval]
  clear hval
  go_enter Try.func29, Try.ntmps29
  go_wp2_with (refine wpList_load_row rfl 24 _ rfl w.heap.size rfl _ _ (0, 0) _ HR.out Try.underlying24 rfl (by kernel_rfl) ?_)
  refine (HC.out _).mono ?_
  rintro e w3 ⟨rfl, hb⟩
  have hR3 : RowW w3 w.heap.size r.cells := RowW.below HR.out hb (by simp)
  have hB3 := hb0.trans (hb.mono hb0.size)
  clear hb hb0 HR
  obtain ⟨V, hV⟩ : ∃ V, w3.heap.size = V := ⟨_, rfl⟩
  have hba := (Below.refl w3.heap.size w3).alloc (Nat.le_refl _) (.cells #[.slice none 0 0] 25)
  have hT0 : Telling w r V [] (w3.alloc (.cells #[.slice none 0 0] 25)) := ⟨hR3.below hba hR3.lt, ⟨none, 0, by rw [← hV]; exact heap_alloc_new _ _, OB.nil _ _⟩, hB3.trans (hba.mono hB3.size), by have := hR3.lt; omega, by rw [← hV]; simp⟩
  obtain ⟨w4, hw4⟩ : ∃ w4, w3.alloc (.cells #[.slice none 0 0] 25) = w4 := ⟨_, rfl⟩
  rw [hw4] at hT0
  clear hba hR3 hB3
  have hl0 : ([] : List Int).length ≤ 0 := by simp
  have x0 := hT0.r.at_ 13 _ rfl
  simp only [Rg.cells] at x0
  go_wp2_with fail
  refine (tell_tl V (V + 1) [] 80 67 r.PC _ hT0.t (by omega) hT0.vs (by omega) hr.PC).mono ?_
  rintro e u1 ⟨rfl, ht, hs⟩
  have hT1 := hT0.turn ht hs
  clear ht hs hT0 x0
  have hl1 : (tl [] 80 67 r.PC).length ≤ 8 := by have := tl_len [] 80 67 r.PC; omega
  obtain ⟨L1, hL1⟩ : ∃ L1, tl [] 80 67 r.PC = L1 := ⟨_, rfl⟩
  rw [hL1] at HX hl1
  replace hT1 : Telling w r V L1 u1 := hL1 ▸ hT1
  clear hL1 hl0
  have x0 := hT1.r.at_ 12 _ rfl
  simp only [Rg.cells] at x0
  go_wp2_with fail
  refine (tell_tl V (V + 1) L1 83 80 r.SP _ hT1.t (by omega) hT1.vs (by omega) hr.SP).mono ?_
  rintro e u2 ⟨rfl, ht, hs⟩
  have hT2 := hT1.turn ht hs
  clear ht hs hT1 x0
  have hl2 : (tl L1 83 80 r.SP).length ≤ 16 := by have := tl_len L1 83 80 r.SP; omega
  obtain ⟨L2, hL2⟩ : ∃ L2, tl L1 83 80 r.SP = L2 := ⟨_, rfl⟩
  rw [hL2] at HX hl2
  replace hT2 : Telling w r V L2 u2 := hL2 ▸ hT2
  clear hL2 hl1
  have x0 := hT2.r.at_ 0 _ rfl
  have x1 := hT2.r.at_ 1 _ rfl
  simp only [Rg.cells] at x0 x1
  go_wp2_with (first | (go_at_call 63; (with_reducible refine (w7_pair _ _ _ hA0 hA1 hF0 hF1).mono ?_); rintro e w' ⟨rfl, rfl⟩))
  refine (tell_tl V (V + 1) L2 65 70 (r.A * 256 + r.F) _ hT2.t (by omega) hT2.vs (by omega) (by unfold isW; omega)).mono ?_
  rintro e u3 ⟨rfl, ht, hs⟩
  have hT3 := hT2.turn ht hs
  clear ht hs hT2 x0 x1
  have hl3 : (tl L2 65 70 (r.A * 256 + r.F)).length ≤ 24 := by have := tl_len L2 65 70 (r.A * 256 + r.F); omega
  obtain ⟨L3, hL3⟩ : ∃ L3, tl L2 65 70 (r.A * 256 + r.F) = L3 := ⟨_, rfl⟩
  rw [hL3] at HX hl3
  replace hT3 : Telling w r V L3 u3 := hL3 ▸ hT3
  clear hL3 hl2
  have x0 := hT3.r.at_ 2 _ rfl
  have x1 := hT3.r.at_ 3 _ rfl
  simp only [Rg.cells] at x0 x1
  go_wp2_with (first | (go_at_call 63; (with_reducible refine (w7_pair _ _ _ hB0 hB1 hC0 hC1).mono ?_); rintro e w' ⟨rfl, rfl⟩))
  refine (tell_tl V (V + 1) L3 66 67 (r.B * 256 + r.C) _ hT3.t (by omega) hT3.vs (by omega) (by unfold isW; omega)).mono ?_
  rintro e u4 ⟨rfl, ht, hs⟩
  have hT4 := hT3.turn ht hs
  clear ht hs hT3 x0 x1
  have hl4 : (tl L3 66 67 (r.B * 256 + r.C)).length ≤ 32 := by have := tl_len L3 66 67 (r.B * 256 + r.C); omega
  obtain ⟨L4, hL4⟩ : ∃ L4, tl L3 66 67 (r.B * 256 + r.C) = L4 := ⟨_, rfl⟩
  rw [hL4] at HX hl4
  replace hT4 : Telling w r V L4 u4 := hL4 ▸ hT4
  clear hL4 hl3
  have x0 := hT4.r.at_ 4 _ rfl
  have x1 := hT4.r.at_ 5 _ rfl
  simp only [Rg.cells] at x0 x1
  go_wp2_with (first | (go_at_call 63; (with_reducible refine (w7_pair _ _ _ hD0 hD1 hE0 hE1).mono ?_); rintro e w' ⟨rfl, rfl⟩))
  refine (tell_tl V (V + 1) L4 68 69 (r.D * 256 + r.E) _ hT4.t (by omega) hT4.vs (by omega) (by unfold isW; omega)).mono ?_
  rintro e u5 ⟨rfl, ht, hs⟩
  have hT5 := hT4.turn ht hs
  clear ht hs hT4 x0 x1
  have hl5 : (tl L4 68 69 (r.D * 256 + r.E)).length ≤ 40 := by have := tl_len L4 68 69 (r.D * 256 + r.E); omega
  obtain ⟨L5, hL5⟩ : ∃ L5, tl L4 68 69 (r.D * 256 + r.E) = L5 := ⟨_, rfl⟩
  rw [hL5] at HX hl5
  replace hT5 : Telling w r V L5 u5 := hL5 ▸ hT5
  clear hL5 hl4
  have x0 := hT5.r.at_ 6 _ rfl
  have x1 := hT5.r.at_ 7 _ rfl
  simp only [Rg.cells] at x0 x1
  go_wp2_with (first | (go_at_call 63; (with_reducible refine (w7_pair _ _ _ hH0 hH1 hL0 hL1).mono ?_); rintro e w' ⟨rfl, rfl⟩))
  refine (tell_tl V (V + 1) L5 72 76 (r.H * 256 + r.L) _ hT5.t (by omega) hT5.vs (by omega) (by unfold isW; omega)).mono ?_
  rintro e u6 ⟨rfl, ht, hs⟩
  have hT6 := hT5.turn ht hs
  clear ht hs hT5 x0 x1
  have hl6 : (tl L5 72 76 (r.H * 256 + r.L)).length ≤ 48 := by have := tl_len L5 72 76 (r.H * 256 + r.L); omega
  obtain ⟨L6, hL6⟩ : ∃ L6, tl L5 72 76 (r.H * 256 + r.L) = L6 := ⟨_, rfl⟩
  rw [hL6] at HX hl6
  replace hT6 : Telling w r V L6 u6 := hL6 ▸ hT6
  clear hL6 hl5
  have x0 := hT6.r.at_ 10 _ rfl
  simp only [Rg.cells] at x0
  go_wp2_with fail
  refine (tell_tl V (V + 1) L6 73 88 r.IX _ hT6.t (by omega) hT6.vs (by omega) hr.IX).mono ?_
  rintro e u7 ⟨rfl, ht, hs⟩
  have hT7 := hT6.turn ht hs
  clear ht hs hT6 x0
  have hl7 : (tl L6 73 88 r.IX).length ≤ 56 := by have := tl_len L6 73 88 r.IX; omega
  obtain ⟨L7, hL7⟩ : ∃ L7, tl L6 73 88 r.IX = L7 := ⟨_, rfl⟩
  rw [hL7] at HX hl7
  replace hT7 : Telling w r V L7 u7 := hL7 ▸ hT7
  clear hL7 hl6
  have x0 := hT7.r.at_ 11 _ rfl
  simp only [Rg.cells] at x0
  go_wp2_with fail
  refine (tell_tl V (V + 1) L7 73 89 r.IY _ hT7.t (by omega) hT7.vs (by omega) hr.IY).mono ?_
  rintro e u8 ⟨rfl, ht, hs⟩
  have hT8 := hT7.turn ht hs
  clear ht hs hT7 x0
  have hl8 : (tl L7 73 89 r.IY).length ≤ 64 := by have := tl_len L7 73 89 r.IY; omega
  obtain ⟨L8, hL8⟩ : ∃ L8, tl L7 73 89 r.IY = L8 := ⟨_, rfl⟩
  rw [hL8] at HX hl8
  replace hT8 : Telling w r V L8 u8 := hL8 ▸ hT8
  clear hL8 hl7
  obtain ⟨A, c, hV8, hO8⟩ := hT8.t
  have hB8 := hT8.b
  have x0 : u8.cell? ⟨V, 0, none⟩ = some (.slice A L8.length c) := (cell_of_row _ _ _ _ _ _ hV8).trans rfl
  have s1 := run_string_rb u8 _ A c L8 hO8.rb
  clear hT8 hV8 hO8
  go_wp2_with fail
  go_ret
  exact ⟨congrArg (fun z => Ending.returned (.string (strOfNums z))) HX.out.symm, hB8⟩

theorem c8_text (r : Rg) (hr : r.Ok) (w : World) : Calls Try.prog 29 #[r.val] w fun e w' => e = .returned (.string (strOfNums (textB r))) ∧ Below w.heap.size w w' := by
  by_cases hm : r.May
  · exact text_may r hr hm w
  · have : textB r = [] := by unfold textB; rw [if_neg hm]
    rw [this]
    exact text_no r hr hm w

end Go.Proofs.Ytedlfcmlchjjlaa
