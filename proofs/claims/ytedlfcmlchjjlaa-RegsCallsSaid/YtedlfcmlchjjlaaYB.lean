
/- Registers, the code: Swap. -/
import Derived.Test.YtedlfcmlchjjlaaYA
namespace Go.Proofs.Ytedlfcmlchjjlaa
open Go.RowKit
set_option linter.unusedSimpArgs false
set_option linter.unusedVariables false
set_option maxRecDepth 100000

/-- What Swap holds: the registers, and what it will answer. -/
structure Two (w : World) (cs ds : Array Value) (w1 : World) : Prop where
  r : RowW w1 w.heap.size cs
  z : RowW w1 (w.heap.size + 1) ds
  b : Below w.heap.size w w1
theorem Two.more {w w1 w2 : World} {cs ds : Array Value} (h : Two w cs ds w1) (hb : Below w1.heap.size w1 w2) : Two w cs ds w2 :=
  ⟨h.r.below hb h.r.lt, h.z.below hb h.z.lt, h.b.trans (hb.mono h.b.size)⟩
theorem Two.turn {w w1 w2 : World} {cs ds es : Array Value} (h : Two w cs ds w1) (hr : RowW w2 w.heap.size es) (hs : Save (· = w.heap.size) w1 w2) : Two w es ds w2 :=
  ⟨hr, (hs.block _ h.z.lt (by omega)).trans h.z, h.b.trans (hs.below (B := w.heap.size) h.b.size (fun k hk => by omega))⟩
theorem Two.laid (w : World) (r : Rg) : Two w r.cells zeroR.cells (W2 w r) := ⟨W2_r w r, W2_z w r, W2_b w r⟩

set_option maxHeartbeats 4000000 in
theorem c8_swap (r : Rg) (hr : r.Ok) (k : Int) (w : World) (wk : (Lit.int .i64 k).wf = true) : Calls Try.prog 25 #[r.val, .int .i64 k] w fun e w' => e = .returned (swapR r k).val ∧ Below w.heap.size w w' := by
  have HM := Lib.hid (fun w => c8_mod_3 k w wk)
  obtain ⟨x, hx⟩ : ∃ x, swapR r k = x := ⟨_, rfl⟩
  rw [hx]
  unfold swapR at hx
  have hval : r.val = .agg #[.int .u8 r.A, .int .u8 r.F, .int .u8 r.B, .int .u8 r.C, .int .u8 r.D, .int .u8 r.E, .int .u8 r.H, .int .u8 r.L, .int .u8 r.I, .int .u8 r.R, .int .u16 r.IX, .int .u16 r.IY, .int .u16 r.SP, .int .u16 r.PC, .int .u16 r.WZ, .int .u16 r.AF2, .int .u16 r.BC2, .int .u16 r.DE2, .int .u16 r.HL2, .bool r.IFF1, .bool r.IFF2, .int .i64 r.IM, .bool r.Halt, .bool r.Late] := rfl
  rw [hval]
  clear hval
  have hn3 : k % 3 = 0 ∨ k % 3 = 1 ∨ k % 3 = 2 := by omega
  rcases hn3 with hn | hn | hn <;> rw [hn] at hx HM <;> clear hn
  · have HX := Lib.hid (show _ = x from hx)
    clear hx
    have HT := Lib.hid (Two.laid w r)
    go_enter Try.func25, Try.ntmps25
    go_wp2_with (first | (go_at_call 56; (with_reducible refine (HM.out _).mono ?_); rintro e w' ⟨rfl, rfl⟩))
    have hT := HT.out
    refine (c8_ofbytes w.heap.size 0 1 _).mono ?_
    rintro e w3 ⟨rfl, hb⟩
    have hT3 := hT.more hb
    clear hb hT
    go_wp2_with fail
    refine (c8_ofword w.heap.size 15 _).mono ?_
    rintro e w4 ⟨rfl, hb⟩
    have hT4 := hT3.more hb
    clear hb hT3
    go_wp2_with fail
    refine (c8_swap_cw w.heap.size 0 1 15 _ r.A r.F r.AF2 _ hT4.r (by decide) (by decide) (by decide) rfl rfl rfl hr.A hr.F hr.AF2).mono ?_
    rintro e w5 ⟨rfl, hR, hS⟩
    have hT5 := hT4.turn hR hS
    clear hR hS hT4
    have hT : Two w x.cells zeroR.cells w5 := by rw [← HX.out]; exact hT5
    clear hT5
    go_wp2_with (first
      | (refine wpList_load_row rfl 24 _ rfl w.heap.size rfl _ _ (0, 0) _ hT.r Try.underlying24 rfl (by kernel_rfl) ?_)
      | (refine wpList_store_row rfl 24 _ _ rfl (w.heap.size + 1) _ rfl rfl _ _ hT.z rg_info rfl (rg_one x) ?_))
    (try simp only [Exit.inBlock, Exit.then])
    exact bodyPost_ret (results_rg rfl _ _ _ x rfl (setRow_heap _ _ _ _ _ _ hT.z)) rfl ⟨rfl, below_setRow hT.b (by omega) _⟩
  · have HX := Lib.hid (show _ = x from hx)
    clear hx
    have HT := Lib.hid (Two.laid w r)
    go_enter Try.func25, Try.ntmps25
    go_wp2_with (first | (go_at_call 56; (with_reducible refine (HM.out _).mono ?_); rintro e w' ⟨rfl, rfl⟩))
    have hT := HT.out
    refine (c8_ofbytes w.heap.size 2 3 _).mono ?_
    rintro e w3 ⟨rfl, hb⟩
    have hT3 := hT.more hb
    clear hb hT
    go_wp2_with fail
    refine (c8_ofword w.heap.size 16 _).mono ?_
    rintro e w4 ⟨rfl, hb⟩
    have hT4 := hT3.more hb
    clear hb hT3
    go_wp2_with fail
    refine (c8_swap_cw w.heap.size 2 3 16 _ r.B r.C r.BC2 _ hT4.r (by decide) (by decide) (by decide) rfl rfl rfl hr.B hr.C hr.BC2).mono ?_
    rintro e w5 ⟨rfl, hR, hS⟩
    have hT5 := hT4.turn hR hS
    clear hR hS hT4
    obtain ⟨r1, h1⟩ : ∃ q, ({ r with BC2 := r.B * 256 + r.C, B := r.BC2 / 256, C := r.BC2 % 256 } : Rg) = q := ⟨_, rfl⟩
    replace hT5 : Two w r1.cells zeroR.cells w5 := by rw [← h1]; exact hT5
    go_wp2_with fail
    refine (c8_ofbytes w.heap.size 4 5 _).mono ?_
    rintro e w6 ⟨rfl, hb⟩
    have hT6 := hT5.more hb
    clear hb hT5
    go_wp2_with fail
    refine (c8_ofword w.heap.size 17 _).mono ?_
    rintro e w7 ⟨rfl, hb⟩
    have hT7 := hT6.more hb
    clear hb hT6
    go_wp2_with fail
    refine (c8_swap_cw w.heap.size 4 5 17 _ r.D r.E r.DE2 _ hT7.r (by decide) (by decide) (by decide) (by rw [← h1]; rfl) (by rw [← h1]; rfl) (by rw [← h1]; rfl) hr.D hr.E hr.DE2).mono ?_
    rintro e w8 ⟨rfl, hR, hS⟩
    have hT8 := hT7.turn hR hS
    clear hR hS hT7
    obtain ⟨r2, h2⟩ : ∃ q, ({ r1 with DE2 := r.D * 256 + r.E, D := r.DE2 / 256, E := r.DE2 % 256 } : Rg) = q := ⟨_, rfl⟩
    replace hT8 : Two w r2.cells zeroR.cells w8 := by rw [← h2]; exact hT8
    go_wp2_with fail
    refine (c8_ofbytes w.heap.size 6 7 _).mono ?_
    rintro e w9 ⟨rfl, hb⟩
    have hT9 := hT8.more hb
    clear hb hT8
    go_wp2_with fail
    refine (c8_ofword w.heap.size 18 _).mono ?_
    rintro e w10 ⟨rfl, hb⟩
    have hT10 := hT9.more hb
    clear hb hT9
    go_wp2_with fail
    refine (c8_swap_cw w.heap.size 6 7 18 _ r.H r.L r.HL2 _ hT10.r (by decide) (by decide) (by decide) (by rw [← h2, ← h1]; rfl) (by rw [← h2, ← h1]; rfl) (by rw [← h2, ← h1]; rfl) hr.H hr.L hr.HL2).mono ?_
    rintro e w11 ⟨rfl, hR, hS⟩
    have hT11 := hT10.turn hR hS
    clear hR hS hT10
    obtain ⟨r3, h3⟩ : ∃ q, ({ r2 with HL2 := r.H * 256 + r.L, H := r.HL2 / 256, L := r.HL2 % 256 } : Rg) = q := ⟨_, rfl⟩
    replace hT11 : Two w r3.cells zeroR.cells w11 := by rw [← h3]; exact hT11
    have h4 : r3 = x := by rw [← h3, ← h2, ← h1]; exact HX.out
    have hT : Two w x.cells zeroR.cells w11 := by rw [← h4]; exact hT11
    clear hT11
    go_wp2_with (first
      | (refine wpList_load_row rfl 24 _ rfl w.heap.size rfl _ _ (0, 0) _ hT.r Try.underlying24 rfl (by kernel_rfl) ?_)
      | (refine wpList_store_row rfl 24 _ _ rfl (w.heap.size + 1) _ rfl rfl _ _ hT.z rg_info rfl (rg_one x) ?_))
    (try simp only [Exit.inBlock, Exit.then])
    exact bodyPost_ret (results_rg rfl _ _ _ x rfl (setRow_heap _ _ _ _ _ _ hT.z)) rfl ⟨rfl, below_setRow hT.b (by omega) _⟩
  · have HX := Lib.hid (show _ = x from hx)
    clear hx
    have HT := Lib.hid (Two.laid w r)
    go_enter Try.func25, Try.ntmps25
    go_wp2_with (first | (go_at_call 56; (with_reducible refine (HM.out _).mono ?_); rintro e w' ⟨rfl, rfl⟩))
    have hT := HT.out
    refine (c8_ofbytes w.heap.size 4 5 _).mono ?_
    rintro e w3 ⟨rfl, hb⟩
    have hT3 := hT.more hb
    clear hb hT
    go_wp2_with fail
    refine (c8_ofbytes w.heap.size 6 7 _).mono ?_
    rintro e w4 ⟨rfl, hb⟩
    have hT4 := hT3.more hb
    clear hb hT3
    go_wp2_with fail
    refine (c8_swap_cc w.heap.size 4 5 6 7 _ r.D r.E r.H r.L _ hT4.r (by decide) (by decide) (by decide) (by decide) (by decide) (by decide) rfl rfl rfl rfl hr.D hr.E hr.H hr.L).mono ?_
    rintro e w5 ⟨rfl, hR, hS⟩
    have hT5 := hT4.turn hR hS
    clear hR hS hT4
    have hT : Two w x.cells zeroR.cells w5 := by rw [← HX.out]; exact hT5
    clear hT5
    go_wp2_with (first
      | (refine wpList_load_row rfl 24 _ rfl w.heap.size rfl _ _ (0, 0) _ hT.r Try.underlying24 rfl (by kernel_rfl) ?_)
      | (refine wpList_store_row rfl 24 _ _ rfl (w.heap.size + 1) _ rfl rfl _ _ hT.z rg_info rfl (rg_one x) ?_))
    (try simp only [Exit.inBlock, Exit.then])
    exact bodyPost_ret (results_rg rfl _ _ _ x rfl (setRow_heap _ _ _ _ _ _ hT.z)) rfl ⟨rfl, below_setRow hT.b (by omega) _⟩

end Go.Proofs.Ytedlfcmlchjjlaa
