/-  -/
import Derived.Test.YtofenjloieagaaaZT6
namespace Go.Proofs.Ytofenjloieagaaa
open Go.RowKit
set_option linter.unusedSimpArgs false
set_option linter.unusedVariables false
set_option maxRecDepth 100000

theorem byte_9 : byteAt17 firstL 9 254 = 191 := by decide +kernel
theorem byte_15 : byteAt17 firstL 15 254 = 187 := by decide +kernel
theorem byte_30 : byteAt17 firstL 30 254 = 191 := by decide +kernel
theorem byte_25 : byteAt17 firstL 25 252 = 187 := by decide +kernel
theorem down_25 : downAt firstL 25 = [2, 7] := by decide +kernel
theorem firstL_wf : ∀ x ∈ firstL, x.wf := by
  intro x hx
  simp only [firstL, List.mem_cons, List.not_mem_nil, or_false] at hx
  rcases hx with rfl | rfl | rfl <;> constructor <;> decide
theorem two_ints (W : World) (x y : Int) : NsAt (W.alloc (.cells #[.int .i64 x, .int .i64 y] 3)) (W.heap.size + 1) (some ⟨W.heap.size, 0, none⟩) [x, y] := by
  refine ⟨fun _ => ⟨_, 0, rfl, by simp, fun i hi => ?_⟩⟩
  have h2 : i = 0 ∨ i = 1 := by simp at hi; omega
  rcases h2 with rfl | rfl <;> (rw [World.cell?_alloc_at _ _ _ _ rfl]; rfl)

set_option maxHeartbeats 2000000 in
theorem lives17_any (w : World) : Calls Try.prog 4 #[] w fun e w' => e = .returned (.bool true) ∧ Below w.heap.size w w' := by
  have HF := Lib.hid (fun w => first_any w)
  have HY := Lib.hid (fun (w1 : World) (A : Option Addr) (t h v : Int) (hv : byteAt17 firstL t h = v) (hl : TsAt w1 w1.heap.size A firstL) (hh : 0 ≤ h ∧ h < 256) => (by
    have := byteAt_any w1 A 3 firstL t h hl firstL_wf ⟨by decide, by decide⟩ hh
    rw [hv] at this
    exact this : Calls Try.prog 20 #[.slice A 3 3, .int .i64 t, .int .u8 h] w1 fun e w' => e = .returned (.int .u8 v) ∧ Below w1.heap.size w1 w'))
  have HD := Lib.hid (fun (w1 : World) (A : Option Addr) (hl : TsAt w1 w1.heap.size A firstL) => (by
    have := downAt_any w1 A 3 firstL 25 hl firstL_wf ⟨by decide, by decide⟩
    rw [down_25] at this
    exact this : Calls Try.prog 16 #[.slice A 3 3, .int .i64 25] w1 fun e w' => ∃ v, e = .returned v ∧ w'.ownsRow w1.heap.size 3 1 v 2 (([2, 7] : List Int).map (Value.int .i64)) ∧ Below w1.heap.size w1 w'))
  have HI := Lib.hid (fun (w1 : World) (A A2 : Option Addr) (c c2 : Nat) (hx : NsAt w1 w1.heap.size A [2, 7]) (hy : NsAt w1 w1.heap.size A2 [2, 7]) => ints_any w1 A A2 c c2 [2, 7] [2, 7] hx hy (by decide))
  go_enter Try.func4, Try.ntmps4
  go_wp2_with fail
  refine (HF.out w).mono ?_
  rintro e w1 ⟨rfl, hl, hb⟩
  have HL1 := Lib.hid hl
  have HB1 := Lib.hid hb
  clear hl hb
  go_wp2_with fail
  refine (HY.out w1 _ 9 254 191 byte_9 HL1.out (by omega)).mono ?_
  rintro e w2 ⟨rfl, hb⟩
  have HL2 := Lib.hid (HL1.out.on hb hb.size)
  have HB2 := Lib.hid (HB1.out.trans (hb.mono HB1.out.size))
  clear hb HL1 HB1
  go_wp2_with fail
  refine (HY.out w2 _ 15 254 187 byte_15 HL2.out (by omega)).mono ?_
  rintro e w3 ⟨rfl, hb⟩
  have HL3 := Lib.hid (HL2.out.on hb hb.size)
  have HB3 := Lib.hid (HB2.out.trans (hb.mono HB2.out.size))
  clear hb HL2 HB2
  go_wp2_with fail
  refine (HY.out w3 _ 30 254 191 byte_30 HL3.out (by omega)).mono ?_
  rintro e w4 ⟨rfl, hb⟩
  have HL4 := Lib.hid (HL3.out.on hb hb.size)
  have HB4 := Lib.hid (HB3.out.trans (hb.mono HB3.out.size))
  clear hb HL3 HB3
  go_wp2_with fail
  refine (HY.out w4 _ 25 252 187 byte_25 HL4.out (by omega)).mono ?_
  rintro e w5 ⟨rfl, hb⟩
  have HL5 := Lib.hid (HL4.out.on hb hb.size)
  have HB5 := Lib.hid (HB4.out.trans (hb.mono HB4.out.size))
  clear hb HL4 HB4
  go_wp2_with fail
  refine (HD.out w5 _ HL5.out).mono ?_
  rintro e w6 ⟨v, rfl, hrow, hb⟩
  obtain ⟨A, c, rfl⟩ := row_shape hrow
  have HN6 := Lib.hid (NsAt.own (l := [2, 7]) hrow)
  have HB6 := Lib.hid (HB5.out.trans (hb.mono HB5.out.size))
  clear hb HL5 HB5 hrow
  go_wp2_with fail
  have HN7 := Lib.hid ((HN6.out.below ((Below.refl w6.heap.size w6).alloc (Nat.le_refl _) (.cells #[.int .i64 2, .int .i64 7] 3))).more (B' := (w6.alloc (.cells #[.int .i64 2, .int .i64 7] 3)).heap.size) (by simp))
  have HT := Lib.hid ((two_ints w6 2 7).more (B' := (w6.alloc (.cells #[.int .i64 2, .int .i64 7] 3)).heap.size) (by simp))
  have HB7 := Lib.hid (HB6.out.alloc HB6.out.size (.cells #[.int .i64 2, .int .i64 7] 3))
  refine (HI.out _ _ _ _ _ HN7.out HT.out).mono ?_
  rintro e w8 ⟨rfl, hb⟩
  have HB8 := Lib.hid (HB7.out.trans (hb.mono HB7.out.size))
  clear hb
  go_wp2_with fail
  go_ret
  exact ⟨rfl, HB8.out⟩
end Go.Proofs.Ytofenjloieagaaa
