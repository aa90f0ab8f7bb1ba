
/- Registers, the code: the index's pair, Pair, PutPair. -/
import Derived.Test.YtedlfcmlchjjlaaY8
import Derived.Test.YtedlfcmlchjjlaaY5
namespace Go.Proofs.Ytedlfcmlchjjlaa
open Go.RowKit
set_option linter.unusedSimpArgs false
set_option linter.unusedVariables false
set_option maxRecDepth 100000

theorem pair_field0 (f g : Fn) (a b c d : Array Value) (w : World) : (Instr.field 88 (.agg #[.func f a b, .func g c d]) 0).run Try.prog w = .ok (.func f a b) w := by kernel_rfl
theorem pair_field1 (f g : Fn) (a b c d : Array Value) (w : World) : (Instr.field 88 (.agg #[.func f a b, .func g c d]) 1).run Try.prog w = .ok (.func g c d) w := by kernel_rfl

set_option maxHeartbeats 1000000 in
theorem c8_pairof_20 (b : Nat) (i c : Int) (st : Bool) (w : World) (wi : (Lit.int .i64 i).wf = true) (hi : i % 3 = 0) (wf : (Lit.int .i64 c).wf = true) (hv : c % 4 = 2) : Calls Try.prog 58 #[.pointer (some ⟨b, 0, none⟩), .int .i64 i, .int .i64 c, .bool st] w fun e w' => e = .returned (cpV b 6 7) ∧ Below w.heap.size w w' := by
  have HM := Lib.hid (fun w => hv ▸ c8_mod_4 c w wf)
  have HI := Lib.hid (fun w => c8_indexof_0 b i w wi hi)
  clear hv wf hi wi
  have HP := Lib.hid (show PairAt w w.heap.size (w.alloc pairO) from ⟨heap_alloc_new _ _, (Below.refl _ _).alloc (Nat.le_refl _) _⟩)
  obtain ⟨w1, hw1⟩ : ∃ w1, w.alloc pairO = w1 := ⟨_, rfl⟩
  rw [hw1] at HP
  go_enter Try.func58, Try.ntmps58
  go_wp2_with (first | (go_at_call 56; (with_reducible refine (HM.out _).mono ?_); rintro e w' ⟨rfl, rfl⟩))
  refine (HI.out _).mono ?_
  rintro e w3 ⟨rfl, hb⟩
  have hP3 := HP.out.more hb
  clear hb
  have c0 : w3.cell? ⟨w.heap.size, 0, none⟩ = some .nilFunc := by rw [cell_of_row _ _ _ _ _ _ hP3.row]; rfl
  have c1 : w3.cell? ⟨w.heap.size, 1, none⟩ = some .nilFunc := by rw [cell_of_row _ _ _ _ _ _ hP3.row]; rfl
  go_wp2_with (refine wpList_store_row rfl 88 _ _ rfl w.heap.size _ rfl rfl _ _ hP3.row pair_info rfl (by rw [List.all_toArray]; rfl) ?_)
  (try simp only [Exit.inBlock, Exit.then])
  exact bodyPost_ret (results_pair rfl _ _ _ _ _ rfl (setRow_heap _ _ _ _ _ _ hP3.row)) rfl ⟨rfl, below_setRow hP3.below (Nat.le_refl _) _⟩

set_option maxHeartbeats 1000000 in
theorem c8_pairof_21 (b : Nat) (i c : Int) (st : Bool) (w : World) (wi : (Lit.int .i64 i).wf = true) (hi : i % 3 = 1) (wf : (Lit.int .i64 c).wf = true) (hv : c % 4 = 2) : Calls Try.prog 58 #[.pointer (some ⟨b, 0, none⟩), .int .i64 i, .int .i64 c, .bool st] w fun e w' => e = .returned (wdV b 10) ∧ Below w.heap.size w w' := by
  have HM := Lib.hid (fun w => hv ▸ c8_mod_4 c w wf)
  have HI := Lib.hid (fun w => c8_indexof_1 b i w wi hi)
  clear hv wf hi wi
  have HP := Lib.hid (show PairAt w w.heap.size (w.alloc pairO) from ⟨heap_alloc_new _ _, (Below.refl _ _).alloc (Nat.le_refl _) _⟩)
  obtain ⟨w1, hw1⟩ : ∃ w1, w.alloc pairO = w1 := ⟨_, rfl⟩
  rw [hw1] at HP
  go_enter Try.func58, Try.ntmps58
  go_wp2_with (first | (go_at_call 56; (with_reducible refine (HM.out _).mono ?_); rintro e w' ⟨rfl, rfl⟩))
  refine (HI.out _).mono ?_
  rintro e w3 ⟨rfl, hb⟩
  have hP3 := HP.out.more hb
  clear hb
  have c0 : w3.cell? ⟨w.heap.size, 0, none⟩ = some .nilFunc := by rw [cell_of_row _ _ _ _ _ _ hP3.row]; rfl
  have c1 : w3.cell? ⟨w.heap.size, 1, none⟩ = some .nilFunc := by rw [cell_of_row _ _ _ _ _ _ hP3.row]; rfl
  go_wp2_with (refine wpList_store_row rfl 88 _ _ rfl w.heap.size _ rfl rfl _ _ hP3.row pair_info rfl (by rw [List.all_toArray]; rfl) ?_)
  (try simp only [Exit.inBlock, Exit.then])
  exact bodyPost_ret (results_pair rfl _ _ _ _ _ rfl (setRow_heap _ _ _ _ _ _ hP3.row)) rfl ⟨rfl, below_setRow hP3.below (Nat.le_refl _) _⟩

set_option maxHeartbeats 1000000 in
theorem c8_pairof_22 (b : Nat) (i c : Int) (st : Bool) (w : World) (wi : (Lit.int .i64 i).wf = true) (hi : i % 3 = 2) (wf : (Lit.int .i64 c).wf = true) (hv : c % 4 = 2) : Calls Try.prog 58 #[.pointer (some ⟨b, 0, none⟩), .int .i64 i, .int .i64 c, .bool st] w fun e w' => e = .returned (wdV b 11) ∧ Below w.heap.size w w' := by
  have HM := Lib.hid (fun w => hv ▸ c8_mod_4 c w wf)
  have HI := Lib.hid (fun w => c8_indexof_2 b i w wi hi)
  clear hv wf hi wi
  have HP := Lib.hid (show PairAt w w.heap.size (w.alloc pairO) from ⟨heap_alloc_new _ _, (Below.refl _ _).alloc (Nat.le_refl _) _⟩)
  obtain ⟨w1, hw1⟩ : ∃ w1, w.alloc pairO = w1 := ⟨_, rfl⟩
  rw [hw1] at HP
  go_enter Try.func58, Try.ntmps58
  go_wp2_with (first | (go_at_call 56; (with_reducible refine (HM.out _).mono ?_); rintro e w' ⟨rfl, rfl⟩))
  refine (HI.out _).mono ?_
  rintro e w3 ⟨rfl, hb⟩
  have hP3 := HP.out.more hb
  clear hb
  have c0 : w3.cell? ⟨w.heap.size, 0, none⟩ = some .nilFunc := by rw [cell_of_row _ _ _ _ _ _ hP3.row]; rfl
  have c1 : w3.cell? ⟨w.heap.size, 1, none⟩ = some .nilFunc := by rw [cell_of_row _ _ _ _ _ _ hP3.row]; rfl
  go_wp2_with (refine wpList_store_row rfl 88 _ _ rfl w.heap.size _ rfl rfl _ _ hP3.row pair_info rfl (by rw [List.all_toArray]; rfl) ?_)
  (try simp only [Exit.inBlock, Exit.then])
  exact bodyPost_ret (results_pair rfl _ _ _ _ _ rfl (setRow_heap _ _ _ _ _ _ hP3.row)) rfl ⟨rfl, below_setRow hP3.below (Nat.le_refl _) _⟩

set_option maxHeartbeats 4000000 in
theorem c8_pair (r : Rg) (hr : r.Ok) (i c : Int) (st : Bool) (w : World) (wi : (Lit.int .i64 i).wf = true) (wc : (Lit.int .i64 c).wf = true) : Calls Try.prog 19 #[r.val, .int .i64 i, .int .i64 c, .bool st] w fun e w' => e = .returned (.int .u16 (pairR r i c st)) ∧ Below w.heap.size w w' := by
  obtain ⟨x, hx⟩ : ∃ x, pairR r i c st = x := ⟨_, rfl⟩
  rw [hx]
  unfold pairR at hx
  have hval : r.val = .agg #[.int .u8 r.A, .int .u8 r.F, .int .u8 r.B, .int .u8 r.C, .int .u8 r.D, .int .u8 r.E, .int .u8 r.H, .int .u8 r.L, .int .u8 r.I, .int .u8 r.R, .int .u16 r.IX, .int .u16 r.IY, .int .u16 r.SP, .int .u16 r.PC, .int .u16 r.WZ, .int .u16 r.AF2, .int .u16 r.BC2, .int .u16 r.DE2, .int .u16 r.HL2, .bool r.IFF1, .bool r.IFF2, .int .i64 r.IM, .bool r.Halt, .bool r.Late] := rfl
  rw [hval]
  clear hval
  have hn4 : c % 4 = 0 ∨ c % 4 = 1 ∨ c % 4 = 2 ∨ c % 4 = 3 := by omega
  rcases hn4 with hn | hn | hn | hn <;> rw [hn] at hx
  · have HX := Lib.hid (show _ = x from hx)
    clear hx
    have HC := Lib.hid (fun w' => c8_pairof_0 w.heap.size i c st w' wc hn)
    have HR := Lib.hid (show RowW (w.alloc (rgO r)) w.heap.size r.cells from RgW.laid w r)
    go_enter Try.func19, Try.ntmps19
    go_wp2_with fail
    refine (HC.out _).mono ?_
    rintro e w3 ⟨rfl, hb⟩
    have hR3 : RowW w3 w.heap.size r.cells := HR.out.below hb (by simp)
    have hB3 : Below w.heap.size w w3 := ((Below.refl _ _).alloc (Nat.le_refl _) _).trans (hb.mono (by simp))
    clear hb
    unfold cpV
    have hF := fun f g a b c d w => pair_field0 f g a b c d w
    go_wp2_with fail
    clear hF
    refine (c8_cget w.heap.size 2 3 r.cells r.B r.C w3 hR3 rfl rfl hr.B.1 hr.B.2 hr.C.1 hr.C.2).mono ?_
    rintro e w4 ⟨rfl, hb4⟩
    go_wp2
    go_ret
    exact ⟨congrArg (fun z => Ending.returned (.int .u16 z)) HX.out, hB3.trans (hb4.mono hB3.size)⟩
  · have HX := Lib.hid (show _ = x from hx)
    clear hx
    have HC := Lib.hid (fun w' => c8_pairof_1 w.heap.size i c st w' wc hn)
    have HR := Lib.hid (show RowW (w.alloc (rgO r)) w.heap.size r.cells from RgW.laid w r)
    go_enter Try.func19, Try.ntmps19
    go_wp2_with fail
    refine (HC.out _).mono ?_
    rintro e w3 ⟨rfl, hb⟩
    have hR3 : RowW w3 w.heap.size r.cells := HR.out.below hb (by simp)
    have hB3 : Below w.heap.size w w3 := ((Below.refl _ _).alloc (Nat.le_refl _) _).trans (hb.mono (by simp))
    clear hb
    unfold cpV
    have hF := fun f g a b c d w => pair_field0 f g a b c d w
    go_wp2_with fail
    clear hF
    refine (c8_cget w.heap.size 4 5 r.cells r.D r.E w3 hR3 rfl rfl hr.D.1 hr.D.2 hr.E.1 hr.E.2).mono ?_
    rintro e w4 ⟨rfl, hb4⟩
    go_wp2
    go_ret
    exact ⟨congrArg (fun z => Ending.returned (.int .u16 z)) HX.out, hB3.trans (hb4.mono hB3.size)⟩
  · unfold hlR at hx
    have hj3 : i % 3 = 0 ∨ i % 3 = 1 ∨ i % 3 = 2 := by omega
    rcases hj3 with hj | hj | hj <;> rw [hj] at hx
    · have HX := Lib.hid (show _ = x from hx)
      clear hx
      have HC := Lib.hid (fun w' => c8_pairof_20 w.heap.size i c st w' wi hj wc hn)
      have HR := Lib.hid (show RowW (w.alloc (rgO r)) w.heap.size r.cells from RgW.laid w r)
      go_enter Try.func19, Try.ntmps19
      go_wp2_with fail
      refine (HC.out _).mono ?_
      rintro e w3 ⟨rfl, hb⟩
      have hR3 : RowW w3 w.heap.size r.cells := HR.out.below hb (by simp)
      have hB3 : Below w.heap.size w w3 := ((Below.refl _ _).alloc (Nat.le_refl _) _).trans (hb.mono (by simp))
      clear hb
      unfold cpV
      have hF := fun f g a b c d w => pair_field0 f g a b c d w
      go_wp2_with fail
      clear hF
      refine (c8_cget w.heap.size 6 7 r.cells r.H r.L w3 hR3 rfl rfl hr.H.1 hr.H.2 hr.L.1 hr.L.2).mono ?_
      rintro e w4 ⟨rfl, hb4⟩
      go_wp2
      go_ret
      exact ⟨congrArg (fun z => Ending.returned (.int .u16 z)) HX.out, hB3.trans (hb4.mono hB3.size)⟩
    · have HX := Lib.hid (show _ = x from hx)
      clear hx
      have HC := Lib.hid (fun w' => c8_pairof_21 w.heap.size i c st w' wi hj wc hn)
      have HR := Lib.hid (show RowW (w.alloc (rgO r)) w.heap.size r.cells from RgW.laid w r)
      go_enter Try.func19, Try.ntmps19
      go_wp2_with fail
      refine (HC.out _).mono ?_
      rintro e w3 ⟨rfl, hb⟩
      have hR3 : RowW w3 w.heap.size r.cells := HR.out.below hb (by simp)
      have hB3 : Below w.heap.size w w3 := ((Below.refl _ _).alloc (Nat.le_refl _) _).trans (hb.mono (by simp))
      clear hb
      unfold wdV
      have hF := fun f g a b c d w => pair_field0 f g a b c d w
      go_wp2_with fail
      clear hF
      refine (c8_wget w.heap.size 10 r.cells r.IX w3 hR3 rfl).mono ?_
      rintro e w4 ⟨rfl, hb4⟩
      go_wp2
      go_ret
      exact ⟨congrArg (fun z => Ending.returned (.int .u16 z)) HX.out, hB3.trans (hb4.mono hB3.size)⟩
    · have HX := Lib.hid (show _ = x from hx)
      clear hx
      have HC := Lib.hid (fun w' => c8_pairof_22 w.heap.size i c st w' wi hj wc hn)
      have HR := Lib.hid (show RowW (w.alloc (rgO r)) w.heap.size r.cells from RgW.laid w r)
      go_enter Try.func19, Try.ntmps19
      go_wp2_with fail
      refine (HC.out _).mono ?_
      rintro e w3 ⟨rfl, hb⟩
      have hR3 : RowW w3 w.heap.size r.cells := HR.out.below hb (by simp)
      have hB3 : Below w.heap.size w w3 := ((Below.refl _ _).alloc (Nat.le_refl _) _).trans (hb.mono (by simp))
      clear hb
      unfold wdV
      have hF := fun f g a b c d w => pair_field0 f g a b c d w
      go_wp2_with fail
      clear hF
      refine (c8_wget w.heap.size 11 r.cells r.IY w3 hR3 rfl).mono ?_
      rintro e w4 ⟨rfl, hb4⟩
      go_wp2
      go_ret
      exact ⟨congrArg (fun z => Ending.returned (.int .u16 z)) HX.out, hB3.trans (hb4.mono hB3.size)⟩
  · cases st
    · have HX := Lib.hid (show _ = x from hx)
      clear hx
      have HC := Lib.hid (fun w' => c8_pairof_3f w.heap.size i c w' wc hn)
      have HR := Lib.hid (show RowW (w.alloc (rgO r)) w.heap.size r.cells from RgW.laid w r)
      go_enter Try.func19, Try.ntmps19
      go_wp2_with fail
      refine (HC.out _).mono ?_
      rintro e w3 ⟨rfl, hb⟩
      have hR3 : RowW w3 w.heap.size r.cells := HR.out.below hb (by simp)
      have hB3 : Below w.heap.size w w3 := ((Below.refl _ _).alloc (Nat.le_refl _) _).trans (hb.mono (by simp))
      clear hb
      unfold wdV
      have hF := fun f g a b c d w => pair_field0 f g a b c d w
      go_wp2_with fail
      clear hF
      refine (c8_wget w.heap.size 12 r.cells r.SP w3 hR3 rfl).mono ?_
      rintro e w4 ⟨rfl, hb4⟩
      go_wp2
      go_ret
      exact ⟨congrArg (fun z => Ending.returned (.int .u16 z)) HX.out, hB3.trans (hb4.mono hB3.size)⟩
    · have HX := Lib.hid (show _ = x from hx)
      clear hx
      have HC := Lib.hid (fun w' => c8_pairof_3t w.heap.size i c w' wc hn)
      have HR := Lib.hid (show RowW (w.alloc (rgO r)) w.heap.size r.cells from RgW.laid w r)
      go_enter Try.func19, Try.ntmps19
      go_wp2_with fail
      refine (HC.out _).mono ?_
      rintro e w3 ⟨rfl, hb⟩
      have hR3 : RowW w3 w.heap.size r.cells := HR.out.below hb (by simp)
      have hB3 : Below w.heap.size w w3 := ((Below.refl _ _).alloc (Nat.le_refl _) _).trans (hb.mono (by simp))
      clear hb
      unfold cpV
      have hF := fun f g a b c d w => pair_field0 f g a b c d w
      go_wp2_with fail
      clear hF
      refine (c8_cget w.heap.size 0 1 r.cells r.A r.F w3 hR3 rfl rfl hr.A.1 hr.A.2 hr.F.1 hr.F.2).mono ?_
      rintro e w4 ⟨rfl, hb4⟩
      go_wp2
      go_ret
      exact ⟨congrArg (fun z => Ending.returned (.int .u16 z)) HX.out, hB3.trans (hb4.mono hB3.size)⟩

set_option maxHeartbeats 4000000 in
theorem c8_putpair (r : Rg) (i c : Int) (st : Bool) (v : Int) (hv : isW v) (w : World) (wi : (Lit.int .i64 i).wf = true) (wc : (Lit.int .i64 c).wf = true) : Calls Try.prog 21 #[r.val, .int .i64 i, .int .i64 c, .bool st, .int .u16 v] w fun e w' => e = .returned (putPairR r i c st v).val ∧ Below w.heap.size w w' := by
  obtain ⟨v0, v1⟩ := hv
  obtain ⟨x, hx⟩ : ∃ x, putPairR r i c st v = x := ⟨_, rfl⟩
  rw [hx]
  unfold putPairR at hx
  have hval : r.val = .agg #[.int .u8 r.A, .int .u8 r.F, .int .u8 r.B, .int .u8 r.C, .int .u8 r.D, .int .u8 r.E, .int .u8 r.H, .int .u8 r.L, .int .u8 r.I, .int .u8 r.R, .int .u16 r.IX, .int .u16 r.IY, .int .u16 r.SP, .int .u16 r.PC, .int .u16 r.WZ, .int .u16 r.AF2, .int .u16 r.BC2, .int .u16 r.DE2, .int .u16 r.HL2, .bool r.IFF1, .bool r.IFF2, .int .i64 r.IM, .bool r.Halt, .bool r.Late] := rfl
  rw [hval]
  clear hval
  have hn4 : c % 4 = 0 ∨ c % 4 = 1 ∨ c % 4 = 2 ∨ c % 4 = 3 := by omega
  rcases hn4 with hn | hn | hn | hn <;> rw [hn] at hx
  · have HX := Lib.hid (show _ = x from hx)
    clear hx
    have HC := Lib.hid (fun w' => c8_pairof_0 w.heap.size i c st w' wc hn)
    have HR := Lib.hid (show RowW (W2 w r) w.heap.size r.cells from W2_r w r)
    have HZ := Lib.hid (W2_z w r)
    have HB2 := Lib.hid (W2_b w r)
    go_enter Try.func21, Try.ntmps21
    go_wp2_with fail
    refine (HC.out _).mono ?_
    rintro e w3 ⟨rfl, hb⟩
    have hR3 : RowW w3 w.heap.size r.cells := HR.out.below hb (by simp; omega)
    have hZ3 : RowW w3 (w.heap.size + 1) zeroR.cells := RowW.below HZ.out hb (by simp)
    have hB3 : Below w.heap.size w w3 := HB2.out.trans (hb.mono (by simp; omega))
    clear hb
    unfold cpV
    have hF := fun f g a b c d w => pair_field1 f g a b c d w
    go_wp2_with fail
    clear hF
    refine (c8_cput w.heap.size 2 3 r.cells r.B r.C v w3 hR3 (by decide) rfl rfl v0 v1).mono ?_
    rintro e w4 ⟨⟨u, rfl⟩, hR4, hS4⟩
    replace hR4 : RowW w4 w.heap.size x.cells := by rw [← HX.out]; exact hR4
    have hZ4 : RowW w4 (w.heap.size + 1) zeroR.cells := (hS4.block _ hZ3.lt (by omega)).trans hZ3
    have hB4 := hB3.trans (hS4.below (B := w.heap.size) hB3.size (fun k hk => by omega))
    go_wp2_with (first
      | (refine wpList_load_row rfl 24 _ rfl w.heap.size rfl _ _ (0, 0) _ hR4 Try.underlying24 rfl (by kernel_rfl) ?_)
      | (refine wpList_store_row rfl 24 _ _ rfl (w.heap.size + 1) _ rfl rfl _ _ hZ4 rg_info rfl (rg_one x) ?_))
    (try simp only [Exit.inBlock, Exit.then])
    exact bodyPost_ret (results_rg rfl _ _ _ x rfl (setRow_heap _ _ _ _ _ _ hZ4)) rfl ⟨rfl, below_setRow hB4 (by omega) _⟩
  · have HX := Lib.hid (show _ = x from hx)
    clear hx
    have HC := Lib.hid (fun w' => c8_pairof_1 w.heap.size i c st w' wc hn)
    have HR := Lib.hid (show RowW (W2 w r) w.heap.size r.cells from W2_r w r)
    have HZ := Lib.hid (W2_z w r)
    have HB2 := Lib.hid (W2_b w r)
    go_enter Try.func21, Try.ntmps21
    go_wp2_with fail
    refine (HC.out _).mono ?_
    rintro e w3 ⟨rfl, hb⟩
    have hR3 : RowW w3 w.heap.size r.cells := HR.out.below hb (by simp; omega)
    have hZ3 : RowW w3 (w.heap.size + 1) zeroR.cells := RowW.below HZ.out hb (by simp)
    have hB3 : Below w.heap.size w w3 := HB2.out.trans (hb.mono (by simp; omega))
    clear hb
    unfold cpV
    have hF := fun f g a b c d w => pair_field1 f g a b c d w
    go_wp2_with fail
    clear hF
    refine (c8_cput w.heap.size 4 5 r.cells r.D r.E v w3 hR3 (by decide) rfl rfl v0 v1).mono ?_
    rintro e w4 ⟨⟨u, rfl⟩, hR4, hS4⟩
    replace hR4 : RowW w4 w.heap.size x.cells := by rw [← HX.out]; exact hR4
    have hZ4 : RowW w4 (w.heap.size + 1) zeroR.cells := (hS4.block _ hZ3.lt (by omega)).trans hZ3
    have hB4 := hB3.trans (hS4.below (B := w.heap.size) hB3.size (fun k hk => by omega))
    go_wp2_with (first
      | (refine wpList_load_row rfl 24 _ rfl w.heap.size rfl _ _ (0, 0) _ hR4 Try.underlying24 rfl (by kernel_rfl) ?_)
      | (refine wpList_store_row rfl 24 _ _ rfl (w.heap.size + 1) _ rfl rfl _ _ hZ4 rg_info rfl (rg_one x) ?_))
    (try simp only [Exit.inBlock, Exit.then])
    exact bodyPost_ret (results_rg rfl _ _ _ x rfl (setRow_heap _ _ _ _ _ _ hZ4)) rfl ⟨rfl, below_setRow hB4 (by omega) _⟩
  · unfold setHl at hx
    have hj3 : i % 3 = 0 ∨ i % 3 = 1 ∨ i % 3 = 2 := by omega
    rcases hj3 with hj | hj | hj <;> rw [hj] at hx
    · have HX := Lib.hid (show _ = x from hx)
      clear hx
      have HC := Lib.hid (fun w' => c8_pairof_20 w.heap.size i c st w' wi hj wc hn)
      have HR := Lib.hid (show RowW (W2 w r) w.heap.size r.cells from W2_r w r)
      have HZ := Lib.hid (W2_z w r)
      have HB2 := Lib.hid (W2_b w r)
      go_enter Try.func21, Try.ntmps21
      go_wp2_with fail
      refine (HC.out _).mono ?_
      rintro e w3 ⟨rfl, hb⟩
      have hR3 : RowW w3 w.heap.size r.cells := HR.out.below hb (by simp; omega)
      have hZ3 : RowW w3 (w.heap.size + 1) zeroR.cells := RowW.below HZ.out hb (by simp)
      have hB3 : Below w.heap.size w w3 := HB2.out.trans (hb.mono (by simp; omega))
      clear hb
      unfold cpV
      have hF := fun f g a b c d w => pair_field1 f g a b c d w
      go_wp2_with fail
      clear hF
      refine (c8_cput w.heap.size 6 7 r.cells r.H r.L v w3 hR3 (by decide) rfl rfl v0 v1).mono ?_
      rintro e w4 ⟨⟨u, rfl⟩, hR4, hS4⟩
      replace hR4 : RowW w4 w.heap.size x.cells := by rw [← HX.out]; exact hR4
      have hZ4 : RowW w4 (w.heap.size + 1) zeroR.cells := (hS4.block _ hZ3.lt (by omega)).trans hZ3
      have hB4 := hB3.trans (hS4.below (B := w.heap.size) hB3.size (fun k hk => by omega))
      go_wp2_with (first
        | (refine wpList_load_row rfl 24 _ rfl w.heap.size rfl _ _ (0, 0) _ hR4 Try.underlying24 rfl (by kernel_rfl) ?_)
        | (refine wpList_store_row rfl 24 _ _ rfl (w.heap.size + 1) _ rfl rfl _ _ hZ4 rg_info rfl (rg_one x) ?_))
      (try simp only [Exit.inBlock, Exit.then])
      exact bodyPost_ret (results_rg rfl _ _ _ x rfl (setRow_heap _ _ _ _ _ _ hZ4)) rfl ⟨rfl, below_setRow hB4 (by omega) _⟩
    · have HX := Lib.hid (show _ = x from hx)
      clear hx
      have HC := Lib.hid (fun w' => c8_pairof_21 w.heap.size i c st w' wi hj wc hn)
      have HR := Lib.hid (show RowW (W2 w r) w.heap.size r.cells from W2_r w r)
      have HZ := Lib.hid (W2_z w r)
      have HB2 := Lib.hid (W2_b w r)
      go_enter Try.func21, Try.ntmps21
      go_wp2_with fail
      refine (HC.out _).mono ?_
      rintro e w3 ⟨rfl, hb⟩
      have hR3 : RowW w3 w.heap.size r.cells := HR.out.below hb (by simp; omega)
      have hZ3 : RowW w3 (w.heap.size + 1) zeroR.cells := RowW.below HZ.out hb (by simp)
      have hB3 : Below w.heap.size w w3 := HB2.out.trans (hb.mono (by simp; omega))
      clear hb
      unfold wdV
      have hF := fun f g a b c d w => pair_field1 f g a b c d w
      go_wp2_with fail
      clear hF
      refine (c8_wput w.heap.size 10 r.cells r.IX v w3 hR3 rfl).mono ?_
      rintro e w4 ⟨⟨u, rfl⟩, hR4, hS4⟩
      replace hR4 : RowW w4 w.heap.size x.cells := by rw [← HX.out]; exact hR4
      have hZ4 : RowW w4 (w.heap.size + 1) zeroR.cells := (hS4.block _ hZ3.lt (by omega)).trans hZ3
      have hB4 := hB3.trans (hS4.below (B := w.heap.size) hB3.size (fun k hk => by omega))
      go_wp2_with (first
        | (refine wpList_load_row rfl 24 _ rfl w.heap.size rfl _ _ (0, 0) _ hR4 Try.underlying24 rfl (by kernel_rfl) ?_)
        | (refine wpList_store_row rfl 24 _ _ rfl (w.heap.size + 1) _ rfl rfl _ _ hZ4 rg_info rfl (rg_one x) ?_))
      (try simp only [Exit.inBlock, Exit.then])
      exact bodyPost_ret (results_rg rfl _ _ _ x rfl (setRow_heap _ _ _ _ _ _ hZ4)) rfl ⟨rfl, below_setRow hB4 (by omega) _⟩
    · have HX := Lib.hid (show _ = x from hx)
      clear hx
      have HC := Lib.hid (fun w' => c8_pairof_22 w.heap.size i c st w' wi hj wc hn)
      have HR := Lib.hid (show RowW (W2 w r) w.heap.size r.cells from W2_r w r)
      have HZ := Lib.hid (W2_z w r)
      have HB2 := Lib.hid (W2_b w r)
      go_enter Try.func21, Try.ntmps21
      go_wp2_with fail
      refine (HC.out _).mono ?_
      rintro e w3 ⟨rfl, hb⟩
      have hR3 : RowW w3 w.heap.size r.cells := HR.out.below hb (by simp; omega)
      have hZ3 : RowW w3 (w.heap.size + 1) zeroR.cells := RowW.below HZ.out hb (by simp)
      have hB3 : Below w.heap.size w w3 := HB2.out.trans (hb.mono (by simp; omega))
      clear hb
      unfold wdV
      have hF := fun f g a b c d w => pair_field1 f g a b c d w
      go_wp2_with fail
      clear hF
      refine (c8_wput w.heap.size 11 r.cells r.IY v w3 hR3 rfl).mono ?_
      rintro e w4 ⟨⟨u, rfl⟩, hR4, hS4⟩
      replace hR4 : RowW w4 w.heap.size x.cells := by rw [← HX.out]; exact hR4
      have hZ4 : RowW w4 (w.heap.size + 1) zeroR.cells := (hS4.block _ hZ3.lt (by omega)).trans hZ3
      have hB4 := hB3.trans (hS4.below (B := w.heap.size) hB3.size (fun k hk => by omega))
      go_wp2_with (first
        | (refine wpList_load_row rfl 24 _ rfl w.heap.size rfl _ _ (0, 0) _ hR4 Try.underlying24 rfl (by kernel_rfl) ?_)
        | (refine wpList_store_row rfl 24 _ _ rfl (w.heap.size + 1) _ rfl rfl _ _ hZ4 rg_info rfl (rg_one x) ?_))
      (try simp only [Exit.inBlock, Exit.then])
      exact bodyPost_ret (results_rg rfl _ _ _ x rfl (setRow_heap _ _ _ _ _ _ hZ4)) rfl ⟨rfl, below_setRow hB4 (by omega) _⟩
  · cases st
    · have HX := Lib.hid (show _ = x from hx)
      clear hx
      have HC := Lib.hid (fun w' => c8_pairof_3f w.heap.size i c w' wc hn)
      have HR := Lib.hid (show RowW (W2 w r) w.heap.size r.cells from W2_r w r)
      have HZ := Lib.hid (W2_z w r)
      have HB2 := Lib.hid (W2_b w r)
      go_enter Try.func21, Try.ntmps21
      go_wp2_with fail
      refine (HC.out _).mono ?_
      rintro e w3 ⟨rfl, hb⟩
      have hR3 : RowW w3 w.heap.size r.cells := HR.out.below hb (by simp; omega)
      have hZ3 : RowW w3 (w.heap.size + 1) zeroR.cells := RowW.below HZ.out hb (by simp)
      have hB3 : Below w.heap.size w w3 := HB2.out.trans (hb.mono (by simp; omega))
      clear hb
      unfold wdV
      have hF := fun f g a b c d w => pair_field1 f g a b c d w
      go_wp2_with fail
      clear hF
      refine (c8_wput w.heap.size 12 r.cells r.SP v w3 hR3 rfl).mono ?_
      rintro e w4 ⟨⟨u, rfl⟩, hR4, hS4⟩
      replace hR4 : RowW w4 w.heap.size x.cells := by rw [← HX.out]; exact hR4
      have hZ4 : RowW w4 (w.heap.size + 1) zeroR.cells := (hS4.block _ hZ3.lt (by omega)).trans hZ3
      have hB4 := hB3.trans (hS4.below (B := w.heap.size) hB3.size (fun k hk => by omega))
      go_wp2_with (first
        | (refine wpList_load_row rfl 24 _ rfl w.heap.size rfl _ _ (0, 0) _ hR4 Try.underlying24 rfl (by kernel_rfl) ?_)
        | (refine wpList_store_row rfl 24 _ _ rfl (w.heap.size + 1) _ rfl rfl _ _ hZ4 rg_info rfl (rg_one x) ?_))
      (try simp only [Exit.inBlock, Exit.then])
      exact bodyPost_ret (results_rg rfl _ _ _ x rfl (setRow_heap _ _ _ _ _ _ hZ4)) rfl ⟨rfl, below_setRow hB4 (by omega) _⟩
    · have HX := Lib.hid (show _ = x from hx)
      clear hx
      have HC := Lib.hid (fun w' => c8_pairof_3t w.heap.size i c w' wc hn)
      have HR := Lib.hid (show RowW (W2 w r) w.heap.size r.cells from W2_r w r)
      have HZ := Lib.hid (W2_z w r)
      have HB2 := Lib.hid (W2_b w r)
      go_enter Try.func21, Try.ntmps21
      go_wp2_with fail
      refine (HC.out _).mono ?_
      rintro e w3 ⟨rfl, hb⟩
      have hR3 : RowW w3 w.heap.size r.cells := HR.out.below hb (by simp; omega)
      have hZ3 : RowW w3 (w.heap.size + 1) zeroR.cells := RowW.below HZ.out hb (by simp)
      have hB3 : Below w.heap.size w w3 := HB2.out.trans (hb.mono (by simp; omega))
      clear hb
      unfold cpV
      have hF := fun f g a b c d w => pair_field1 f g a b c d w
      go_wp2_with fail
      clear hF
      refine (c8_cput w.heap.size 0 1 r.cells r.A r.F v w3 hR3 (by decide) rfl rfl v0 v1).mono ?_
      rintro e w4 ⟨⟨u, rfl⟩, hR4, hS4⟩
      replace hR4 : RowW w4 w.heap.size x.cells := by rw [← HX.out]; exact hR4
      have hZ4 : RowW w4 (w.heap.size + 1) zeroR.cells := (hS4.block _ hZ3.lt (by omega)).trans hZ3
      have hB4 := hB3.trans (hS4.below (B := w.heap.size) hB3.size (fun k hk => by omega))
      go_wp2_with (first
        | (refine wpList_load_row rfl 24 _ rfl w.heap.size rfl _ _ (0, 0) _ hR4 Try.underlying24 rfl (by kernel_rfl) ?_)
        | (refine wpList_store_row rfl 24 _ _ rfl (w.heap.size + 1) _ rfl rfl _ _ hZ4 rg_info rfl (rg_one x) ?_))
      (try simp only [Exit.inBlock, Exit.then])
      exact bodyPost_ret (results_rg rfl _ _ _ x rfl (setRow_heap _ _ _ _ _ _ hZ4)) rfl ⟨rfl, below_setRow hB4 (by omega) _⟩

end Go.Proofs.Ytedlfcmlchjjlaa
