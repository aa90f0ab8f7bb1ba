
/- Registers: Read of bytes of another length; the walk of RegsNames. -/
import Derived.Test.YtaabpeibaaakhaaYP
namespace Go.Proofs.Ytaabpeibaaakhaa
open Go.RowKit
set_option linter.unusedSimpArgs false
set_option linter.unusedVariables false
set_option maxRecDepth 100000

theorem c8_read_len (A : Option Addr) (n c : Nat) (hn : n ≠ 32) (w : World) : Calls Try.prog 10 #[.slice A n c] w fun e w' => e = .returned (.tuple #[zeroR.val, .int .i64 4]) ∧ Below w.heap.size w w' := by
  obtain ⟨w1, hw1⟩ : ∃ w1, w.alloc (rgO zeroR) = w1 := ⟨_, rfl⟩
  have HZ := Lib.hid (show RowW w1 w.heap.size zeroR.cells from hw1 ▸ RgW.laid w zeroR)
  have HB := Lib.hid (show Below w.heap.size w w1 from hw1 ▸ (Below.refl _ _).alloc (Nat.le_refl _) _)
  have hg : ((n : Int) != 32) = true := by rw [bne_iff_ne]; omega
  unfold rgO zeroR at hw1
  go_enter Try.func10, Try.ntmps10
  go_wp2_with (refine wpList_store_row rfl 28 _ _ rfl w.heap.size _ rfl rfl _ _ HZ.out rg_info rfl (rg_one zeroR) ?_)
  (try simp only [Exit.inBlock, Exit.then])
  exact bodyPost_ret (results_row_tmp rfl _ _ _ _ _ (0, 0) _ _ rfl rfl (setRow_heap _ _ _ _ _ _ HZ.out) Try.underlying28 rfl rg_info) rfl ⟨rfl, below_setRow HB.out (Nat.le_refl _) _⟩

theorem reset_may : resetR.May := by unfold Rg.May resetR; decide
theorem get_reset_7 : getR resetR 0 7 = 255 := rfl
theorem get_reset_6 : getR resetR 0 6 = 0 := rfl

set_option maxHeartbeats 4000000 in
theorem walk_RegsNames (w : World) : Calls Try.prog 3 #[] w fun e w' => e = .returned (.bool true) ∧ Below w.heap.size w w' := by
  have CR := Lib.hid (fun w => c8_reset w)
  have CB := Lib.hid (fun w => c8_bytes_may resetR resetR_ok reset_may w)
  have C7 := Lib.hid (fun w => get_reset_7 ▸ c8_get resetR resetR_ok 0 7 w rfl rfl)
  have C6 := Lib.hid (fun w => get_reset_6 ▸ c8_get resetR resetR_ok 0 6 w rfl rfl)
  obtain ⟨R, hR⟩ : ∃ R, resetR.val = R := ⟨_, rfl⟩
  rw [hR] at CR CB C7 C6
  clear hR
  go_enter Try.func3, Try.ntmps3
  go_wp2_with fail
  refine (CR.out _).mono ?_
  rintro e w1 ⟨rfl, hb1⟩
  go_wp2_with fail
  refine (CB.out _).mono ?_
  rintro e w2 ⟨⟨A, c, rfl, ho⟩, hb2⟩
  have hB2 := hb1.trans (hb2.mono hb1.size)
  have hc := ho.rb.le
  rw [bytesR_len] at hc
  clear hb1 hb2 ho
  go_wp2_with fail
  refine (c8_read_len A 31 c (by omega) _).mono ?_
  rintro e w3 ⟨rfl, hb⟩
  have hB3 := hB2.trans (hb.mono hB2.size)
  clear hb hB2
  obtain ⟨b, hb⟩ : ∃ b, w3.heap.size = b := ⟨_, rfl⟩
  obtain ⟨wa, hwa⟩ : ∃ wa, w3.alloc (rgO zeroR) = wa := ⟨_, rfl⟩
  have hZ : RowW wa b zeroR.cells := by rw [← hwa, ← hb]; exact RgW.laid w3 zeroR
  have hBa : Below w.heap.size w wa := hwa ▸ hB3.alloc hB3.size _
  have hbw : w.heap.size ≤ b := hb ▸ hB3.size
  unfold rgO zeroR at hwa
  rw [show zeroR.val = .agg zeroR.cells from rfl]
  have hB4 := Lib.hid (below_setRow hBa hbw zeroR.cells)
  clear hBa
  go_wp2_with (refine wpList_store_row rfl 28 _ _ rfl b zeroR.cells rfl rfl _ _ hZ rg_info rfl (rg_one zeroR) ?_)
  refine (lives8_any _).mono ?_
  rintro e w5 ⟨rfl, hb5⟩
  have hB5 := hB4.out.trans (hb5.mono hB4.out.size)
  clear hb5 hB4 hZ hwa hb
  go_wp2_with fail
  refine (c8_check { zeroR with IM := 3 } _).mono ?_
  rintro e w6 ⟨he, hb6⟩
  rw [if_neg (by unfold Rg.May; decide)] at he
  subst he
  have hB6 := hB5.trans (hb6.mono hB5.size)
  clear hb6 hB5
  go_wp2_with fail
  refine (CR.out _).mono ?_
  rintro e w7 ⟨rfl, hb7⟩
  have hB7 := hB6.trans (hb7.mono hB6.size)
  clear hb7 hB6
  go_wp2_with fail
  refine (C7.out _).mono ?_
  rintro e w8 ⟨rfl, hb8⟩
  have hB8 := hB7.trans (hb8.mono hB7.size)
  clear hb8 hB7
  go_wp2_with fail
  refine (CR.out _).mono ?_
  rintro e w9 ⟨rfl, hb9⟩
  have hB9 := hB8.trans (hb9.mono hB8.size)
  clear hb9 hB8
  go_wp2_with fail
  refine (C6.out _).mono ?_
  rintro e w10 ⟨rfl, hb10⟩
  have hB10 := hB9.trans (hb10.mono hB9.size)
  clear hb10 hB9
  go_wp2_with fail
  go_ret
  exact ⟨rfl, hB10⟩

end Go.Proofs.Ytaabpeibaaakhaa
