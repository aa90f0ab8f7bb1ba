
/- Package bank: a memory's calls. -/
import Derived.Test.YtflbedomkeophaaSF
namespace Go.Proofs.Ytflbedomkeophaa
open Go.RowKit
set_option linter.unusedSimpArgs false
set_option linter.unusedVariables false
set_option maxRecDepth 100000

theorem made_nil (w : World) : Calls Try.prog 26 #[.pointer none] w fun e w' => e = .returned (.bool false) ∧ w = w' := by
  go_enter Try.func26, Try.ntmps26
  go_wp2
  go_ret
  exact ⟨rfl, rfl⟩
theorem made_mem (w : World) (P : Nat → Prop) (x : Mo) (v : Value) (h : MC w P x v) : Calls Try.prog 26 #[ptrV x.m] w fun e w' => e = .returned (.bool true) ∧ w = w' := by
  obtain ⟨_, _, _, _, c0⟩ := h.page
  clear h
  unfold ptrV
  go_enter Try.func26, Try.ntmps26
  go_wp2
  go_ret
  exact ⟨rfl, rfl⟩
theorem page_nil (w : World) : Calls Try.prog 11 #[.pointer none] w fun e w' => e = .returned (pgV 0 0) ∧ Below w.heap.size w w' := by
  go_enter Try.func11, Try.ntmps11
  go_wp2_with (go_at_call 26; (with_reducible refine (made_nil _).mono ?_); rintro e w' ⟨rfl, rfl⟩)
  (try simp only [Exit.inBlock, Exit.then])
  exact bodyPost_ret (results_cell_row rfl _ _ _ _ _ (0, 0) _ rfl (heap_alloc_new _ _) Try.underlying34 rfl infoPg) rfl ⟨rfl, ((Below.refl _ _).alloc (Nat.le_refl _) _)⟩
theorem page_mem (w : World) (P : Nat → Prop) (x : Mo) (v : Value) (h : MC w P x v) : Calls Try.prog 11 #[ptrV x.m] w fun e w' => e = .returned (pgV x.A x.B) ∧ Below w.heap.size w w' := by
  have hlt := h.lt
  have h2 : MC (w.alloc (.cells #[.int .u8 0, .int .u8 0] 34)) P x v := h.other (r := none) (grown_alloc _ _ _) (fun k e => by cases e)
  have HM := Lib.hid (made_mem _ P x v h2)
  obtain ⟨c1, c2, _⟩ := h.page
  clear h h2
  unfold ptrV at HM ⊢
  go_enter Try.func11, Try.ntmps11
  go_wp2_with (go_at_call 26; (with_reducible refine HM.out.mono ?_); rintro e w' ⟨rfl, rfl⟩)
  (try simp only [Exit.inBlock, Exit.then])
  exact bodyPost_ret (results_cell_row rfl _ _ _ _ _ (0, 0) _ rfl (heap_alloc_new _ _) Try.underlying34 rfl infoPg) rfl ⟨rfl, ((Below.refl _ _).alloc (Nat.le_refl _) _)⟩
theorem where_nil (w : World) (a : Int) : Calls Try.prog 13 #[.pointer none, .int .u16 a] w fun e w' => e = .returned (.tuple #[.int .i64 0, .int .i64 0]) ∧ w = w' := by
  go_enter Try.func13, Try.ntmps13
  go_wp2_with (go_at_call 26; (with_reducible refine (made_nil _).mono ?_); rintro e w' ⟨rfl, rfl⟩)
  go_ret2
  exact ⟨rfl, rfl⟩
theorem where_mem (w : World) (P : Nat → Prop) (x : Mo) (v : Value) (h : MC w P x v) (a : Int) (h0 : 0 ≤ a) (h1 : a < 65536) : Calls Try.prog 13 #[ptrV x.m, .int .u16 a] w fun e w' => e = .returned (.tuple #[.int .i64 (slB x.A x.B (a / 16384).toNat : Nat), .int .i64 (a % 16384)]) ∧ Below w.heap.size w w' := by
  have HM := Lib.hid (made_mem _ P x v h)
  have HP := Lib.hid (b_parted a w h0 h1)
  have HS := Lib.hid fun w => b_slots x.A x.B w h.pA h.pB
  have hi := Lib.hid fun w => idx4 x.A x.B (a / 16384).toNat (by omega) w
  have hk : (((a / 16384).toNat : Nat) : Int) = a / 16384 := by omega
  rw [hk] at hi
  clear hk
  obtain ⟨k, hk⟩ : ∃ k, (a / 16384).toNat = k := ⟨_, rfl⟩
  rw [hk] at hi ⊢
  clear hk
  obtain ⟨c1, c2, _⟩ := h.page
  clear h
  have hix := hi.out
  unfold ptrV at HM ⊢
  unfold pgV slV at HS
  go_enter Try.func13, Try.ntmps13
  go_wp2_with (first
    | (go_at_call 26; (with_reducible refine HM.out.mono ?_); rintro e w' ⟨rfl, rfl⟩)
    | (go_at_call 29; (with_reducible refine HP.out.mono ?_); rintro e w' ⟨rfl, rfl⟩)
    | (go_at_call 21; (with_reducible refine (HS.out _).mono ?_); rintro e w2 ⟨rfl, hb⟩))
  go_ret2
  exact ⟨rfl, hb⟩
theorem byte_nil (w : World) (a : Int) : Calls Try.prog 14 #[.pointer none, .int .u16 a] w fun e w' => e = .returned (.int .u8 0) ∧ w = w' := by
  go_enter Try.func14, Try.ntmps14
  go_wp2_with (go_at_call 26; (with_reducible refine (made_nil _).mono ?_); rintro e w' ⟨rfl, rfl⟩)
  go_ret
  exact ⟨rfl, rfl⟩
/-- What stands at a place of a bank. -/
theorem MC.byte {w : World} {P : Nat → Prop} {x : Mo} {v : Value} (h : MC w P x v) (b p : Nat) (hb : b < 12) (hp : p < 16384) : w.cell? ⟨x.gs b, p, none⟩ = some (.int .u8 ((x.L b).getD p 0)) := by
  rw [cell_of_row _ _ _ _ _ _ (h.bk b hb)]
  have hl : p < (x.L b).length := by rw [h.len b hb]; exact hp
  simp [List.getD, List.getElem?_eq_getElem hl]
theorem byte_mem (w : World) (P : Nat → Prop) (x : Mo) (sr cs : Nat) (h : MB w P x sr cs) (a : Int) (h0 : 0 ≤ a) (h1 : a < 65536) : Calls Try.prog 14 #[ptrV x.m, .int .u16 a] w fun e w' => e = .returned (.int .u8 ((x.L (slB x.A x.B (a / 16384).toNat)).getD (a % 16384).toNat 0)) ∧ w = w' := by
  have HM := Lib.hid (made_mem _ P x _ h.toMC)
  have HP := Lib.hid (b_parted a w h0 h1)
  have hk : (((a / 16384).toNat : Nat) : Int) = a / 16384 := by omega
  have hq : (((a % 16384).toNat : Nat) : Int) = a % 16384 := by omega
  have hk4 : (a / 16384).toNat < 4 := by omega
  have hq4 : (a % 16384).toNat < 16384 := by omega
  rw [← hk, ← hq] at HP
  clear hk hq
  generalize (a / 16384).toNat = k at *
  generalize (a % 16384).toNat = q at *
  obtain ⟨c1, c2, c3, c4, _⟩ := h.page
  have d1 := h.ss k hk4
  have d2 := h.byte (slB x.A x.B k) q (slB_lt _ _ h.pA h.pB k hk4) hq4
  clear h
  unfold ptrV at HM d1 ⊢
  go_enter Try.func14, Try.ntmps14
  go_wp2_with (first
    | (go_at_call 26; (with_reducible refine HM.out.mono ?_); rintro e w' ⟨rfl, rfl⟩)
    | (go_at_call 29; (with_reducible refine HP.out.mono ?_); rintro e w' ⟨rfl, rfl⟩))
  go_ret
  exact ⟨rfl, rfl⟩
theorem in_nil (w : World) (b p : Int) : Calls Try.prog 16 #[.pointer none, .int .i64 b, .int .i64 p] w fun e w' => e = .returned (.int .u8 0) ∧ w = w' := by
  go_enter Try.func16, Try.ntmps16
  go_wp2_with (go_at_call 26; (with_reducible refine (made_nil _).mono ?_); rintro e w' ⟨rfl, rfl⟩)
  all_goals
    go_ret
    exact ⟨rfl, rfl⟩
theorem in_mem (w : World) (P : Nat → Prop) (x : Mo) (v : Value) (h : MC w P x v) (b p : Nat) (hb : b < 12) (hp : p < 16384) : Calls Try.prog 16 #[ptrV x.m, .int .i64 b, .int .i64 p] w fun e w' => e = .returned (.int .u8 ((x.L b).getD p 0)) ∧ w = w' := by
  have HM := Lib.hid (made_mem _ P x _ h)
  have HB := Lib.hid (b_isbank b w)
  rw [show isBankP b = true by unfold isBankP; simp; omega] at HB
  obtain ⟨c1, c2, c3, c4, _⟩ := h.page
  have d1 := h.bs b hb
  have d2 := h.byte b p hb hp
  clear h
  unfold ptrV at HM d1 ⊢
  go_enter Try.func16, Try.ntmps16
  go_wp2_with (first
    | (go_at_call 26; (with_reducible refine HM.out.mono ?_); rintro e w' ⟨rfl, rfl⟩)
    | (go_at_call 30; (with_reducible refine HB.out.mono ?_); rintro e w' ⟨rfl, rfl⟩))
  go_ret
  exact ⟨rfl, rfl⟩
end Go.Proofs.Ytflbedomkeophaa
