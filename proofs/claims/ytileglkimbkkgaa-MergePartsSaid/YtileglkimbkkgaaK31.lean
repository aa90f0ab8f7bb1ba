
/- Counts: the plain mathematics; the reference's Chip. -/
import Derived.ChangeKeysEq
import Derived.Test.YtileglkimbkkgaaK30
import Derived.Test.YtileglkimbkkgaaK28
namespace Go.Proofs.Ytileglkimbkkgaa
open Go.RowKit
set_option linter.unusedSimpArgs false
set_option linter.unusedVariables false

theorem errs_zero : ∀ {L : List Ls}, errs L = 0 → ∀ x ∈ L, chk x.l = 0
  | [], _, x, hx => by cases hx
  | y :: t, h, x, hx => by
    unfold errs at h
    by_cases h0 : chk y.l = 0
    · rw [if_pos h0] at h
      rcases List.mem_cons.1 hx with rfl | hx
      · exact h0
      · exact errs_zero h x hx
    · rw [if_neg h0] at h
      exact absurd h h0
theorem allOf_may {L : List Ls} (h : errs L = 0) : ∀ e ∈ allOf L, e.May := by
  intro e he
  unfold allOf at he
  obtain ⟨l, hl, hel⟩ := List.mem_flatten.1 he
  obtain ⟨x, hx, rfl⟩ := List.mem_map.1 hl
  exact good_may (chk_good (errs_zero h x hx)).1 e hel

theorem cntF_append (A B : List Ev) (i : Nat) : cntF (A ++ B) i = cntF A i + cntF B i := by unfold cntF; rw [List.countP_append]; omega
theorem cntF_perm {A B : List Ev} (h : A.Perm B) (i : Nat) : cntF A i = cntF B i := by unfold cntF; rw [h.countP_eq]
theorem cntF_all (L : List Ls) (k i : Nat) (hk : k < L.length) : cntF (allOf (L.take (k + 1))) i = cntF (allOf (L.take k)) i + cntF (L.getD k Ls.none).l i := by
  have : L.take (k + 1) = L.take k ++ [L.getD k Ls.none] := by
    rw [List.take_succ_eq_append_getElem hk, List.getD_eq_getElem?_getD, List.getElem?_eq_getElem hk]; rfl
  rw [this]
  unfold allOf
  rw [List.map_append, List.flatten_append, cntF_append]
  simp
theorem cntF_zero (M : List Ev) : cntF M 0 = 0 := by
  unfold cntF
  have : M.countP (isK 0) = 0 := List.countP_eq_zero.2 fun y _ => by
    unfold isK
    by_cases h : y.kind = ((0 : Nat) : Int)
    · rw [h]; decide
    · have h2 : y.kind ≠ 0 := h
      simp [h2]
  omega
/-- A part has its chip's kinds alone, and all of them. -/
theorem cntF_part {M : List Ev} (hM : ∀ e ∈ M, e.May) (c : Int) (i : Nat) (h : cntF (M.filter (onChip c)) i ≠ 0) : cntF (M.filter (onChip c)) i = cntF M i ∧ chipOf i = c := by
  have h1 : 0 < (M.filter (onChip c)).countP (isK i) := by unfold cntF at h; omega
  obtain ⟨y, hy, hk⟩ := List.countP_pos_iff.1 h1
  rw [List.mem_filter] at hy
  have hkind : y.kind = i ∧ chipOf y.kind ≠ 0 := by unfold isK at hk; simpa using hk
  have hchip : y.chip = c := by have := hy.2; unfold onChip at this; simpa using this
  have hmay := hM y hy.1
  have hci : chipOf i = c := by rw [← hkind.1, ← hmay.2.1, hchip]
  refine ⟨?_, hci⟩
  unfold cntF
  rw [List.countP_filter]
  congr 1
  refine List.countP_congr fun z hz => ?_
  have hzm := hM z hz
  unfold isK onChip
  constructor
  · intro h3; simp at h3 ⊢; exact h3.1
  · intro h3
    simp at h3 ⊢
    exact ⟨h3, by rw [hzm.2.1, h3.1, hci]⟩

set_option maxHeartbeats 1000000 in
theorem rchip_any (k : Int) (w : World) : Calls Try.prog 37 #[.int .i64 k] w fun e w' => e = .returned (.int .i64 (chipOf k)) ∧ w = w' := by
  go_enter Try.func37, Try.ntmps37
  go_wp2
  all_goals
    go_ret
    exact ⟨ret_i64 (by unfold chipOf; (try simp only [beq_iff_eq, beq_eq_false_iff_ne, ne_eq, Bool.not_eq_true, Bool.or_eq_true, Bool.or_eq_false_iff] at *); (repeat' split) <;> omega), rfl⟩

set_option maxRecDepth 100000 in
theorem eqct_same (f : Nat → Int) (w : World) : (binOp .eql 45 (ctV f) (ctV f)).run Try.prog w = .ok (.bool true) w := by
  have hx : (Try.prog.info? 3).isSome = true := by kernel_rfl
  obtain ⟨i, hi⟩ := Option.isSome_iff_exists.1 hx
  have hC : Try.prog.cellsOf 3 = 1 := by kernel_rfl
  unfold ctV
  rw [run_eql_struct, run_equalIn_array w 9999 (ctA f) (ctA f) Try.underlying45 hi, hC, show List.range 13 = [0, 1, 2, 3, 4, 5, 6, 7, 8, 9, 10, 11, 12] from rfl]
  unfold ctA
  simp only [Op.eqItems]
  go_simp
set_option maxRecDepth 100000 in
theorem eqct_run (f : Nat → Int) (w : World) : (Op.equalIn 10000 45 (ctV f) (ctV f)).run Try.prog w = .ok true w := by
  have hx : (Try.prog.info? 3).isSome = true := by kernel_rfl
  obtain ⟨i, hi⟩ := Option.isSome_iff_exists.1 hx
  have hC : Try.prog.cellsOf 3 = 1 := by kernel_rfl
  unfold ctV
  rw [run_equalIn_array w 9999 (ctA f) (ctA f) Try.underlying45 hi, hC, show List.range 13 = [0, 1, 2, 3, 4, 5, 6, 7, 8, 9, 10, 11, 12] from rfl]
  unfold ctA
  simp only [Op.eqItems]
  go_simp
end Go.Proofs.Ytileglkimbkkgaa
