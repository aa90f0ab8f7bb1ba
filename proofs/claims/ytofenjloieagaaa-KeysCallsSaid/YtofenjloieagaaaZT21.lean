/-  -/
import Derived.Test.YtofenjloieagaaaZQ5
import Derived.Test.YtofenjloieagaaaZT8
import Derived.BigRegion
namespace Go.Proofs.Ytofenjloieagaaa
open Go.RowKit
set_option linter.unusedSimpArgs false
set_option linter.unusedVariables false
set_option maxRecDepth 100000

/-- A block that is a row of touches, with more cells behind them. -/
def SW (w : World) (g : Nat) (X : List Value) (M : List Tc) : Prop := w.heap[g]? = some (.cells (rowT M ++ X).toArray 45 (0, 0))
theorem SW.lt {w : World} {g : Nat} {X : List Value} {M : List Tc} (h : SW w g X M) : g < w.heap.size := (Array.getElem?_eq_some_iff.1 h).1
theorem SW.free {w : World} {g : Nat} {X : List Value} {M : List Tc} (h : SW w g X M) (i : Nat) : w.frozen? ⟨g, i, none⟩ = false := frozen_of_row w g i _ _ h
theorem SW.keep {w w' : World} {g : Nat} {X : List Value} {M : List Tc} (h : SW w g X M) (hb : w'.heap[g]? = w.heap[g]?) : SW w' g X M := hb.trans h
theorem SW.below {w w' : World} {g B : Nat} {X : List Value} {M : List Tc} (h : SW w g X M) (hb : Below B w w') (hB : g < B) : SW w' g X M := h.keep (hb.block _ hB)
theorem SW.tb {w : World} {g : Nat} {X : List Value} {M : List Tc} (h : SW w g X M) {k : Nat} (hk : k < M.length) : TB w g (k * 4) (M.getD k tcZ) := by
  have e : ∀ j, j < 4 → w.cell? ⟨g, k * 4 + j, none⟩ = (M.getD k tcZ).cells[j]? := fun j hj => by
    have hl := rowT_len M
    rw [cell_of_row w g _ _ _ _ h, List.getElem?_toArray, List.getElem?_append_left (by omega), rowT_get M k j hk hj]
  exact ⟨e 0 (by decide), e 1 (by decide), e 2 (by decide), e 3 (by decide)⟩
theorem rowT_set : ∀ (M : List Tc) (k : Nat) (y : Tc), k < M.length → ((((rowT M).set (k * 4) (.int .i64 y.time)).set (k * 4 + 1) (.int .i64 y.what)).set (k * 4 + 2) (.int .i64 y.key)).set (k * 4 + 3) (.bool y.on) = rowT (M.set k y)
  | x :: t, 0, y, _ => by simp [rowT, Tc.cells]
  | x :: t, k + 1, y, h => by
    have ih := rowT_set t k y (by simpa using h)
    have hr : rowT (x :: t) = x.cells ++ rowT t := by simp [rowT]
    have hr2 : rowT ((x :: t).set (k + 1) y) = x.cells ++ rowT (t.set k y) := by simp [rowT]
    have hc : x.cells.length = 4 := rfl
    rw [hr, hr2, ← ih]
    rw [List.set_append_right _ _ (by rw [hc]; omega), List.set_append_right _ _ (by rw [hc]; omega), List.set_append_right _ _ (by rw [hc]; omega), List.set_append_right _ _ (by rw [hc]; omega), hc]
    rw [show (k + 1) * 4 - 4 = k * 4 by omega, show (k + 1) * 4 + 1 - 4 = k * 4 + 1 by omega, show (k + 1) * 4 + 2 - 4 = k * 4 + 2 by omega, show (k + 1) * 4 + 3 - 4 = k * 4 + 3 by omega]
abbrev putT (w : World) (g k : Nat) (y : Tc) : World := (((w.setCell ⟨g, k * 4, none⟩ (.int .i64 y.time)).setCell ⟨g, k * 4 + 1, none⟩ (.int .i64 y.what)).setCell ⟨g, k * 4 + 2, none⟩ (.int .i64 y.key)).setCell ⟨g, k * 4 + 3, none⟩ (.bool y.on)
theorem row_set4 (M : List Tc) (X : List Value) (k : Nat) (y : Tc) (hk : k < M.length) :
    ((((rowT M ++ X).toArray.setIfInBounds (k * 4) (.int .i64 y.time)).setIfInBounds (k * 4 + 1) (.int .i64 y.what)).setIfInBounds (k * 4 + 2) (.int .i64 y.key)).setIfInBounds (k * 4 + 3) (.bool y.on) = (rowT (M.set k y) ++ X).toArray := by
  have hl := rowT_len M
  simp only [List.setIfInBounds_toArray]
  rw [List.set_append_left _ _ (by omega), List.set_append_left _ _ (by simp; omega), List.set_append_left _ _ (by simp; omega), List.set_append_left _ _ (by simp; omega), rowT_set M k y hk]
theorem SW.put {w : World} {g : Nat} {X : List Value} {M : List Tc} (h : SW w g X M) {k : Nat} (hk : k < M.length) (y : Tc) : SW (putT w g k y) g X (M.set k y) := by
  have hl := rowT_len M
  have h0 : (w.setCell ⟨g, k * 4, none⟩ (.int .i64 y.time)).heap[g]? = _ := heap_setCell_same w g (k * 4) _ _ _ h
  have h1 : ((w.setCell ⟨g, k * 4, none⟩ (.int .i64 y.time)).setCell ⟨g, k * 4 + 1, none⟩ (.int .i64 y.what)).heap[g]? = _ := heap_setCell_same _ g (k * 4 + 1) _ _ _ h0
  have h2 : (((w.setCell ⟨g, k * 4, none⟩ (.int .i64 y.time)).setCell ⟨g, k * 4 + 1, none⟩ (.int .i64 y.what)).setCell ⟨g, k * 4 + 2, none⟩ (.int .i64 y.key)).heap[g]? = _ := heap_setCell_same _ g (k * 4 + 2) _ _ _ h1
  have h3 : (putT w g k y).heap[g]? = _ := heap_setCell_same _ g (k * 4 + 3) _ _ _ h2
  unfold SW
  rw [h3, row_set4 M X k y hk]
theorem save_putT (w : World) (g k : Nat) (y : Tc) : Save (· = g) w (putT w g k y) :=
  (((save_setCell w g _ _).trans (save_setCell _ g _ _)).trans (save_setCell _ g _ _)).trans (save_setCell _ g _ _)

/-- The block, as it is told of. -/
abbrev SWo (X : List Value) (M : List Tc) : Option Obj → Prop := fun o => o = some (.cells (rowT M ++ X).toArray 45 (0, 0))
/-- From a row of the call's own to its block, and back. -/
theorem OwnT.sw {w : World} {base : Nat} {v : Value} {M : List Tc} (h : OwnT w base v M) (h0 : 0 < M.length) : ∃ g c X, v = .slice (some ⟨g, 0, none⟩) M.length c ∧ base ≤ g ∧ M.length ≤ c ∧ c ≤ maxLen ∧ (rowT M ++ X).length = c * 4 ∧ SW w g X M := by
  rcases h.2 with ⟨h1, h2⟩ | ⟨g, cap, cur, h1, hb, hg, hn, hm, hs, ht⟩
  · omega
  · refine ⟨g, cap, cur.toList.drop (M.length * 4), h1, hb, hn, hm, ?_, ?_⟩
    · rw [← ht, List.take_append_drop]; simpa using hs
    · unfold SW
      rw [← ht, List.take_append_drop]
      exact hg
theorem SW.own {w : World} {base g c : Nat} {X : List Value} {M : List Tc} (h : SW w g X M) (hb : base ≤ g) (hn : M.length ≤ c) (hm : c ≤ maxLen) (hs : (rowT M ++ X).length = c * 4) : OwnT w base (.slice (some ⟨g, 0, none⟩) M.length c) M := by
  refine ⟨rowT_len M, .inr ⟨g, c, _, rfl, hb, h, hn, hm, by simpa using hs, ?_⟩⟩
  have hl := rowT_len M
  rw [← hl, List.take_left]

/-- How times compare. -/
def cmpT (a b : Int) : Int := if a < b then -1 else if b < a then 1 else 0
theorem cmpT_neg (a b : Int) : decide (cmpT a b < 0) = decide (a < b) := by
  unfold cmpT
  by_cases h : a < b
  · simp [h]
  · by_cases h2 : b < a <;> simp [h, h2]
theorem compare17 (a b : Int) (w : World) : Calls Try.prog 29 #[.int .i64 a, .int .i64 b] w fun e w' => e = .returned (.int .i64 (cmpT a b)) ∧ w = w' := by
  have HN : Hid (∀ (x : Int) (w : World), Calls Try.prog 54 #[.int .i64 x] w fun e w' => e = .returned (.bool false) ∧ w = w') := Lib.hid fun x w => by
    go_enter Try.func54, Try.ntmps54
    go_wp2
    go_ret
    exact ⟨by simp, rfl⟩
  unfold cmpT
  by_cases h1 : a < b
  · rw [if_pos h1]
    go_enter Try.func29, Try.ntmps29
    go_wp2_with fail
    refine (HN.out _ _).mono ?_
    rintro e w1 ⟨rfl, rfl⟩
    go_wp2_with fail
    refine (HN.out _ _).mono ?_
    rintro e w1 ⟨rfl, rfl⟩
    go_wp2_with fail
    go_ret
    exact ⟨rfl, rfl⟩
  · rw [if_neg h1]
    by_cases h2 : b < a
    · rw [if_pos h2]
      go_enter Try.func29, Try.ntmps29
      go_wp2_with fail
      refine (HN.out _ _).mono ?_
      rintro e w1 ⟨rfl, rfl⟩
      go_wp2_with fail
      refine (HN.out _ _).mono ?_
      rintro e w1 ⟨rfl, rfl⟩
      go_wp2_with fail
      go_ret
      exact ⟨rfl, rfl⟩
    · rw [if_neg h2]
      go_enter Try.func29, Try.ntmps29
      go_wp2_with fail
      refine (HN.out _ _).mono ?_
      rintro e w1 ⟨rfl, rfl⟩
      go_wp2_with fail
      refine (HN.out _ _).mono ?_
      rintro e w1 ⟨rfl, rfl⟩
      go_wp2_with fail
      go_ret
      exact ⟨rfl, rfl⟩
theorem less17 (x y : Tc) (w : World) : Calls Try.prog 28 #[x.val, y.val] w fun e w' => e = .returned (.int .i64 (cmpT x.time y.time)) ∧ Below w.heap.size w w' := by
  have HC := Lib.hid (fun w => compare17 x.time y.time w)
  have hb : Hid (Below w.heap.size w ((w.alloc (tcO x)).alloc (tcO y))) := Lib.hid (((Below.refl _ _).alloc (Nat.le_refl _) _).alloc (by simp) _)
  obtain ⟨t, k, ky, n⟩ := x
  obtain ⟨t2, k2, ky2, n2⟩ := y
  unfold Tc.val
  simp only at HC
  go_enter Try.func28, Try.ntmps28
  go_wp2_with fail
  refine (HC.out _).mono ?_
  rintro e w1 ⟨rfl, rfl⟩
  go_wp2_with fail
  go_ret
  exact ⟨rfl, hb.out⟩
end Go.Proofs.Ytofenjloieagaaa
