
/- Slices of slices of events that came in. -/
import Derived.Test.YtileglkimbkkgaaK19
namespace Go.Proofs.Ytileglkimbkkgaa
open Go.RowKit Go.ChangeShapes Go.WideShapes Go.ChangeAt Go.Deep
set_option maxRecDepth 100000
set_option linter.unusedSimpArgs false
set_option linter.unusedVariables false

theorem list_any {α : Type} (z : α) {p : Nat → α → Prop} : ∀ n : Nat, (∀ i, i < n → ∃ s, p i s) → ∃ l : List α, l.length = n ∧ ∀ i, i < n → p i (l.getD i z)
  | 0, _ => ⟨[], rfl, fun i h => by omega⟩
  | n + 1, h => by
    obtain ⟨l, hl, hp⟩ := list_any z n fun i hi => h i (by omega)
    obtain ⟨s, hs⟩ := h n (by omega)
    refine ⟨l ++ [s], by simp [hl], fun i hi => ?_⟩
    by_cases e : i = n
    · subst e
      have : (l ++ [s]).getD i z = s := by simp [List.getD_eq_getElem?_getD, ← hl]
      rw [this]; exact hs
    · have : (l ++ [s]).getD i z = l.getD i z := by
        simp only [List.getD_eq_getElem?_getD]
        rw [List.getElem?_append_left (by omega)]
      rw [this]
      exact hp i (by omega)

theorem evs_of_cells {H : Type} {enc : TypeId × Value → H} {W : World} {n : Nat} {cs : List Value} {y : DataW H × List MemPlace} {sp : Nat → Bool}
    (h : DataW.trod enc Try.prog W 0 sp true n 25 cs = some y) : ∃ x : Ls, cs = [x.val] ∧ LsAt W W.heap.size x ∧ (∀ e ∈ x.l, e.wf) ∧ (x.A = none → x.c = 0) := by
  have hC : Try.prog.cellsOf 23 = 6 := by kernel_rfl
  rcases open_slice Try.underlying25 h with ⟨hcs, _⟩ | ⟨x, len, cap, m, n, D, Pl, hcs, _, hl, hm, hmm, _, hi⟩
  · exact ⟨Ls.none, hcs, ⟨Nat.le_refl _, Nat.zero_le _, fun h => absurd h (by simp [Ls.none])⟩, (fun _ h => by cases h), fun _ => rfl⟩
  · have key : ∀ i, i < len → ∃ s : Ev, (x.add (i * 6)).spot = none ∧ EvAt W (x.add (i * 6)).block (x.add (i * 6)).off s ∧ s.wf := fun i hil => by
      have him : i < m := by
        have := hmm
        split at this <;> omega
      obtain ⟨cs', hc, ht⟩ := hi i him
      rw [hC] at hc
      obtain ⟨_, hcl, hat⟩ := World.cells?_some hc
      obtain ⟨s, rfl, hw⟩ := ev_of_cells hcl ht
      obtain ⟨q1, q2⟩ := ev_at_cells hat
      exact ⟨s, q1, q2, hw⟩
    obtain ⟨l, hll, hp⟩ := list_of len key
    refine ⟨⟨some x, cap, l⟩, by rw [hcs]; unfold Ls.val; rw [hll], ⟨by rw [hll]; exact hl, hm, fun h0 => ?_⟩, ?_, fun h => by cases h⟩
    · have h00 := hp 0 (by rw [← hll]; exact h0)
      have hx0 : x.add (0 * 6) = x := by simp [Addr.add]
      rw [hx0] at h00
      obtain ⟨b, o, sp⟩ := x
      obtain rfl : sp = none := h00.1
      refine ⟨b, o, rfl, World.block_lt_of_cell? _ _ h00.2.1.c0, fun i hil => ?_⟩
      have := (hp i (by rw [← hll]; exact hil)).2.1
      rwa [show (⟨b, o, none⟩ : Addr).add (i * 6) = ⟨b, o + i * 6, none⟩ by unfold Addr.add; split <;> simp_all] at this
    · intro e he
      obtain ⟨i, hil, rfl⟩ := List.mem_iff_getElem.1 he
      have := (hp i (by rw [← hll]; exact hil)).2.2
      rwa [getD_at l i hil] at this

theorem open_evss {H : Type} {enc : TypeId × Value → H} {W : World} {a : Option Addr} {len cap : Nat} {d : DataW H} {p : List MemPlace}
    (h : DataW.Trod enc Try.prog W 0 (fun _ => true) true 32 (.slice a len cap) d p) : ∃ L : List Ls, len = L.length ∧ LL W W.heap.size a cap L ∧ (∀ x ∈ L, (∀ e ∈ x.l, e.wf) ∧ (x.A = none → x.c = 0)) := by
  obtain ⟨fuel, hf⟩ := h
  have hC : Try.prog.cellsOf 25 = 1 := by kernel_rfl
  rcases open_slice Try.underlying32 hf with ⟨hcs, _⟩ | ⟨x, l, c, m, n, D, Pl, hcs, _, hl, hm, hmm, _, hi⟩
  · simp [Value.cells] at hcs
    obtain ⟨rfl, rfl, rfl⟩ := hcs
    exact ⟨[], rfl, ⟨Nat.le_refl _, Nat.zero_le _, fun h => absurd h (by simp), fun _ h => by cases h⟩, fun _ h => by cases h⟩
  · simp [Value.cells] at hcs
    obtain ⟨rfl, rfl, rfl⟩ := hcs
    simp at hmm
    subst hmm
    have key : ∀ i, i < len → ∃ s : Ls, W.cell? (x.add i) = some s.val ∧ LsAt W W.heap.size s ∧ (∀ e ∈ s.l, e.wf) ∧ (s.A = none → s.c = 0) := fun i hil => by
      obtain ⟨cs', hc, ht⟩ := hi i (by omega)
      rw [hC, Nat.mul_one] at hc
      obtain ⟨_, hcl, hat⟩ := World.cells?_some hc
      obtain ⟨s, rfl, hw⟩ := evs_of_cells ht
      have := hat 0 (by decide)
      exact ⟨s, by simpa [Addr.add] using this, hw⟩
    obtain ⟨L, hll, hp⟩ := list_any Ls.none len key
    refine ⟨L, hll.symm, ⟨by rw [hll]; exact hl, hm, fun h0 => ?_, ?_⟩, ?_⟩
    · rw [hll] at h0
      have h00 := (hp 0 h0).1
      have hx0 : x.add 0 = x := by simp [Addr.add]
      rw [hx0] at h00
      have hspot : x.spot = none := by simpa [Addr.add] using World.cell?_spot h00
      obtain ⟨b, o, sp⟩ := x
      obtain rfl : sp = none := hspot
      refine ⟨b, o, rfl, World.block_lt_of_cell? _ _ h00, fun i hil => ?_⟩
      have := (hp i (by rw [← hll]; exact hil)).1
      rwa [show (⟨b, o, none⟩ : Addr).add i = ⟨b, o + i, none⟩ by unfold Addr.add; split <;> simp_all] at this
    · intro y hy
      obtain ⟨i, hil, rfl⟩ := List.mem_iff_getElem.1 hy
      have := (hp i (by rw [← hll]; exact hil)).2.1
      rwa [List.getD_eq_getElem?_getD, List.getElem?_eq_getElem hil] at this
    · intro y hy
      obtain ⟨i, hil, rfl⟩ := List.mem_iff_getElem.1 hy
      have := (hp i (by rw [← hll]; exact hil)).2.2
      rwa [List.getD_eq_getElem?_getD, List.getElem?_eq_getElem hil] at this
end Go.Proofs.Ytileglkimbkkgaa
