
/- Slices of events that came in. -/
import Derived.Test.YtileglkimbkkgaaK16
import Derived.Deep.Slices
namespace Go.Proofs.Ytileglkimbkkgaa
open Go.RowKit Go.ChangeShapes Go.WideShapes Go.ChangeAt Go.Deep
set_option maxRecDepth 100000
set_option linter.unusedSimpArgs false
set_option linter.unusedVariables false

theorem list_of {p : Nat → Ev → Prop} : ∀ n : Nat, (∀ i, i < n → ∃ s, p i s) → ∃ l : List Ev, l.length = n ∧ ∀ i, i < n → p i (l.getD i evZ)
  | 0, _ => ⟨[], rfl, fun i h => by omega⟩
  | n + 1, h => by
    obtain ⟨l, hl, hp⟩ := list_of n fun i hi => h i (by omega)
    obtain ⟨s, hs⟩ := h n (by omega)
    refine ⟨l ++ [s], by simp [hl], fun i hi => ?_⟩
    by_cases e : i = n
    · subst e
      have : (l ++ [s]).getD i evZ = s := by simp [List.getD_eq_getElem?_getD, ← hl]
      rw [this]; exact hs
    · have : (l ++ [s]).getD i evZ = l.getD i evZ := by
        simp only [List.getD_eq_getElem?_getD]
        rw [List.getElem?_append_left (by omega)]
      rw [this]
      exact hp i (by omega)

theorem ev_of_cells {H : Type} {enc : TypeId × Value → H} {W : World} {n : Nat} {cs : List Value} {y : DataW H × List MemPlace} {sp : Nat → Bool} (hl : cs.length = 6)
    (h : DataW.trod enc Try.prog W 0 sp true n 23 cs = some y) : ∃ s : Ev, cs = s.cells ∧ s.wf := by
  have h1 : Try.prog.cellsOf 3 = 1 := by kernel_rfl
  have h2 : Try.prog.cellsOf 2 = 1 := by kernel_rfl
  match cs, hl with
  | [c0, c1, c2, c3, c4, c5], _ =>
  obtain ⟨xs, n, _, _, hl, hlen, hfi⟩ := DataW.trod_struct Try.underlying23 h
  match xs, hlen with
  | [y0, y1, y2, y3, y4, y5], _ =>
  have t0 := hfi 0 _ rfl
  have t1 := hfi 1 _ rfl
  have t2 := hfi 2 _ rfl
  have t3 := hfi 3 _ rfl
  have t4 := hfi 4 _ rfl
  have t5 := hfi 5 _ rfl
  simp [h1, h2, Value.cells] at t0 t1 t2 t3 t4 t5
  obtain ⟨x0, e0, _, w0⟩ := DataW.trod_int Try.underlying2 t0
  obtain ⟨x1, e1, _, w1⟩ := DataW.trod_int Try.underlying3 t1
  obtain ⟨x2, e2, _, w2⟩ := DataW.trod_int Try.underlying2 t2
  obtain ⟨x3, e3, _, w3⟩ := DataW.trod_int Try.underlying3 t3
  obtain ⟨x4, e4, _, w4⟩ := DataW.trod_int Try.underlying3 t4
  obtain ⟨x5, e5, _, w5⟩ := DataW.trod_int Try.underlying3 t5
  simp at e0 e1 e2 e3 e4 e5
  subst e0 e1 e2 e3 e4 e5
  refine ⟨⟨x0, x1, x2, x3, x4, x5⟩, rfl, ?_⟩
  have b0 := bounds_i64 w0
  have b1 := bounds_i64 w1
  have b2 := bounds_i64 w2
  have b3 := bounds_i64 w3
  have b4 := bounds_i64 w4
  have b5 := bounds_i64 w5
  constructor <;> (dsimp only; omega)

/-- Cells from a place on are an event's. -/
theorem ev_at_cells {W : World} {a : Addr} {s : Ev} (h : ∀ i, i < 6 → W.cell? (a.add i) = s.cells[i]?) : a.spot = none ∧ EvAt W a.block a.off s := by
  have h0 := h 0 (by decide)
  have hspot : a.spot = none := by simpa [Addr.add] using World.cell?_spot h0
  obtain ⟨b, o, sp⟩ := a
  obtain rfl : sp = none := hspot
  have e : ∀ i, i < 6 → W.cell? ⟨b, o + i, none⟩ = s.cells[i]? := fun i hi => by
    have := h i hi
    rwa [show (⟨b, o, none⟩ : Addr).add i = ⟨b, o + i, none⟩ by unfold Addr.add; split <;> simp_all] at this
  exact ⟨rfl, ⟨e 0 (by decide), e 1 (by decide), e 2 (by decide), e 3 (by decide), e 4 (by decide), e 5 (by decide)⟩⟩

theorem open_evs {H : Type} {enc : TypeId × Value → H} {W : World} {a : Option Addr} {len cap : Nat} {d : DataW H} {p : List MemPlace}
    (h : DataW.Trod enc Try.prog W 0 (fun _ => true) true 25 (.slice a len cap) d p) : ∃ l : List Ev, len = l.length ∧ LsAt W W.heap.size ⟨a, cap, l⟩ ∧ (∀ e ∈ l, e.wf) ∧ (a = none → cap = 0) := by
  obtain ⟨fuel, hf⟩ := h
  have hC : Try.prog.cellsOf 23 = 6 := by kernel_rfl
  rcases open_slice Try.underlying25 hf with ⟨hcs, _⟩ | ⟨x, l, c, m, n, D, Pl, hcs, _, hl, hm, hmm, _, hi⟩
  · simp [Value.cells] at hcs
    obtain ⟨rfl, rfl, rfl⟩ := hcs
    exact ⟨[], rfl, ⟨Nat.le_refl _, Nat.zero_le _, fun h => absurd h (by simp)⟩, (fun _ h => by cases h), fun _ => rfl⟩
  · simp [Value.cells] at hcs
    obtain ⟨rfl, rfl, rfl⟩ := hcs
    simp at hmm
    subst hmm
    have key : ∀ i, i < len → ∃ s : Ev, (x.add (i * 6)).spot = none ∧ EvAt W (x.add (i * 6)).block (x.add (i * 6)).off s ∧ s.wf := fun i hil => by
      obtain ⟨cs', hc, ht⟩ := hi i (by omega)
      rw [hC] at hc
      obtain ⟨_, hcl, hat⟩ := World.cells?_some hc
      obtain ⟨s, rfl, hw⟩ := ev_of_cells hcl ht
      obtain ⟨q1, q2⟩ := ev_at_cells hat
      exact ⟨s, q1, q2, hw⟩
    obtain ⟨l, hll, hp⟩ := list_of len key
    refine ⟨l, hll.symm, ⟨by rw [hll]; exact hl, hm, fun h0 => ?_⟩, ?_, fun h => by cases h⟩
    · rw [hll] at h0
      have h00 := hp 0 h0
      have hx0 : x.add (0 * 6) = x := by simp [Addr.add]
      rw [hx0] at h00
      obtain ⟨b, o, sp⟩ := x
      obtain rfl : sp = none := h00.1
      refine ⟨b, o, rfl, World.block_lt_of_cell? _ _ h00.2.1.c0, fun i hil => ?_⟩
      have := (hp i (by rw [← hll]; exact hil)).2.1
      rwa [show (⟨b, o, none⟩ : Addr).add (i * 6) = ⟨b, o + i * 6, none⟩ by unfold Addr.add; split <;> simp_all] at this
    · intro e he
      obtain ⟨i, hil, rfl⟩ := List.mem_iff_getElem.1 he
      have := (hp i (by rw [← hll]; exact hil)).2.2
      rwa [getD_at l i hil] at this
end Go.Proofs.Ytileglkimbkkgaa
