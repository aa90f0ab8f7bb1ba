
/- Package contend: lists of requests and of answers that came in; Row. -/
import Derived.Test.YtljgpaiojeffcaaM8
import Derived.Deep.Slices
import Derived.Laws.AppendOwnNone
namespace Go.Proofs.Ytljgpaiojeffcaa
open Go.RowKit Go.ChangeShapes Go.WideShapes Go.ChangeAt Go.Deep
set_option linter.unusedSimpArgs false
set_option linter.unusedVariables false
set_option maxRecDepth 100000

abbrev rqZ : Rq := ⟨0, 0, 0, 0⟩
/-- A list of requests in memory. -/
structure QsAt (w : World) (B : Nat) (A : Option Addr) (l : List Rq) : Prop where
  at_ : 0 < l.length → ∃ b o, A = some ⟨b, o, Option.none⟩ ∧ b < B ∧ ∀ i, i < l.length → QB w b (o + i * 4) (l.getD i rqZ)
/-- A list of answers. -/
structure BlAt (w : World) (B : Nat) (A : Option Addr) (l : List Bool) : Prop where
  at_ : 0 < l.length → ∃ b o, A = some ⟨b, o, Option.none⟩ ∧ b < B ∧ ∀ i, i < l.length → w.cell? ⟨b, o + i, none⟩ = some (.bool (l.getD i false))
theorem QsAt.below {w w' : World} {B : Nat} {A : Option Addr} {l : List Rq} (h : QsAt w B A l) (hb : Below B w w') : QsAt w' B A l :=
  ⟨fun h0 => by
    obtain ⟨b, o, h1, h2, h3⟩ := h.at_ h0
    exact ⟨b, o, h1, h2, fun i hi => (h3 i hi).below hb h2⟩⟩
theorem QsAt.more {w : World} {B B' : Nat} {A : Option Addr} {l : List Rq} (h : QsAt w B A l) (hB : B ≤ B') : QsAt w B' A l :=
  ⟨fun h0 => by
    obtain ⟨b, o, h1, h2, h3⟩ := h.at_ h0
    exact ⟨b, o, h1, by omega, h3⟩⟩
theorem BlAt.below {w w' : World} {B : Nat} {A : Option Addr} {l : List Bool} (h : BlAt w B A l) (hb : Below B w w') : BlAt w' B A l :=
  ⟨fun h0 => by
    obtain ⟨b, o, h1, h2, h3⟩ := h.at_ h0
    exact ⟨b, o, h1, h2, fun i hi => (hb.cell h2).trans (h3 i hi)⟩⟩
theorem BlAt.more {w : World} {B B' : Nat} {A : Option Addr} {l : List Bool} (h : BlAt w B A l) (hB : B ≤ B') : BlAt w B' A l :=
  ⟨fun h0 => by
    obtain ⟨b, o, h1, h2, h3⟩ := h.at_ h0
    exact ⟨b, o, h1, by omega, h3⟩⟩

theorem list_pick {α : Type} (z : α) {p : Nat → α → Prop} : ∀ n : Nat, (∀ i, i < n → ∃ s, p i s) → ∃ l : List α, l.length = n ∧ ∀ i, i < n → p i (l.getD i z)
  | 0, _ => ⟨[], rfl, fun i h => by omega⟩
  | n + 1, h => by
    obtain ⟨l, hl, hp⟩ := list_pick z n fun i hi => h i (by omega)
    obtain ⟨s, hs⟩ := h n (by omega)
    refine ⟨l ++ [s], by simp [hl], fun i hi => ?_⟩
    by_cases e : i = n
    · subst e
      have : (l ++ [s]).getD i z = s := by simp [List.getD_eq_getElem?_getD, ← hl]
      rw [this]; exact hs
    · have : (l ++ [s]).getD i z = l.getD i z := by
        simp only [List.getD_eq_getElem?_getD]
        rw [List.getElem?_append_left (by omega)]
      rw [this]
      exact hp i (by omega)
theorem getD_mem {α : Type} (z : α) (l : List α) (i : Nat) (h : i < l.length) : l.getD i z ∈ l := by
  simp only [List.getD_eq_getElem?_getD, List.getElem?_eq_getElem h, Option.getD_some]
  exact List.getElem_mem h

theorem rq_of_cells {H : Type} {enc : TypeId × Value → H} {W : World} {n : Nat} {cs : List Value} {y : DataW H × List MemPlace} {sp : Nat → Bool} (hl : cs.length = 4)
    (h : DataW.trod enc Try.prog W 0 sp true n 30 cs = some y) : ∃ s : Rq, cs = s.cells ∧ s.wf := by
  have h1 : Try.prog.cellsOf 3 = 1 := by kernel_rfl
  have h2 : Try.prog.cellsOf 28 = 1 := by kernel_rfl
  have h3 : Try.prog.cellsOf 5 = 1 := by kernel_rfl
  match cs, hl with
  | [c0, c1, c2, c3], _ =>
  obtain ⟨xs, n, _, _, hl, hlen, hfi⟩ := DataW.trod_struct Try.underlying30 h
  match xs, hlen with
  | [y0, y1, y2, y3], _ =>
  have t0 := hfi 0 _ rfl
  have t1 := hfi 1 _ rfl
  have t2 := hfi 2 _ rfl
  have t3 := hfi 3 _ rfl
  simp [h1, h2, h3, Value.cells] at t0 t1 t2 t3
  obtain ⟨x0, e0, _, w0⟩ := DataW.trod_int Try.underlying3 t0
  obtain ⟨x1, e1, _, w1⟩ := DataW.trod_int Try.underlying28 t1
  obtain ⟨x2, e2, _, w2⟩ := DataW.trod_int Try.underlying5 t2
  obtain ⟨x3, e3, _, w3⟩ := DataW.trod_int Try.underlying3 t3
  simp at e0 e1 e2 e3
  subst e0 e1 e2 e3
  have b0 := bounds_i64 w0
  have b1 := bounds_u16 w1
  have b2 := bounds_u8 w2
  have b3 := bounds_i64 w3
  exact ⟨⟨x0, x1, x2, x3⟩, rfl, ⟨by dsimp only; omega, by dsimp only; omega, by dsimp only; omega, by dsimp only; omega⟩⟩

theorem open_rqs {H : Type} {enc : TypeId × Value → H} {W : World} {a : Option Addr} {len cap : Nat} {d : DataW H} {p : List MemPlace}
    (h : DataW.Trod enc Try.prog W 0 (fun _ => true) true 34 (.slice a len cap) d p) : ∃ xs : List Rq, len = xs.length ∧ (QsAt W W.heap.size a xs ∧ len ≤ cap ∧ cap ≤ maxLen ∧ ∀ x ∈ xs, x.wf) := by
  obtain ⟨fuel, hf⟩ := h
  have hC : Try.prog.cellsOf 30 = 4 := by kernel_rfl
  rcases open_slice Try.underlying34 hf with ⟨hcs, _⟩ | ⟨x, l, c, m, n, D, Pl, hcs, _, hl, hm, hmm, _, hi⟩
  · simp [Value.cells] at hcs
    obtain ⟨rfl, rfl, rfl⟩ := hcs
    exact ⟨[], rfl, ⟨fun h => absurd h (by simp)⟩, Nat.le_refl _, Nat.zero_le _, (fun _ h => by cases h)⟩
  · simp [Value.cells] at hcs
    obtain ⟨rfl, rfl, rfl⟩ := hcs
    have key : ∀ i, i < len → ∃ s : Rq, (∀ j, j < 4 → W.cell? ((x.add (i * 4)).add j) = s.cells[j]?) ∧ s.wf := fun i hil => by
      have him : i < m := by
        have := hmm
        split at this <;> omega
      obtain ⟨cs', hc, ht⟩ := hi i him
      rw [hC] at hc
      obtain ⟨_, hcl, hat⟩ := World.cells?_some hc
      obtain ⟨s, rfl, hw⟩ := rq_of_cells hcl ht
      exact ⟨s, hat, hw⟩
    obtain ⟨ps, hll, hp⟩ := list_pick rqZ len key
    refine ⟨ps, hll.symm, ⟨fun h0 => ?_⟩, hl, hm, fun y hy => ?_⟩
    · have h00 := (hp 0 (by rw [← hll]; exact h0)).1 0 (by decide)
      have hx0 : (x.add (0 * 4)).add 0 = x := by simp [Addr.add]
      rw [hx0] at h00
      have hspot : x.spot = none := by simpa [Addr.add] using World.cell?_spot (show W.cell? x = some _ from h00)
      obtain ⟨b, o, sp⟩ := x
      obtain rfl : sp = none := hspot
      refine ⟨b, o, rfl, World.block_lt_of_cell? _ _ (show W.cell? ⟨b, o, none⟩ = some _ from h00), fun i hil => ?_⟩
      have hh : ∀ j, j < 4 → W.cell? ⟨b, o + i * 4 + j, none⟩ = (ps.getD i rqZ).cells[j]? := fun j hj => by
        have := (hp i (by rw [← hll]; exact hil)).1 j hj
        rwa [show ((⟨b, o, none⟩ : Addr).add (i * 4)).add j = ⟨b, o + i * 4 + j, none⟩ by rw [Addr.add_lit, Addr.add_lit]] at this
      exact ⟨hh 0 (by decide), hh 1 (by decide), hh 2 (by decide), hh 3 (by decide)⟩
    · obtain ⟨i, hil, rfl⟩ := List.mem_iff_getElem.1 hy
      have := (hp i (by rw [← hll]; exact hil)).2
      have e : ps.getD i rqZ = ps[i] := by simp [List.getD_eq_getElem?_getD, hil]
      rwa [e] at this

theorem open_bools {H : Type} {enc : TypeId × Value → H} {W : World} {a : Option Addr} {len cap : Nat} {d : DataW H} {p : List MemPlace}
    (h : DataW.Trod enc Try.prog W 0 (fun _ => true) true 35 (.slice a len cap) d p) : ∃ xs : List Bool, len = xs.length ∧ (BlAt W W.heap.size a xs ∧ len ≤ cap ∧ cap ≤ maxLen) := by
  obtain ⟨fuel, hf⟩ := h
  have hC : Try.prog.cellsOf 4 = 1 := by kernel_rfl
  rcases open_slice Try.underlying35 hf with ⟨hcs, _⟩ | ⟨x, l, c, m, n, D, Pl, hcs, _, hl, hm, hmm, _, hi⟩
  · simp [Value.cells] at hcs
    obtain ⟨rfl, rfl, rfl⟩ := hcs
    exact ⟨[], rfl, ⟨fun h => absurd h (by simp)⟩, Nat.le_refl _, Nat.zero_le _⟩
  · simp [Value.cells] at hcs
    obtain ⟨rfl, rfl, rfl⟩ := hcs
    have key : ∀ i, i < len → ∃ s : Bool, W.cell? (x.add i) = some (.bool s) := fun i hil => by
      have him : i < m := by
        have := hmm
        split at this <;> omega
      obtain ⟨cs', hc, ht⟩ := hi i him
      rw [hC] at hc
      obtain ⟨_, hcl, hat⟩ := World.cells?_some hc
      match cs', hcl with
      | [c0], _ =>
      obtain ⟨s, e0, _⟩ := DataW.trod_bool Try.underlying4 ht
      simp at e0
      subst e0
      have h0 := hat 0 (by decide)
      refine ⟨s, ?_⟩
      simpa [Addr.add] using h0
    obtain ⟨ps, hll, hp⟩ := list_pick false len key
    refine ⟨ps, hll.symm, ⟨fun h0 => ?_⟩, hl, hm⟩
    have h00 := hp 0 (by rw [← hll]; exact h0)
    have hspot : x.spot = none := by simpa [Addr.add] using World.cell?_spot h00
    obtain ⟨b, o, sp⟩ := x
    obtain rfl : sp = none := hspot
    refine ⟨b, o, rfl, ?_, fun i hil => ?_⟩
    · have h01 : W.cell? ⟨b, o, none⟩ = some (.bool (ps.getD 0 false)) := by simpa [Addr.add] using h00
      exact World.block_lt_of_cell? _ _ h01
    · have := hp i (by rw [← hll]; exact hil)
      rwa [Addr.add_lit] at this
end Go.Proofs.Ytljgpaiojeffcaa
