
/- Patches and calls that came in. -/
import Derived.Test.YtflbedomkeophaaS3
import Derived.Test.YtflbedomkeophaaW
import Derived.Lib.SmallJoins
import Derived.Deep.Slices
namespace Go.Proofs.Ytflbedomkeophaa
open Go.RowKit Go.ChangeShapes Go.WideShapes Go.ChangeAt Go.Deep
set_option maxRecDepth 100000
set_option linter.unusedSimpArgs false
set_option linter.unusedVariables false

theorem list_some {α : Type} (z : α) {p : Nat → α → Prop} : ∀ n : Nat, (∀ i, i < n → ∃ s, p i s) → ∃ l : List α, l.length = n ∧ ∀ i, i < n → p i (l.getD i z)
  | 0, _ => ⟨[], rfl, fun i h => by omega⟩
  | n + 1, h => by
    obtain ⟨l, hl, hp⟩ := list_some z n fun i hi => h i (by omega)
    obtain ⟨s, hs⟩ := h n (by omega)
    refine ⟨l ++ [s], by simp [hl], fun i hi => ?_⟩
    by_cases e : i = n
    · subst e
      have : (l ++ [s]).getD i z = s := by simp [List.getD_eq_getElem?_getD, ← hl]
      rw [this]; exact hs
    · have : (l ++ [s]).getD i z = l.getD i z := by
        simp only [List.getD_eq_getElem?_getD]
        rw [List.getElem?_append_left (by omega)]
      rw [this]
      exact hp i (by omega)

theorem bytes_of_cells {H : Type} {enc : TypeId × Value → H} {W : World} {n : Nat} {cs : List Value} {y : DataW H × List MemPlace} {sp : Nat → Bool}
    (h : DataW.trod enc Try.prog W 0 sp true n 27 cs = some y) : ∃ (A : Option Addr) (c : Nat) (l : List Int), cs = [.slice A l.length c] ∧ RB W W.heap.size A c l ∧ (A = none → c = 0) := by
  rcases open_ints Try.underlying27 Try.underlying5 (by kernel_rfl) h with ⟨hcs, _⟩ | ⟨x, l, c, zs, hcs, _, hl, hm, hz, _, hcell, hwz⟩
  · exact ⟨none, 0, [], hcs, RB.nil _ _, fun _ => rfl⟩
  · have hz' : l ≤ zs.length := by
      have h9 : zs.length = if sp x.block = true then c else l := by simpa using hz
      split at h9 <;> omega
    have hb : AllB zs := fun n hn => by have := bounds_u8 (hwz n hn); omega
    have hlen : (zs.take l).length = l := by rw [List.length_take]; omega
    refine ⟨some x, c, zs.take l, by rw [hlen]; exact hcs, ⟨by omega, hm, hb.take l, .inr ⟨x, rfl, fun h0 => ?_⟩⟩, fun h => by cases h⟩
    obtain ⟨b, off, rfl, hc⟩ := ints_at hcell (by omega)
    refine ⟨rfl, World.block_lt_of_cell? _ _ (hc 0 (by omega)), fun i hi => ?_⟩
    rw [hc i (by omega)]
    simp only [List.getD]
    rw [List.getElem?_take, if_pos (by omega)]

theorem pt_of_cells {H : Type} {enc : TypeId × Value → H} {W : World} {n : Nat} {cs : List Value} {y : DataW H × List MemPlace} {sp : Nat → Bool} (hl : cs.length = 3)
    (h : DataW.trod enc Try.prog W 0 sp true n 29 cs = some y) : ∃ s : Pt, cs = s.cells ∧ s.wfI ∧ RB W W.heap.size s.A s.c s.l := by
  have h1 : Try.prog.cellsOf 3 = 1 := by kernel_rfl
  have h2 : Try.prog.cellsOf 27 = 1 := by kernel_rfl
  match cs, hl with
  | [c0, c1, c2], _ =>
  obtain ⟨xs, n, _, _, hl, hlen, hfi⟩ := DataW.trod_struct Try.underlying29 h
  match xs, hlen with
  | [y0, y1, y2], _ =>
  have t0 := hfi 0 _ rfl
  have t1 := hfi 1 _ rfl
  have t2 := hfi 2 _ rfl
  simp [h1, h2, Value.cells] at t0 t1 t2
  obtain ⟨x0, e0, _, w0⟩ := DataW.trod_int Try.underlying3 t0
  obtain ⟨x1, e1, _, w1⟩ := DataW.trod_int Try.underlying3 t1
  obtain ⟨A, c, l, e2, hr, hn⟩ := bytes_of_cells t2
  simp at e0 e1 e2
  subst e0 e1 e2
  exact ⟨⟨x0, x1, A, c, l⟩, rfl, ⟨w0, w1, hn⟩, hr⟩
theorem ac_of_cells {H : Type} {enc : TypeId × Value → H} {W : World} {n : Nat} {cs : List Value} {y : DataW H × List MemPlace} {sp : Nat → Bool} (hl : cs.length = 4)
    (h : DataW.trod enc Try.prog W 0 sp true n 50 cs = some y) : ∃ s : Ac, cs = s.cells ∧ s.wf := by
  have h1 : Try.prog.cellsOf 3 = 1 := by kernel_rfl
  have h2 : Try.prog.cellsOf 37 = 1 := by kernel_rfl
  have h3 : Try.prog.cellsOf 5 = 1 := by kernel_rfl
  have h4 : Try.prog.cellsOf 4 = 1 := by kernel_rfl
  match cs, hl with
  | [c0, c1, c2, c3], _ =>
  obtain ⟨xs, n, _, _, hl, hlen, hfi⟩ := DataW.trod_struct Try.underlying50 h
  match xs, hlen with
  | [y0, y1, y2, y3], _ =>
  have t0 := hfi 0 _ rfl
  have t1 := hfi 1 _ rfl
  have t2 := hfi 2 _ rfl
  have t3 := hfi 3 _ rfl
  simp [h1, h2, h3, h4, Value.cells] at t0 t1 t2 t3
  obtain ⟨x0, e0, _, w0⟩ := DataW.trod_int Try.underlying3 t0
  obtain ⟨x1, e1, _, w1⟩ := DataW.trod_int Try.underlying37 t1
  obtain ⟨x2, e2, _, w2⟩ := DataW.trod_int Try.underlying5 t2
  obtain ⟨x3, e3, _⟩ := DataW.trod_bool Try.underlying4 t3
  simp at e0 e1 e2 e3
  subst e0 e1 e2 e3
  have b0 := bounds_i64 w0
  have b1 := bounds_u16 w1
  have b2 := bounds_u8 w2
  exact ⟨⟨x0, x1, x2, x3⟩, rfl, ⟨by dsimp only; omega, by dsimp only; omega, by dsimp only; omega⟩⟩

theorem open_pts {H : Type} {enc : TypeId × Value → H} {W : World} {a : Option Addr} {len cap : Nat} {d : DataW H} {p : List MemPlace}
    (h : DataW.Trod enc Try.prog W 0 (fun _ => true) true 30 (.slice a len cap) d p) : ∃ ps : List Pt, len = ps.length ∧ PtsAt W W.heap.size a cap ps ∧ (∀ x ∈ ps, x.wfI) ∧ (a = none → cap = 0) := by
  obtain ⟨fuel, hf⟩ := h
  have hC : Try.prog.cellsOf 29 = 3 := by kernel_rfl
  rcases open_slice Try.underlying30 hf with ⟨hcs, _⟩ | ⟨x, l, c, m, n, D, Pl, hcs, _, hl, hm, hmm, _, hi⟩
  · simp [Value.cells] at hcs
    obtain ⟨rfl, rfl, rfl⟩ := hcs
    exact ⟨[], rfl, ⟨Nat.le_refl _, Nat.zero_le _, fun h => absurd h (by simp), fun _ h => by cases h⟩, (fun _ h => by cases h), fun _ => rfl⟩
  · simp [Value.cells] at hcs
    obtain ⟨rfl, rfl, rfl⟩ := hcs
    have key : ∀ i, i < len → ∃ s : Pt, (∀ j, j < 3 → W.cell? ((x.add (i * 3)).add j) = s.cells[j]?) ∧ s.wfI ∧ RB W W.heap.size s.A s.c s.l := fun i hil => by
      have him : i < m := by
        have := hmm
        split at this <;> omega
      obtain ⟨cs', hc, ht⟩ := hi i him
      rw [hC] at hc
      obtain ⟨_, hcl, hat⟩ := World.cells?_some hc
      obtain ⟨s, rfl, hw, hr⟩ := pt_of_cells hcl ht
      exact ⟨s, hat, hw, hr⟩
    obtain ⟨ps, hll, hp⟩ := list_some ptZ len key
    refine ⟨ps, hll.symm, ⟨by rw [hll]; exact hl, hm, fun h0 => ?_, fun y hy => ?_⟩, fun y hy => ?_, fun h => by cases h⟩
    · have h00 := (hp 0 (by rw [← hll]; exact h0)).1 0 (by decide)
      have hx0 : (x.add (0 * 3)).add 0 = x := by simp [Addr.add]
      rw [hx0] at h00
      have hspot : x.spot = none := by simpa [Addr.add] using World.cell?_spot (show W.cell? x = some _ from h00)
      obtain ⟨b, o, sp⟩ := x
      obtain rfl : sp = none := hspot
      refine ⟨b, o, rfl, World.block_lt_of_cell? _ _ (show W.cell? ⟨b, o, none⟩ = some _ from h00), fun i hil j hj => ?_⟩
      have := (hp i (by rw [← hll]; exact hil)).1 j hj
      rwa [show ((⟨b, o, none⟩ : Addr).add (i * 3)).add j = ⟨b, o + i * 3 + j, none⟩ by rw [Addr.add_lit, Addr.add_lit]] at this
    · obtain ⟨i, hil, rfl⟩ := List.mem_iff_getElem.1 hy
      have := (hp i (by rw [← hll]; exact hil)).2.2
      rwa [getD_pt ps i hil] at this
    · obtain ⟨i, hil, rfl⟩ := List.mem_iff_getElem.1 hy
      have := (hp i (by rw [← hll]; exact hil)).2.1
      rwa [getD_pt ps i hil] at this
theorem open_acs {H : Type} {enc : TypeId × Value → H} {W : World} {a : Option Addr} {len cap : Nat} {d : DataW H} {p : List MemPlace}
    (h : DataW.Trod enc Try.prog W 0 (fun _ => true) true 46 (.slice a len cap) d p) : ∃ xs : List Ac, len = xs.length ∧ AcsAt W W.heap.size a cap xs ∧ (∀ x ∈ xs, x.wf) := by
  obtain ⟨fuel, hf⟩ := h
  have hC : Try.prog.cellsOf 50 = 4 := by kernel_rfl
  rcases open_slice Try.underlying46 hf with ⟨hcs, _⟩ | ⟨x, l, c, m, n, D, Pl, hcs, _, hl, hm, hmm, _, hi⟩
  · simp [Value.cells] at hcs
    obtain ⟨rfl, rfl, rfl⟩ := hcs
    exact ⟨[], rfl, ⟨Nat.le_refl _, Nat.zero_le _, fun h => absurd h (by simp)⟩, (fun _ h => by cases h)⟩
  · simp [Value.cells] at hcs
    obtain ⟨rfl, rfl, rfl⟩ := hcs
    have key : ∀ i, i < len → ∃ s : Ac, (∀ j, j < 4 → W.cell? ((x.add (i * 4)).add j) = s.cells[j]?) ∧ s.wf := fun i hil => by
      have him : i < m := by
        have := hmm
        split at this <;> omega
      obtain ⟨cs', hc, ht⟩ := hi i him
      rw [hC] at hc
      obtain ⟨_, hcl, hat⟩ := World.cells?_some hc
      obtain ⟨s, rfl, hw⟩ := ac_of_cells hcl ht
      exact ⟨s, hat, hw⟩
    obtain ⟨ps, hll, hp⟩ := list_some acZ len key
    refine ⟨ps, hll.symm, ⟨by rw [hll]; exact hl, hm, fun h0 => ?_⟩, fun y hy => ?_⟩
    · have h00 := (hp 0 (by rw [← hll]; exact h0)).1 0 (by decide)
      have hx0 : (x.add (0 * 4)).add 0 = x := by simp [Addr.add]
      rw [hx0] at h00
      have hspot : x.spot = none := by simpa [Addr.add] using World.cell?_spot (show W.cell? x = some _ from h00)
      obtain ⟨b, o, sp⟩ := x
      obtain rfl : sp = none := hspot
      refine ⟨b, o, rfl, World.block_lt_of_cell? _ _ (show W.cell? ⟨b, o, none⟩ = some _ from h00), fun i hil j hj => ?_⟩
      have := (hp i (by rw [← hll]; exact hil)).1 j hj
      rwa [show ((⟨b, o, none⟩ : Addr).add (i * 4)).add j = ⟨b, o + i * 4 + j, none⟩ by rw [Addr.add_lit, Addr.add_lit]] at this
    · obtain ⟨i, hil, rfl⟩ := List.mem_iff_getElem.1 hy
      have := (hp i (by rw [← hll]; exact hil)).2
      rwa [show ps.getD i acZ = ps[i] by simp [List.getD, hil]] at this
end Go.Proofs.Ytflbedomkeophaa
