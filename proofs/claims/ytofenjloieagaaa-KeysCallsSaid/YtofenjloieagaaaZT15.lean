/-  -/
import Derived.Test.YtofenjloieagaaaZT14
namespace Go.Proofs.Ytofenjloieagaaa
open Go.RowKit Go.ChangeShapes Go.WideShapes Go.ChangeAt Go.Deep
set_option linter.unusedSimpArgs false
set_option linter.unusedVariables false
set_option maxRecDepth 100000

theorem info_int : (Try.prog.info? 3).map (fun i => (i.zero, i.size, i.bytes)) = some (some (.int .i64 0), 1, 8) := by kernel_rfl
theorem NsAt.cells {w : World} {B : Nat} {A : Option Addr} {l : List Int} (h : NsAt w B A l) {ad : Addr} (hA : A = some ad) : ∀ j u, (l.map (Value.int .i64))[j]? = some u → w.cell? (ad.add j) = some u := by
  intro j u hu
  have hj : j < l.length := by
    have := (List.getElem?_eq_some_iff.1 hu).1
    simpa using this
  obtain ⟨b, o, h1, _, h3⟩ := h.at_ (by omega)
  rw [hA] at h1
  obtain rfl := Option.some.inj h1
  have hadd : (⟨b, o, none⟩ : Addr).add j = ⟨b, o + j, none⟩ := by unfold Addr.add; split <;> simp_all
  rw [hadd, h3 j hj]
  simp [hj] at hu
  rw [← hu]
  simp [List.getD_eq_getElem?_getD, hj]

/-- Ints appended to a row of the call's own that is empty. -/
theorem wpList_append_is {w : World} {ops : Array Oper} {rest : List Oper} {o : Oper} {a : Act} {Q : Exit → Act → World → Prop} (hg : o.guard = none) (s x : Operand) (t : TypeId)
    (hop : o.op = Op.call { callee := Callee.builtin Builtin.append, args := #[s, x], argTypes := #[t, t] }) (h1 : Try.prog.underlying t = some (.slice 3))
    (base : Nat) (v : Value) (hs : a.eval s = v) (hown : w.ownsRow base 3 1 v 0 []) (B : Nat) (A : Option Addr) (c : Nat) (l : List Int) (hx : a.eval x = .slice A l.length c) (hy : NsAt w B A l) (hn : A = none → c = 0)
    (b1 : l.length ≤ 1000000) (hbase : base ≤ w.heap.size)
    (hK : ∀ v' w', w'.ownsRow base 3 1 v' l.length (l.map (Value.int .i64)) → w.grownBy w' v.ownBlock → wpList Try.prog ops Q rest (a.put o.dst v') w') :
    wpList Try.prog ops Q (o :: rest) a w := by
  obtain ⟨i0, hi, hz0, hz1, hz2⟩ := info_parts info_int
  cases hA : A with
  | none =>
    have hl : l = [] := by
      by_cases h0 : 0 < l.length
      · obtain ⟨b, o, e, _⟩ := hy.at_ h0
        rw [hA] at e; cases e
      · exact List.eq_nil_of_length_eq_zero (by omega)
    refine wpList_append_own_none hg s x t hop base 3 i0 1 h1 hi v 0 [] hs hown (by rw [hx, hA, hl, hn hA]; rfl) ?_
    exact hK v w (by rw [hl]; exact hown) (World.grownBy.refl _ _)
  | some ad =>
    refine wpList_append_own w hg s x t hop base 3 i0 _ 1 8 h1 hi hz0 hz1 hz2 rfl (by decide) v 0 [] hs hown ad l.length c (l.map (Value.int .i64)) (by rw [hx, hA]) (by simp) (hy.cells hA) (fun u hu => by obtain ⟨y, _, rfl⟩ := List.mem_map.1 hu; rfl) (by unfold maxLen; omega) (by omega) hbase ?_
    intro v' w' q1 q2 _
    refine hK v' w' ?_ q2
    simpa using q1

theorem open_ints {H : Type} {enc : TypeId × Value → H} {W : World} {a : Option Addr} {len cap : Nat} {d : DataW H} {p : List MemPlace}
    (h : DataW.Trod enc Try.prog W 0 (fun _ => true) true 35 (.slice a len cap) d p) : ∃ xs : List Int, len = xs.length ∧ (NsAt W W.heap.size a xs ∧ len ≤ cap ∧ cap ≤ maxLen ∧ (a = none → cap = 0)) := by
  obtain ⟨fuel, hf⟩ := h
  have hC : Try.prog.cellsOf 3 = 1 := by kernel_rfl
  rcases open_slice Try.underlying35 hf with ⟨hcs, _⟩ | ⟨x, l, c, m, n, D, Pl, hcs, _, hl, hm, hmm, _, hi⟩
  · simp [Value.cells] at hcs
    obtain ⟨rfl, rfl, rfl⟩ := hcs
    exact ⟨[], rfl, ⟨fun h => absurd h (by simp)⟩, Nat.le_refl _, Nat.zero_le _, fun _ => rfl⟩
  · simp [Value.cells] at hcs
    obtain ⟨rfl, rfl, rfl⟩ := hcs
    have key : ∀ i, i < len → ∃ s : Int, W.cell? (x.add i) = some (.int .i64 s) := fun i hil => by
      have him : i < m := by
        have := hmm
        split at this <;> omega
      obtain ⟨cs', hc, ht⟩ := hi i him
      rw [hC] at hc
      obtain ⟨_, hcl, hat⟩ := World.cells?_some hc
      match cs', hcl with
      | [c0], _ =>
      obtain ⟨s, e0, _⟩ := DataW.trod_int Try.underlying3 ht
      simp at e0
      subst e0
      have h0 := hat 0 (by decide)
      refine ⟨s, ?_⟩
      simpa [Addr.add] using h0
    obtain ⟨ps, hll, hp⟩ := list_pick 0 len key
    refine ⟨ps, hll.symm, ⟨fun h0 => ?_⟩, hl, hm, fun h => (by cases h)⟩
    have h00 := hp 0 (by rw [← hll]; exact h0)
    have hspot : x.spot = none := by simpa [Addr.add] using World.cell?_spot h00
    obtain ⟨b, o, sp⟩ := x
    obtain rfl : sp = none := hspot
    refine ⟨b, o, rfl, ?_, fun i hil => ?_⟩
    · have h01 : W.cell? ⟨b, o, none⟩ = some (.int .i64 (ps.getD 0 0)) := by simpa [Addr.add] using h00
      exact World.block_lt_of_cell? _ _ h01
    · have := hp i (by rw [← hll]; exact hil)
      rwa [Addr.add_lit] at this

end Go.Proofs.Ytofenjloieagaaa
