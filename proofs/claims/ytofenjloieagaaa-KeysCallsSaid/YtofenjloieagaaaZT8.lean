/-  -/
import Derived.Laws.MakeOwn
import Derived.Laws.AppendOwnNone
import Derived.Lib.AppendZeros
import Derived.Test.YtofenjloieagaaaZC
import Derived.Test.YtofenjloieagaaaZT6
namespace Go.Proofs.Ytofenjloieagaaa
open Go.RowKit
set_option linter.unusedSimpArgs false
set_option linter.unusedVariables false
set_option maxRecDepth 100000

/-- The cells of a list. -/
def rowT (M : List Tc) : List Value := M.flatMap Tc.cells
theorem rowT_len (M : List Tc) : (rowT M).length = M.length * 4 := by
  induction M with
  | nil => rfl
  | cons x t ih => simp only [rowT, List.flatMap_cons, List.length_append, List.length_cons] at *; rw [ih]; simp [Tc.cells]; omega
theorem rowT_snoc (M : List Tc) (y : Tc) : rowT (M ++ [y]) = rowT M ++ y.cells := by unfold rowT; rw [List.flatMap_append]; simp
theorem rowT_app (M N : List Tc) : rowT (M ++ N) = rowT M ++ rowT N := by unfold rowT; rw [List.flatMap_append]
theorem rowT_get : ∀ (l : List Tc) (i j : Nat), i < l.length → j < 4 → (rowT l)[i * 4 + j]? = (l.getD i tcZ).cells[j]? := by
  intro l
  induction l with
  | nil => intro i j h _; simp at h
  | cons x t ih =>
    intro i j h hj
    have hc : x.cells.length = 4 := rfl
    unfold rowT at ih ⊢
    rw [List.flatMap_cons]
    cases i with
    | zero => rw [List.getElem?_append_left (by rw [hc]; omega)]; simp
    | succ i =>
      rw [List.getElem?_append_right (by rw [hc]; omega), hc, show (i + 1) * 4 + j - 4 = i * 4 + j by omega, ih i j (by simpa using h) hj]
      simp
theorem rowT_one {M : List Tc} : ∀ u ∈ rowT M, u.oneCell' = true := by
  intro u hu
  obtain ⟨x, _, hx⟩ := List.mem_flatMap.1 hu
  simp only [Tc.cells, List.mem_cons, List.mem_nil_iff, or_false] at hx
  rcases hx with rfl | rfl | rfl | rfl <;> rfl
theorem TB.cell {w : World} {b o : Nat} {x : Tc} (h : TB w b o x) {j : Nat} (hj : j < 4) : w.cell? ⟨b, o + j, none⟩ = x.cells[j]? := by
  match j, hj with
  | 0, _ => exact h.c0
  | 1, _ => exact h.c1
  | 2, _ => exact h.c2
  | 3, _ => exact h.c3
theorem TsAt.cells {w : World} {B : Nat} {A : Option Addr} {l : List Tc} (h : TsAt w B A l) {ad : Addr} (hA : A = some ad) : ∀ j u, (rowT l)[j]? = some u → w.cell? (ad.add j) = some u := by
  intro j u hu
  have hj : j < l.length * 4 := by
    have := (List.getElem?_eq_some_iff.1 hu).1
    rwa [rowT_len] at this
  obtain ⟨b, o, h1, _, h3⟩ := h.at_ (by omega)
  rw [hA] at h1
  obtain rfl := Option.some.inj h1
  have hadd : (⟨b, o, none⟩ : Addr).add j = ⟨b, o + j, none⟩ := by unfold Addr.add; split <;> simp_all
  have hdm : j = j / 4 * 4 + j % 4 := by omega
  have h4 : j % 4 < 4 := Nat.mod_lt _ (by decide)
  rw [hadd, show o + j = o + j / 4 * 4 + j % 4 by omega, (h3 (j / 4) (by omega)).cell h4]
  rw [hdm, rowT_get l (j / 4) (j % 4) (by omega) h4] at hu
  exact hu
theorem info_tc : (Try.prog.info? 45).map (fun i => (i.zero, i.size, i.bytes)) = some (some (.agg #[.int .i64 0, .int .i64 0, .int .i64 0, .bool false]), 4, 32) := by kernel_rfl

/-- A row of touches that the call owns. -/
abbrev OwnT (w : World) (base : Nat) (v : Value) (M : List Tc) : Prop := w.ownsRow base 45 4 v M.length (rowT M)
theorem OwnT.ts {w : World} {base : Nat} {A : Option Addr} {c : Nat} {M : List Tc} (h : OwnT w base (.slice A M.length c) M) : TsAt w w.heap.size A M := by
  rcases h.2 with ⟨h1, h2⟩ | ⟨g, cap, cur, h1, hb, hg, hn, hm, hs⟩
  · exact ⟨fun h0 => absurd h0 (by omega)⟩
  · injection h1 with h3 h4 h5
    subst h3
    have hlt := (h.lt g rfl).2
    refine ⟨fun h0 => ⟨g, 0, rfl, hlt, fun i hi => ?_⟩⟩
    have e : ∀ j, j < 4 → w.cell? ⟨g, 0 + i * 4 + j, none⟩ = (M.getD i tcZ).cells[j]? := fun j hj => by
      rw [Nat.zero_add, h.cellAt _ (by omega), rowT_get M i j hi hj]
    exact ⟨e 0 (by decide), e 1 (by decide), e 2 (by decide), e 3 (by decide)⟩
theorem OwnT.shape {w : World} {base : Nat} {v : Value} {M : List Tc} (h : OwnT w base v M) : ∃ A c, v = .slice A M.length c ∧ M.length ≤ c ∧ c ≤ maxLen := by
  rcases h.2 with ⟨rfl, h2⟩ | ⟨g, cap, cur, rfl, hb, hg, hn, hm, hs⟩
  · exact ⟨none, 0, by rw [h2], by omega, by decide⟩
  · exact ⟨_, _, rfl, hn, hm⟩
theorem OwnT.below {B : Nat} {v : Value} {M : List Tc} {w w' : World} (h : OwnT w B v M) (hb : Below w.heap.size w w') : OwnT w' B v M := own_below16 h hb

/-- APPEND OF A LIST, whatever its shape, to a row of the call's own. -/
theorem wpList_append_ts {w : World} {ops : Array Oper} {rest : List Oper} {o : Oper} {a : Act} {Q : Exit → Act → World → Prop} (hg : o.guard = none) (s x : Operand) (t : TypeId)
    (hop : o.op = Op.call { callee := Callee.builtin Builtin.append, args := #[s, x], argTypes := #[t, t] }) (h1 : Try.prog.underlying t = some (.slice 45))
    (base : Nat) (v : Value) (M : List Tc) (hs : a.eval s = v) (hown : OwnT w base v M) (B : Nat) (A : Option Addr) (c : Nat) (l : List Tc) (hx : a.eval x = .slice A l.length c) (hy : TsAt w B A l) (hn : A = none → c = 0)
    (b1 : (M ++ l).length ≤ 1000000) (hbase : base ≤ w.heap.size)
    (hK : ∀ v' w', OwnT w' base v' (M ++ l) → w.grownBy w' v.ownBlock → wpList Try.prog ops Q rest (a.put o.dst v') w') :
    wpList Try.prog ops Q (o :: rest) a w := by
  obtain ⟨i0, hi, hz0, hz1, hz2⟩ := info_parts info_tc
  rw [List.length_append] at b1
  cases hA : A with
  | none =>
    have hl : l = [] := by
      by_cases h0 : 0 < l.length
      · obtain ⟨b, o, e, _⟩ := hy.at_ h0
        rw [hA] at e; cases e
      · exact List.eq_nil_of_length_eq_zero (by omega)
    refine wpList_append_own_none hg s x t hop base 45 i0 4 h1 hi v M.length (rowT M) hs hown (by rw [hx, hA, hl, hn hA]; rfl) ?_
    exact hK v w (by rw [hl, List.append_nil]; exact hown) (World.grownBy.refl _ _)
  | some ad =>
    refine wpList_append_own w hg s x t hop base 45 i0 _ 4 32 h1 hi hz0 hz1 hz2 rfl (by decide) v M.length (rowT M) hs hown ad l.length c (rowT l) (by rw [hx, hA]) (rowT_len _) (hy.cells hA) rowT_one (by unfold maxLen; omega) (by omega) hbase ?_
    intro v' w' q1 q2 _
    refine hK v' w' ?_ q2
    unfold OwnT
    rw [rowT_app, List.length_append]
    exact q1

theorem new_tc (W : World) (y : Tc) : ∀ j u, (y.cells)[j]? = some u → (W.alloc (.cells #[.int .i64 y.time, .int .i64 y.what, .int .i64 y.key, .bool y.on] 45)).cell? ((⟨W.heap.size, 0, none⟩ : Addr).add j) = some u := by
  intro j u hj
  have e : (⟨W.heap.size, 0, none⟩ : Addr).add j = ⟨W.heap.size, j, none⟩ := by
    unfold Addr.add
    by_cases h : j = 0
    · rw [if_pos h, h]
    · rw [if_neg h]; simp
  rw [e, World.cell?_alloc_at _ _ _ _ rfl]
  simpa [Tc.cells] using hj
theorem cells_one (y : Tc) : ∀ u ∈ y.cells, u.oneCell' = true := by
  intro u hu
  simp only [Tc.cells, List.mem_cons, List.not_mem_nil, or_false] at hu
  rcases hu with rfl | rfl | rfl | rfl <;> rfl

/-- These keys, all going down or up at a time. -/
def mkT (t : Int) (on : Bool) (ks : List Int) : List Tc := ks.map fun k => ⟨t, 1, k, on⟩
theorem mkT_len (t : Int) (on : Bool) (ks : List Int) : (mkT t on ks).length = ks.length := by simp [mkT]
theorem mkT_more (t : Int) (on : Bool) {ks : List Int} {k : Nat} (h : k < ks.length) : mkT t on (ks.take (k + 1)) = mkT t on (ks.take k) ++ [⟨t, 1, ks.getD k 0, on⟩] := by
  unfold mkT
  rw [List.take_add_one, List.getElem?_eq_getElem h, List.map_append]
  simp [List.getD_eq_getElem?_getD, h]

end Go.Proofs.Ytofenjloieagaaa
