
/- The document's own order of events. -/
import Derived.Test.YtileglkimbkkgaaK13
namespace Go.Proofs.Ytileglkimbkkgaa
open Go.RowKit
set_option linter.unusedSimpArgs false
set_option linter.unusedVariables false

theorem lex_drop : ∀ (k : Nat) (l m : List Int), l.length = m.length → k ≤ l.length → (∀ j, j < k → l.getD j 0 = m.getD j 0) → lexI l m = lexI (l.drop k) (m.drop k)
  | 0, l, m, _, _, _ => by simp
  | k + 1, [], m, _, h, _ => by simp at h
  | k + 1, x :: t, [], h, _, _ => by simp at h
  | k + 1, x :: t, y :: u, h1, h2, h => by
    have h0 := h 0 (by omega)
    simp at h0
    subst h0
    rw [lex_one, if_neg (by omega), if_neg (by omega)]
    exact lex_drop k t u (by simpa using h1) (by simpa using h2) (fun j hj => by have := h (j + 1) (by omega); simpa using this)
theorem lex_at {k : Nat} {l m : List Int} (hl : l.length = m.length) (hk : k < l.length) (h : ∀ j, j < k → l.getD j 0 = m.getD j 0) : lexI l m = if l.getD k 0 < m.getD k 0 then -1 else if m.getD k 0 < l.getD k 0 then 1 else lexI (l.drop (k + 1)) (m.drop (k + 1)) := by
  rw [lex_drop k l m hl (by omega) h, List.drop_eq_getElem_cons hk, List.drop_eq_getElem_cons (by omega : k < m.length), lex_one]
  have e1 : l.getD k 0 = l[k] := by simp [List.getD_eq_getElem?_getD, hk]
  have e2 : m.getD k 0 = m[k] := by simp [List.getD_eq_getElem?_getD, (by omega : k < m.length)]
  rw [e1, e2]

theorem six_at {w : World} {g : Nat} {x : Ev} (h : w.heap[g]? = some (.cells #[.int .i64 x.time, .int .i64 x.chip, .int .i64 x.seq, .int .i64 x.kind, .int .i64 x.a, .int .i64 x.b] 2 (0, 0))) : ∀ k, k < 6 → w.cell? ⟨g, k, none⟩ = some (.int .i64 (x.ns.getD k 0)) := by
  intro k hk
  rw [cell_of_row w g _ _ _ _ h]
  match k, hk with
  | 0, _ | 1, _ | 2, _ | 3, _ | 4, _ | 5, _ => rfl

abbrev six64 (x : Ev) : Obj := .cells #[.int .i64 x.time, .int .i64 x.chip, .int .i64 x.seq, .int .i64 x.kind, .int .i64 x.a, .int .i64 x.b] 2

set_option maxRecDepth 100000 in
set_option maxHeartbeats 2000000 in
theorem r3_order (w : World) (x y : Ev) : Calls Try.prog 36 #[x.val, y.val] w fun e w' => e = .returned (.int .i64 (ordE x y)) ∧ Below w.heap.size w w' := by
  unfold Ev.val
  go_enter Try.func36, Try.ntmps36
  go_wp2_with fail
  have hB : Below w.heap.size w ((((w.alloc (evO x)).alloc (evO y)).alloc (six64 x)).alloc (six64 y)) := ((((Below.refl _ _).alloc (Nat.le_refl _) _).alloc (by simp) _).alloc (by simp; omega) _).alloc (by simp; omega) _
  have hX : ((((w.alloc (evO x)).alloc (evO y)).alloc (six64 x)).alloc (six64 y)).heap[w.heap.size + 1 + 1]? = some (six64 x) := by
    have h1 := heap_alloc_new ((w.alloc (evO x)).alloc (evO y)) (six64 x)
    have h2 := ((Below.refl _ (((w.alloc (evO x)).alloc (evO y)).alloc (six64 x))).alloc (B := (((w.alloc (evO x)).alloc (evO y)).alloc (six64 x)).heap.size) (Nat.le_refl _) (six64 y)).block (w.heap.size + 1 + 1) (by simp)
    exact h2.trans (by simpa using h1)
  have hY : ((((w.alloc (evO x)).alloc (evO y)).alloc (six64 x)).alloc (six64 y)).heap[w.heap.size + 1 + 1 + 1]? = some (six64 y) := by
    have h1 := heap_alloc_new (((w.alloc (evO x)).alloc (evO y)).alloc (six64 x)) (six64 y)
    simpa using h1
  have HB := Lib.hid hB
  have HX := Lib.hid hX
  have HY := Lib.hid hY
  unfold evO six64 at HB HX HY
  clear hB hX hY
  go_loopw [7] (fun i wr => ∃ k : Nat, k ≤ 6 ∧ i = .int .i64 k ∧ (∀ j, j < k → x.ns.getD j 0 = y.ns.getD j 0) ∧ Below w.heap.size w wr ∧ wr.heap[w.heap.size + 1 + 1]? = some (six64 x) ∧ wr.heap[w.heap.size + 1 + 1 + 1]? = some (six64 y)) (fun i _ => 6 - (intOf i).toNat)
  case atStart => exact ⟨0, by omega, rfl, fun j hj => by omega, HB.out, HX.out, HY.out⟩
  case round =>
    obtain ⟨k, hk, rfl, he, hb, hx, hy⟩ := hrel
    have HE := Lib.hid he
    have HX1 := Lib.hid hx
    have HY1 := Lib.hid hy
    by_cases hlt : k < 6
    · have c1 := six_at hx k hlt
      have c2 := six_at hy k hlt
      have hla := lex_at (l := x.ns) (m := y.ns) rfl (by show k < 6; exact hlt) he
      rw [← ordE_lex] at hla
      obtain ⟨u, hu⟩ : ∃ u, x.ns.getD k 0 = u := ⟨_, rfl⟩
      obtain ⟨v, hv⟩ : ∃ v, y.ns.getD k 0 = v := ⟨_, rfl⟩
      rw [hu] at c1
      rw [hv] at c2
      rw [hu, hv] at hla
      have HU := Lib.hid hu
      have HV := Lib.hid hv
      have HLA := Lib.hid hla
      clear hx hy he hu hv hla
      have hk6 : (k : Int) < 6 := by omega
      rcases Int.lt_trichotomy u v with h | h | h
      · go_wp2_with fail
        go_quiet (fail)
        go_wp2_with fail
        go_ret
        rw [HLA.out, if_pos h]
        exact ⟨rfl, ⟨hb.os, hb.tape, hb.output, hb.size, hb.block⟩⟩
      · have h1 : ¬ u < v := by omega
        have h2 : ¬ v < u := by omega
        have H := Lib.hid h
        clear h
        go_wp2_with fail
        go_quiet (fail)
        go_wp2_with fail
        go_quiet (fail)
        go_wp2_with fail
        refine ⟨⟨k + 1, by omega, by go_num, fun j hj => ?_, ⟨hb.os, hb.tape, hb.output, hb.size, hb.block⟩, HX1.out, HY1.out⟩, by simp [intOf]; omega⟩
        by_cases e : j = k
        · subst e; rw [HU.out, HV.out]; exact H.out
        · exact HE.out j (by omega)
      · have h1 : ¬ u < v := by omega
        go_wp2_with fail
        go_quiet (fail)
        go_wp2_with fail
        go_quiet (fail)
        go_wp2_with fail
        go_ret
        rw [HLA.out, if_neg (by omega), if_pos h]
        exact ⟨rfl, ⟨hb.os, hb.tape, hb.output, hb.size, hb.block⟩⟩
    · obtain rfl : k = 6 := by omega
      clear hx hy he
      go_wp2_with fail
      go_ret
      have hz : ordE x y = 0 := by
        rw [ordE_lex, lex_drop 6 x.ns y.ns rfl (Nat.le_refl _) HE.out]
        rfl
      rw [hz]
      exact ⟨rfl, hb⟩
end Go.Proofs.Ytileglkimbkkgaa
