
/- The document's own answers of chapter 3: Chip, Order, Check, Bytes. -/
import Derived.Test.YthmogabonfkmhaaGreatDoorF2
import Derived.Test.YthmogabonfkmhaaGreatDoorF5
import Derived.Test.YthmogabonfkmhaaGreatDoorG0
import Derived.Test.YthmogabonfkmhaaGreatDoorQ3
import Derived.Test.YthmogabonfkmhaaGreatDoorD
import Derived.Test.YthmogabonfkmhaaGreatDoorG2
namespace Go.Proofs.YthmogabonfkmhaaGreatDoor
open Go.RowKit
set_option linter.unusedSimpArgs false
set_option linter.unusedVariables false

section
open Go.RowKit

set_option linter.unusedSimpArgs false

set_option linter.unusedVariables false

set_option maxHeartbeats 1000000 in
theorem rchip_any (k : Int) (w : World) : Calls Tryz.prog 13 #[.int .i64 k] w fun e w' => e = .returned (.int .i64 (chipOf k)) ∧ w = w' := by
  go_enter Tryz.func13, Tryz.ntmps13
  go_wp2
  all_goals
    go_ret
    exact ⟨ret_i64 (by unfold chipOf; (try simp only [beq_iff_eq, beq_eq_false_iff_ne, ne_eq, Bool.not_eq_true, Bool.or_eq_true, Bool.or_eq_false_iff] at *); (repeat' split) <;> omega), rfl⟩
end

section
open Go.RowKit

set_option linter.unusedSimpArgs false

set_option linter.unusedVariables false

theorem lex_drop : ∀ (k : Nat) (l m : List Int), l.length = m.length → k ≤ l.length → (∀ j, j < k → l.getD j 0 = m.getD j 0) → lexI l m = lexI (l.drop k) (m.drop k)
  | 0, l, m, _, _, _ => by simp
  | k + 1, [], m, _, h, _ => by simp at h
  | k + 1, x :: t, [], h, _, _ => by simp at h
  | k + 1, x :: t, y :: u, h1, h2, h => by
    have h0 := h 0 (by omega)
    simp at h0
    subst h0
    rw [lex_one, if_neg (by omega), if_neg (by omega)]
    exact lex_drop k t u (by simpa using h1) (by simpa using h2) (fun j hj => by have := h (j + 1) (by omega); simpa using this)

theorem lex_at {k : Nat} {l m : List Int} (hl : l.length = m.length) (hk : k < l.length) (h : ∀ j, j < k → l.getD j 0 = m.getD j 0) : lexI l m = if l.getD k 0 < m.getD k 0 then -1 else if m.getD k 0 < l.getD k 0 then 1 else lexI (l.drop (k + 1)) (m.drop (k + 1)) := by
  rw [lex_drop k l m hl (by omega) h, List.drop_eq_getElem_cons hk, List.drop_eq_getElem_cons (by omega : k < m.length), lex_one]
  have e1 : l.getD k 0 = l[k] := by simp [List.getD_eq_getElem?_getD, hk]
  have e2 : m.getD k 0 = m[k] := by simp [List.getD_eq_getElem?_getD, (by omega : k < m.length)]
  rw [e1, e2]

theorem six_at {w : World} {g : Nat} {x : Ev} (h : w.heap[g]? = some (.cells #[.int .i64 x.time, .int .i64 x.chip, .int .i64 x.seq, .int .i64 x.kind, .int .i64 x.a, .int .i64 x.b] 2 (0, 0))) : ∀ k, k < 6 → w.cell? ⟨g, k, none⟩ = some (.int .i64 (x.ns.getD k 0)) := by
  intro k hk
  rw [cell_of_row w g _ _ _ _ h]
  match k, hk with
  | 0, _ | 1, _ | 2, _ | 3, _ | 4, _ | 5, _ => rfl

abbrev six64 (x : Ev) : Obj := .cells #[.int .i64 x.time, .int .i64 x.chip, .int .i64 x.seq, .int .i64 x.kind, .int .i64 x.a, .int .i64 x.b] 2

set_option maxRecDepth 100000 in
set_option maxHeartbeats 2000000 in
theorem r3_order (w : World) (x y : Ev) : Calls Tryz.prog 19 #[x.val, y.val] w fun e w' => e = .returned (.int .i64 (ordE x y)) ∧ Below w.heap.size w w' := by
  unfold Ev.val
  go_enter Tryz.func19, Tryz.ntmps19
  go_wp2_with fail
  have hB : Below w.heap.size w ((((w.alloc (evO x)).alloc (evO y)).alloc (six64 x)).alloc (six64 y)) := ((((Below.refl _ _).alloc (Nat.le_refl _) _).alloc (by simp) _).alloc (by simp; omega) _).alloc (by simp; omega) _
  have hX : ((((w.alloc (evO x)).alloc (evO y)).alloc (six64 x)).alloc (six64 y)).heap[w.heap.size + 1 + 1]? = some (six64 x) := by
    have h1 := heap_alloc_new ((w.alloc (evO x)).alloc (evO y)) (six64 x)
    have h2 := ((Below.refl _ (((w.alloc (evO x)).alloc (evO y)).alloc (six64 x))).alloc (B := (((w.alloc (evO x)).alloc (evO y)).alloc (six64 x)).heap.size) (Nat.le_refl _) (six64 y)).block (w.heap.size + 1 + 1) (by simp)
    exact h2.trans (by simpa using h1)
  have hY : ((((w.alloc (evO x)).alloc (evO y)).alloc (six64 x)).alloc (six64 y)).heap[w.heap.size + 1 + 1 + 1]? = some (six64 y) := by
    have h1 := heap_alloc_new (((w.alloc (evO x)).alloc (evO y)).alloc (six64 x)) (six64 y)
    simpa using h1
  have HB := Lib.hid hB
  have HX := Lib.hid hX
  have HY := Lib.hid hY
  unfold evO six64 at HB HX HY
  clear hB hX hY
  go_loopw [7] (fun i wr => ∃ k : Nat, k ≤ 6 ∧ i = .int .i64 k ∧ (∀ j, j < k → x.ns.getD j 0 = y.ns.getD j 0) ∧ Below w.heap.size w wr ∧ wr.heap[w.heap.size + 1 + 1]? = some (six64 x) ∧ wr.heap[w.heap.size + 1 + 1 + 1]? = some (six64 y)) (fun i _ => 6 - (intOf i).toNat)
  case atStart => exact ⟨0, by omega, rfl, fun j hj => by omega, HB.out, HX.out, HY.out⟩
  case round =>
    obtain ⟨k, hk, rfl, he, hb, hx, hy⟩ := hrel
    have HE := Lib.hid he
    have HX1 := Lib.hid hx
    have HY1 := Lib.hid hy
    by_cases hlt : k < 6
    · have c1 := six_at hx k hlt
      have c2 := six_at hy k hlt
      have hla := lex_at (l := x.ns) (m := y.ns) rfl (by show k < 6; exact hlt) he
      rw [← ordE_lex] at hla
      obtain ⟨u, hu⟩ : ∃ u, x.ns.getD k 0 = u := ⟨_, rfl⟩
      obtain ⟨v, hv⟩ : ∃ v, y.ns.getD k 0 = v := ⟨_, rfl⟩
      rw [hu] at c1
      rw [hv] at c2
      rw [hu, hv] at hla
      have HU := Lib.hid hu
      have HV := Lib.hid hv
      have HLA := Lib.hid hla
      clear hx hy he hu hv hla
      have hk6 : (k : Int) < 6 := by omega
      rcases Int.lt_trichotomy u v with h | h | h
      · go_wp2_with fail
        go_quiet (fail)
        go_wp2_with fail
        go_ret
        rw [HLA.out, if_pos h]
        exact ⟨rfl, ⟨hb.os, hb.tape, hb.output, hb.size, hb.block⟩⟩
      · have h1 : ¬ u < v := by omega
        have h2 : ¬ v < u := by omega
        have H := Lib.hid h
        clear h
        go_wp2_with fail
        go_quiet (fail)
        go_wp2_with fail
        go_quiet (fail)
        go_wp2_with fail
        refine ⟨⟨k + 1, by omega, by go_num, fun j hj => ?_, ⟨hb.os, hb.tape, hb.output, hb.size, hb.block⟩, HX1.out, HY1.out⟩, by simp [intOf]; omega⟩
        by_cases e : j = k
        · subst e; rw [HU.out, HV.out]; exact H.out
        · exact HE.out j (by omega)
      · have h1 : ¬ u < v := by omega
        go_wp2_with fail
        go_quiet (fail)
        go_wp2_with fail
        go_quiet (fail)
        go_wp2_with fail
        go_ret
        rw [HLA.out, if_neg (by omega), if_pos h]
        exact ⟨rfl, ⟨hb.os, hb.tape, hb.output, hb.size, hb.block⟩⟩
    · obtain rfl : k = 6 := by omega
      clear hx hy he
      go_wp2_with fail
      go_ret
      have hz : ordE x y = 0 := by
        rw [ordE_lex, lex_drop 6 x.ns y.ns rfl (Nat.le_refl _) HE.out]
        rfl
      rw [hz]
      exact ⟨rfl, hb⟩
end

section
open Go.RowKit

set_option linter.unusedSimpArgs false

set_option linter.unusedVariables false

theorem r2may_any (t : Int) (w : World) : Calls Tryz.prog 37 #[.int .i64 t] w fun e w' => e = .returned (.bool (decide (0 ≤ t ∧ t ≤ 1099511627776))) ∧ w = w' := by
  by_cases h0 : 0 ≤ t
  · by_cases h1 : t ≤ 1099511627776
    · go_enter Tryz.func37, Tryz.ntmps37
      go_wp2
      go_ret
      exact ⟨by simp [h0, h1], rfl⟩
    · have h2 : 1099511627776 < t := by omega
      go_enter Tryz.func37, Tryz.ntmps37
      go_wp2
      go_ret
      exact ⟨by simp [h0, h1], rfl⟩
  · have h2 : t < 0 := by omega
    go_enter Tryz.func37, Tryz.ntmps37
    go_wp2
    go_ret
    exact ⟨by simp; omega, rfl⟩

set_option maxRecDepth 100000 in
set_option maxHeartbeats 8000000 in
theorem r3check_any (w : World) (x : Ev) : Calls Tryz.prog 17 #[x.val] w (ChecksAs x w.heap.size w) := by
  have hb0 : Below w.heap.size w (w.alloc (evO x)) := (Below.refl _ _).alloc (Nat.le_refl _) _
  have he := (EV.laid w x).later (by simp)
  have HB0 := Lib.hid hb0
  clear hb0
  obtain ⟨t, c, s, k, a, b⟩ := x
  have x0 := fun p => (he p).c0
  have x1 := fun p => (he p).c1
  have x2 := fun p => (he p).c2
  have x3 := fun p => (he p).c3
  have x4 := fun p => (he p).c4
  have x5 := fun p => (he p).c5
  clear he
  simp only [evO] at x0 x1 x2 x3 x4 x5
  have HMY := Lib.hid (fun W => r2may_any t W)
  have HCP := Lib.hid (fun W => rchip_any k W)
  unfold Ev.val
  go_enter Tryz.func17, Tryz.ntmps17
  go_upto_region 1 with fail
  by_cases m0 : 0 ≤ t ∧ t ≤ 1099511627776
  case neg =>
    rw [decide_eq_false m0] at HMY
    have HN := Lib.hid (show ¬ Ev.May ⟨t, c, s, k, a, b⟩ from fun h => m0 ⟨h.2.2.1, h.2.2.2.1⟩)
    clear m0
    refine L.region_ (fun _ => False) (by kernel_rfl) ?_
    refine L.seg_ [0, 1] 46 _ (by kernel_rfl) (by kernel_rfl) (by kernel_rfl) (by simp only [pickOps, mask, plain, List.getElem?_toArray, List.getElem?_cons_zero, List.getElem?_cons_succ, if_true, Bool.false_eq_true, if_false]; rfl) ?_
    repeat (go_big_quiet_step (fail))
    refine wpQuiet_nil ?_
    refine L.calm_ (i := 2) (.bool false) rfl (by kernel_rfl) (by kernel_rfl) (by kernel_rfl) (by kernel_rfl) ?_ ?_
    · intro wz _
      unfold Oper.does
      go_simp
      exact (HMY.out wz).mono fun e w' ⟨he, hw⟩ => ⟨_, he, rfl, hw ▸ Save.refl _ _⟩
    go_simp
    refine L.seg_ [3, 4, 5, 6, 7, 8, 9, 10, 11, 12, 13, 14, 15, 16, 17, 18, 19, 20, 21, 22, 23, 24, 25, 26, 27, 28, 29, 30, 31, 32, 33, 34, 35, 36, 37, 38, 39, 40, 41, 42, 43, 44, 45, 46, 47] 0 _ (by kernel_rfl) (by kernel_rfl) (by kernel_rfl) (by simp only [pickOps, mask, plain, List.getElem?_toArray, List.getElem?_cons_zero, List.getElem?_cons_succ, if_true, Bool.false_eq_true, if_false]; rfl) ?_
    repeat (go_big_quiet_step (fail))
    refine wpQuiet_nil ?_
    refine L.end_ (by kernel_rfl) ?_
    intro wf sf
    have hbf := HB0.out.trans (sf.all.mono (by simp))
    clear sf
    go_wp2_with fail
    go_ret
    exact ⟨.inr ⟨rfl, HN.out⟩, hbf⟩
  rw [decide_eq_true m0] at HMY
  by_cases m1 : chipOf k = 0
  case pos =>
    have HN := Lib.hid (show ¬ Ev.May ⟨t, c, s, k, a, b⟩ from fun h => by simp only [Ev.May] at h; omega)
    have f1 : (chipOf k == 0) = true := by simp [m1]
    clear m0 m1
    refine L.region_ (fun _ => False) (by kernel_rfl) ?_
    refine L.seg_ [0, 1] 46 _ (by kernel_rfl) (by kernel_rfl) (by kernel_rfl) (by simp only [pickOps, mask, plain, List.getElem?_toArray, List.getElem?_cons_zero, List.getElem?_cons_succ, if_true, Bool.false_eq_true, if_false]; rfl) ?_
    repeat (go_big_quiet_step (fail))
    refine wpQuiet_nil ?_
    refine L.calm_ (i := 2) (.bool true) rfl (by kernel_rfl) (by kernel_rfl) (by kernel_rfl) (by kernel_rfl) ?_ ?_
    · intro wz _
      unfold Oper.does
      go_simp
      exact (HMY.out wz).mono fun e w' ⟨he, hw⟩ => ⟨_, he, rfl, hw ▸ Save.refl _ _⟩
    go_simp
    refine L.seg_ [3, 4, 5, 6] 41 _ (by kernel_rfl) (by kernel_rfl) (by kernel_rfl) (by simp only [pickOps, mask, plain, List.getElem?_toArray, List.getElem?_cons_zero, List.getElem?_cons_succ, if_true, Bool.false_eq_true, if_false]; rfl) ?_
    repeat (go_big_quiet_step (fail))
    refine wpQuiet_nil ?_
    refine L.calm_ (i := 7) (.int .i64 (chipOf k)) rfl (by kernel_rfl) (by kernel_rfl) (by kernel_rfl) (by kernel_rfl) ?_ ?_
    · intro wz _
      unfold Oper.does
      go_simp
      exact (HCP.out wz).mono fun e w' ⟨he, hw⟩ => ⟨_, he, rfl, hw ▸ Save.refl _ _⟩
    go_simp
    refine L.seg_ [8, 9, 10, 11, 12, 13, 14, 15, 16, 17, 18, 19, 20, 21, 22, 23, 24, 25, 26, 27, 28, 29, 30, 31, 32, 33, 34, 35, 36, 37, 38, 39, 40, 41, 42, 43, 44, 45, 46, 47] 0 _ (by kernel_rfl) (by kernel_rfl) (by kernel_rfl) (by simp only [pickOps, mask, plain, List.getElem?_toArray, List.getElem?_cons_zero, List.getElem?_cons_succ, if_true, Bool.false_eq_true, if_false]; rfl) ?_
    repeat (go_big_quiet_step (fail))
    refine wpQuiet_nil ?_
    refine L.end_ (by kernel_rfl) ?_
    intro wf sf
    have hbf := HB0.out.trans (sf.all.mono (by simp))
    clear sf
    go_wp2_with fail
    go_ret
    exact ⟨.inr ⟨rfl, HN.out⟩, hbf⟩
  have f1 : (chipOf k == 0) = false := by simp [m1]
  by_cases m2 : c ≠ chipOf k
  case pos =>
    have HN := Lib.hid (show ¬ Ev.May ⟨t, c, s, k, a, b⟩ from fun h => by simp only [Ev.May] at h; omega)
    have f2 : (c != chipOf k) = true := by simpa using m2
    clear m0 m1 m2
    refine L.region_ (fun _ => False) (by kernel_rfl) ?_
    refine L.seg_ [0, 1] 46 _ (by kernel_rfl) (by kernel_rfl) (by kernel_rfl) (by simp only [pickOps, mask, plain, List.getElem?_toArray, List.getElem?_cons_zero, List.getElem?_cons_succ, if_true, Bool.false_eq_true, if_false]; rfl) ?_
    repeat (go_big_quiet_step (fail))
    refine wpQuiet_nil ?_
    refine L.calm_ (i := 2) (.bool true) rfl (by kernel_rfl) (by kernel_rfl) (by kernel_rfl) (by kernel_rfl) ?_ ?_
    · intro wz _
      unfold Oper.does
      go_simp
      exact (HMY.out wz).mono fun e w' ⟨he, hw⟩ => ⟨_, he, rfl, hw ▸ Save.refl _ _⟩
    go_simp
    refine L.seg_ [3, 4, 5, 6] 41 _ (by kernel_rfl) (by kernel_rfl) (by kernel_rfl) (by simp only [pickOps, mask, plain, List.getElem?_toArray, List.getElem?_cons_zero, List.getElem?_cons_succ, if_true, Bool.false_eq_true, if_false]; rfl) ?_
    repeat (go_big_quiet_step (fail))
    refine wpQuiet_nil ?_
    refine L.calm_ (i := 7) (.int .i64 (chipOf k)) rfl (by kernel_rfl) (by kernel_rfl) (by kernel_rfl) (by kernel_rfl) ?_ ?_
    · intro wz _
      unfold Oper.does
      go_simp
      exact (HCP.out wz).mono fun e w' ⟨he, hw⟩ => ⟨_, he, rfl, hw ▸ Save.refl _ _⟩
    go_simp
    refine L.seg_ [8, 9, 10, 11, 12, 13, 14] 33 _ (by kernel_rfl) (by kernel_rfl) (by kernel_rfl) (by simp only [pickOps, mask, plain, List.getElem?_toArray, List.getElem?_cons_zero, List.getElem?_cons_succ, if_true, Bool.false_eq_true, if_false]; rfl) ?_
    repeat (go_big_quiet_step (fail))
    refine wpQuiet_nil ?_
    refine L.calm_ (i := 15) (.int .i64 (chipOf k)) rfl (by kernel_rfl) (by kernel_rfl) (by kernel_rfl) (by kernel_rfl) ?_ ?_
    · intro wz _
      unfold Oper.does
      go_simp
      exact (HCP.out wz).mono fun e w' ⟨he, hw⟩ => ⟨_, he, rfl, hw ▸ Save.refl _ _⟩
    go_simp
    refine L.seg_ [16, 17, 18, 19, 20, 21, 22, 23, 24, 25, 26, 27, 28, 29, 30, 31, 32, 33, 34, 35, 36, 37, 38, 39, 40, 41, 42, 43, 44, 45, 46, 47] 0 _ (by kernel_rfl) (by kernel_rfl) (by kernel_rfl) (by simp only [pickOps, mask, plain, List.getElem?_toArray, List.getElem?_cons_zero, List.getElem?_cons_succ, if_true, Bool.false_eq_true, if_false]; rfl) ?_
    repeat (go_big_quiet_step (fail))
    refine wpQuiet_nil ?_
    refine L.end_ (by kernel_rfl) ?_
    intro wf sf
    have hbf := HB0.out.trans (sf.all.mono (by simp))
    clear sf
    go_wp2_with fail
    go_ret
    exact ⟨.inr ⟨rfl, HN.out⟩, hbf⟩
  have f2 : (c != chipOf k) = false := by simpa using m2
  by_cases m3 : s < 0
  case pos =>
    have HN := Lib.hid (show ¬ Ev.May ⟨t, c, s, k, a, b⟩ from fun h => by simp only [Ev.May] at h; omega)
    have f3 : decide (s < 0) = true := decide_eq_true m3
    clear m0 m1 m2 m3
    refine L.region_ (fun _ => False) (by kernel_rfl) ?_
    refine L.seg_ [0, 1] 46 _ (by kernel_rfl) (by kernel_rfl) (by kernel_rfl) (by simp only [pickOps, mask, plain, List.getElem?_toArray, List.getElem?_cons_zero, List.getElem?_cons_succ, if_true, Bool.false_eq_true, if_false]; rfl) ?_
    repeat (go_big_quiet_step (fail))
    refine wpQuiet_nil ?_
    refine L.calm_ (i := 2) (.bool true) rfl (by kernel_rfl) (by kernel_rfl) (by kernel_rfl) (by kernel_rfl) ?_ ?_
    · intro wz _
      unfold Oper.does
      go_simp
      exact (HMY.out wz).mono fun e w' ⟨he, hw⟩ => ⟨_, he, rfl, hw ▸ Save.refl _ _⟩
    go_simp
    refine L.seg_ [3, 4, 5, 6] 41 _ (by kernel_rfl) (by kernel_rfl) (by kernel_rfl) (by simp only [pickOps, mask, plain, List.getElem?_toArray, List.getElem?_cons_zero, List.getElem?_cons_succ, if_true, Bool.false_eq_true, if_false]; rfl) ?_
    repeat (go_big_quiet_step (fail))
    refine wpQuiet_nil ?_
    refine L.calm_ (i := 7) (.int .i64 (chipOf k)) rfl (by kernel_rfl) (by kernel_rfl) (by kernel_rfl) (by kernel_rfl) ?_ ?_
    · intro wz _
      unfold Oper.does
      go_simp
      exact (HCP.out wz).mono fun e w' ⟨he, hw⟩ => ⟨_, he, rfl, hw ▸ Save.refl _ _⟩
    go_simp
    refine L.seg_ [8, 9, 10, 11, 12, 13, 14] 33 _ (by kernel_rfl) (by kernel_rfl) (by kernel_rfl) (by simp only [pickOps, mask, plain, List.getElem?_toArray, List.getElem?_cons_zero, List.getElem?_cons_succ, if_true, Bool.false_eq_true, if_false]; rfl) ?_
    repeat (go_big_quiet_step (fail))
    refine wpQuiet_nil ?_
    refine L.calm_ (i := 15) (.int .i64 (chipOf k)) rfl (by kernel_rfl) (by kernel_rfl) (by kernel_rfl) (by kernel_rfl) ?_ ?_
    · intro wz _
      unfold Oper.does
      go_simp
      exact (HCP.out wz).mono fun e w' ⟨he, hw⟩ => ⟨_, he, rfl, hw ▸ Save.refl _ _⟩
    go_simp
    refine L.seg_ [16, 17, 18, 19, 20, 21, 22, 23, 24, 25, 26, 27, 28, 29, 30, 31, 32, 33, 34, 35, 36, 37, 38, 39, 40, 41, 42, 43, 44, 45, 46, 47] 0 _ (by kernel_rfl) (by kernel_rfl) (by kernel_rfl) (by simp only [pickOps, mask, plain, List.getElem?_toArray, List.getElem?_cons_zero, List.getElem?_cons_succ, if_true, Bool.false_eq_true, if_false]; rfl) ?_
    repeat (go_big_quiet_step (fail))
    refine wpQuiet_nil ?_
    refine L.end_ (by kernel_rfl) ?_
    intro wf sf
    have hbf := HB0.out.trans (sf.all.mono (by simp))
    clear sf
    go_wp2_with fail
    go_ret
    exact ⟨.inr ⟨rfl, HN.out⟩, hbf⟩
  have f3 : decide (s < 0) = false := decide_eq_false m3
  by_cases m4 : 4294967296 < s
  case pos =>
    have HN := Lib.hid (show ¬ Ev.May ⟨t, c, s, k, a, b⟩ from fun h => by simp only [Ev.May] at h; omega)
    have f4 : decide (4294967296 < s) = true := decide_eq_true m4
    clear m0 m1 m2 m3 m4
    refine L.region_ (fun _ => False) (by kernel_rfl) ?_
    refine L.seg_ [0, 1] 46 _ (by kernel_rfl) (by kernel_rfl) (by kernel_rfl) (by simp only [pickOps, mask, plain, List.getElem?_toArray, List.getElem?_cons_zero, List.getElem?_cons_succ, if_true, Bool.false_eq_true, if_false]; rfl) ?_
    repeat (go_big_quiet_step (fail))
    refine wpQuiet_nil ?_
    refine L.calm_ (i := 2) (.bool true) rfl (by kernel_rfl) (by kernel_rfl) (by kernel_rfl) (by kernel_rfl) ?_ ?_
    · intro wz _
      unfold Oper.does
      go_simp
      exact (HMY.out wz).mono fun e w' ⟨he, hw⟩ => ⟨_, he, rfl, hw ▸ Save.refl _ _⟩
    go_simp
    refine L.seg_ [3, 4, 5, 6] 41 _ (by kernel_rfl) (by kernel_rfl) (by kernel_rfl) (by simp only [pickOps, mask, plain, List.getElem?_toArray, List.getElem?_cons_zero, List.getElem?_cons_succ, if_true, Bool.false_eq_true, if_false]; rfl) ?_
    repeat (go_big_quiet_step (fail))
    refine wpQuiet_nil ?_
    refine L.calm_ (i := 7) (.int .i64 (chipOf k)) rfl (by kernel_rfl) (by kernel_rfl) (by kernel_rfl) (by kernel_rfl) ?_ ?_
    · intro wz _
      unfold Oper.does
      go_simp
      exact (HCP.out wz).mono fun e w' ⟨he, hw⟩ => ⟨_, he, rfl, hw ▸ Save.refl _ _⟩
    go_simp
    refine L.seg_ [8, 9, 10, 11, 12, 13, 14] 33 _ (by kernel_rfl) (by kernel_rfl) (by kernel_rfl) (by simp only [pickOps, mask, plain, List.getElem?_toArray, List.getElem?_cons_zero, List.getElem?_cons_succ, if_true, Bool.false_eq_true, if_false]; rfl) ?_
    repeat (go_big_quiet_step (fail))
    refine wpQuiet_nil ?_
    refine L.calm_ (i := 15) (.int .i64 (chipOf k)) rfl (by kernel_rfl) (by kernel_rfl) (by kernel_rfl) (by kernel_rfl) ?_ ?_
    · intro wz _
      unfold Oper.does
      go_simp
      exact (HCP.out wz).mono fun e w' ⟨he, hw⟩ => ⟨_, he, rfl, hw ▸ Save.refl _ _⟩
    go_simp
    refine L.seg_ [16, 17, 18, 19, 20, 21, 22, 23, 24, 25, 26, 27, 28, 29, 30, 31, 32, 33, 34, 35, 36, 37, 38, 39, 40, 41, 42, 43, 44, 45, 46, 47] 0 _ (by kernel_rfl) (by kernel_rfl) (by kernel_rfl) (by simp only [pickOps, mask, plain, List.getElem?_toArray, List.getElem?_cons_zero, List.getElem?_cons_succ, if_true, Bool.false_eq_true, if_false]; rfl) ?_
    repeat (go_big_quiet_step (fail))
    refine wpQuiet_nil ?_
    refine L.end_ (by kernel_rfl) ?_
    intro wf sf
    have hbf := HB0.out.trans (sf.all.mono (by simp))
    clear sf
    go_wp2_with fail
    go_ret
    exact ⟨.inr ⟨rfl, HN.out⟩, hbf⟩
  have f4 : decide (4294967296 < s) = false := decide_eq_false m4
  by_cases m5 : a < 0
  case pos =>
    have HN := Lib.hid (show ¬ Ev.May ⟨t, c, s, k, a, b⟩ from fun h => by simp only [Ev.May] at h; omega)
    have f5 : decide (a < 0) = true := decide_eq_true m5
    clear m0 m1 m2 m3 m4 m5
    refine L.region_ (fun _ => False) (by kernel_rfl) ?_
    refine L.seg_ [0, 1] 46 _ (by kernel_rfl) (by kernel_rfl) (by kernel_rfl) (by simp only [pickOps, mask, plain, List.getElem?_toArray, List.getElem?_cons_zero, List.getElem?_cons_succ, if_true, Bool.false_eq_true, if_false]; rfl) ?_
    repeat (go_big_quiet_step (fail))
    refine wpQuiet_nil ?_
    refine L.calm_ (i := 2) (.bool true) rfl (by kernel_rfl) (by kernel_rfl) (by kernel_rfl) (by kernel_rfl) ?_ ?_
    · intro wz _
      unfold Oper.does
      go_simp
      exact (HMY.out wz).mono fun e w' ⟨he, hw⟩ => ⟨_, he, rfl, hw ▸ Save.refl _ _⟩
    go_simp
    refine L.seg_ [3, 4, 5, 6] 41 _ (by kernel_rfl) (by kernel_rfl) (by kernel_rfl) (by simp only [pickOps, mask, plain, List.getElem?_toArray, List.getElem?_cons_zero, List.getElem?_cons_succ, if_true, Bool.false_eq_true, if_false]; rfl) ?_
    repeat (go_big_quiet_step (fail))
    refine wpQuiet_nil ?_
    refine L.calm_ (i := 7) (.int .i64 (chipOf k)) rfl (by kernel_rfl) (by kernel_rfl) (by kernel_rfl) (by kernel_rfl) ?_ ?_
    · intro wz _
      unfold Oper.does
      go_simp
      exact (HCP.out wz).mono fun e w' ⟨he, hw⟩ => ⟨_, he, rfl, hw ▸ Save.refl _ _⟩
    go_simp
    refine L.seg_ [8, 9, 10, 11, 12, 13, 14] 33 _ (by kernel_rfl) (by kernel_rfl) (by kernel_rfl) (by simp only [pickOps, mask, plain, List.getElem?_toArray, List.getElem?_cons_zero, List.getElem?_cons_succ, if_true, Bool.false_eq_true, if_false]; rfl) ?_
    repeat (go_big_quiet_step (fail))
    refine wpQuiet_nil ?_
    refine L.calm_ (i := 15) (.int .i64 (chipOf k)) rfl (by kernel_rfl) (by kernel_rfl) (by kernel_rfl) (by kernel_rfl) ?_ ?_
    · intro wz _
      unfold Oper.does
      go_simp
      exact (HCP.out wz).mono fun e w' ⟨he, hw⟩ => ⟨_, he, rfl, hw ▸ Save.refl _ _⟩
    go_simp
    refine L.seg_ [16, 17, 18, 19, 20, 21, 22, 23, 24, 25, 26, 27, 28, 29, 30, 31, 32, 33, 34, 35, 36, 37, 38, 39, 40, 41, 42, 43, 44, 45, 46, 47] 0 _ (by kernel_rfl) (by kernel_rfl) (by kernel_rfl) (by simp only [pickOps, mask, plain, List.getElem?_toArray, List.getElem?_cons_zero, List.getElem?_cons_succ, if_true, Bool.false_eq_true, if_false]; rfl) ?_
    repeat (go_big_quiet_step (fail))
    refine wpQuiet_nil ?_
    refine L.end_ (by kernel_rfl) ?_
    intro wf sf
    have hbf := HB0.out.trans (sf.all.mono (by simp))
    clear sf
    go_wp2_with fail
    go_ret
    exact ⟨.inr ⟨rfl, HN.out⟩, hbf⟩
  have f5 : decide (a < 0) = false := decide_eq_false m5
  by_cases m6 : 1048576 < a
  case pos =>
    have HN := Lib.hid (show ¬ Ev.May ⟨t, c, s, k, a, b⟩ from fun h => by simp only [Ev.May] at h; omega)
    have f6 : decide (1048576 < a) = true := decide_eq_true m6
    clear m0 m1 m2 m3 m4 m5 m6
    refine L.region_ (fun _ => False) (by kernel_rfl) ?_
    refine L.seg_ [0, 1] 46 _ (by kernel_rfl) (by kernel_rfl) (by kernel_rfl) (by simp only [pickOps, mask, plain, List.getElem?_toArray, List.getElem?_cons_zero, List.getElem?_cons_succ, if_true, Bool.false_eq_true, if_false]; rfl) ?_
    repeat (go_big_quiet_step (fail))
    refine wpQuiet_nil ?_
    refine L.calm_ (i := 2) (.bool true) rfl (by kernel_rfl) (by kernel_rfl) (by kernel_rfl) (by kernel_rfl) ?_ ?_
    · intro wz _
      unfold Oper.does
      go_simp
      exact (HMY.out wz).mono fun e w' ⟨he, hw⟩ => ⟨_, he, rfl, hw ▸ Save.refl _ _⟩
    go_simp
    refine L.seg_ [3, 4, 5, 6] 41 _ (by kernel_rfl) (by kernel_rfl) (by kernel_rfl) (by simp only [pickOps, mask, plain, List.getElem?_toArray, List.getElem?_cons_zero, List.getElem?_cons_succ, if_true, Bool.false_eq_true, if_false]; rfl) ?_
    repeat (go_big_quiet_step (fail))
    refine wpQuiet_nil ?_
    refine L.calm_ (i := 7) (.int .i64 (chipOf k)) rfl (by kernel_rfl) (by kernel_rfl) (by kernel_rfl) (by kernel_rfl) ?_ ?_
    · intro wz _
      unfold Oper.does
      go_simp
      exact (HCP.out wz).mono fun e w' ⟨he, hw⟩ => ⟨_, he, rfl, hw ▸ Save.refl _ _⟩
    go_simp
    refine L.seg_ [8, 9, 10, 11, 12, 13, 14] 33 _ (by kernel_rfl) (by kernel_rfl) (by kernel_rfl) (by simp only [pickOps, mask, plain, List.getElem?_toArray, List.getElem?_cons_zero, List.getElem?_cons_succ, if_true, Bool.false_eq_true, if_false]; rfl) ?_
    repeat (go_big_quiet_step (fail))
    refine wpQuiet_nil ?_
    refine L.calm_ (i := 15) (.int .i64 (chipOf k)) rfl (by kernel_rfl) (by kernel_rfl) (by kernel_rfl) (by kernel_rfl) ?_ ?_
    · intro wz _
      unfold Oper.does
      go_simp
      exact (HCP.out wz).mono fun e w' ⟨he, hw⟩ => ⟨_, he, rfl, hw ▸ Save.refl _ _⟩
    go_simp
    refine L.seg_ [16, 17, 18, 19, 20, 21, 22, 23, 24, 25, 26, 27, 28, 29, 30, 31, 32, 33, 34, 35, 36, 37, 38, 39, 40, 41, 42, 43, 44, 45, 46, 47] 0 _ (by kernel_rfl) (by kernel_rfl) (by kernel_rfl) (by simp only [pickOps, mask, plain, List.getElem?_toArray, List.getElem?_cons_zero, List.getElem?_cons_succ, if_true, Bool.false_eq_true, if_false]; rfl) ?_
    repeat (go_big_quiet_step (fail))
    refine wpQuiet_nil ?_
    refine L.end_ (by kernel_rfl) ?_
    intro wf sf
    have hbf := HB0.out.trans (sf.all.mono (by simp))
    clear sf
    go_wp2_with fail
    go_ret
    exact ⟨.inr ⟨rfl, HN.out⟩, hbf⟩
  have f6 : decide (1048576 < a) = false := decide_eq_false m6
  by_cases m7 : b < 0
  case pos =>
    have HN := Lib.hid (show ¬ Ev.May ⟨t, c, s, k, a, b⟩ from fun h => by simp only [Ev.May] at h; omega)
    have f7 : decide (b < 0) = true := decide_eq_true m7
    clear m0 m1 m2 m3 m4 m5 m6 m7
    refine L.region_ (fun _ => False) (by kernel_rfl) ?_
    refine L.seg_ [0, 1] 46 _ (by kernel_rfl) (by kernel_rfl) (by kernel_rfl) (by simp only [pickOps, mask, plain, List.getElem?_toArray, List.getElem?_cons_zero, List.getElem?_cons_succ, if_true, Bool.false_eq_true, if_false]; rfl) ?_
    repeat (go_big_quiet_step (fail))
    refine wpQuiet_nil ?_
    refine L.calm_ (i := 2) (.bool true) rfl (by kernel_rfl) (by kernel_rfl) (by kernel_rfl) (by kernel_rfl) ?_ ?_
    · intro wz _
      unfold Oper.does
      go_simp
      exact (HMY.out wz).mono fun e w' ⟨he, hw⟩ => ⟨_, he, rfl, hw ▸ Save.refl _ _⟩
    go_simp
    refine L.seg_ [3, 4, 5, 6] 41 _ (by kernel_rfl) (by kernel_rfl) (by kernel_rfl) (by simp only [pickOps, mask, plain, List.getElem?_toArray, List.getElem?_cons_zero, List.getElem?_cons_succ, if_true, Bool.false_eq_true, if_false]; rfl) ?_
    repeat (go_big_quiet_step (fail))
    refine wpQuiet_nil ?_
    refine L.calm_ (i := 7) (.int .i64 (chipOf k)) rfl (by kernel_rfl) (by kernel_rfl) (by kernel_rfl) (by kernel_rfl) ?_ ?_
    · intro wz _
      unfold Oper.does
      go_simp
      exact (HCP.out wz).mono fun e w' ⟨he, hw⟩ => ⟨_, he, rfl, hw ▸ Save.refl _ _⟩
    go_simp
    refine L.seg_ [8, 9, 10, 11, 12, 13, 14] 33 _ (by kernel_rfl) (by kernel_rfl) (by kernel_rfl) (by simp only [pickOps, mask, plain, List.getElem?_toArray, List.getElem?_cons_zero, List.getElem?_cons_succ, if_true, Bool.false_eq_true, if_false]; rfl) ?_
    repeat (go_big_quiet_step (fail))
    refine wpQuiet_nil ?_
    refine L.calm_ (i := 15) (.int .i64 (chipOf k)) rfl (by kernel_rfl) (by kernel_rfl) (by kernel_rfl) (by kernel_rfl) ?_ ?_
    · intro wz _
      unfold Oper.does
      go_simp
      exact (HCP.out wz).mono fun e w' ⟨he, hw⟩ => ⟨_, he, rfl, hw ▸ Save.refl _ _⟩
    go_simp
    refine L.seg_ [16, 17, 18, 19, 20, 21, 22, 23, 24, 25, 26, 27, 28, 29, 30, 31, 32, 33, 34, 35, 36, 37, 38, 39, 40, 41, 42, 43, 44, 45, 46, 47] 0 _ (by kernel_rfl) (by kernel_rfl) (by kernel_rfl) (by simp only [pickOps, mask, plain, List.getElem?_toArray, List.getElem?_cons_zero, List.getElem?_cons_succ, if_true, Bool.false_eq_true, if_false]; rfl) ?_
    repeat (go_big_quiet_step (fail))
    refine wpQuiet_nil ?_
    refine L.end_ (by kernel_rfl) ?_
    intro wf sf
    have hbf := HB0.out.trans (sf.all.mono (by simp))
    clear sf
    go_wp2_with fail
    go_ret
    exact ⟨.inr ⟨rfl, HN.out⟩, hbf⟩
  have f7 : decide (b < 0) = false := decide_eq_false m7
  by_cases m8 : 255 < b
  case pos =>
    have HN := Lib.hid (show ¬ Ev.May ⟨t, c, s, k, a, b⟩ from fun h => by simp only [Ev.May] at h; omega)
    have f8 : decide (255 < b) = true := decide_eq_true m8
    clear m0 m1 m2 m3 m4 m5 m6 m7 m8
    refine L.region_ (fun _ => False) (by kernel_rfl) ?_
    refine L.seg_ [0, 1] 46 _ (by kernel_rfl) (by kernel_rfl) (by kernel_rfl) (by simp only [pickOps, mask, plain, List.getElem?_toArray, List.getElem?_cons_zero, List.getElem?_cons_succ, if_true, Bool.false_eq_true, if_false]; rfl) ?_
    repeat (go_big_quiet_step (fail))
    refine wpQuiet_nil ?_
    refine L.calm_ (i := 2) (.bool true) rfl (by kernel_rfl) (by kernel_rfl) (by kernel_rfl) (by kernel_rfl) ?_ ?_
    · intro wz _
      unfold Oper.does
      go_simp
      exact (HMY.out wz).mono fun e w' ⟨he, hw⟩ => ⟨_, he, rfl, hw ▸ Save.refl _ _⟩
    go_simp
    refine L.seg_ [3, 4, 5, 6] 41 _ (by kernel_rfl) (by kernel_rfl) (by kernel_rfl) (by simp only [pickOps, mask, plain, List.getElem?_toArray, List.getElem?_cons_zero, List.getElem?_cons_succ, if_true, Bool.false_eq_true, if_false]; rfl) ?_
    repeat (go_big_quiet_step (fail))
    refine wpQuiet_nil ?_
    refine L.calm_ (i := 7) (.int .i64 (chipOf k)) rfl (by kernel_rfl) (by kernel_rfl) (by kernel_rfl) (by kernel_rfl) ?_ ?_
    · intro wz _
      unfold Oper.does
      go_simp
      exact (HCP.out wz).mono fun e w' ⟨he, hw⟩ => ⟨_, he, rfl, hw ▸ Save.refl _ _⟩
    go_simp
    refine L.seg_ [8, 9, 10, 11, 12, 13, 14] 33 _ (by kernel_rfl) (by kernel_rfl) (by kernel_rfl) (by simp only [pickOps, mask, plain, List.getElem?_toArray, List.getElem?_cons_zero, List.getElem?_cons_succ, if_true, Bool.false_eq_true, if_false]; rfl) ?_
    repeat (go_big_quiet_step (fail))
    refine wpQuiet_nil ?_
    refine L.calm_ (i := 15) (.int .i64 (chipOf k)) rfl (by kernel_rfl) (by kernel_rfl) (by kernel_rfl) (by kernel_rfl) ?_ ?_
    · intro wz _
      unfold Oper.does
      go_simp
      exact (HCP.out wz).mono fun e w' ⟨he, hw⟩ => ⟨_, he, rfl, hw ▸ Save.refl _ _⟩
    go_simp
    refine L.seg_ [16, 17, 18, 19, 20, 21, 22, 23, 24, 25, 26, 27, 28, 29, 30, 31, 32, 33, 34, 35, 36, 37, 38, 39, 40, 41, 42, 43, 44, 45, 46, 47] 0 _ (by kernel_rfl) (by kernel_rfl) (by kernel_rfl) (by simp only [pickOps, mask, plain, List.getElem?_toArray, List.getElem?_cons_zero, List.getElem?_cons_succ, if_true, Bool.false_eq_true, if_false]; rfl) ?_
    repeat (go_big_quiet_step (fail))
    refine wpQuiet_nil ?_
    refine L.end_ (by kernel_rfl) ?_
    intro wf sf
    have hbf := HB0.out.trans (sf.all.mono (by simp))
    clear sf
    go_wp2_with fail
    go_ret
    exact ⟨.inr ⟨rfl, HN.out⟩, hbf⟩
  have f8 : decide (255 < b) = false := decide_eq_false m8
  have HN := Lib.hid (show Ev.May ⟨t, c, s, k, a, b⟩ by simp only [Ev.May]; omega)
  clear m0 m1 m2 m3 m4 m5 m6 m7 m8
  refine L.region_ (fun _ => False) (by kernel_rfl) ?_
  refine L.seg_ [0, 1] 46 _ (by kernel_rfl) (by kernel_rfl) (by kernel_rfl) (by simp only [pickOps, mask, plain, List.getElem?_toArray, List.getElem?_cons_zero, List.getElem?_cons_succ, if_true, Bool.false_eq_true, if_false]; rfl) ?_
  repeat (go_big_quiet_step (fail))
  refine wpQuiet_nil ?_
  refine L.calm_ (i := 2) (.bool true) rfl (by kernel_rfl) (by kernel_rfl) (by kernel_rfl) (by kernel_rfl) ?_ ?_
  · intro wz _
    unfold Oper.does
    go_simp
    exact (HMY.out wz).mono fun e w' ⟨he, hw⟩ => ⟨_, he, rfl, hw ▸ Save.refl _ _⟩
  go_simp
  refine L.seg_ [3, 4, 5, 6] 41 _ (by kernel_rfl) (by kernel_rfl) (by kernel_rfl) (by simp only [pickOps, mask, plain, List.getElem?_toArray, List.getElem?_cons_zero, List.getElem?_cons_succ, if_true, Bool.false_eq_true, if_false]; rfl) ?_
  repeat (go_big_quiet_step (fail))
  refine wpQuiet_nil ?_
  refine L.calm_ (i := 7) (.int .i64 (chipOf k)) rfl (by kernel_rfl) (by kernel_rfl) (by kernel_rfl) (by kernel_rfl) ?_ ?_
  · intro wz _
    unfold Oper.does
    go_simp
    exact (HCP.out wz).mono fun e w' ⟨he, hw⟩ => ⟨_, he, rfl, hw ▸ Save.refl _ _⟩
  go_simp
  refine L.seg_ [8, 9, 10, 11, 12, 13, 14] 33 _ (by kernel_rfl) (by kernel_rfl) (by kernel_rfl) (by simp only [pickOps, mask, plain, List.getElem?_toArray, List.getElem?_cons_zero, List.getElem?_cons_succ, if_true, Bool.false_eq_true, if_false]; rfl) ?_
  repeat (go_big_quiet_step (fail))
  refine wpQuiet_nil ?_
  refine L.calm_ (i := 15) (.int .i64 (chipOf k)) rfl (by kernel_rfl) (by kernel_rfl) (by kernel_rfl) (by kernel_rfl) ?_ ?_
  · intro wz _
    unfold Oper.does
    go_simp
    exact (HCP.out wz).mono fun e w' ⟨he, hw⟩ => ⟨_, he, rfl, hw ▸ Save.refl _ _⟩
  go_simp
  refine L.seg_ [16, 17, 18, 19, 20, 21, 22, 23, 24, 25, 26, 27, 28, 29, 30, 31, 32, 33, 34, 35, 36, 37, 38, 39, 40, 41, 42, 43, 44, 45, 46, 47] 0 _ (by kernel_rfl) (by kernel_rfl) (by kernel_rfl) (by simp only [pickOps, mask, plain, List.getElem?_toArray, List.getElem?_cons_zero, List.getElem?_cons_succ, if_true, Bool.false_eq_true, if_false]; rfl) ?_
  repeat (go_big_quiet_step (fail))
  refine wpQuiet_nil ?_
  refine L.end_ (by kernel_rfl) ?_
  intro wf sf
  have hbf := HB0.out.trans (sf.all.mono (by simp))
  clear sf
  go_wp2_with fail
  go_ret
  exact ⟨.inl ⟨rfl, HN.out⟩, hbf⟩
end

section
open Go.RowKit

set_option linter.unusedSimpArgs false

set_option linter.unusedVariables false

def nums (x : Ev) : List Nat := [x.kind.toNat, x.time.toNat, x.seq.toNat, x.a.toNat, x.b.toNat]

theorem evB_nums (x : Ev) : evB x = (nums x).flatMap numB := by simp [evB, nums]

theorem nums_take (x : Ev) (k : Nat) (hk : k < 5) : ((nums x).take (k + 1)).flatMap numB = ((nums x).take k).flatMap numB ++ numB ((nums x).getD k 0) := by
  have h : k < (nums x).length := hk
  rw [List.take_succ_eq_append_getElem h, List.flatMap_append, List.getD_eq_getElem?_getD, List.getElem?_eq_getElem h]
  simp

theorem nums_len (x : Ev) (k : Nat) : (((nums x).take k).flatMap numB).length ≤ 45 := by
  have h : ∀ L : List Nat, (L.flatMap numB).length ≤ L.length * 9 := by
    intro L
    induction L with
    | nil => simp
    | cons a t ih =>
      have := (numB_length a).2
      rw [List.flatMap_cons, List.length_append, List.length_cons]; omega
  have h2 := h ((nums x).take k)
  have h3 : ((nums x).take k).length ≤ 5 := by rw [List.length_take]; show min k 5 ≤ 5; omega
  omega

def R3Bytes (w : World) (x : Ev) (e : Ending) (w' : World) : Prop :=
  ((x.May ∧ ∃ A c, e = .returned (.tuple #[.slice A (evB x).length c, .int .i64 0]) ∧ OB w' w.heap.size A c (evB x)) ∨ (¬ x.May ∧ e = .returned (.tuple #[.slice none 0 0, .int .i64 2]))) ∧ Below w.heap.size w w'

set_option maxRecDepth 100000 in
set_option maxHeartbeats 4000000 in
theorem r3bytes_any (w : World) (x : Ev) : Calls Tryz.prog 6 #[x.val] w (R3Bytes w x) := by
  have hb0 : Below w.heap.size w (w.alloc (evO x)) := (Below.refl _ _).alloc (Nat.le_refl _) _
  obtain ⟨s0, s1, s2, s3, s4, s5⟩ := EV.laid w x
  have HC := Lib.hid (r3check_any (w.alloc (evO x)) x)
  have HL := Lib.hid (EV.laid w x)
  have HB0 := Lib.hid hb0
  clear hb0
  unfold evO at s0 s1 s2 s3 s4 s5
  unfold evO Ev.val at HC
  unfold Ev.val
  go_enter Tryz.func6, Tryz.ntmps6
  go_wp2_with fail
  refine HC.out.mono ?_
  rintro e w1 ⟨hc, b1⟩
  have hb1 : Below w.heap.size w w1 := HB0.out.trans (b1.mono (by simp))
  rcases hc with ⟨rfl, hmay⟩ | ⟨rfl, hmay⟩
  case inr =>
    have HM := Lib.hid hmay
    clear hmay
    go_wp2_with fail
    go_ret2
    exact ⟨.inr ⟨HM.out, rfl⟩, hb1⟩
  obtain ⟨t0, t1, t2, t3, t4, t5⟩ := HL.out.below b1 (by simp)
  have HM := Lib.hid hmay
  have hn : ∀ i, i < 5 → (nums x).getD i 0 ≤ 1099511627776 := fun i hi => by
    have hk := May.kind hmay
    obtain ⟨-, -, a0, a1, b0, b1', c0, c1, d0, d1⟩ := hmay
    match i, hi with
    | 0, _ => show x.kind.toNat ≤ _; omega
    | 1, _ => show x.time.toNat ≤ _; omega
    | 2, _ => show x.seq.toNat ≤ _; omega
    | 3, _ => show x.a.toNat ≤ _; omega
    | 4, _ => show x.b.toNat ≤ _; omega
  have HN := Lib.hid hn
  have hi0 : ∀ i, i < 5 → (w1.alloc (.cells #[.int .i64 x.kind, .int .i64 x.time, .int .i64 x.seq, .int .i64 x.a, .int .i64 x.b] 2)).cell? ⟨w1.heap.size, i, none⟩ = some (.int .i64 ((nums x).getD i 0 : Nat)) := fun i hi => by
    have hk := May.kind hmay
    obtain ⟨-, -, a0, a1, b0, b1', c0, c1, d0, d1⟩ := hmay
    rw [World.cell?_alloc_at _ _ _ _ rfl]
    match i, hi with
    | 0, _ => show some (Value.int .i64 x.kind) = some (.int .i64 (x.kind.toNat : Nat)); rw [Int.toNat_of_nonneg (by omega)]
    | 1, _ => show some (Value.int .i64 x.time) = some (.int .i64 (x.time.toNat : Nat)); rw [Int.toNat_of_nonneg (by omega)]
    | 2, _ => show some (Value.int .i64 x.seq) = some (.int .i64 (x.seq.toNat : Nat)); rw [Int.toNat_of_nonneg (by omega)]
    | 3, _ => show some (Value.int .i64 x.a) = some (.int .i64 (x.a.toNat : Nat)); rw [Int.toNat_of_nonneg (by omega)]
    | 4, _ => show some (Value.int .i64 x.b) = some (.int .i64 (x.b.toNat : Nat)); rw [Int.toNat_of_nonneg (by omega)]
  have hsz1 := hb1.size
  have hb2 : Below w.heap.size w (w1.alloc (.cells #[.int .i64 x.kind, .int .i64 x.time, .int .i64 x.seq, .int .i64 x.a, .int .i64 x.b] 2)) := hb1.alloc hsz1 _
  have HI := Lib.hid hi0
  have HB2 := Lib.hid hb2
  clear hn hi0 hb2 hmay s0 s1 s2 s3 s4 s5 b1
  go_wp2_with fail
  obtain ⟨W, hW⟩ : ∃ W, (w1.alloc (.cells #[.int .i64 x.kind, .int .i64 x.time, .int .i64 x.seq, .int .i64 x.a, .int .i64 x.b] 2)) = W := ⟨_, rfl⟩
  have hsW : W.heap.size = w1.heap.size + 1 := by rw [← hW]; simp
  rw [hW] at HI HB2 ⊢
  clear hW t0 t1 t2 t3 t4 t5
  go_loopw [5, 6] (fun v i wr => ∃ k : Nat, k ≤ 5 ∧ i = .int .i64 k ∧ (∃ A c, v = .slice A (((nums x).take k).flatMap numB).length c ∧ OB wr W.heap.size A c (((nums x).take k).flatMap numB)) ∧ Below W.heap.size W wr) (fun _ i _ => 5 - (intOf i).toNat)
  case atStart => exact ⟨0, by omega, rfl, ⟨none, 0, rfl, OB.nil _ _⟩, Below.refl _ _⟩
  case round =>
    obtain ⟨k, hk, rfl, ⟨A, c, rfl, ho⟩, hb⟩ := hrel
    by_cases hlt : k < 5
    · have hcell := (hb.cell (p := ⟨w1.heap.size, k, none⟩) (show w1.heap.size < W.heap.size by omega)).trans (HI.out k hlt)
      have hnt := nums_take x k hlt
      have hnl := HN.out k hlt
      have hll := nums_len x k
      obtain ⟨m, hm⟩ : ∃ m, (nums x).getD k 0 = m := ⟨_, rfl⟩
      rw [hm] at hcell hnt hnl
      obtain ⟨D, hD⟩ : ∃ D, ((nums x).take k).flatMap numB = D := ⟨_, rfl⟩
      rw [hD] at ho hnt hll ⊢
      have HNT := Lib.hid hnt
      have HNU := Lib.hid (refNumber_any A D.length c D m wr W.heap.size rfl ho hb.size (by omega) (by omega))
      clear hm hD hnt ho
      go_wp2_with fail
      refine HNU.out.mono ?_
      rintro e w2 ⟨A2, c2, rfl, ho2, hb3⟩
      have HO2 := Lib.hid ho2
      clear ho2
      go_wp2_with fail
      refine ⟨⟨k + 1, by omega, by go_num, ⟨A2, c2, ?_, ?_⟩, hb.trans hb3⟩, by simp [intOf]; omega⟩
      · rw [HNT.out, List.length_append]
      · rw [HNT.out]; exact HO2.out
    · obtain rfl : k = 5 := by omega
      have e5 : ((nums x).take 5).flatMap numB = evB x := by rw [evB_nums, List.take_of_length_le (by show (nums x).length ≤ 5; exact Nat.le_refl 5)]
      rw [e5] at ho ⊢
      have HF := Lib.hid (show R3Bytes w x (.returned (.tuple #[.slice A (evB x).length c, .int .i64 0])) wr from ⟨.inl ⟨HM.out, A, c, rfl, ho.mono (by omega)⟩, HB2.out.trans (hb.mono (by omega))⟩)
      clear e5 ho
      go_wp2_with fail
      go_ret2
      exact HF.out
end
end Go.Proofs.YthmogabonfkmhaaGreatDoor
