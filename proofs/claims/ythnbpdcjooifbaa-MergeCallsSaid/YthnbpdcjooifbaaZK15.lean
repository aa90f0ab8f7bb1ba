/-  -/
import Derived.Test.YthnbpdcjooifbaaJ11
namespace Go.Proofs.Ythnbpdcjooifbaa
open Go.RowKit
set_option linter.unusedSimpArgs false
set_option linter.unusedVariables false

def ulaE : Ev := ⟨3, 2, 0, 7, 0, 0⟩
def live3 : List Ev := [atE 3 0, ulaE, atE 9 1]

/-- A new block of events is a list. -/
theorem row_ls {w : World} {g : Nat} {l : List Ev} (hg : w.heap[g]? = some (.cells (rowV l).toArray 23 (0, 0))) (hm : l.length ≤ maxLen) : LsAt w (g + 1) ⟨some ⟨g, 0, none⟩, l.length, l⟩ := by
  refine ⟨Nat.le_refl _, hm, fun h0 => ⟨g, 0, rfl, Nat.lt_succ_self _, fun i hi => ?_⟩⟩
  have hi' : i < l.length := hi
  have key : ∀ (l : List Ev) (i j : Nat), i < l.length → j < 6 → (rowV l)[i * 6 + j]? = (l.getD i evZ).cells[j]? := by
    intro l
    induction l with
    | nil => intro i j h _; simp at h
    | cons x t ih =>
      intro i j h hj
      have hc : x.cells.length = 6 := rfl
      unfold rowV at ih ⊢
      rw [List.flatMap_cons]
      cases i with
      | zero => rw [List.getElem?_append_left (by rw [hc]; omega)]; simp
      | succ i =>
        rw [List.getElem?_append_right (by rw [hc]; omega), hc, show (i + 1) * 6 + j - 6 = i * 6 + j by omega, ih i j (by simpa using h) hj]
        simp
  have e : ∀ j, j < 6 → w.cell? ⟨g, 0 + i * 6 + j, none⟩ = (l.getD i evZ).cells[j]? := fun j hj => by
    rw [cell_of_row w g _ _ _ _ hg, List.getElem?_toArray, Nat.zero_add, key l i j hi' hj]
  exact ⟨e 0 (by decide), e 1 (by decide), e 2 (by decide), e 3 (by decide), e 4 (by decide), e 5 (by decide)⟩

/-- A row of the call's own is a list; so is its beginning. -/
theorem own_ls {w : World} {base g c : Nat} {l : List Ev} (h : w.ownsRow base 23 6 (.slice (some ⟨g, 0, none⟩) l.length c) l.length (rowV l)) (k : Nat) (hk : k ≤ l.length) : LsAt w w.heap.size ⟨some ⟨g, 0, none⟩, c, l.take k⟩ := by
  have hlt := (h.lt g rfl).2
  have hc : l.length ≤ c ∧ c ≤ maxLen := by
    rcases h.2 with ⟨h1, _⟩ | ⟨g2, cap, cur, e1, e2, e3, e4, e5, e6⟩
    · cases h1
    · injection e1 with k1 k2 k3; omega
  refine ⟨by simp; omega, hc.2, fun h0 => ⟨g, 0, rfl, hlt, fun i hi => ?_⟩⟩
  have hi' : i < l.length := by simp at hi; omega
  have key : ∀ (l : List Ev) (i j : Nat), i < l.length → j < 6 → (rowV l)[i * 6 + j]? = (l.getD i evZ).cells[j]? := by
    intro l
    induction l with
    | nil => intro i j h _; simp at h
    | cons x t ih =>
      intro i j h hj
      have hc : x.cells.length = 6 := rfl
      unfold rowV at ih ⊢
      rw [List.flatMap_cons]
      cases i with
      | zero => rw [List.getElem?_append_left (by rw [hc]; omega)]; simp
      | succ i =>
        rw [List.getElem?_append_right (by rw [hc]; omega), hc, show (i + 1) * 6 + j - 6 = i * 6 + j by omega, ih i j (by simpa using h) hj]
        simp
  have ht : (l.take k).getD i ⟨0, 0, 0, 0, 0, 0⟩ = l.getD i evZ := by
    have : i < k := by simp at hi; omega
    simp [List.getD_eq_getElem?_getD, List.getElem?_take, this]; rfl
  have e : ∀ j, j < 6 → w.cell? ⟨g, 0 + i * 6 + j, none⟩ = (l.getD i evZ).cells[j]? := fun j hj => by
    rw [h.cellAt _ (by omega), Nat.zero_add, key l i j hi' hj]
  show EvAt w g (0 + i * 6) ((l.take k).getD i ⟨0, 0, 0, 0, 0, 0⟩)
  rw [ht]
  exact ⟨e 0 (by decide), e 1 (by decide), e 2 (by decide), e 3 (by decide), e 4 (by decide), e 5 (by decide)⟩

def lsOf (g : Nat) (l : List Ev) : Ls := ⟨some ⟨g, 0, none⟩, l.length, l⟩
abbrev oA : Obj := .cells #[.int .i64 3, .int .i64 1, .int .i64 0, .int .i64 1, .int .i64 0, .int .i64 0, .int .i64 9, .int .i64 1, .int .i64 1, .int .i64 1, .int .i64 0, .int .i64 0] 23
abbrev oC : Obj := .cells #[.int .i64 3, .int .i64 1, .int .i64 0, .int .i64 1, .int .i64 0, .int .i64 0, .int .i64 3, .int .i64 2, .int .i64 0, .int .i64 7, .int .i64 0, .int .i64 0, .int .i64 9, .int .i64 1, .int .i64 1, .int .i64 1, .int .i64 0, .int .i64 0] 23
abbrev oB : Obj := .cells #[.int .i64 3, .int .i64 2, .int .i64 0, .int .i64 7, .int .i64 0, .int .i64 0] 23
def lA : List Ev := [atE 3 0, atE 9 1]
def lB : List Ev := [ulaE]
theorem two_ls {w : World} {g1 g2 g3 : Nat} (h1 : w.heap[g1]? = some oA) (h2 : w.heap[g2]? = some oB) (h3 : w.heap[g3]? = some (.cells #[.slice (some ⟨g1, 0, none⟩) 2 2, .slice (some ⟨g2, 0, none⟩) 1 1] 25)) :
    LL w w.heap.size (some ⟨g3, 0, none⟩) 2 [lsOf g1 lA, lsOf g2 lB] := by
  have b1 := (Array.getElem?_eq_some_iff.1 h1).1
  have b2 := (Array.getElem?_eq_some_iff.1 h2).1
  have b3 := (Array.getElem?_eq_some_iff.1 h3).1
  refine ⟨Nat.le_refl _, by decide, fun _ => ⟨g3, 0, rfl, b3, fun i hi => ?_⟩, fun x hx => ?_⟩
  · rw [cell_of_row w g3 _ _ _ _ h3]
    match i, hi with
    | 0, _ | 1, _ => rfl
  · rcases List.mem_cons.1 hx with rfl | hx
    · exact (row_ls (l := lA) h1 (by decide)).more (by omega)
    · obtain rfl := List.mem_singleton.1 hx
      exact (row_ls (l := lB) h2 (by decide)).more (by omega)
theorem chkA : chk lA = 0 := by decide +kernel
theorem chkB : chk lB = 0 := by decide +kernel
theorem live_sorted : live3.Pairwise (Hp.lt' ole) := good_sorted (by decide +kernel)
theorem live_perm : live3.Perm (lA ++ (lB ++ [])) := by decide +kernel
theorem merge_live {w w' : World} {g1 g2 : Nat} {e : Ending} (h : MergeTo w [lsOf g1 lA, lsOf g2 lB] e w') : Below w.heap.size w w' ∧ ∃ g c, e = .returned (.tuple #[.slice (some ⟨g, 0, none⟩) 3 c, .int .i64 0]) ∧
    w'.ownsRow w.heap.size 23 6 (.slice (some ⟨g, 0, none⟩) live3.length c) live3.length (rowV live3) := by
  have he : errs [lsOf g1 lA, lsOf g2 lB] = 0 := by
    show (if chk lA = 0 then (if chk lB = 0 then (0 : Int) else chk lB) else chk lA) = 0
    rw [if_pos chkA, if_pos chkB]
  have ha : allOf [lsOf g1 lA, lsOf g2 lB] = lA ++ (lB ++ []) := rfl
  have hn : (lA ++ (lB ++ [])).Nodup := live_perm.nodup (Hp.sorted_nodup live_sorted)
  obtain ⟨hb, h⟩ := h
  rw [ha] at h
  refine ⟨hb, ?_⟩
  rcases h with ⟨h, _⟩ | ⟨_, h, _⟩ | ⟨_, _, h, _⟩ | ⟨_, _, _, M, g, c, q1, q2, rfl, q3⟩
  · exact absurd he h
  · exact absurd h (by decide)
  · exact absurd hn h
  · obtain rfl : M = live3 := Hp.sorted_unique ole_anti q1 live_sorted (q2.trans live_perm.symm)
    exact ⟨g, c, rfl, q3⟩

set_option maxRecDepth 100000 in
set_option maxHeartbeats 4000000 in
theorem lives4_any (w : World) : Calls Try.prog 11 #[] w fun e w' => e = .returned (.bool true) ∧ Below w.heap.size w w' := by
  go_enter Try.func11, Try.ntmps11
  go_wp2_with fail
  have he0 := (EV.laid w ulaE).later (by simp)
  have hB0 : Below w.heap.size w (w.alloc (evO ulaE)) := (Below.refl _ _).alloc (Nat.le_refl _) _
  have e0 := fun p => (he0 p).c0
  have e1 := fun p => (he0 p).c1
  have e2 := fun p => (he0 p).c2
  have e3 := fun p => (he0 p).c3
  have e4 := fun p => (he0 p).c4
  have e5 := fun p => (he0 p).c5
  simp only [evO, ulaE] at e0 e1 e2 e3 e4 e5 hB0
  refine L.region_ (fun _ => False) (by kernel_rfl) ?_
  refine L.calm_ (i := 0) (atE 3 0).val rfl (by kernel_rfl) (by kernel_rfl) (by kernel_rfl) (by kernel_rfl) ?_ ?_
  · intro wz _
    unfold Oper.does
    go_simp
    exact (at_any 3 0 wz).mono fun e w' ⟨he, hw⟩ => ⟨_, he, rfl, Save.of_below hw⟩
  refine L.calm_ (i := 1) (atE 9 1).val rfl (by kernel_rfl) (by kernel_rfl) (by kernel_rfl) (by kernel_rfl) ?_ ?_
  · intro wz _
    unfold Oper.does
    go_simp
    exact (at_any 9 1 wz).mono fun e w' ⟨he, hw⟩ => ⟨_, he, rfl, Save.of_below hw⟩
  go_simp
  refine L.seg_ [3] 9 _ (by kernel_rfl) (by kernel_rfl) (by kernel_rfl) (by simp only [pickOps, mask, plain, List.getElem?_toArray, List.getElem?_cons_zero, List.getElem?_cons_succ, if_true]; rfl) ?_
  repeat (go_big_quiet_step (fail))
  refine wpQuiet_nil ?_
  refine L.fork_ (i := 2) (j := 4) rfl rfl (by kernel_rfl) (by kernel_rfl) (by kernel_rfl) ?_ ?_
  · intro wa sa
    have hBa : Below w.heap.size w wa := hB0.trans (sa.all.mono hB0.size)
    have hZa : Below (w.alloc (evO ulaE)).heap.size (w.alloc (evO ulaE)) wa := sa.all
    have hX := heap_alloc_new wa oA
    unfold Oper.does
    unfold atE Ev.val
    go_simp
    refine same_ sa (Save.of_below ((Below.refl _ _).alloc (Nat.le_refl _) _)) ?_
    clear sa
    refine L.call_ (i := 4) rfl (by kernel_rfl) (by kernel_rfl) ?_
    intro wb sb
    have hX1 := (sb.all.block wa.heap.size (by simp)).trans hX
    have hBb : Below w.heap.size w wb := (hBa.alloc hBa.size _).trans (sb.all.mono (by have := hBa.size; simp; omega))
    have hZb : Below (w.alloc (evO ulaE)).heap.size (w.alloc (evO ulaE)) wb := (hZa.alloc hZa.size _).trans (sb.all.mono (by have := hZa.size; simp at this ⊢; omega))
    have hY := heap_alloc_new wb oB
    have hX2 := (((Below.refl wb.heap.size wb).alloc (Nat.le_refl _) oB).block wa.heap.size (Array.getElem?_eq_some_iff.1 hX1).1).trans hX1
    unfold Oper.does
    go_simp
    refine same_ sb (Save.of_below ((Below.refl _ _).alloc (Nat.le_refl _) _)) ?_
    clear sb hX hX1
    refine L.call_ (i := 5) rfl (by kernel_rfl) (by kernel_rfl) ?_
    intro wc sc
    have hX3 := (sc.all.block wa.heap.size (Array.getElem?_eq_some_iff.1 hX2).1).trans hX2
    have hY3 := (sc.all.block wb.heap.size (Array.getElem?_eq_some_iff.1 hY).1).trans hY
    have hBc : Below w.heap.size w wc := (hBb.alloc hBb.size _).trans (sc.all.mono (by have := hBb.size; simp; omega))
    have hZc : Below (w.alloc (evO ulaE)).heap.size (w.alloc (evO ulaE)) wc := (hZb.alloc hZb.size _).trans (sc.all.mono (by have := hZb.size; simp at this ⊢; omega))
    have hZ := heap_alloc_new wc (.cells #[.slice (some ⟨wa.heap.size, 0, none⟩) 2 2, .slice (some ⟨wb.heap.size, 0, none⟩) 1 1] 25)
    have hX4 := (((Below.refl wc.heap.size wc).alloc (Nat.le_refl _) (.cells #[.slice (some ⟨wa.heap.size, 0, none⟩) 2 2, .slice (some ⟨wb.heap.size, 0, none⟩) 1 1] 25)).block wa.heap.size (Array.getElem?_eq_some_iff.1 hX3).1).trans hX3
    have hY4 := (((Below.refl wc.heap.size wc).alloc (Nat.le_refl _) (.cells #[.slice (some ⟨wa.heap.size, 0, none⟩) 2 2, .slice (some ⟨wb.heap.size, 0, none⟩) 1 1] 25)).block wb.heap.size (Array.getElem?_eq_some_iff.1 hY3).1).trans hY3
    unfold Oper.does
    go_simp
    refine same_ sc (Save.of_below ((Below.refl _ _).alloc (Nat.le_refl _) _)) ?_
    clear sc hX2 hX3 hY hY3
    refine L.call_ (i := 6) rfl (by kernel_rfl) (by kernel_rfl) ?_
    intro wd sd
    have hX5 := (sd.all.block wa.heap.size (Array.getElem?_eq_some_iff.1 hX4).1).trans hX4
    have hY5 := (sd.all.block wb.heap.size (Array.getElem?_eq_some_iff.1 hY4).1).trans hY4
    have hZ5 := (sd.all.block wc.heap.size (Array.getElem?_eq_some_iff.1 hZ).1).trans hZ
    have hBd : Below w.heap.size w wd := (hBc.alloc hBc.size _).trans (sd.all.mono (by have := hBc.size; simp; omega))
    have hZd : Below (w.alloc (evO ulaE)).heap.size (w.alloc (evO ulaE)) wd := (hZc.alloc hZc.size _).trans (sd.all.mono (by have := hZc.size; simp at this ⊢; omega))
    have hLL := two_ls (g1 := wa.heap.size) (g2 := wb.heap.size) (g3 := wc.heap.size) hX5 hY5 hZ5
    unfold Oper.does
    go_simp
    refine (merge_any wd 2 (some ⟨wc.heap.size, 0, none⟩) _ hLL (by simp)).mono ?_
    rintro e we hmt
    obtain ⟨hb, g, c, rfl, how⟩ := merge_live hmt
    refine ⟨_, rfl, same_ sd (Save.of_below hb) ?_⟩
    have hBe : Below w.heap.size w we := hBd.trans (hb.mono hBd.size)
    have hZe : Below (w.alloc (evO ulaE)).heap.size (w.alloc (evO ulaE)) we := hZd.trans (hb.mono hZd.size)
    have HOW := Lib.hid how
    clear hmt hLL hX4 hY4 hZ hX5 hY5 hZ5 sd hb how
    refine L.seg_ [7, 8, 9, 10, 11] 0 _ (by kernel_rfl) (by kernel_rfl) (by kernel_rfl) (by simp only [pickOps, mask, plain, List.getElem?_toArray, List.getElem?_cons_zero, List.getElem?_cons_succ, if_true]; rfl) ?_
    repeat (go_big_quiet_step (fail))
    refine wpQuiet_nil ?_
    refine L.end_ (by kernel_rfl) ?_
    intro wf sf
    have hBf : Below w.heap.size w wf := hBe.trans (sf.all.mono hBe.size)
    have hBf0 : Below (w.alloc (evO ulaE)).heap.size (w.alloc (evO ulaE)) wf := hZe.trans (sf.all.mono hZe.size)
    clear hZa hZb hZc hZd hZe
    go_wp2_with fail
    have hwf := row_block HOW.out (sf.all.block g (HOW.out.lt g rfl).2)
    have hev0 : EV wf w.heap.size ulaE := (EV.laid w ulaE).below (hBf0) (by simp)
    have hc3 : 3 ≤ c := by
      rcases hwf.2 with ⟨h1, _⟩ | ⟨g2, cap, cur, e1, e2, e3, e4, e5, e6⟩
      · cases h1
      · injection e1 with k1 k2 k3
        have : live3.length = 3 := rfl
        omega
    have hcm : c ≤ 9223372036854775807 := by
      have := (own_ls hwf 3 (by decide)).cap
      unfold maxLen at this
      exact this
    have HWF := Lib.hid hwf
    clear hwf sf e0 e1 e2 e3 e4 e5 he0
    have ev1 := fun p : Later (fun _ => False) wf => hev0.later (by have := hBf0.size; simp at this; omega) p
    have q0 := fun p => (ev1 p).c0
    have q1 := fun p => (ev1 p).c1
    have q2 := fun p => (ev1 p).c2
    have q3 := fun p => (ev1 p).c3
    have q4 := fun p => (ev1 p).c4
    have q5 := fun p => (ev1 p).c5
    simp only [ulaE] at q0 q1 q2 q3 q4 q5
    clear ev1 hev0
    refine L.region_ (fun _ => False) (by kernel_rfl) ?_
    refine L.seg_ [0, 1, 2, 3, 5] 19 _ (by kernel_rfl) (by kernel_rfl) (by kernel_rfl) (by simp only [pickOps, mask, plain, List.getElem?_toArray, List.getElem?_cons_zero, List.getElem?_cons_succ, if_true]; rfl) ?_
    repeat (go_big_quiet_step (fail))
    refine wpQuiet_nil ?_
    clear q0 q1 q2 q3 q4 q5
    refine L.calm_ (i := 4) (atE 3 0).val rfl (by kernel_rfl) (by kernel_rfl) (by kernel_rfl) (by kernel_rfl) ?_ ?_
    · intro wz _
      unfold Oper.does
      go_simp
      exact (at_any 3 0 wz).mono fun e w' ⟨he, hw⟩ => ⟨_, he, rfl, Save.of_below hw⟩
    go_simp
    refine L.calm_ (i := 6) (atE 9 1).val rfl (by kernel_rfl) (by kernel_rfl) (by kernel_rfl) (by kernel_rfl) ?_ ?_
    · intro wz _
      unfold Oper.does
      go_simp
      exact (at_any 9 1 wz).mono fun e w' ⟨he, hw⟩ => ⟨_, he, rfl, Save.of_below hw⟩
    go_simp
    refine L.call_ (i := 7) rfl (by kernel_rfl) (by kernel_rfl) ?_
    intro wg sg
    have hrg := row_block HWF.out (sg.all.block g (HWF.out.lt g rfl).2)
    have hBg : Below w.heap.size w wg := hBf.trans (sg.all.mono hBf.size)
    have hG := heap_alloc_new wg oC
    have hrg2 := row_block hrg (((Below.refl wg.heap.size wg).alloc (Nat.le_refl _) oC).block g (hrg.lt g rfl).2)
    unfold Oper.does
    unfold atE Ev.val
    go_simp
    refine same_ sg (Save.of_below ((Below.refl _ _).alloc (Nat.le_refl _) _)) ?_
    clear sg hrg
    refine L.call_ (i := 8) rfl (by kernel_rfl) (by kernel_rfl) ?_
    intro wh sh
    have hrh := row_block hrg2 (sh.all.block g (hrg2.lt g rfl).2)
    have hGh := (sh.all.block wg.heap.size (by simp)).trans hG
    have hBh : Below w.heap.size w wh := (hBg.alloc hBg.size _).trans (sh.all.mono (by have := hBg.size; simp; omega))
    have hx := own_ls hrh 3 (by decide)
    have hy := (row_ls (l := live3) hGh (by decide)).more (show wg.heap.size + 1 ≤ wh.heap.size by have := (Array.getElem?_eq_some_iff.1 hGh).1; omega)
    unfold Oper.does
    go_simp
    refine (events_any wh _ _ hx hy).mono ?_
    rintro e wi ⟨he, hbi⟩
    rw [decide_eq_true (show live3.take 3 = live3 from rfl)] at he
    refine ⟨_, he, same_ sh (Save.of_below hbi) ?_⟩
    have hri := row_block hrh (hbi.block g (hrh.lt g rfl).2)
    have hBi : Below w.heap.size w wi := hBh.trans (hbi.mono hBh.size)
    have HRI := Lib.hid hri
    clear he hx hy hGh hG sh hrh hrg2 hbi hri
    refine L.seg_ [9, 10, 11, 12, 13] 10 _ (by kernel_rfl) (by kernel_rfl) (by kernel_rfl) (by simp only [pickOps, mask, plain, List.getElem?_toArray, List.getElem?_cons_zero, List.getElem?_cons_succ, if_true]; rfl) ?_
    repeat (go_big_quiet_step (fail))
    refine wpQuiet_nil ?_
    refine L.call_ (i := 14) rfl (by kernel_rfl) (by kernel_rfl) ?_
    intro wj sj
    have hrj := row_block HRI.out (sj.all.block g (HRI.out.lt g rfl).2)
    have hBj : Below w.heap.size w wj := hBi.trans (sj.all.mono hBi.size)
    have hx := own_ls hrj 3 (by decide)
    have hy := own_ls hrj 2 (by decide)
    unfold Oper.does
    go_simp
    refine (differ_any wj _ _ hx hy).mono ?_
    rintro e wk ⟨he, hbk⟩
    rw [show differL (live3.take 3) (live3.take 2) 0 = 2 by decide +kernel] at he
    refine ⟨_, he, same_ sj (Save.of_below hbk) ?_⟩
    have hrk := row_block hrj (hbk.block g (hrj.lt g rfl).2)
    have hBk : Below w.heap.size w wk := hBj.trans (hbk.mono hBj.size)
    have HRK := Lib.hid hrk
    clear he hx hy sj hrj hbk hrk
    refine L.seg_ [15, 16, 17, 18, 19] 4 _ (by kernel_rfl) (by kernel_rfl) (by kernel_rfl) (by simp only [pickOps, mask, plain, List.getElem?_toArray, List.getElem?_cons_zero, List.getElem?_cons_succ, if_true]; rfl) ?_
    repeat (go_big_quiet_step (fail))
    refine wpQuiet_nil ?_
    refine L.call_ (i := 20) rfl (by kernel_rfl) (by kernel_rfl) ?_
    intro wl sl
    have hrl := row_block HRK.out (sl.all.block g (HRK.out.lt g rfl).2)
    have hBl : Below w.heap.size w wl := hBk.trans (sl.all.mono hBk.size)
    have hx := own_ls hrl 3 (by decide)
    unfold Oper.does
    go_simp
    refine (differ_any wl _ _ hx hx).mono ?_
    rintro e wm ⟨he, hbm⟩
    rw [show differL (live3.take 3) (live3.take 3) 0 = -1 by decide +kernel] at he
    refine ⟨_, he, same_ sl (Save.of_below hbm) ?_⟩
    have hBm : Below w.heap.size w wm := hBl.trans (hbm.mono hBl.size)
    clear he hx sl hrl hbm
    refine L.seg_ [21, 22, 23] 0 _ (by kernel_rfl) (by kernel_rfl) (by kernel_rfl) (by simp only [pickOps, mask, plain, List.getElem?_toArray, List.getElem?_cons_zero, List.getElem?_cons_succ, if_true]; rfl) ?_
    repeat (go_big_quiet_step (fail))
    refine wpQuiet_nil ?_
    refine L.end_ (by kernel_rfl) ?_
    intro wn sn
    have hBn : Below w.heap.size w wn := hBm.trans (sn.all.mono hBm.size)
    go_wp2_with fail
    go_ret
    exact ⟨rfl, hBn⟩
  · intro wa sa
    have hBa : Below w.heap.size w wa := hB0.trans (sa.all.mono hB0.size)
    have hZa : Below (w.alloc (evO ulaE)).heap.size (w.alloc (evO ulaE)) wa := sa.all
    have hX := heap_alloc_new wa oB
    unfold Oper.does
    unfold atE Ev.val
    go_simp
    refine same_ sa (Save.of_below ((Below.refl _ _).alloc (Nat.le_refl _) _)) ?_
    clear sa
    refine L.call_ (i := 2) rfl (by kernel_rfl) (by kernel_rfl) ?_
    intro wb sb
    have hX1 := (sb.all.block wa.heap.size (by simp)).trans hX
    have hBb : Below w.heap.size w wb := (hBa.alloc hBa.size _).trans (sb.all.mono (by have := hBa.size; simp; omega))
    have hZb : Below (w.alloc (evO ulaE)).heap.size (w.alloc (evO ulaE)) wb := (hZa.alloc hZa.size _).trans (sb.all.mono (by have := hZa.size; simp at this ⊢; omega))
    have hY := heap_alloc_new wb oA
    have hX2 := (((Below.refl wb.heap.size wb).alloc (Nat.le_refl _) oA).block wa.heap.size (Array.getElem?_eq_some_iff.1 hX1).1).trans hX1
    unfold Oper.does
    go_simp
    refine same_ sb (Save.of_below ((Below.refl _ _).alloc (Nat.le_refl _) _)) ?_
    clear sb hX hX1
    refine L.call_ (i := 5) rfl (by kernel_rfl) (by kernel_rfl) ?_
    intro wc sc
    have hX3 := (sc.all.block wa.heap.size (Array.getElem?_eq_some_iff.1 hX2).1).trans hX2
    have hY3 := (sc.all.block wb.heap.size (Array.getElem?_eq_some_iff.1 hY).1).trans hY
    have hBc : Below w.heap.size w wc := (hBb.alloc hBb.size _).trans (sc.all.mono (by have := hBb.size; simp; omega))
    have hZc : Below (w.alloc (evO ulaE)).heap.size (w.alloc (evO ulaE)) wc := (hZb.alloc hZb.size _).trans (sc.all.mono (by have := hZb.size; simp at this ⊢; omega))
    have hZ := heap_alloc_new wc (.cells #[.slice (some ⟨wb.heap.size, 0, none⟩) 2 2, .slice (some ⟨wa.heap.size, 0, none⟩) 1 1] 25)
    have hX4 := (((Below.refl wc.heap.size wc).alloc (Nat.le_refl _) (.cells #[.slice (some ⟨wb.heap.size, 0, none⟩) 2 2, .slice (some ⟨wa.heap.size, 0, none⟩) 1 1] 25)).block wa.heap.size (Array.getElem?_eq_some_iff.1 hX3).1).trans hX3
    have hY4 := (((Below.refl wc.heap.size wc).alloc (Nat.le_refl _) (.cells #[.slice (some ⟨wb.heap.size, 0, none⟩) 2 2, .slice (some ⟨wa.heap.size, 0, none⟩) 1 1] 25)).block wb.heap.size (Array.getElem?_eq_some_iff.1 hY3).1).trans hY3
    unfold Oper.does
    go_simp
    refine same_ sc (Save.of_below ((Below.refl _ _).alloc (Nat.le_refl _) _)) ?_
    clear sc hX2 hX3 hY hY3
    refine L.call_ (i := 6) rfl (by kernel_rfl) (by kernel_rfl) ?_
    intro wd sd
    have hX5 := (sd.all.block wa.heap.size (Array.getElem?_eq_some_iff.1 hX4).1).trans hX4
    have hY5 := (sd.all.block wb.heap.size (Array.getElem?_eq_some_iff.1 hY4).1).trans hY4
    have hZ5 := (sd.all.block wc.heap.size (Array.getElem?_eq_some_iff.1 hZ).1).trans hZ
    have hBd : Below w.heap.size w wd := (hBc.alloc hBc.size _).trans (sd.all.mono (by have := hBc.size; simp; omega))
    have hZd : Below (w.alloc (evO ulaE)).heap.size (w.alloc (evO ulaE)) wd := (hZc.alloc hZc.size _).trans (sd.all.mono (by have := hZc.size; simp at this ⊢; omega))
    have hLL := two_ls (g1 := wb.heap.size) (g2 := wa.heap.size) (g3 := wc.heap.size) hY5 hX5 hZ5
    unfold Oper.does
    go_simp
    refine (merge_any wd 2 (some ⟨wc.heap.size, 0, none⟩) _ hLL (by simp)).mono ?_
    rintro e we hmt
    obtain ⟨hb, g, c, rfl, how⟩ := merge_live hmt
    refine ⟨_, rfl, same_ sd (Save.of_below hb) ?_⟩
    have hBe : Below w.heap.size w we := hBd.trans (hb.mono hBd.size)
    have hZe : Below (w.alloc (evO ulaE)).heap.size (w.alloc (evO ulaE)) we := hZd.trans (hb.mono hZd.size)
    have HOW := Lib.hid how
    clear hmt hLL hX4 hY4 hZ hX5 hY5 hZ5 sd hb how
    refine L.seg_ [7, 8, 9, 10, 11] 0 _ (by kernel_rfl) (by kernel_rfl) (by kernel_rfl) (by simp only [pickOps, mask, plain, List.getElem?_toArray, List.getElem?_cons_zero, List.getElem?_cons_succ, if_true]; rfl) ?_
    repeat (go_big_quiet_step (fail))
    refine wpQuiet_nil ?_
    refine L.end_ (by kernel_rfl) ?_
    intro wf sf
    have hBf : Below w.heap.size w wf := hBe.trans (sf.all.mono hBe.size)
    have hBf0 : Below (w.alloc (evO ulaE)).heap.size (w.alloc (evO ulaE)) wf := hZe.trans (sf.all.mono hZe.size)
    clear hZa hZb hZc hZd hZe
    go_wp2_with fail
    have hwf := row_block HOW.out (sf.all.block g (HOW.out.lt g rfl).2)
    have hev0 : EV wf w.heap.size ulaE := (EV.laid w ulaE).below (hBf0) (by simp)
    have hc3 : 3 ≤ c := by
      rcases hwf.2 with ⟨h1, _⟩ | ⟨g2, cap, cur, e1, e2, e3, e4, e5, e6⟩
      · cases h1
      · injection e1 with k1 k2 k3
        have : live3.length = 3 := rfl
        omega
    have hcm : c ≤ 9223372036854775807 := by
      have := (own_ls hwf 3 (by decide)).cap
      unfold maxLen at this
      exact this
    have HWF := Lib.hid hwf
    clear hwf sf e0 e1 e2 e3 e4 e5 he0
    have ev1 := fun p : Later (fun _ => False) wf => hev0.later (by have := hBf0.size; simp at this; omega) p
    have q0 := fun p => (ev1 p).c0
    have q1 := fun p => (ev1 p).c1
    have q2 := fun p => (ev1 p).c2
    have q3 := fun p => (ev1 p).c3
    have q4 := fun p => (ev1 p).c4
    have q5 := fun p => (ev1 p).c5
    simp only [ulaE] at q0 q1 q2 q3 q4 q5
    clear ev1 hev0
    refine L.region_ (fun _ => False) (by kernel_rfl) ?_
    refine L.seg_ [0, 1, 2, 3, 5] 19 _ (by kernel_rfl) (by kernel_rfl) (by kernel_rfl) (by simp only [pickOps, mask, plain, List.getElem?_toArray, List.getElem?_cons_zero, List.getElem?_cons_succ, if_true]; rfl) ?_
    repeat (go_big_quiet_step (fail))
    refine wpQuiet_nil ?_
    clear q0 q1 q2 q3 q4 q5
    refine L.calm_ (i := 4) (atE 3 0).val rfl (by kernel_rfl) (by kernel_rfl) (by kernel_rfl) (by kernel_rfl) ?_ ?_
    · intro wz _
      unfold Oper.does
      go_simp
      exact (at_any 3 0 wz).mono fun e w' ⟨he, hw⟩ => ⟨_, he, rfl, Save.of_below hw⟩
    go_simp
    refine L.calm_ (i := 6) (atE 9 1).val rfl (by kernel_rfl) (by kernel_rfl) (by kernel_rfl) (by kernel_rfl) ?_ ?_
    · intro wz _
      unfold Oper.does
      go_simp
      exact (at_any 9 1 wz).mono fun e w' ⟨he, hw⟩ => ⟨_, he, rfl, Save.of_below hw⟩
    go_simp
    refine L.call_ (i := 7) rfl (by kernel_rfl) (by kernel_rfl) ?_
    intro wg sg
    have hrg := row_block HWF.out (sg.all.block g (HWF.out.lt g rfl).2)
    have hBg : Below w.heap.size w wg := hBf.trans (sg.all.mono hBf.size)
    have hG := heap_alloc_new wg oC
    have hrg2 := row_block hrg (((Below.refl wg.heap.size wg).alloc (Nat.le_refl _) oC).block g (hrg.lt g rfl).2)
    unfold Oper.does
    unfold atE Ev.val
    go_simp
    refine same_ sg (Save.of_below ((Below.refl _ _).alloc (Nat.le_refl _) _)) ?_
    clear sg hrg
    refine L.call_ (i := 8) rfl (by kernel_rfl) (by kernel_rfl) ?_
    intro wh sh
    have hrh := row_block hrg2 (sh.all.block g (hrg2.lt g rfl).2)
    have hGh := (sh.all.block wg.heap.size (by simp)).trans hG
    have hBh : Below w.heap.size w wh := (hBg.alloc hBg.size _).trans (sh.all.mono (by have := hBg.size; simp; omega))
    have hx := own_ls hrh 3 (by decide)
    have hy := (row_ls (l := live3) hGh (by decide)).more (show wg.heap.size + 1 ≤ wh.heap.size by have := (Array.getElem?_eq_some_iff.1 hGh).1; omega)
    unfold Oper.does
    go_simp
    refine (events_any wh _ _ hx hy).mono ?_
    rintro e wi ⟨he, hbi⟩
    rw [decide_eq_true (show live3.take 3 = live3 from rfl)] at he
    refine ⟨_, he, same_ sh (Save.of_below hbi) ?_⟩
    have hri := row_block hrh (hbi.block g (hrh.lt g rfl).2)
    have hBi : Below w.heap.size w wi := hBh.trans (hbi.mono hBh.size)
    have HRI := Lib.hid hri
    clear he hx hy hGh hG sh hrh hrg2 hbi hri
    refine L.seg_ [9, 10, 11, 12, 13] 10 _ (by kernel_rfl) (by kernel_rfl) (by kernel_rfl) (by simp only [pickOps, mask, plain, List.getElem?_toArray, List.getElem?_cons_zero, List.getElem?_cons_succ, if_true]; rfl) ?_
    repeat (go_big_quiet_step (fail))
    refine wpQuiet_nil ?_
    refine L.call_ (i := 14) rfl (by kernel_rfl) (by kernel_rfl) ?_
    intro wj sj
    have hrj := row_block HRI.out (sj.all.block g (HRI.out.lt g rfl).2)
    have hBj : Below w.heap.size w wj := hBi.trans (sj.all.mono hBi.size)
    have hx := own_ls hrj 3 (by decide)
    have hy := own_ls hrj 2 (by decide)
    unfold Oper.does
    go_simp
    refine (differ_any wj _ _ hx hy).mono ?_
    rintro e wk ⟨he, hbk⟩
    rw [show differL (live3.take 3) (live3.take 2) 0 = 2 by decide +kernel] at he
    refine ⟨_, he, same_ sj (Save.of_below hbk) ?_⟩
    have hrk := row_block hrj (hbk.block g (hrj.lt g rfl).2)
    have hBk : Below w.heap.size w wk := hBj.trans (hbk.mono hBj.size)
    have HRK := Lib.hid hrk
    clear he hx hy sj hrj hbk hrk
    refine L.seg_ [15, 16, 17, 18, 19] 4 _ (by kernel_rfl) (by kernel_rfl) (by kernel_rfl) (by simp only [pickOps, mask, plain, List.getElem?_toArray, List.getElem?_cons_zero, List.getElem?_cons_succ, if_true]; rfl) ?_
    repeat (go_big_quiet_step (fail))
    refine wpQuiet_nil ?_
    refine L.call_ (i := 20) rfl (by kernel_rfl) (by kernel_rfl) ?_
    intro wl sl
    have hrl := row_block HRK.out (sl.all.block g (HRK.out.lt g rfl).2)
    have hBl : Below w.heap.size w wl := hBk.trans (sl.all.mono hBk.size)
    have hx := own_ls hrl 3 (by decide)
    unfold Oper.does
    go_simp
    refine (differ_any wl _ _ hx hx).mono ?_
    rintro e wm ⟨he, hbm⟩
    rw [show differL (live3.take 3) (live3.take 3) 0 = -1 by decide +kernel] at he
    refine ⟨_, he, same_ sl (Save.of_below hbm) ?_⟩
    have hBm : Below w.heap.size w wm := hBl.trans (hbm.mono hBl.size)
    clear he hx sl hrl hbm
    refine L.seg_ [21, 22, 23] 0 _ (by kernel_rfl) (by kernel_rfl) (by kernel_rfl) (by simp only [pickOps, mask, plain, List.getElem?_toArray, List.getElem?_cons_zero, List.getElem?_cons_succ, if_true]; rfl) ?_
    repeat (go_big_quiet_step (fail))
    refine wpQuiet_nil ?_
    refine L.end_ (by kernel_rfl) ?_
    intro wn sn
    have hBn : Below w.heap.size w wn := hBm.trans (sn.all.mono hBm.size)
    go_wp2_with fail
    go_ret
    exact ⟨rfl, hBn⟩
end Go.Proofs.Ythnbpdcjooifbaa
