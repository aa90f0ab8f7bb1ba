
/- The one order of events: what cmp.Compare, cmp.Or and Order answer. -/
import Derived.Test.YthmogabonfkmhaaGreatDoorF1
import Derived.Test.YthmogabonfkmhaaGreatDoorQ2
import Derived.Deep.DeepCutAuto
namespace Go.Proofs.YthmogabonfkmhaaGreatDoor
open Go.RowKit
set_option linter.unusedSimpArgs false

/-- -1, 0, 1. -/
def cmpI (x y : Int) : Int := if x < y then -1 else if y < x then 1 else 0

def orL : List Int → Int
  | [] => 0
  | x :: l => if x = 0 then orL l else x

def ordE (x y : Ev) : Int := orL [cmpI x.time y.time, cmpI x.chip y.chip, cmpI x.seq y.seq, cmpI x.kind y.kind, cmpI x.a y.a, cmpI x.b y.b]

set_option maxHeartbeats 400000 in
theorem cmp64_any (x y : Int) (w : World) : Calls Tryz.prog 39 #[.int .i64 x, .int .i64 y] w fun e w' => e = .returned (.int .i64 (cmpI x y)) ∧ w = w' := by
  go_enter Tryz.func39, Tryz.ntmps39
  go_wp2
  all_goals
    go_ret
    exact ⟨ret_i64 (by unfold cmpI; (repeat' split) <;> first | rfl | omega), rfl⟩

set_option maxHeartbeats 400000 in
theorem cmp_any (x y : Int) (w : World) : Calls Tryz.prog 40 #[.int .i64 x, .int .i64 y] w fun e w' => e = .returned (.int .i64 (cmpI x y)) ∧ w = w' := by
  go_enter Tryz.func40, Tryz.ntmps40
  go_wp2
  all_goals
    go_ret
    exact ⟨ret_i64 (by unfold cmpI; (repeat' split) <;> first | rfl | omega), rfl⟩

theorem orL_drop (l : List Int) (k : Nat) (hk : k < l.length) (h0 : ∀ i, i < k → l.getD i 0 = 0) : orL l = orL (l.drop k) := by
  induction l generalizing k with
  | nil => simp
  | cons x l ih =>
    cases k with
    | zero => rfl
    | succ k =>
      have hx := h0 0 (by omega)
      simp at hx
      subst hx
      simp only [orL, if_true, List.drop_succ_cons]
      exact ih k (by simpa using hk) (fun i hi => by simpa using h0 (i + 1) (by omega))

theorem orL_at (l : List Int) (k : Nat) (hk : k < l.length) (h0 : ∀ i, i < k → l.getD i 0 = 0) (hx : l.getD k 0 ≠ 0) : orL l = l.getD k 0 := by
  rw [orL_drop l k hk h0]
  have : l.drop k = l.getD k 0 :: l.drop (k + 1) := by
    rw [List.drop_eq_getElem_cons hk, List.getD_eq_getElem?_getD, List.getElem?_eq_getElem hk]; rfl
  rw [this]
  simp only [orL]
  rw [if_neg hx]

theorem orL_none (l : List Int) (h0 : ∀ i, i < l.length → l.getD i 0 = 0) : orL l = 0 := by
  induction l with
  | nil => rfl
  | cons x l ih =>
    have hx := h0 0 (by simp)
    simp at hx
    subst hx
    simp only [orL, if_true]
    exact ih (fun i hi => by simpa using h0 (i + 1) (by simpa using hi))

set_option maxHeartbeats 800000 in
theorem or_any (g c : Nat) (l : List Int) (w : World) (hl : l.length ≤ 1000) (hc : ∀ i, i < l.length → w.cell? ⟨g, i, none⟩ = some (.int .i64 (l.getD i 0))) :
    Calls Tryz.prog 38 #[.slice (some ⟨g, 0, none⟩) l.length c] w fun e w' => e = .returned (.int .i64 (orL l)) ∧ w = w' := by
  have HC := Lib.hid hc
  clear hc
  go_enter Tryz.func38, Tryz.ntmps38
  go_wp2
  go_loop [8] (fun i => ∃ k : Nat, k ≤ l.length ∧ i = .int .i64 k ∧ Hid (∀ i, i < k → l.getD i 0 = 0)) (fun i => l.length - (intOf i).toNat)
  case atStart => exact ⟨0, Nat.zero_le _, rfl, Lib.hid (fun i h => absurd h (Nat.not_lt_zero i))⟩
  case round =>
    obtain ⟨k, hk, rfl, H0⟩ := hrel
    by_cases hlt : k < l.length
    · have hck := HC.out k hlt
      by_cases hx : l.getD k 0 = 0
      · rw [hx] at hck
        have H1 := Lib.hid hx
        clear hx
        go_wp2
        go_round
        case rel => exact ⟨k + 1, by omega, by go_num, Lib.hid (fun i hi => by
          by_cases he : i = k
          · rw [he]; exact H1.out
          · exact H0.out i (by omega))⟩
        case measure => simp [intOf]; omega
      · obtain ⟨x, hxd⟩ : ∃ x, l.getD k 0 = x := ⟨_, rfl⟩
        rw [hxd] at hck hx
        have H1 := Lib.hid hxd
        clear hxd
        have hb : (x != 0) = true := by simpa using hx
        go_wp2
        go_ret
        exact ⟨ret_i64 (by rw [orL_at l k hlt H0.out (by rw [H1.out]; exact hx), H1.out]), rfl⟩
    · go_wp2
      go_ret
      exact ⟨ret_i64 (by rw [orL_none l (fun i hi => H0.out i (by omega))]), rfl⟩

/-- An event in memory. -/
structure EV (w : World) (n : Nat) (x : Ev) : Prop where
  c0 : w.cell? ⟨n, 0, none⟩ = some (.int .i64 x.time)
  c1 : w.cell? ⟨n, 1, none⟩ = some (.int .i64 x.chip)
  c2 : w.cell? ⟨n, 2, none⟩ = some (.int .i64 x.seq)
  c3 : w.cell? ⟨n, 3, none⟩ = some (.int .i64 x.kind)
  c4 : w.cell? ⟨n, 4, none⟩ = some (.int .i64 x.a)
  c5 : w.cell? ⟨n, 5, none⟩ = some (.int .i64 x.b)
abbrev evO (x : Ev) : Obj := .cells #[.int .i64 x.time, .int .i64 x.chip, .int .i64 x.seq, .int .i64 x.kind, .int .i64 x.a, .int .i64 x.b] 23
theorem EV.below {w w' : World} {n B : Nat} {x : Ev} (h : EV w n x) (hb : Below B w w') (hB : n < B) : EV w' n x :=
  ⟨(hb.cell hB).trans h.c0, (hb.cell hB).trans h.c1, (hb.cell hB).trans h.c2, (hb.cell hB).trans h.c3, (hb.cell hB).trans h.c4, (hb.cell hB).trans h.c5⟩
theorem EV.laid (w : World) (x : Ev) : EV (w.alloc (evO x)) w.heap.size x := by
  constructor <;> (rw [World.cell?_alloc_at _ _ _ _ rfl]; rfl)
theorem EV.more {w : World} {n : Nat} {x : Ev} (h : EV w n x) (hn : n < w.heap.size) (o : Obj) : EV (w.alloc o) n x := h.below ((Below.refl w.heap.size _).alloc (Nat.le_refl _) _) hn
theorem EV.later {b : World} {n : Nat} {x : Ev} (h : EV b n x) (hn : n < b.heap.size) (p : Later (fun _ => False) b) : EV p.w n x := h.below p.ok.all hn

/-- Six numbers of the call's own. -/
theorem six_laid {w w' : World} (a0 a1 a2 a3 a4 a5 : Int) (h : Below (w.heap.size + 1) (w.alloc (.cells #[.int .i64 a0, .int .i64 a1, .int .i64 a2, .int .i64 a3, .int .i64 a4, .int .i64 a5] 3)) w') : ∀ i, i < [a0, a1, a2, a3, a4, a5].length → w'.cell? ⟨w.heap.size, i, none⟩ = some (.int .i64 ([a0, a1, a2, a3, a4, a5].getD i 0)) := by
  intro i hi
  rw [h.cell (by simp), World.cell?_alloc_at _ _ _ _ rfl]
  match i, hi with
  | 0, _ | 1, _ | 2, _ | 3, _ | 4, _ | 5, _ => rfl

set_option maxHeartbeats 1600000 in
set_option maxRecDepth 100000 in
theorem order_any (w : World) (x y : Ev) : Calls Tryz.prog 18 #[x.val, y.val] w fun e w' => e = .returned (.int .i64 (ordE x y)) ∧ Below w.heap.size w w' := by
  have hx := ((EV.laid w x).more (by simp) (evO y)).later (by simp; omega)
  have hy := (EV.laid (w.alloc (evO x)) y).later (by simp)
  rw [show (w.alloc (evO x)).heap.size = w.heap.size + 1 by simp] at hy
  obtain ⟨t, c, s, k, a, b⟩ := x
  obtain ⟨t2, c2, s2, k2, a2, b2⟩ := y
  have x0 := fun p => (hx p).c0
  have x1 := fun p => (hx p).c1
  have x2 := fun p => (hx p).c2
  have x3 := fun p => (hx p).c3
  have x4 := fun p => (hx p).c4
  have x5 := fun p => (hx p).c5
  have y0 := fun p => (hy p).c0
  have y1 := fun p => (hy p).c1
  have y2 := fun p => (hy p).c2
  have y3 := fun p => (hy p).c3
  have y4 := fun p => (hy p).c4
  have y5 := fun p => (hy p).c5
  clear hx hy
  simp only [evO] at x0 x1 x2 x3 x4 x5 y0 y1 y2 y3 y4 y5
  unfold Ev.val
  go_enter Tryz.func18, Tryz.ntmps18
  go_upto_region 1 with fail
  refine L.region_ (fun _ => False) (by kernel_rfl) ?_
  refine L.seg_ [0, 1, 2, 3, 5, 6, 7, 8, 10, 11, 12, 13, 15, 16, 17, 18, 20, 21, 22, 23, 25, 26, 27, 28] 9 _ (by kernel_rfl) (by kernel_rfl) (by kernel_rfl) (by simp only [pickOps, mask, plain, List.getElem?_toArray, List.getElem?_cons_zero, List.getElem?_cons_succ, if_true]; rfl) ?_
  repeat (go_big_quiet_step (fail))
  refine wpQuiet_nil ?_
  clear x0 x1 x2 x3 x4 x5 y0 y1 y2 y3 y4 y5
  refine L.calm_ (i := 4) (.int .i64 (cmpI t t2)) rfl (by kernel_rfl) (by kernel_rfl) (by kernel_rfl) (by kernel_rfl) ?_ ?_
  · intro wz _
    unfold Oper.does
    go_simp
    exact (cmp64_any t t2 wz).mono fun e w' ⟨he, hw⟩ => ⟨_, he, rfl, hw ▸ Save.refl _ _⟩
  refine L.calm_ (i := 9) (.int .i64 (cmpI c c2)) rfl (by kernel_rfl) (by kernel_rfl) (by kernel_rfl) (by kernel_rfl) ?_ ?_
  · intro wz _
    unfold Oper.does
    go_simp
    exact (cmp_any c c2 wz).mono fun e w' ⟨he, hw⟩ => ⟨_, he, rfl, hw ▸ Save.refl _ _⟩
  refine L.calm_ (i := 14) (.int .i64 (cmpI s s2)) rfl (by kernel_rfl) (by kernel_rfl) (by kernel_rfl) (by kernel_rfl) ?_ ?_
  · intro wz _
    unfold Oper.does
    go_simp
    exact (cmp64_any s s2 wz).mono fun e w' ⟨he, hw⟩ => ⟨_, he, rfl, hw ▸ Save.refl _ _⟩
  refine L.calm_ (i := 19) (.int .i64 (cmpI k k2)) rfl (by kernel_rfl) (by kernel_rfl) (by kernel_rfl) (by kernel_rfl) ?_ ?_
  · intro wz _
    unfold Oper.does
    go_simp
    exact (cmp_any k k2 wz).mono fun e w' ⟨he, hw⟩ => ⟨_, he, rfl, hw ▸ Save.refl _ _⟩
  refine L.calm_ (i := 24) (.int .i64 (cmpI a a2)) rfl (by kernel_rfl) (by kernel_rfl) (by kernel_rfl) (by kernel_rfl) ?_ ?_
  · intro wz _
    unfold Oper.does
    go_simp
    exact (cmp_any a a2 wz).mono fun e w' ⟨he, hw⟩ => ⟨_, he, rfl, hw ▸ Save.refl _ _⟩
  refine L.calm_ (i := 29) (.int .i64 (cmpI b b2)) rfl (by kernel_rfl) (by kernel_rfl) (by kernel_rfl) (by kernel_rfl) ?_ ?_
  · intro wz _
    unfold Oper.does
    go_simp
    exact (cmp_any b b2 wz).mono fun e w' ⟨he, hw⟩ => ⟨_, he, rfl, hw ▸ Save.refl _ _⟩
  refine L.call_ (i := 30) rfl (by kernel_rfl) (by kernel_rfl) ?_
  intro wa sa
  unfold Oper.does
  go_simp
  have hBa : Below w.heap.size w wa := (((Below.refl _ _).alloc (Nat.le_refl _) _).alloc (by simp) _).trans (sa.all.mono (by simp; omega))
  refine same_ sa (Save.of_below ((Below.refl _ _).alloc (Nat.le_refl _) _)) ?_
  clear sa
  refine L.call_ (i := 31) rfl (by kernel_rfl) (by kernel_rfl) ?_
  intro wb sb
  have h6 := six_laid (cmpI t t2) (cmpI c c2) (cmpI s s2) (cmpI k k2) (cmpI a a2) (cmpI b b2) (sb.all.mono (by simp))
  have hBb : Below w.heap.size w wb := (hBa.alloc hBa.size _).trans (sb.all.mono (by have := hBa.size; simp; omega))
  unfold Oper.does
  go_simp
  refine (or_any wa.heap.size 6 [cmpI t t2, cmpI c c2, cmpI s s2, cmpI k k2, cmpI a a2, cmpI b b2] wb (by simp) h6).mono ?_
  rintro e w' ⟨rfl, rfl⟩
  refine ⟨_, rfl, same_ sb (Save.refl _ _) ?_⟩
  clear h6 sb
  obtain ⟨r, hr⟩ : ∃ r, orL [cmpI t t2, cmpI c c2, cmpI s s2, cmpI k k2, cmpI a a2, cmpI b b2] = r := ⟨_, rfl⟩
  have HR := Lib.hid hr
  rw [hr]
  clear hr
  refine L.seg_ [32] 0 _ (by kernel_rfl) (by kernel_rfl) (by kernel_rfl) (by simp only [pickOps, mask, plain, List.getElem?_toArray, List.getElem?_cons_zero, List.getElem?_cons_succ, if_true]; rfl) ?_
  repeat (go_big_quiet_step (fail))
  refine wpQuiet_nil ?_
  refine L.end_ (by kernel_rfl) ?_
  intro wc sc
  have hBc := hBb.trans (sc.all.mono hBb.size)
  go_wp2
  go_ret
  exact ⟨ret_i64 HR.out.symm, hBc⟩
end Go.Proofs.YthmogabonfkmhaaGreatDoor
