
/- Requests (chapters 11, 16): one in memory; step's and the reference's Check; Slow, Most. -/
import Derived.Test.YtljgpaiojeffcaaM2
namespace Go.Proofs.Ytljgpaiojeffcaa
open Go.RowKit
set_option linter.unusedSimpArgs false
set_option linter.unusedVariables false
set_option maxRecDepth 100000

/-- A request in memory, from a place on. -/
structure QB (w : World) (b o : Nat) (q : Rq) : Prop where
  c0 : w.cell? ⟨b, o, none⟩ = some (.int .i64 q.kind)
  c1 : w.cell? ⟨b, o + 1, none⟩ = some (.int .u16 q.addr)
  c2 : w.cell? ⟨b, o + 2, none⟩ = some (.int .u8 q.value)
  c3 : w.cell? ⟨b, o + 3, none⟩ = some (.int .i64 q.ts)
theorem QB.below {w w' : World} {b o B : Nat} {q : Rq} (h : QB w b o q) (hb : Below B w w') (hB : b < B) : QB w' b o q :=
  ⟨(hb.cell hB).trans h.c0, (hb.cell hB).trans h.c1, (hb.cell hB).trans h.c2, (hb.cell hB).trans h.c3⟩
abbrev rqO (q : Rq) : Obj := .cells #[.int .i64 q.kind, .int .u16 q.addr, .int .u8 q.value, .int .i64 q.ts] 30
theorem QB.laid {w w' : World} (q : Rq) (h : Below (w.heap.size + 1) (w.alloc (rqO q)) w') : QB w' w.heap.size 0 q := by
  constructor <;> (rw [h.cell (by simp), World.cell?_alloc_at _ _ _ _ rfl]; rfl)
theorem QB.boxed {w w2 : World} {q : Rq} (hb : Below (w.alloc (rqO q)).heap.size (w.alloc (rqO q)) w2) : Below w.heap.size w w2 ∧ QB w2 w.heap.size 0 q ∧ w.heap.size < w2.heap.size := by
  have := hb.size
  simp at this
  exact ⟨((Below.refl _ _).alloc (Nat.le_refl _) _).trans (hb.mono (by simp)), QB.laid q (hb.mono (by simp)), by omega⟩
theorem QB.now (w : World) (q : Rq) : QB (w.alloc (rqO q)) w.heap.size 0 q := QB.laid q (Below.refl _ _)

/-- A number is one of the seven kinds, or none. -/
theorem kind_ways (k : Int) : k = 1 ∨ k = 2 ∨ k = 3 ∨ k = 4 ∨ k = 5 ∨ k = 6 ∨ k = 7 ∨ (¬ k = 1 ∧ ¬ k = 2 ∧ ¬ k = 3 ∧ ¬ k = 4 ∧ ¬ k = 5 ∧ ¬ k = 6 ∧ ¬ k = 7) := by omega
theorem lasts_any (k : Int) (w : World) : Calls Try.prog 39 #[.int .i64 k] w fun e w' => e = .returned (.int .i64 (lastsI k)) ∧ w = w' := by
  rcases kind_ways k with rfl | rfl | rfl | rfl | rfl | rfl | rfl | ⟨k1, k2, k3, k4, k5, k6, k7⟩
  all_goals (try (
    go_enter Try.func39, Try.ntmps39
    go_wp2
    go_ret
    exact ⟨rfl, rfl⟩))
  unfold lastsI
  rw [if_neg (by omega), if_neg (by omega), if_neg (by omega)]
  go_enter Try.func39, Try.ntmps39
  go_wp2
  go_ret
  exact ⟨rfl, rfl⟩

/-- Does it last right, and has it no more than one of its kind has? -/
def Rq.Lasts (q : Rq) : Prop := if q.kind = 6 then 1 ≤ q.ts ∧ q.ts ≤ 7 else q.ts ≠ 0 ∧ q.ts = lastsI q.kind
def Rq.Has (q : Rq) : Prop := if q.kind = 3 ∨ q.kind = 5 then True else if q.kind = 6 then q.addr = 0 ∧ q.value = 0 else q.value = 0
instance (q : Rq) : Decidable q.Lasts := by unfold Rq.Lasts; infer_instance
instance (q : Rq) : Decidable q.Has := by unfold Rq.Has; infer_instance
theorem Rq.may_iff (q : Rq) : q.May ↔ q.Lasts ∧ q.Has := Iff.rfl

set_option maxHeartbeats 1000000 in
theorem lastsRight_any (q : Rq) (w : World) : Calls Try.prog 33 #[q.val] w fun e w' => e = .returned (.bool (decide q.Lasts)) ∧ Below w.heap.size w w' := by
  have hL := fun w => lasts_any q.kind w
  have hB0 : Below w.heap.size w (w.alloc (rqO q)) := (Below.refl _ _).alloc (Nat.le_refl _) _
  unfold Rq.Lasts
  obtain ⟨k, a, v, ts⟩ := q
  unfold Rq.val
  simp only at *
  by_cases hk : k = 6
  · subst hk
    clear hL
    go_enter Try.func33, Try.ntmps33
    go_wp2
    all_goals go_ret
    all_goals exact ⟨by simp <;> omega, hB0⟩
  · have hkb : (k == 6) = false := by simpa using hk
    by_cases ht : ts = 0
    · subst ht
      clear hL
      go_enter Try.func33, Try.ntmps33
      go_upto_region 3 with fail
      go_region
      go_wp2_with fail
      go_ret
      exact ⟨by simp [hk], hB0.drew⟩
    · have htn : (ts != 0) = true := by simpa using ht
      generalize lastsI k = n at *
      have HL := Lib.hid hL
      clear hL
      go_enter Try.func33, Try.ntmps33
      go_upto_region 3 with fail
      have hQ : QB (w.alloc (rqO ⟨k, a, v, ts⟩)) w.heap.size 0 ⟨k, a, v, ts⟩ := QB.now _ _
      have hlt : w.heap.size < (w.alloc (rqO ⟨k, a, v, ts⟩)).heap.size := by simp
      simp only [rqO] at hQ hlt hB0
      generalize w.alloc (.cells #[.int .i64 k, .int .u16 a, .int .u8 v, .int .i64 ts] 30) = wx at *
      have c0 := fun p : M.Of (M.Base wx) => (hQ.below p.ok.2 hlt).c0
      have c3 := fun p : M.Of (M.Base wx) => (hQ.below p.ok.2 hlt).c3
      simp only [Nat.zero_add] at c0 c3
      clear hQ
      refine M.region_ (by kernel_rfl) ?_
      refine M.seg_ [0, 1, 2, 3, 4, 5, 6, 7] 4 _ _ (M.Base.refl _) (by kernel_rfl) (by kernel_rfl) (by kernel_rfl) (by simp only [pickOps, mask, plain, List.getElem?_toArray, List.getElem?_cons_zero, List.getElem?_cons_succ, if_true, Bool.false_eq_true, if_false]; rfl) ?_
      repeat (go_big_quiet_step (fail))
      refine wpQuiet_nil ?_
      refine M.calm_ (i := 8) (.int .i64 n) rfl (by kernel_rfl) (by kernel_rfl) (by kernel_rfl) (by kernel_rfl) ?_ ?_
      · intro wz sz
        unfold Oper.does
        go_simp
        exact (HL.out wz).mono fun e w' ⟨he, hw⟩ => ⟨_, he, rfl, hw ▸ Save.refl _ _⟩
      go_simp
      refine M.seg_ [9, 10, 11] 0 _ _ (M.Base.refl _) (by kernel_rfl) (by kernel_rfl) (by kernel_rfl) (by simp only [pickOps, mask, plain, List.getElem?_toArray, List.getElem?_cons_zero, List.getElem?_cons_succ, if_true, Bool.false_eq_true, if_false]; rfl) ?_
      repeat (go_big_quiet_step (fail))
      refine wpQuiet_nil ?_
      refine M.end_ (by kernel_rfl) ?_
      intro wc sc
      go_wp2_with fail
      go_ret
      exact ⟨by simp [hk, ht]; exact Bool.eq_iff_iff.2 (by simp), hB0.trans (sc.2.mono hB0.size)⟩
set_option maxHeartbeats 1000000 in
theorem hasRight_any (q : Rq) (w : World) : Calls Try.prog 34 #[q.val] w fun e w' => e = .returned (.bool (decide q.Has)) ∧ Below w.heap.size w w' := by
  unfold Rq.Has
  obtain ⟨k, a, v, ts⟩ := q
  unfold Rq.val
  simp only at *
  by_cases ha : a = 0
  · subst ha
    by_cases hv : v = 0
    · subst hv
      rcases kind_ways k with rfl | rfl | rfl | rfl | rfl | rfl | rfl | ⟨k1, k2, k3, k4, k5, k6, k7⟩
      all_goals (
        go_enter Try.func34, Try.ntmps34
        go_wp2
        go_ret
        exact ⟨by simp [*], (Below.refl _ _).alloc (Nat.le_refl _) _⟩)
    · have hvb : (v == 0) = false := by simpa using hv
      rcases kind_ways k with rfl | rfl | rfl | rfl | rfl | rfl | rfl | ⟨k1, k2, k3, k4, k5, k6, k7⟩
      all_goals (
        go_enter Try.func34, Try.ntmps34
        go_wp2
        go_ret
        exact ⟨by simp [*], (Below.refl _ _).alloc (Nat.le_refl _) _⟩)
  · have hab : (a == 0) = false := by simpa using ha
    by_cases hv : v = 0
    · subst hv
      rcases kind_ways k with rfl | rfl | rfl | rfl | rfl | rfl | rfl | ⟨k1, k2, k3, k4, k5, k6, k7⟩
      all_goals (
        go_enter Try.func34, Try.ntmps34
        go_wp2
        go_ret
        exact ⟨by simp [*], (Below.refl _ _).alloc (Nat.le_refl _) _⟩)
    · have hvb : (v == 0) = false := by simpa using hv
      rcases kind_ways k with rfl | rfl | rfl | rfl | rfl | rfl | rfl | ⟨k1, k2, k3, k4, k5, k6, k7⟩
      all_goals (
        go_enter Try.func34, Try.ntmps34
        go_wp2
        go_ret
        exact ⟨by simp [*], (Below.refl _ _).alloc (Nat.le_refl _) _⟩)

/-- Check's answer. -/
def Rq.err (q : Rq) : Int := if q.May then 0 else 2
theorem stepcheck_any (q : Rq) (w : World) : Calls Try.prog 19 #[q.val] w fun e w' => e = .returned (.int .i64 q.err) ∧ Below w.heap.size w w' := by
  have HA := Lib.hid (fun w => lastsRight_any q w)
  have HB := Lib.hid (fun w => hasRight_any q w)
  have he : q.err = if decide q.Lasts = true then (if decide q.Has = true then 0 else 2) else 2 := by
    unfold Rq.err
    by_cases h1 : q.Lasts
    · by_cases h2 : q.Has
      · rw [if_pos ((Rq.may_iff q).2 ⟨h1, h2⟩)]; simp [h1, h2]
      · rw [if_neg (fun h => h2 ((Rq.may_iff q).1 h).2)]; simp [h1, h2]
    · rw [if_neg (fun h => h1 ((Rq.may_iff q).1 h).1)]; simp [h1]
  rw [he]
  clear he
  generalize decide q.Lasts = x at *
  generalize decide q.Has = y at *
  have hB0 : Below w.heap.size w (w.alloc (rqO q)) := (Below.refl _ _).alloc (Nat.le_refl _) _
  obtain ⟨k, a, v, ts⟩ := q
  unfold Rq.val at *
  simp only at *
  go_enter Try.func19, Try.ntmps19
  go_wp2_with fail
  refine (HA.out _).mono ?_
  rintro e w2 ⟨rfl, hb⟩
  obtain ⟨hB, hQ, hlt⟩ := QB.boxed (q := ⟨k, a, v, ts⟩) hb
  obtain ⟨c0, c1, c2, c3⟩ := hQ
  simp only at c0 c1 c2 c3
  clear hb hB0
  cases x with
  | false =>
    go_wp2_with fail
    go_ret
    exact ⟨rfl, hB⟩
  | true =>
    go_wp2_with fail
    refine (HB.out _).mono ?_
    rintro e w3 ⟨rfl, hb⟩
    have hB3 := hB.trans (hb.mono hB.size)
    cases y with
    | false =>
      go_wp2_with fail
      go_ret
      exact ⟨rfl, hB3⟩
    | true =>
      go_wp2_with fail
      go_ret
      exact ⟨rfl, hB3⟩
end Go.Proofs.Ytljgpaiojeffcaa
