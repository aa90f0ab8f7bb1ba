
/- Screens: what Check's closures tell, Check, Length, Classic. -/
import Derived.Test.YtljgpaiojeffcaaV
import Derived.OpenShut
import Derived.OneCell
namespace Go.Proofs.Ytljgpaiojeffcaa
open Go.RowKit

/-- A screen's seven numbers. -/
structure Scr where
  lines : Int
  columns : Int
  top : Int
  rows : Int
  left : Int
  wide : Int
  pulse : Int

/-- Each is a number of an int. -/
def Scr.wf (s : Scr) : Prop := ∀ x ∈ [s.lines, s.columns, s.top, s.rows, s.left, s.wide, s.pulse], -9223372036854775808 ≤ x ∧ x < 9223372036854775808

/-- A screen in memory. -/
structure SB (w : World) (b : Nat) (s : Scr) : Prop where
  c0 : w.cell? ⟨b, 0, none⟩ = some (.int .i64 s.lines)
  c1 : w.cell? ⟨b, 1, none⟩ = some (.int .i64 s.columns)
  c2 : w.cell? ⟨b, 2, none⟩ = some (.int .i64 s.top)
  c3 : w.cell? ⟨b, 3, none⟩ = some (.int .i64 s.rows)
  c4 : w.cell? ⟨b, 4, none⟩ = some (.int .i64 s.left)
  c5 : w.cell? ⟨b, 5, none⟩ = some (.int .i64 s.wide)
  c6 : w.cell? ⟨b, 6, none⟩ = some (.int .i64 s.pulse)

/-- A test's answer. -/
def Tells (e : Ending) (P : Prop) : Prop := ∃ r : Bool, e = .returned (.bool r) ∧ (r = true ↔ P)

theorem SB.below {w w' : World} {b B : Nat} {s : Scr} (h : SB w b s) (hb : Below B w w') (hB : b < B) : SB w' b s :=
  ⟨(hb.cell hB).trans h.c0, (hb.cell hB).trans h.c1, (hb.cell hB).trans h.c2, (hb.cell hB).trans h.c3, (hb.cell hB).trans h.c4, (hb.cell hB).trans h.c5, (hb.cell hB).trans h.c6⟩


set_option maxHeartbeats 400000 in
theorem check1 (w : World) (b : Nat) (s : Scr) (h : SB w b s) : Calls Try.prog 24 #[.pointer (some ⟨b, 0, none⟩)] w fun e w' => Tells e (1 ≤ s.lines ∧ s.lines ≤ 400) ∧ w = w' := by
  obtain ⟨c0, c1, c2, c3, c4, c5, c6⟩ := h
  obtain ⟨x0, x1, x2, x3, x4, x5, x6⟩ := s
  simp only at *
  go_enter Try.func24, Try.ntmps24
  go_wp2_with fail
  all_goals go_ret
  all_goals exact ⟨⟨_, rfl, by first | (simp; done) | (simp; omega)⟩, rfl⟩

set_option maxHeartbeats 400000 in
theorem check2 (w : World) (b : Nat) (s : Scr) (h : SB w b s) : Calls Try.prog 25 #[.pointer (some ⟨b, 0, none⟩)] w fun e w' => Tells e (8 ≤ s.columns ∧ s.columns ≤ 400) ∧ w = w' := by
  obtain ⟨c0, c1, c2, c3, c4, c5, c6⟩ := h
  obtain ⟨x0, x1, x2, x3, x4, x5, x6⟩ := s
  simp only at *
  go_enter Try.func25, Try.ntmps25
  go_wp2_with fail
  all_goals go_ret
  all_goals exact ⟨⟨_, rfl, by first | (simp; done) | (simp; omega)⟩, rfl⟩

set_option maxHeartbeats 400000 in
theorem check3 (w : World) (b : Nat) (s : Scr) (h : SB w b s) (h0 : 8 ≤ s.columns) : Calls Try.prog 26 #[.pointer (some ⟨b, 0, none⟩)] w fun e w' => Tells e (s.columns % 4 = 0) ∧ w = w' := by
  obtain ⟨c0, c1, c2, c3, c4, c5, c6⟩ := h
  obtain ⟨x0, x1, x2, x3, x4, x5, x6⟩ := s
  simp only at *
  have ht : x1.tmod 4 = x1 % 4 := Int.tmod_eq_emod_of_nonneg (by omega)
  go_enter Try.func26, Try.ntmps26
  go_wp2_with fail
  all_goals go_ret
  all_goals exact ⟨⟨_, rfl, by first | (simp; done) | (simp; omega)⟩, rfl⟩

set_option maxHeartbeats 400000 in
theorem check4 (w : World) (b : Nat) (s : Scr) (h : SB w b s) : Calls Try.prog 27 #[.pointer (some ⟨b, 0, none⟩)] w fun e w' => Tells e (0 ≤ s.rows ∧ s.rows ≤ 192 ∧ s.rows % 8 = 0) ∧ w = w' := by
  obtain ⟨c0, c1, c2, c3, c4, c5, c6⟩ := h
  obtain ⟨x0, x1, x2, x3, x4, x5, x6⟩ := s
  simp only at *
  have ht : 0 ≤ x3 → x3.tmod 8 = x3 % 8 := fun h => Int.tmod_eq_emod_of_nonneg h
  go_enter Try.func27, Try.ntmps27
  go_wp2_with fail
  all_goals go_ret
  all_goals exact ⟨⟨_, rfl, by first | (simp; done) | (simp; omega)⟩, rfl⟩

set_option maxHeartbeats 400000 in
theorem check5 (w : World) (b : Nat) (s : Scr) (h : SB w b s) (h0 : 1 ≤ s.lines ∧ s.lines ≤ 400) (h1 : 0 ≤ s.rows ∧ s.rows ≤ 192) : Calls Try.prog 28 #[.pointer (some ⟨b, 0, none⟩)] w fun e w' => Tells e (0 ≤ s.top ∧ s.top ≤ s.lines - s.rows) ∧ w = w' := by
  obtain ⟨c0, c1, c2, c3, c4, c5, c6⟩ := h
  obtain ⟨x0, x1, x2, x3, x4, x5, x6⟩ := s
  simp only at *
  go_enter Try.func28, Try.ntmps28
  go_wp2_with fail
  all_goals go_ret
  all_goals exact ⟨⟨_, rfl, by first | (simp; done) | (simp; omega)⟩, rfl⟩

set_option maxHeartbeats 400000 in
theorem check6 (w : World) (b : Nat) (s : Scr) (h : SB w b s) : Calls Try.prog 29 #[.pointer (some ⟨b, 0, none⟩)] w fun e w' => Tells e (0 ≤ s.wide ∧ s.wide ≤ 32 ∧ s.wide % 2 = 0) ∧ w = w' := by
  obtain ⟨c0, c1, c2, c3, c4, c5, c6⟩ := h
  obtain ⟨x0, x1, x2, x3, x4, x5, x6⟩ := s
  simp only at *
  have ht : 0 ≤ x5 → x5.tmod 2 = x5 % 2 := fun h => Int.tmod_eq_emod_of_nonneg h
  go_enter Try.func29, Try.ntmps29
  go_wp2_with fail
  all_goals go_ret
  all_goals exact ⟨⟨_, rfl, by first | (simp; done) | (simp; omega)⟩, rfl⟩

set_option maxHeartbeats 400000 in
theorem check7 (w : World) (b : Nat) (s : Scr) (h : SB w b s) (h0 : 8 ≤ s.columns ∧ s.columns ≤ 400) (h1 : 0 ≤ s.wide ∧ s.wide ≤ 32) : Calls Try.prog 30 #[.pointer (some ⟨b, 0, none⟩)] w fun e w' => Tells e (1 ≤ s.left ∧ s.left ≤ s.columns - 4 * s.wide) ∧ w = w' := by
  obtain ⟨c0, c1, c2, c3, c4, c5, c6⟩ := h
  obtain ⟨x0, x1, x2, x3, x4, x5, x6⟩ := s
  simp only at *
  go_enter Try.func30, Try.ntmps30
  go_wp2_with fail
  all_goals go_ret
  all_goals exact ⟨⟨_, rfl, by first | (simp; done) | (simp; omega)⟩, rfl⟩

set_option maxHeartbeats 400000 in
theorem check8 (w : World) (b : Nat) (s : Scr) (h : SB w b s) : Calls Try.prog 31 #[.pointer (some ⟨b, 0, none⟩)] w fun e w' => Tells e (1 ≤ s.pulse ∧ s.pulse ≤ 64) ∧ w = w' := by
  obtain ⟨c0, c1, c2, c3, c4, c5, c6⟩ := h
  obtain ⟨x0, x1, x2, x3, x4, x5, x6⟩ := s
  simp only at *
  go_enter Try.func31, Try.ntmps31
  go_wp2_with fail
  all_goals go_ret
  all_goals exact ⟨⟨_, rfl, by first | (simp; done) | (simp; omega)⟩, rfl⟩

set_option maxHeartbeats 400000 in
theorem check9 (w : World) (b : Nat) (s : Scr) (h : SB w b s) (h0 : 1 ≤ s.lines ∧ s.lines ≤ 400) (h1 : 8 ≤ s.columns ∧ s.columns ≤ 400) : Calls Try.prog 32 #[.pointer (some ⟨b, 0, none⟩)] w fun e w' => Tells e (s.pulse ≤ s.lines * s.columns) ∧ w = w' := by
  obtain ⟨c0, c1, c2, c3, c4, c5, c6⟩ := h
  obtain ⟨x0, x1, x2, x3, x4, x5, x6⟩ := s
  simp only at *
  have hm : x0 * x1 ≤ 160000 := by have := Int.mul_le_mul h0.2 h1.2 (by omega) (by omega); omega
  have hm0 : 0 ≤ x0 * x1 := Int.mul_nonneg (by omega) (by omega)
  go_enter Try.func32, Try.ntmps32
  go_wp2_with fail
  all_goals go_ret
  all_goals exact ⟨⟨_, rfl, by first | (simp; done) | (simp; omega)⟩, rfl⟩

def Scr.val (s : Scr) : Value := .agg #[.int .i64 s.lines, .int .i64 s.columns, .int .i64 s.top, .int .i64 s.rows, .int .i64 s.left, .int .i64 s.wide, .int .i64 s.pulse]

/-- What Check asks, in the order in which it asks. -/
def Scr.asks (s : Scr) : Nat → Prop
  | 0 => 1 ≤ s.lines ∧ s.lines ≤ 400
  | 1 => 8 ≤ s.columns ∧ s.columns ≤ 400
  | 2 => s.columns % 4 = 0
  | 3 => 0 ≤ s.rows ∧ s.rows ≤ 192 ∧ s.rows % 8 = 0
  | 4 => 0 ≤ s.top ∧ s.top ≤ s.lines - s.rows
  | 5 => 0 ≤ s.wide ∧ s.wide ≤ 32 ∧ s.wide % 2 = 0
  | 6 => 1 ≤ s.left ∧ s.left ≤ s.columns - 4 * s.wide
  | 7 => 1 ≤ s.pulse ∧ s.pulse ≤ 64
  | 8 => s.pulse ≤ s.lines * s.columns
  | _ => True
def Scr.May (s : Scr) : Prop := ∀ k, k < 9 → s.asks k

/-- The row of Check's tests. -/
structure FN (w : World) (g b : Nat) : Prop where
  f0 : w.cell? ⟨g, 0, none⟩ = some (.func (.func 24) #[] #[.pointer (some ⟨b, 0, none⟩)])
  f1 : w.cell? ⟨g, 1, none⟩ = some (.func (.func 25) #[] #[.pointer (some ⟨b, 0, none⟩)])
  f2 : w.cell? ⟨g, 2, none⟩ = some (.func (.func 26) #[] #[.pointer (some ⟨b, 0, none⟩)])
  f3 : w.cell? ⟨g, 3, none⟩ = some (.func (.func 27) #[] #[.pointer (some ⟨b, 0, none⟩)])
  f4 : w.cell? ⟨g, 4, none⟩ = some (.func (.func 28) #[] #[.pointer (some ⟨b, 0, none⟩)])
  f5 : w.cell? ⟨g, 5, none⟩ = some (.func (.func 29) #[] #[.pointer (some ⟨b, 0, none⟩)])
  f6 : w.cell? ⟨g, 6, none⟩ = some (.func (.func 30) #[] #[.pointer (some ⟨b, 0, none⟩)])
  f7 : w.cell? ⟨g, 7, none⟩ = some (.func (.func 31) #[] #[.pointer (some ⟨b, 0, none⟩)])
  f8 : w.cell? ⟨g, 8, none⟩ = some (.func (.func 32) #[] #[.pointer (some ⟨b, 0, none⟩)])

set_option maxHeartbeats 4000000 in
theorem check_any (w : World) (s : Scr) : Calls Try.prog 18 #[s.val] w fun e w' => ((e = .returned (.int .i64 0) ∧ s.May) ∨ (e = .returned (.int .i64 2) ∧ ¬ s.May)) ∧ Below w.heap.size w w' := by
  have hmf : ∀ (fn : Fn) (first cap : Array Value) (w : World), (Instr.makeFunc fn first cap).run Try.prog w = .ok (.func fn first cap) w := fun _ _ _ _ => rfl
  unfold Scr.val
  go_enter Try.func18, Try.ntmps18
  go_wp2_with fail
  clear hmf
  go_loopw [18] (fun i wr => ∃ k : Nat, k ≤ 9 ∧ i = .int .i64 k ∧ (∀ j, j < k → s.asks j) ∧ SB wr w.heap.size s ∧ FN wr (w.heap.size + 1) w.heap.size ∧ Below w.heap.size w wr) (fun i _ => 9 - (intOf i).toNat)
  case atStart =>
    refine ⟨0, by omega, rfl, fun j hj => absurd hj (Nat.not_lt_zero _), ?_, ?_, ((Below.refl _ _).alloc (Nat.le_refl _) _).alloc (by simp) _⟩
    · constructor <;> (rw [((Below.refl (w.alloc _).heap.size _).alloc (Nat.le_refl _) _).cell (by simp), World.cell?_alloc_at _ _ _ _ rfl]; rfl)
    · constructor <;> (rw [World.cell?_alloc_at _ _ _ _ (by simp)]; rfl)
  case round =>
    obtain ⟨k, hk, rfl, ha, hS, hF, hbl⟩ := hrel
    obtain ⟨f0, f1, f2, f3, f4, f5, f6, f7, f8⟩ := hF
    have hF : FN wr (w.heap.size + 1) w.heap.size := ⟨f0, f1, f2, f3, f4, f5, f6, f7, f8⟩
    match k, hk, ha with
    | 0, hk, ha =>
      have f := f0
      clear f0 f1 f2 f3 f4 f5 f6 f7 f8
      go_wp2_with fail
      refine (check1 wr _ s hS).mono ?_
      rintro e w' ⟨⟨r, rfl, hr⟩, rfl⟩
      cases r with
      | false =>
        go_wp2_with fail
        go_ret
        exact ⟨.inr ⟨rfl, fun hm => Bool.false_ne_true (hr.2 (hm 0 (by omega)))⟩, hbl⟩
      | true =>
        go_wp2_with fail
        go_roundw
        case rel =>
          refine ⟨1, by omega, rfl, fun j hj => ?_, hS, hF, hbl⟩
          rcases Nat.lt_succ_iff_lt_or_eq.1 hj with h | rfl
          · exact ha j h
          · exact hr.1 trivial
        case measure => simp [intOf]
    | 1, hk, ha =>
      have f := f1
      clear f0 f1 f2 f3 f4 f5 f6 f7 f8
      go_wp2_with fail
      refine (check2 wr _ s hS).mono ?_
      rintro e w' ⟨⟨r, rfl, hr⟩, rfl⟩
      cases r with
      | false =>
        go_wp2_with fail
        go_ret
        exact ⟨.inr ⟨rfl, fun hm => Bool.false_ne_true (hr.2 (hm 1 (by omega)))⟩, hbl⟩
      | true =>
        go_wp2_with fail
        go_roundw
        case rel =>
          refine ⟨2, by omega, rfl, fun j hj => ?_, hS, hF, hbl⟩
          rcases Nat.lt_succ_iff_lt_or_eq.1 hj with h | rfl
          · exact ha j h
          · exact hr.1 trivial
        case measure => simp [intOf]
    | 2, hk, ha =>
      have f := f2
      clear f0 f1 f2 f3 f4 f5 f6 f7 f8
      go_wp2_with fail
      refine (check3 wr _ s hS (ha 1 (by omega)).1).mono ?_
      rintro e w' ⟨⟨r, rfl, hr⟩, rfl⟩
      cases r with
      | false =>
        go_wp2_with fail
        go_ret
        exact ⟨.inr ⟨rfl, fun hm => Bool.false_ne_true (hr.2 (hm 2 (by omega)))⟩, hbl⟩
      | true =>
        go_wp2_with fail
        go_roundw
        case rel =>
          refine ⟨3, by omega, rfl, fun j hj => ?_, hS, hF, hbl⟩
          rcases Nat.lt_succ_iff_lt_or_eq.1 hj with h | rfl
          · exact ha j h
          · exact hr.1 trivial
        case measure => simp [intOf]
    | 3, hk, ha =>
      have f := f3
      clear f0 f1 f2 f3 f4 f5 f6 f7 f8
      go_wp2_with fail
      refine (check4 wr _ s hS).mono ?_
      rintro e w' ⟨⟨r, rfl, hr⟩, rfl⟩
      cases r with
      | false =>
        go_wp2_with fail
        go_ret
        exact ⟨.inr ⟨rfl, fun hm => Bool.false_ne_true (hr.2 (hm 3 (by omega)))⟩, hbl⟩
      | true =>
        go_wp2_with fail
        go_roundw
        case rel =>
          refine ⟨4, by omega, rfl, fun j hj => ?_, hS, hF, hbl⟩
          rcases Nat.lt_succ_iff_lt_or_eq.1 hj with h | rfl
          · exact ha j h
          · exact hr.1 trivial
        case measure => simp [intOf]
    | 4, hk, ha =>
      have f := f4
      clear f0 f1 f2 f3 f4 f5 f6 f7 f8
      go_wp2_with fail
      refine (check5 wr _ s hS (ha 0 (by omega)) ⟨(ha 3 (by omega)).1, (ha 3 (by omega)).2.1⟩).mono ?_
      rintro e w' ⟨⟨r, rfl, hr⟩, rfl⟩
      cases r with
      | false =>
        go_wp2_with fail
        go_ret
        exact ⟨.inr ⟨rfl, fun hm => Bool.false_ne_true (hr.2 (hm 4 (by omega)))⟩, hbl⟩
      | true =>
        go_wp2_with fail
        go_roundw
        case rel =>
          refine ⟨5, by omega, rfl, fun j hj => ?_, hS, hF, hbl⟩
          rcases Nat.lt_succ_iff_lt_or_eq.1 hj with h | rfl
          · exact ha j h
          · exact hr.1 trivial
        case measure => simp [intOf]
    | 5, hk, ha =>
      have f := f5
      clear f0 f1 f2 f3 f4 f5 f6 f7 f8
      go_wp2_with fail
      refine (check6 wr _ s hS).mono ?_
      rintro e w' ⟨⟨r, rfl, hr⟩, rfl⟩
      cases r with
      | false =>
        go_wp2_with fail
        go_ret
        exact ⟨.inr ⟨rfl, fun hm => Bool.false_ne_true (hr.2 (hm 5 (by omega)))⟩, hbl⟩
      | true =>
        go_wp2_with fail
        go_roundw
        case rel =>
          refine ⟨6, by omega, rfl, fun j hj => ?_, hS, hF, hbl⟩
          rcases Nat.lt_succ_iff_lt_or_eq.1 hj with h | rfl
          · exact ha j h
          · exact hr.1 trivial
        case measure => simp [intOf]
    | 6, hk, ha =>
      have f := f6
      clear f0 f1 f2 f3 f4 f5 f6 f7 f8
      go_wp2_with fail
      refine (check7 wr _ s hS (ha 1 (by omega)) ⟨(ha 5 (by omega)).1, (ha 5 (by omega)).2.1⟩).mono ?_
      rintro e w' ⟨⟨r, rfl, hr⟩, rfl⟩
      cases r with
      | false =>
        go_wp2_with fail
        go_ret
        exact ⟨.inr ⟨rfl, fun hm => Bool.false_ne_true (hr.2 (hm 6 (by omega)))⟩, hbl⟩
      | true =>
        go_wp2_with fail
        go_roundw
        case rel =>
          refine ⟨7, by omega, rfl, fun j hj => ?_, hS, hF, hbl⟩
          rcases Nat.lt_succ_iff_lt_or_eq.1 hj with h | rfl
          · exact ha j h
          · exact hr.1 trivial
        case measure => simp [intOf]
    | 7, hk, ha =>
      have f := f7
      clear f0 f1 f2 f3 f4 f5 f6 f7 f8
      go_wp2_with fail
      refine (check8 wr _ s hS).mono ?_
      rintro e w' ⟨⟨r, rfl, hr⟩, rfl⟩
      cases r with
      | false =>
        go_wp2_with fail
        go_ret
        exact ⟨.inr ⟨rfl, fun hm => Bool.false_ne_true (hr.2 (hm 7 (by omega)))⟩, hbl⟩
      | true =>
        go_wp2_with fail
        go_roundw
        case rel =>
          refine ⟨8, by omega, rfl, fun j hj => ?_, hS, hF, hbl⟩
          rcases Nat.lt_succ_iff_lt_or_eq.1 hj with h | rfl
          · exact ha j h
          · exact hr.1 trivial
        case measure => simp [intOf]
    | 8, hk, ha =>
      have f := f8
      clear f0 f1 f2 f3 f4 f5 f6 f7 f8
      go_wp2_with fail
      refine (check9 wr _ s hS (ha 0 (by omega)) (ha 1 (by omega))).mono ?_
      rintro e w' ⟨⟨r, rfl, hr⟩, rfl⟩
      cases r with
      | false =>
        go_wp2_with fail
        go_ret
        exact ⟨.inr ⟨rfl, fun hm => Bool.false_ne_true (hr.2 (hm 8 (by omega)))⟩, hbl⟩
      | true =>
        go_wp2_with fail
        go_roundw
        case rel =>
          refine ⟨9, by omega, rfl, fun j hj => ?_, hS, hF, hbl⟩
          rcases Nat.lt_succ_iff_lt_or_eq.1 hj with h | rfl
          · exact ha j h
          · exact hr.1 trivial
        case measure => simp [intOf]
    | 9, hk, ha =>
      clear f0 f1 f2 f3 f4 f5 f6 f7 f8
      go_wp2_with fail
      go_ret
      exact ⟨.inl ⟨rfl, ha⟩, hbl⟩

end Go.Proofs.Ytljgpaiojeffcaa
