
/- Part: the events of one chip. -/
import Derived.Test.YtileglkimbkkgaaK26
import Derived.Test.YtileglkimbkkgaaK15
namespace Go.Proofs.Ytileglkimbkkgaa
open Go.RowKit Go.Shelf
set_option linter.unusedSimpArgs false
set_option linter.unusedVariables false

theorem row_to_ls {w : World} {base : Nat} {v : Value} {ys : List Ev} (h : w.ownsRow base 23 6 v ys.length (rowV ys)) : ∃ y : Ls, v = y.val ∧ y.l = ys ∧ LsAt w w.heap.size y ∧ (y.A = none → y.c = 0) := by
  rcases h.2 with ⟨h1, h2⟩ | ⟨g, cap, cur, e1, e2, e3, e4⟩
  · have : ys = [] := List.eq_nil_of_length_eq_zero h2
    subst this
    exact ⟨Ls.none, h1, rfl, ⟨Nat.le_refl _, by decide, fun h => absurd h (by decide)⟩, fun _ => rfl⟩
  · subst e1
    have h3 := own_ls h ys.length (Nat.le_refl _)
    rw [List.take_length] at h3
    exact ⟨⟨some ⟨g, 0, none⟩, cap, ys⟩, rfl, rfl, h3, fun h => by cases h⟩

/-- A list of the call's own: what it is, where it lies. -/
def ListTo (w : World) (ys : List Ev) (e : Ending) (w' : World) : Prop := ∃ y : Ls, e = .returned y.val ∧ y.l = ys ∧ (LsAt w' w'.heap.size y ∧ (y.A = none → y.c = 0)) ∧ Below w.heap.size w w'

set_option maxRecDepth 100000 in
set_option maxHeartbeats 2000000 in
theorem part_any (w : World) (x : Ls) (chip : Int) (h : LsAt w w.heap.size x) (hN : x.l.length ≤ 1048576) :
    Calls Try.prog 28 #[x.val, .int .i64 chip] w (ListTo w (x.l.filter (onChip chip))) := by
  have HT := Lib.hid (fun (W : World) (g : Nat) (lb : Array Value) => those_any W x g lb)
  have HX := Lib.hid h
  have HC := Lib.hid (fun (W : World) (hb : Below w.heap.size w W) (c3 : W.cell? ⟨w.heap.size, 0, none⟩ = some (.int .i64 chip)) (hsz : w.heap.size < W.heap.size) =>
    callsIn_wide.1 (collect_in 5 (by decide) 77 #[.pointer (some ⟨W.heap.size, 0, none⟩), .pointer (some ⟨W.heap.size + 1, 0, none⟩)] (enters_of Try.func77 (by kernel_rfl) rfl) _ x.l.length hN
      ((W.alloc (boxL x)).alloc (.cells #[.func (.func 63) #[] #[.pointer (some ⟨w.heap.size, 0, none⟩)]] 72))
      (those_stops 4 (by decide) ((W.alloc (boxL x)).alloc (.cells #[.func (.func 63) #[] #[.pointer (some ⟨w.heap.size, 0, none⟩)]] 72)).heap.size W.heap.size (W.heap.size + 1) w.heap.size x chip _ (Nat.le_refl _)
        ((h.keep fun k hk => by
          have h2 := (((hb.alloc hb.size (boxL x)).alloc (by have := hb.size; simp; omega) (.cells #[.func (.func 63) #[] #[.pointer (some ⟨w.heap.size, 0, none⟩)]] 72))).block k hk
          exact h2).more (by simp; omega))
        (by simp; omega) (by simp) (by simp; omega)
        (by
          have h1 : (W.alloc (boxL x)).cell? ⟨W.heap.size, 0, none⟩ = some x.val := by rw [World.cell?_alloc_at _ _ _ _ rfl]; rfl
          exact (((Below.refl (W.alloc (boxL x)).heap.size _).alloc (Nat.le_refl _) _).cell (p := ⟨W.heap.size, 0, none⟩) (by simp)).trans h1)
        (by
          have e : W.heap.size + 1 = (W.alloc (boxL x)).heap.size := by simp
          rw [e, World.cell?_alloc_at _ _ _ _ rfl]; rfl)
        (by
          have h1 := ((Below.refl W.heap.size W).alloc (Nat.le_refl _) (boxL x)).alloc (by simp) (.cells #[.func (.func 63) #[] #[.pointer (some ⟨w.heap.size, 0, none⟩)]] 72)
          exact (h1.cell (p := ⟨w.heap.size, 0, none⟩) hsz).trans c3))))
  unfold Ls.val at HT ⊢
  go_enter Try.func28, Try.ntmps28
  go_wp2_with (first
    | (go_at_call 52; (with_reducible refine (HT.out _ _ _).mono ?_); rintro e w' ⟨rfl, rfl⟩))
  have hcol := HC.out (w.alloc (.cells #[.int .i64 chip] 3)) ((Below.refl _ _).alloc (Nat.le_refl _) _) (by rw [World.cell?_alloc_at _ _ _ _ rfl]; rfl) (by simp)
  rw [World.size_alloc] at hcol
  refine hcol.mono ?_
  rintro e w' ⟨v, ys, rfl, rfl, hr, _, hb⟩
  obtain ⟨y, rfl, hy, hl⟩ := row_to_ls hr
  have hbw : Below w.heap.size w w' := ((((Below.refl w.heap.size w).alloc (Nat.le_refl _) (.cells #[.int .i64 chip] 3)).alloc (by simp) (boxL x)).alloc (by simp; omega) (.cells #[.func (.func 63) #[] #[.pointer (some ⟨w.heap.size, 0, none⟩)]] 72)).trans (hb.mono (by simp; omega))
  have HY := Lib.hid hy
  have HV := Lib.hid (show ListTo w (x.l.filter (onChip chip)) (.returned y.val) w' from ⟨y, rfl, hy, hl, hbw⟩)
  clear hcol hr hb hbw hl hy
  unfold Ls.val at HV ⊢
  go_wp2_with fail
  go_ret
  exact HV.out
end Go.Proofs.Ytileglkimbkkgaa
