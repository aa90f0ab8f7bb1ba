/- The walks of OctetNames and OctetNil. -/
import Derived.Test.YtbjhdmhligjplaaV
import Derived.OpenShut
namespace Go.Proofs.Ytbjhdmhligjplaa
open Go.RowKit

theorem nread1 : numSt [248, 247] 0 0 = (0, 2, 4) := by decide +kernel
theorem nread2 : numSt [248] 0 0 = (0, 1, 5) := by decide +kernel

theorem number_247 (w : World) : Calls Try.prog 16 #[.slice none 0 0, .int .u64 247] w fun e w' =>
    ∃ A c, e = .returned (.slice A 1 c) ∧ OB w' w.heap.size A c [247] ∧ Below w.heap.size w w' := by
  refine (number_any none 0 0 [] 247 w 0 rfl (RB.nil _ _) (Nat.zero_le _) (by decide) (by decide)).mono ?_
  rintro e w1 ⟨A1, c1, he, ho1, hb1⟩
  exact ⟨A1, c1, he, ho1, hb1⟩
theorem signed_3 (w : World) : Calls Try.prog 17 #[.slice none 0 0, .int .i64 3] w fun e w' =>
    ∃ A c, e = .returned (.slice A 1 c) ∧ OB w' w.heap.size A c [6] ∧ Below w.heap.size w w' := by
  refine (signed_any none 0 0 [] 3 w 0 rfl (RB.nil _ _) (Nat.zero_le _) (by decide) (by decide) (by decide)).mono ?_
  rintro e w1 ⟨A1, c1, he, ho1, hb1⟩
  exact ⟨A1, c1, he, ho1, hb1⟩
theorem signed_124 (w : World) : Calls Try.prog 17 #[.slice none 0 0, .int .i64 124] w fun e w' =>
    ∃ A c, e = .returned (.slice A 2 c) ∧ OB w' w.heap.size A c [248, 248] ∧ Below w.heap.size w w' := by
  refine (signed_any none 0 0 [] 124 w 0 rfl (RB.nil _ _) (Nat.zero_le _) (by decide) (by decide) (by decide)).mono ?_
  rintro e w1 ⟨A1, c1, he, ho1, hb1⟩
  exact ⟨A1, c1, he, ho1, hb1⟩

set_option maxHeartbeats 2000000 in
theorem walk_OctetNames (w : World) : Calls Try.prog 3 #[] w fun e w' => e = .returned (.bool true) ∧ Below w.heap.size w w' := by
  go_enter Try.func3, Try.ntmps3
  go_wp2_with fail
  refine (new_any _ 2 2 [248, 247] _ _ rfl (RB.row w [248, 247] (0, 0) (AllB.of (by decide)) (by decide)) (by simp) (by decide)).mono ?_
  rintro e w1 ⟨g1, A1, c1, rfl, hr1, hb1, hg1, _⟩
  have hB1 : Below w.heap.size w w1 := ((Below.refl _ _).alloc (Nat.le_refl _) _).trans (hb1.mono (by simp))
  have hG1 : w.heap.size ≤ g1 := by simp at hg1; omega
  clear hb1 hg1
  go_wp2_with fail
  refine (new_any _ 1 1 [248] _ _ rfl (RB.row w1 [248] (0, 0) (AllB.of (by decide)) (by decide)) (by simp) (by decide)).mono ?_
  rintro e w2 ⟨g2, A2, c2, rfl, hr2, hb2, hg2, ha2⟩
  have hB : Below w1.heap.size w1 w2 := ((Below.refl _ _).alloc (Nat.le_refl _) _).trans (hb2.mono (by simp))
  have hr1' := hr1.below hB hr1.lt
  have hA2 : ∀ a, A2 = some a → a.block ≠ g1 := fun a ha => by have := ha2 a ha; have := hr1.lt; simp at *; omega
  have hG2 : g1 < g2 := by have := hr1.lt; simp at hg2; omega
  have hB2 := hB1.trans (hB.mono hB1.size)
  clear hB hr1 hb2 hg2 hB1 ha2
  go_wp2_with fail
  refine (lives_any _).mono ?_
  rintro e w3 ⟨rfl, hb⟩
  have hr1 := hr1'.below hb hr1'.lt
  have hr2' := hr2.below hb hr2.lt
  have hB3 := hB2.trans (hb.mono hB2.size)
  clear hb hr1' hr2 hB2
  go_wp2_with fail
  refine (number_247 _).mono ?_
  rintro e w4 ⟨A4, c4, rfl, ho4, hb⟩
  have hs4 : (convert 24 9 (.slice A4 1 c4)).run Try.prog w4 = .ok (.string ⟨#[247]⟩) w4 := str_rb w4 _ A4 c4 1 [247] ho4.rb rfl
  have hr1' := hr1.below hb hr1.lt
  have hr2 := hr2'.below hb hr2'.lt
  have hB4 := hB3.trans (hb.mono hB3.size)
  clear hb hr1 hr2' hB3 ho4
  go_wp2_with fail
  refine (signed_3 _).mono ?_
  rintro e w5 ⟨A5, c5, rfl, ho5, hb⟩
  have hs5 : (convert 24 9 (.slice A5 1 c5)).run Try.prog w5 = .ok (.string ⟨#[6]⟩) w5 := str_rb w5 _ A5 c5 1 [6] ho5.rb rfl
  have hr1 := hr1'.below hb hr1'.lt
  have hr2' := hr2.below hb hr2.lt
  have hB5 := hB4.trans (hb.mono hB4.size)
  clear hb hr1' hr2 hB4 ho5 hs4
  go_wp2_with fail
  refine (signed_124 _).mono ?_
  rintro e w6 ⟨A6, c6, rfl, ho6, hb⟩
  have hs6 : (convert 24 9 (.slice A6 2 c6)).run Try.prog w6 = .ok (.string ⟨#[248, 248]⟩) w6 := str_rb w6 _ A6 c6 2 [248, 248] ho6.rb rfl
  have hr1' := hr1.below hb hr1.lt
  have hr2 := hr2'.below hb hr2'.lt
  have hB6 := hB5.trans (hb.mono hB5.size)
  clear hb hr1 hr2' hB5 ho6 hs5
  go_wp2_with fail
  refine (rnumber_any g1 A1 c1 _ 0 0 _ hr1').mono ?_
  rintro e w7 ⟨he, hr7, hg7⟩
  rw [nread1] at he hr7
  subst he
  have hr2' := hr2.other hg7 (by omega) hA2
  have hB7 := hB6.grown hg7 hB6.size (by rintro k ⟨⟩; exact hG1)
  clear hg7 hB6 hr2 hr1' hs6
  go_wp2_with fail
  refine (err_any g1 4 _ hr7.c0 hr7.c3).mono ?_
  rintro e w' ⟨rfl, rfl⟩
  go_wp2_with fail
  refine (rnumber_any g2 A2 c2 _ 0 0 _ hr2').mono ?_
  rintro e w8 ⟨he, hr8, hg8⟩
  rw [nread2] at he hr8
  subst he
  have hB8 := hB7.grown hg8 hB7.size (by rintro k ⟨⟩; omega)
  clear hg8 hB7 hr2' hr7
  go_wp2_with fail
  refine (err_any g2 5 _ hr8.c0 hr8.c3).mono ?_
  rintro e w' ⟨rfl, rfl⟩
  go_wp2_with fail
  go_ret
  exact ⟨rfl, hB8⟩

set_option maxHeartbeats 1000000 in
theorem walk_OctetNil (w : World) (n : Int) (hn : (Lit.int .i64 n).wf = true) : Calls Try.prog 5 #[.int .i64 n] w fun e w' => e = .returned (.bool true) ∧ Below w.heap.size w w' := by
  have hlt : n < 9223372036854775808 := by have := bounds_i64 hn; omega
  clear hn
  go_enter Try.func5, Try.ntmps5
  go_wp2_with fail
  refine (lives_any _).mono ?_
  rintro e w1 ⟨rfl, hb⟩
  go_wp2_with (first
    | (go_at_call 18; refine (rnumber_nil _).mono ?_; rintro e w' ⟨rfl, rfl⟩)
    | (go_at_call 27; refine (rsigned_nil _).mono ?_; rintro e w' ⟨rfl, rfl⟩)
    | (go_at_call 28; refine (rblock_nil _).mono ?_; rintro e w2 ⟨A, c, rfl, ho, hb2⟩)
    | (go_at_call 29; refine (rcount_nil _ _ hlt).mono ?_; rintro e w' ⟨rfl, rfl⟩)
    | (go_at_call 30; refine (left_nil _).mono ?_; rintro e w' ⟨rfl, rfl⟩)
    | (go_at_call 19; refine (err_nil _).mono ?_; rintro e w' ⟨rfl, rfl⟩)
    | (go_at_call 31; refine (rend_nil _).mono ?_; rintro e w' ⟨rfl, rfl⟩))
  go_ret
  exact ⟨rfl, hb.trans (hb2.mono hb.size)⟩
end Go.Proofs.Ytbjhdmhligjplaa
