
/- Read of what is no memory; BankNames, walked. -/
import Derived.Test.YtflbedomkeophaaST
import Derived.Test.YtflbedomkeophaaSN
namespace Go.Proofs.Ytflbedomkeophaa
open Go.RowKit
set_option linter.unusedSimpArgs false
set_option linter.unusedVariables false
set_option maxRecDepth 100000

set_option maxHeartbeats 1000000 in
theorem read_bad (w : World) (A : Option Addr) (c n : Nat) (l : List Int) (hn : n = l.length) (h : RB w w.heap.size A c l) (hl : l.length ≤ 1099511627776) (hb : (takenSt l).2.2.2 ≠ 0) :
    Calls Try.prog 9 #[.slice A n c] w fun e w' => e = .returned (.tuple #[.pointer none, .int .i64 4]) ∧ Below w.heap.size w w' := by
  subst hn
  have HT : Hid (Calls Try.prog 27 #[.slice A l.length c] w fun e w' => (∃ (v : Value) (a b x : Int), e = .returned (.tuple #[.agg #[.int .u8 a, .int .u8 b], v, .int .i64 x]) ∧ x ≠ 0) ∧ Below w.heap.size w w') := Lib.hid ((taken_any w A c _ l rfl h hl).mono fun e w' h2 => by
    obtain ⟨v, ps, h3, _, _, _, h4⟩ := h2
    exact ⟨⟨v, _, _, _, h3, hb⟩, h4⟩)
  clear h hb
  go_enter Try.func9, Try.ntmps9
  go_wp2_with (go_at_call 27; (with_reducible refine HT.out.mono ?_); rintro e w1 ⟨⟨v, a, b, x, rfl, hx⟩, hb1⟩)
  go_ret2
  exact ⟨rfl, hb1.alloc hb1.size _⟩
theorem taken_nil : (takenSt []).2.2.2 ≠ 0 := by decide +kernel
theorem bad_example (w W : World) (hW : W = w.alloc (.cells #[.int .i64 12, .int .i64 0, .slice none 0 0] 29)) :
    Calls Try.prog 7 #[.slice (some ⟨w.heap.size, 0, none⟩) 1 1] W fun e w' => e = .returned (.tuple #[.pointer none, .int .i64 2]) ∧ Below W.heap.size W w' := by
  have hp : PtsAt W W.heap.size (some ⟨w.heap.size, 0, none⟩) 1 [⟨12, 0, none, 0, []⟩] := by
    refine ⟨Nat.le_refl _, by decide, fun _ => ⟨_, _, rfl, by rw [hW]; simp, fun i hi j hj => ?_⟩, fun x hx => by obtain rfl := List.mem_singleton.1 hx; exact RB.nil _ _⟩
    obtain rfl : i = 0 := by simp at hi; omega
    rw [hW, cell_of_row _ _ _ _ _ (0, 0) (heap_alloc_new _ _)]
    obtain rfl | rfl | rfl : j = 0 ∨ j = 1 ∨ j = 2 := by omega
    all_goals rfl
  refine (bnew_any W _ 1 1 [⟨12, 0, none, 0, []⟩] hp (fun x hx => by obtain rfl := List.mem_singleton.1 hx; exact ⟨show (Lit.int .i64 12).wf = true by decide, show (Lit.int .i64 0).wf = true by decide, Nat.zero_le _, fun _ => rfl⟩) rfl (show 1 ≤ 1000000 by decide)).mono fun e w' h => ?_
  exact ⟨h.2.1 (fun h2 => absurd (h2 _ (List.mem_singleton.2 rfl)).2.1 (show ¬ (12 : Int) < 12 by decide)), h.2.2⟩
theorem nil_example (w : World) :
    Calls Try.prog 7 #[.slice none 0 0] w fun e w' => ∃ x sr cs, e = .returned (.tuple #[ptrV x.m, .int .i64 0]) ∧ MB w' (fun k => w.heap.size ≤ k) x sr cs ∧ x.A = 0 ∧ x.B = 0 ∧ Below w.heap.size w w' := by
  have hp : PtsAt w w.heap.size none 0 [] := ⟨Nat.le_refl _, by decide, fun h => absurd h (by decide), fun x hx => by cases hx⟩
  refine (bnew_any w none 0 0 [] hp (fun x hx => by cases hx) rfl (by decide)).mono fun e w' h => ?_
  obtain ⟨x, sr, cs, h1, h2, h3, h4, _⟩ := h.1 (fun x hx => by cases hx)
  exact ⟨x, sr, cs, h1, h2, h3, h4, h.2.2⟩
theorem tell_32 {w : World} {P : Nat → Prop} {x : Mo} {sr cs : Nat} (h : MB w P x sr cs) (hP : ∀ k, w.heap.size ≤ k → P k) (hA : x.A = 0) (hB : x.B = 0) :
    Calls Try.prog 8 #[ptrV x.m, .bool false, .int .u8 32] w fun e w' => e = .returned (.int .i64 0) ∧ ∃ sr cs, MB w' P { x with A := 32, B := 0 } sr cs ∧ w.grownBy w' (some x.m) := by
  refine (tell_mem w P x sr cs h hP false 32 (by decide)).mono fun e w' h2 => ?_
  obtain ⟨h3, sr', cs', h4, h5⟩ := h2
  have hbit : bitP 0 32 = false := by decide +kernel
  unfold tE at h3
  unfold Mo.tell at h4
  rw [hA, hbit] at h3 h4
  rw [hB] at h4
  exact ⟨h3, sr', cs', h4, h5⟩
theorem tell_lock {w : World} {P : Nat → Prop} {x : Mo} {sr cs : Nat} (h : MB w P { x with A := 32, B := 0 } sr cs) (hP : ∀ k, w.heap.size ≤ k → P k) :
    Calls Try.prog 8 #[ptrV x.m, .bool false, .int .u8 0] w fun e w' => e = .returned (.int .i64 10) ∧ ∃ sr cs, MB w' P { x with A := 32, B := 0 } sr cs ∧ w.grownBy w' (some x.m) := by
  refine (tell_mem w P { x with A := 32, B := 0 } sr cs h hP false 0 (by decide)).mono fun e w' h2 => ?_
  obtain ⟨h3, sr', cs', h4, h5⟩ := h2
  have hbit : bitP 32 32 = true := by decide +kernel
  unfold tE at h3
  unfold Mo.tell at h4
  dsimp only at h3 h4
  rw [hbit] at h3 h4
  exact ⟨h3, sr', cs', h4, h5⟩
theorem page_32 {w : World} {P : Nat → Prop} {x : Mo} {sr cs : Nat} (h : MB w P { x with A := 32, B := 0 } sr cs) :
    Calls Try.prog 11 #[ptrV x.m] w fun e w' => e = .returned (.agg #[.int .u8 32, .int .u8 0]) ∧ Below w.heap.size w w' := page_mem w P { x with A := 32, B := 0 } _ h.toMC
theorem picture_8 (w : World) : Calls Try.prog 12 #[.agg #[.int .u8 8, .int .u8 0]] w fun e w' => e = .returned (.int .i64 7) ∧ Below w.heap.size w w' := by
  have h := b_picture 8 0 w
  rw [show bitP 8 8 = true by decide +kernel] at h
  exact h

set_option maxHeartbeats 4000000 in
theorem walk_BankNames (w : World) : Calls Try.prog 3 #[] w fun e w' => e = .returned (.bool true) ∧ Below w.heap.size w w' := by
  have eq32 : ∀ w, (binOp .eql 34 (.agg #[.int .u8 32, .int .u8 0]) (.agg #[.int .u8 32, .int .u8 0])).run Try.prog w = .ok (.bool true) w := fun w => by go_simp
  go_enter Try.func3, Try.ntmps3
  go_upto_region 2 with (go_at_call 7; (with_reducible refine (nil_example _).mono ?_); rintro e w1 ⟨x, sr, cs, rfl, hm, hA, hB, hb1⟩)
  have HM := Lib.hid hm
  have HA := Lib.hid hA
  have HB := Lib.hid hB
  have HB1 := Lib.hid hb1
  have hms := hm.pm
  clear hm hA hB hb1
  go_upto_region 3 with (go_at_call 8; (with_reducible refine (tell_32 HM.out (fun k hk => Nat.le_trans HB1.out.size hk) HA.out HB.out).mono ?_); rintro e w2 ⟨rfl, sr2, cs2, hm2, hg2⟩)
  have HM2 := Lib.hid hm2
  have HB2 := Lib.hid (HB1.out.grown hg2 HB1.out.size (fun k e => by obtain rfl := Option.some.inj e; exact hms))
  clear hm2 hg2 HM
  go_upto_region 4 with (go_at_call 7; (with_reducible refine (bad_example w2 _ rfl).mono ?_); rintro e w3 ⟨rfl, hb3⟩)
  have hb23 : Below w2.heap.size w2 w3 := ((Below.refl _ _).alloc (Nat.le_refl _) _).trans (hb3.mono (by simp))
  have HM3 := Lib.hid (HM2.out.below hb23)
  have HB3 := Lib.hid (HB2.out.trans (hb23.mono HB2.out.size))
  clear hb3 hb23 HM2
  go_upto_region 5 with (go_at_call 9; (with_reducible refine (read_bad w3 none 0 0 [] rfl (RB.nil _ _) (Nat.zero_le _) taken_nil).mono ?_); rintro e w4 ⟨rfl, hb4⟩)
  have HM4 := Lib.hid (HM3.out.below hb4)
  have HB4 := Lib.hid (HB3.out.trans (hb4.mono HB3.out.size))
  clear hb4 HM3
  go_wp2_with (first
    | (go_at_call 10; (with_reducible refine (lives13 _).mono ?_); rintro e w5 ⟨rfl, hb5⟩; have HM5 := Lib.hid (HM4.out.below hb5); have HB5 := Lib.hid (HB4.out.trans (hb5.mono HB4.out.size)))
    | (go_at_call 8; (with_reducible refine (tell_lock HM5.out (fun k hk => Nat.le_trans HB5.out.size hk)).mono ?_); rintro e w6 ⟨rfl, sr6, cs6, hm6, hg6⟩; have HM6 := Lib.hid hm6; clear hm6)
    | (go_at_call 11; (with_reducible refine (page_32 HM6.out).mono ?_); rintro e w7 ⟨rfl, hb7⟩)
    | (go_at_call 12; (with_reducible refine (picture_8 _).mono ?_); rintro e w8 ⟨rfl, hb8⟩))
  go_ret
  have hb6 := HB5.out.grown hg6 HB5.out.size (fun k e => by obtain rfl := Option.some.inj e; exact hms)
  have hb7' := hb6.trans (hb7.mono hb6.size)
  exact ⟨rfl, hb7'.trans (hb8.mono hb7'.size)⟩
end Go.Proofs.Ytflbedomkeophaa
