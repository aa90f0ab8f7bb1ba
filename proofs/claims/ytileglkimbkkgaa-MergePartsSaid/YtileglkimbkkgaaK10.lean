
/- Check of a history. -/
import Derived.Test.YtileglkimbkkgaaK9
namespace Go.Proofs.Ytileglkimbkkgaa
open Go.RowKit
set_option linter.unusedSimpArgs false
set_option linter.unusedVariables false

/-- Events that may be, each behind the one ahead. -/
def GoodTo (l : List Ev) (k : Nat) : Prop := (∀ i, i < k → (l.getD i evZ).May) ∧ ∀ i, 0 < i → i < k → ordE (l.getD (i - 1) evZ) (l.getD i evZ) < 0
def Good (l : List Ev) : Prop := GoodTo l l.length
def CheckTo (l : List Ev) (B : Nat) (w : World) (e : Ending) (w' : World) : Prop :=
  ((4194304 < l.length ∧ e = .returned (.int .i64 3)) ∨ (l.length ≤ 4194304 ∧ Good l ∧ e = .returned (.int .i64 0)) ∨ (l.length ≤ 4194304 ∧ ¬ Good l ∧ e = .returned (.int .i64 2))) ∧ Below B w w'

theorem GoodTo.zero (l : List Ev) : GoodTo l 0 := ⟨fun i h => by omega, fun i _ h => by omega⟩

set_option maxRecDepth 100000 in
set_option maxHeartbeats 2000000 in
theorem mcheck_any (w : World) (x : Ls) (h : LsAt w w.heap.size x) : Calls Try.prog 25 #[x.val] w (CheckTo x.l w.heap.size w) := by
  have hcap := h.cap
  have hle := h.le
  unfold maxLen at hcap
  unfold Ls.val
  by_cases hlong : 4194304 < x.l.length
  · go_enter Try.func25, Try.ntmps25
    go_wp2_with fail
    go_ret
    exact ⟨.inl ⟨hlong, rfl⟩, Below.refl _ _⟩
  · go_enter Try.func25, Try.ntmps25
    go_wp2_with fail
    go_loopw [10] (fun i wr => ∃ k : Nat, k ≤ x.l.length ∧ i = .int .i64 k ∧ GoodTo x.l k ∧ Below w.heap.size w wr) (fun i _ => x.l.length - (intOf i).toNat)
    case atStart => exact ⟨0, Nat.zero_le _, rfl, GoodTo.zero _, Below.refl _ _⟩
    case round =>
      obtain ⟨k, hk, rfl, hg, hb⟩ := hrel
      have HG := Lib.hid hg
      clear hg
      by_cases hlt : k < x.l.length
      · obtain ⟨b, o, hA, hb1, hat⟩ := h.at_ (by omega)
        have hev := (hat k hlt).keep (hb.block b hb1)
        obtain ⟨y, hy⟩ : ∃ y, x.l.getD k ⟨0, 0, 0, 0, 0, 0⟩ = y := ⟨_, rfl⟩
        rw [hy] at hev
        have HY := Lib.hid (show x.l.getD k evZ = y from hy)
        have HA := Lib.hid hA
        clear hy
        obtain ⟨c0, c1, c2, c3, c4, c5⟩ := hev
        have HC := Lib.hid (fun (W : World) => echeck_any W y)
        unfold Ev.val at HC
        rw [hA]
        go_wp2_with fail
        refine (HC.out _).mono ?_
        rintro e w1 ⟨hc, hbc⟩
        have hbw : Below w.heap.size w w1 := (hb.alloc hb.size _).trans (hbc.mono (by have := hb.size; simp; omega))
        have hey : EV w1 wr.heap.size y := (EV.laid wr y).below hbc (by simp)
        have hsz : wr.heap.size < w1.heap.size := by have := hbc.size; simp at this; omega
        rcases hc with ⟨rfl, hmay⟩ | ⟨rfl, hmay⟩
        · have HMY := Lib.hid hmay
          clear hmay
          rcases Nat.eq_zero_or_pos k with rfl | hk0
          · clear hbc hat
            go_upto_region 8 with fail
            go_quiet (fail)
            go_wp2_with fail
            go_roundw
            case rel =>
              refine ⟨1, by omega, rfl, ⟨fun i hi => ?_, fun i i0 hi => absurd hi (by omega)⟩, hbw.trans ?_⟩
              · obtain rfl : i = 0 := by omega
                rw [HY.out]; exact HMY.out
              · exact ⟨rfl, rfl, rfl, Nat.le_refl _, fun _ _ => rfl⟩
            case measure => simp [intOf]; omega
          · obtain ⟨m, rfl⟩ : ∃ m, k = m + 1 := ⟨k - 1, by omega⟩
            have hez := (hat m (by omega)).keep (hbw.block b hb1)
            obtain ⟨z, hz⟩ : ∃ z, x.l.getD m ⟨0, 0, 0, 0, 0, 0⟩ = z := ⟨_, rfl⟩
            rw [hz] at hez
            have HZ := Lib.hid (show x.l.getD m evZ = z from hz)
            clear hz hat hbc hk0
            obtain ⟨d0, d1, d2, d3, d4, d5⟩ := hez
            obtain ⟨f0, f1, f2, f3, f4, f5⟩ := hey
            have hgt : (decide ((0 : Int) < (m : Int) + 1)) = true := decide_eq_true (by omega)
            have hm1 : m + 1 ≤ x.l.length := by omega
            have d0' := fun p : Later (fun _ => False) w1 => p.cell d0 (fun h => h)
            have d1' := fun p : Later (fun _ => False) w1 => p.cell d1 (fun h => h)
            have d2' := fun p : Later (fun _ => False) w1 => p.cell d2 (fun h => h)
            have d3' := fun p : Later (fun _ => False) w1 => p.cell d3 (fun h => h)
            have d4' := fun p : Later (fun _ => False) w1 => p.cell d4 (fun h => h)
            have d5' := fun p : Later (fun _ => False) w1 => p.cell d5 (fun h => h)
            have f0' := fun p : Later (fun _ => False) w1 => p.cell f0 (fun h => h)
            have f1' := fun p : Later (fun _ => False) w1 => p.cell f1 (fun h => h)
            have f2' := fun p : Later (fun _ => False) w1 => p.cell f2 (fun h => h)
            have f3' := fun p : Later (fun _ => False) w1 => p.cell f3 (fun h => h)
            have f4' := fun p : Later (fun _ => False) w1 => p.cell f4 (fun h => h)
            have f5' := fun p : Later (fun _ => False) w1 => p.cell f5 (fun h => h)
            clear d0 d1 d2 d3 d4 d5 f0 f1 f2 f3 f4 f5
            have HO := Lib.hid (fun (W : World) => order_any W z y)
            unfold Ev.val at HO
            go_upto_region 8 with fail
            refine L.region_ (fun _ => False) (by kernel_rfl) ?_
            refine L.seg_ [0, 1, 2, 3, 4, 5, 6, 7, 8] 3 _ (by kernel_rfl) (by kernel_rfl) (by kernel_rfl) (by simp only [pickOps, mask, plain, List.getElem?_toArray, List.getElem?_cons_zero, List.getElem?_cons_succ, if_true]; rfl) ?_
            repeat (go_big_quiet_step (fail))
            refine wpQuiet_nil ?_
            clear d0' d1' d2' d3' d4' d5' f0' f1' f2' f3' f4' f5'
            refine L.call_ (i := 9) rfl (by kernel_rfl) (by kernel_rfl) ?_
            intro wa sa
            unfold Oper.does
            go_simp
            refine (HO.out wa).mono ?_
            rintro e w' ⟨he, hb'⟩
            refine ⟨_, he, same_ sa (Save.of_below hb') ?_⟩
            have hB : Below w.heap.size w w' := (hbw.trans (sa.all.mono hbw.size)).trans (hb'.mono (by have := hbw.size; have := sa.size; omega))
            clear he sa hb'
            refine L.seg_ [10, 11] 0 _ (by kernel_rfl) (by kernel_rfl) (by kernel_rfl) (by simp only [pickOps, mask, plain, List.getElem?_toArray, List.getElem?_cons_zero, List.getElem?_cons_succ, if_true]; rfl) ?_
            repeat (go_big_quiet_step (fail))
            refine wpQuiet_nil ?_
            refine L.end_ (by kernel_rfl) ?_
            intro wc sc
            have hBc := hB.trans (sc.all.mono hB.size)
            by_cases hlt0 : ordE z y < 0
            · have H0 := Lib.hid hlt0
              go_wp2_with fail
              refine ⟨⟨m + 2, by omega, by go_num, ⟨fun i hi => ?_, fun i i0 hi => ?_⟩, hBc⟩, by simp [intOf]; omega⟩
              · by_cases e : i = m + 1
                · subst e; rw [HY.out]; exact HMY.out
                · exact HG.out.1 i (by omega)
              · by_cases e : i = m + 1
                · subst e; rw [HY.out, Nat.add_sub_cancel, HZ.out]; exact H0.out
                · exact HG.out.2 i i0 (by omega)
            · have H0 := Lib.hid hlt0
              have hge : 0 ≤ ordE z y := by omega
              clear hlt0
              go_wp2_with fail
              go_ret
              refine ⟨.inr (.inr ⟨by omega, fun hG => ?_, rfl⟩), hBc⟩
              have := hG.2 (m + 1) (by omega) hlt
              rw [HY.out, Nat.add_sub_cancel, HZ.out] at this
              have h3 := H0.out
              omega
        · have HMY := Lib.hid hmay
          clear hmay hey
          go_wp2_with fail
          go_ret
          exact ⟨.inr (.inr ⟨by omega, fun hG => HMY.out (HY.out ▸ hG.1 k hlt), rfl⟩), hbw⟩
      · obtain rfl : k = x.l.length := by omega
        go_wp2_with fail
        go_ret
        exact ⟨.inr (.inl ⟨by omega, HG.out, rfl⟩), hb⟩
end Go.Proofs.Ytileglkimbkkgaa
