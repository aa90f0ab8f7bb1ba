
/- Package bank: Tell, Put. -/
import Derived.Test.YtflbedomkeophaaSG
namespace Go.Proofs.Ytflbedomkeophaa
open Go.RowKit
set_option linter.unusedSimpArgs false
set_option linter.unusedVariables false
set_option maxRecDepth 100000

theorem tell_nil (w : World) (more : Bool) (v : Int) : Calls Try.prog 8 #[.pointer none, .bool more, .int .u8 v] w fun e w' => e = .returned (.int .i64 1) ∧ w = w' := by
  go_enter Try.func8, Try.ntmps8
  go_wp2_with (go_at_call 26; (with_reducible refine (made_nil _).mono ?_); rintro e w' ⟨rfl, rfl⟩)
  go_ret
  exact ⟨rfl, rfl⟩
theorem put_nil (w : World) (a v : Int) : Calls Try.prog 15 #[.pointer none, .int .u16 a, .int .u8 v] w fun e w' => e = .returned (.bool false) ∧ w = w' := by
  go_enter Try.func15, Try.ntmps15
  go_wp2_with (go_at_call 26; (with_reducible refine (made_nil _).mono ?_); rintro e w' ⟨rfl, rfl⟩)
  go_ret
  exact ⟨rfl, rfl⟩
/-- A place of a bank is put. -/
def Mo.put (x : Mo) (b p : Nat) (v : Int) : Mo := { x with L := fun i => if i = b then (x.L b).set p v else x.L i }
theorem MC.stored {w : World} {P : Nat → Prop} {x : Mo} {v : Value} (h : MC w P x v) (b p : Nat) (u : Int) (hb : b < 12) (hu : 0 ≤ u ∧ u < 256) : MC (w.setCell ⟨x.gs b, p, none⟩ (.int .u8 u)) P (x.put b p u) v := by
  have hg := grown_set w (x.gs b) p (.int .u8 u)
  refine ⟨(hg.block _ h.lt (fun e => h.nm b hb (Option.some.inj e).symm)).trans h.self, fun i hi => (World.cell?_of_block (hg.block x.br h.lb (fun e => h.nb b hb (Option.some.inj e).symm))).trans (h.bs i hi), fun i hi => ?_, fun i hi => ?_, fun i hi => ?_, h.inj, h.nm, h.nb, h.mb, h.pm, h.pb, h.pg, h.cb, h.pA, h.pB⟩
  · by_cases e : i = b
    · subst e
      show (w.setCell ⟨x.gs i, p, none⟩ (.int .u8 u)).heap[x.gs i]? = bankC (if i = i then (x.L i).set p u else x.L i)
      rw [if_pos rfl, heap_setCell_same w (x.gs i) p _ _ _ (h.bk i hi)]
      show some _ = some _
      congr 2
      apply Array.ext'
      simp [Array.toList_setIfInBounds, List.map_set]
    · show (w.setCell ⟨x.gs b, p, none⟩ (.int .u8 u)).heap[x.gs i]? = bankC (if i = b then (x.L b).set p u else x.L i)
      rw [if_neg e]
      exact (hg.block _ (h.lg i hi) (fun e2 => e (h.inj i b hi hb (Option.some.inj e2)))).trans (h.bk i hi)
  · show (if i = b then (x.L b).set p u else x.L i).length = 16384
    split
    · rw [List.length_set, h.len b hb]
    · exact h.len i hi
  · show AllB (if i = b then (x.L b).set p u else x.L i)
    split
    · intro n hn
      rcases List.mem_or_eq_of_mem_set hn with h1 | rfl
      · exact h.all b hb n h1
      · exact hu
    · exact h.all i hi
theorem MB.ls {w : World} {P : Nat → Prop} {x : Mo} {sr cs : Nat} (h : MB w P x sr cs) : sr < w.heap.size := World.block_lt_of_cell? _ _ (h.ss 0 (by decide))
theorem MB.stored {w : World} {P : Nat → Prop} {x : Mo} {sr cs : Nat} (h : MB w P x sr cs) (b p : Nat) (u : Int) (hb : b < 12) (hu : 0 ≤ u ∧ u < 256) : MB (w.setCell ⟨x.gs b, p, none⟩ (.int .u8 u)) P (x.put b p u) sr cs :=
  ⟨h.toMC.stored b p u hb hu, fun k hk => (World.cell?_of_block ((grown_set w (x.gs b) p (.int .u8 u)).block sr h.ls (fun e => h.sg b hb (Option.some.inj e)))).trans (h.ss k hk), h.sp, h.sm, h.sg⟩
theorem MB.below {w w' : World} {P : Nat → Prop} {x : Mo} {sr cs : Nat} (h : MB w P x sr cs) (hb : Below w.heap.size w w') : MB w' P x sr cs :=
  ⟨h.toMC.other (gw_below hb none) (fun k e => by cases e), fun k hk => (World.cell?_of_block (hb.block sr h.ls)).trans (h.ss k hk), h.sp, h.sm, h.sg⟩
theorem MB.other {w w' : World} {P : Nat → Prop} {x : Mo} {sr cs : Nat} (h : MB w P x sr cs) {r : Option Nat} (hg : w.grownBy w' r) (hr : ∀ k, r = some k → ¬ P k) : MB w' P x sr cs :=
  ⟨h.toMC.other hg (fun k e => ⟨fun e2 => hr k e (e2 ▸ h.pm), fun e2 => hr k e (e2 ▸ h.pb), fun i hi e2 => hr k e (e2 ▸ h.pg i hi)⟩), fun k hk => (World.cell?_of_block (hg.block sr h.ls (fun e => hr _ e.symm h.sp))).trans (h.ss k hk), h.sp, h.sm, h.sg⟩
theorem MB.mono {w : World} {P Q : Nat → Prop} {x : Mo} {sr cs : Nat} (h : MB w P x sr cs) (hQ : ∀ k, k < w.heap.size → P k → Q k) : MB w Q x sr cs :=
  ⟨⟨h.self, h.bs, h.bk, h.len, h.all, h.inj, h.nm, h.nb, h.mb, hQ _ h.lt h.pm, hQ _ h.lb h.pb, fun i hi => hQ _ (h.lg i hi) (h.pg i hi), h.cb, h.pA, h.pB⟩, h.ss, hQ _ h.ls h.sp, h.sm, h.sg⟩
/-- Told. -/
def Mo.tell (x : Mo) (more : Bool) (v : Int) : Mo := if bitP x.A 32 = true then x else { x with A := if more = true then x.A else v, B := if more = true then v else x.B }
def TellTo (w : World) (P : Nat → Prop) (x : Mo) (more : Bool) (v : Int) (e : Ending) (w' : World) : Prop :=
  e = .returned (.int .i64 (tE x.A)) ∧ ∃ sr cs, MB w' P (x.tell more v) sr cs ∧ w.grownBy w' (some x.m)
set_option maxHeartbeats 1000000 in
theorem tell_mem (w : World) (P : Nat → Prop) (x : Mo) (sr cs : Nat) (h : MB w P x sr cs) (hP : ∀ k, w.heap.size ≤ k → P k) (more : Bool) (v : Int) (hv : 0 ≤ v ∧ v < 256) :
    Calls Try.prog 8 #[ptrV x.m, .bool more, .int .u8 v] w (TellTo w P x more v) := by
  have HM := Lib.hid (made_mem _ P x _ h.toMC)
  have HT := Lib.hid fun w => b_told x.A x.B v more w
  obtain ⟨c1, c2, _⟩ := h.page
  have HH := Lib.hid h
  have HP := Lib.hid hP
  clear h hP
  unfold ptrV at HM ⊢
  unfold TellTo Mo.tell
  unfold pgV tA tB tE at HT
  cases hL : bitP x.A 32 with
  | true =>
    rw [hL] at HT
    unfold tE
    rw [hL]
    clear hL
    rw [if_pos rfl, if_pos rfl]
    simp only [if_true] at HT
    go_enter Try.func8, Try.ntmps8
    go_wp2_with (first
      | (go_at_call 26; (with_reducible refine HM.out.mono ?_); rintro e w' ⟨rfl, rfl⟩)
      | (go_at_call 23; (with_reducible refine (HT.out _).mono ?_); rintro e w2 ⟨rfl, hb⟩))
    go_ret
    have hb2 := hb.alloc hb.size (.cells #[.int .u8 0, .int .u8 0] 34)
    exact ⟨rfl, sr, cs, HH.out.below hb2, gw_below hb2 _⟩
  | false =>
    rw [hL] at HT
    unfold tE
    rw [hL]
    clear hL
    simp only [Bool.false_eq_true, if_false] at HT ⊢
    obtain ⟨A', hA'⟩ : ∃ A', (if more = true then x.A else v) = A' := ⟨_, rfl⟩
    obtain ⟨B', hB'⟩ : ∃ B', (if more = true then v else x.B) = B' := ⟨_, rfl⟩
    have hA : 0 ≤ A' ∧ A' < 256 := by rw [← hA']; split; exact HH.out.pA; exact hv
    have hB : 0 ≤ B' ∧ B' < 256 := by rw [← hB']; split; exact hv; exact HH.out.pB
    rw [hA', hB'] at HT
    rw [hA', hB']
    clear hA' hB'
    go_enter Try.func8, Try.ntmps8
    go_wp2_with (first
      | (go_at_call 26; (with_reducible refine HM.out.mono ?_); rintro e w' ⟨rfl, rfl⟩)
      | (go_at_call 23; (with_reducible refine (HT.out _).mono ?_); rintro e w2 ⟨rfl, hb⟩)
      | (go_at_call 25; (with_reducible refine (turn_any _ P x _ (HH.out.below (hb.alloc hb.size _)).toMC (fun k hk => HP.out k (by have := hb.size; simp at hk; omega)) A' B' hA hB).mono ?_); rintro e w4 ⟨rfl, sr', cs', hm', hg'⟩))
    go_ret
    exact ⟨rfl, sr', cs', hm', grown_new (gw_below (hb.alloc hb.size _) (some x.m)) hg' (fun i e => .inr e)⟩
def PutTo (w : World) (P : Nat → Prop) (x : Mo) (sr cs b p : Nat) (v : Int) (e : Ending) (w' : World) : Prop :=
  e = .returned (.bool (decide (b < 8))) ∧ MB w' P (if b < 8 then x.put b p v else x) sr cs ∧ w.grownBy w' (some (x.gs b))
set_option maxHeartbeats 1000000 in
theorem put_mem (w : World) (P : Nat → Prop) (x : Mo) (sr cs : Nat) (h : MB w P x sr cs) (a v : Int) (h0 : 0 ≤ a) (h1 : a < 65536) (hv : 0 ≤ v ∧ v < 256) :
    Calls Try.prog 15 #[ptrV x.m, .int .u16 a, .int .u8 v] w (PutTo w P x sr cs (slB x.A x.B (a / 16384).toNat) (a % 16384).toNat v) := by
  have HM := Lib.hid (made_mem _ P x _ h.toMC)
  have HW := Lib.hid (where_mem w P x _ h.toMC a h0 h1)
  have hq : (((a % 16384).toNat : Nat) : Int) = a % 16384 := by omega
  have hq4 : (a % 16384).toNat < 16384 := by omega
  have hs := slB_lt x.A x.B h.pA h.pB (a / 16384).toNat (by omega)
  rw [← hq] at HW
  clear hq
  generalize (a % 16384).toNat = q at *
  generalize slB x.A x.B (a / 16384).toNat = b at *
  have HH := Lib.hid h
  clear h
  unfold ptrV at HM HW ⊢
  unfold PutTo
  by_cases hb8 : b < 8
  · rw [if_pos hb8, decide_eq_true hb8]
    go_enter Try.func15, Try.ntmps15
    go_upto_region 6 with (first
      | (go_at_call 26; (with_reducible refine HM.out.mono ?_); rintro e w' ⟨rfl, rfl⟩)
      | (go_at_call 13; (with_reducible refine HW.out.mono ?_); rintro e w2 ⟨rfl, hb⟩))
    have h2 := HH.out.below hb
    obtain ⟨c1, c2, c3, c4, _⟩ := h2.page
    have d1 := h2.bs b (by omega)
    have d2 := h2.byte b q (by omega) hq4
    have d3 : w2.frozen? ⟨x.gs b, q, none⟩ = false := frozen_of_row _ _ _ _ _ (h2.bk b (by omega))
    have HS := Lib.hid (h2.stored b q v (by omega) hv)
    clear h2
    unfold ptrV at d1
    go_wp2_with fail
    go_ret
    exact ⟨rfl, HS.out, gw_trans (gw_below hb _) (grown_set _ _ _ _)⟩
  · rw [if_neg hb8, decide_eq_false hb8]
    go_enter Try.func15, Try.ntmps15
    go_wp2_with (first
      | (go_at_call 26; (with_reducible refine HM.out.mono ?_); rintro e w' ⟨rfl, rfl⟩)
      | (go_at_call 13; (with_reducible refine HW.out.mono ?_); rintro e w2 ⟨rfl, hb⟩))
    go_ret
    exact ⟨rfl, HH.out.below hb, gw_below hb _⟩
end Go.Proofs.Ytflbedomkeophaa
