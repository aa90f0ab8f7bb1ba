
/- Package bank: turn, walked. -/
import Derived.Test.YtflbedomkeophaaSE
namespace Go.Proofs.Ytflbedomkeophaa
open Go.RowKit
set_option linter.unusedSimpArgs false
set_option linter.unusedVariables false
set_option maxRecDepth 100000

theorem set_page {w : World} {P : Nat → Prop} {x : Mo} {v : Value} (h : MC w P x v) (A B : Int) (o : Obj) :
    ∃ wt, ((((w.setCell ⟨x.m, 1, none⟩ (.int .u8 A)).setCell ⟨x.m, 2, none⟩ (.int .u8 B)).setCell ⟨x.m, 4, none⟩ (.slice none 0 0)).alloc o) = wt ∧ Tn w wt x A B 0 (.slice none 0 0) ∧ wt.heap[w.heap.size]? = some o := by
  have hlt := h.lt
  have h0 : w.heap[x.m]? = selfC x v := h.self
  have h1 : (w.setCell ⟨x.m, 1, none⟩ (.int .u8 A)).heap[x.m]? = selfC { x with A := A } v := by rw [heap_setCell_same _ x.m 1 _ _ _ h0]; rfl
  have h2 : ((w.setCell ⟨x.m, 1, none⟩ (.int .u8 A)).setCell ⟨x.m, 2, none⟩ (.int .u8 B)).heap[x.m]? = selfC { x with A := A, B := B } v := by rw [heap_setCell_same _ x.m 2 _ _ _ h1]; rfl
  obtain ⟨w3, hw3⟩ : ∃ w3, (((w.setCell ⟨x.m, 1, none⟩ (.int .u8 A)).setCell ⟨x.m, 2, none⟩ (.int .u8 B)).setCell ⟨x.m, 4, none⟩ (.slice none 0 0)) = w3 := ⟨_, rfl⟩
  have h3 : w3.heap[x.m]? = selfC { x with A := A, B := B } (.slice none 0 0) := by rw [← hw3, heap_setCell_same _ x.m 4 _ _ _ h2]; rfl
  have hg : w.grownBy w3 (some x.m) := by rw [← hw3]; exact gw_trans (gw_trans (grown_set _ _ _ _) (grown_set _ _ _ _)) (grown_set _ _ _ _)
  have hs : w3.heap.size = w.heap.size := by rw [← hw3]; simp
  rw [hw3]
  refine ⟨_, rfl, ⟨?_, World.ownsRow_nil _ _ _ _, gw_trans hg (grown_alloc _ _ _)⟩, ?_⟩
  · rw [heap_alloc_old _ _ (by omega)]; exact h3
  · rw [← hs]; exact heap_alloc_new w3 o
theorem Tn.below {w w1 wt : World} {x : Mo} {A B : Int} {k : Nat} {v : Value} (t : Tn w w1 x A B k v) (hb : Below w1.heap.size w1 wt) : Tn w wt x A B k v :=
  ⟨(hb.block _ (Array.getElem?_eq_some_iff.1 t.self).1).trans t.self, t.own.kept (gw_below hb none) (by cases hv : v.ownBlock <;> simp), grown_new t.grown (gw_below hb none) (fun i e => by cases e)⟩
theorem Tn.twin {w w1 wt : World} {x : Mo} {A B : Int} {k : Nat} {v : Value} (t : Tn w w1 x A B k v) (h1 : wt.heap = w1.heap) (h2 : wt.os = w1.os) (h3 : wt.tape = w1.tape) (h4 : wt.output = w1.output) : Tn w wt x A B k v := by
  refine ⟨by rw [h1]; exact t.self, ?_, grown_twin t.grown h1 h2 h3 h4⟩
  have := t.own
  unfold World.ownsRow at this ⊢
  rw [h1]
  exact this
theorem Tn.facts {w wr : World} {P : Nat → Prop} {x : Mo} {A B : Int} {k : Nat} {v v0 : Value} (h : MC w P x v0) (t : Tn w wr x A B k v) :
    wr.cell? ⟨x.m, 3, none⟩ = some (.slice (some ⟨x.br, 0, none⟩) 12 x.cb) ∧ wr.cell? ⟨x.m, 4, none⟩ = some v ∧ wr.frozen? ⟨x.m, 4, none⟩ = false ∧ ∀ i, i < 12 → wr.cell? ⟨x.br, i, none⟩ = some (ptrV (x.gs i)) := by
  refine ⟨?_, ?_, frozen_of_row _ _ _ _ _ t.self, fun i hi => (World.cell?_of_block (t.grown.block x.br h.lb (fun e => h.mb (Option.some.inj e).symm))).trans (h.bs i hi)⟩ <;> (rw [cell_of_row _ _ _ _ _ _ t.self]; rfl)
theorem one_row (w : World) (v : Value) (t : TypeId) : ∀ j u, [v][j]? = some u → ((w.alloc (.cells #[v] t)).drew).cell? ((⟨w.heap.size, 0, none⟩ : Addr).add j) = some u := by
  intro j u hu
  cases j with
  | zero =>
    have e : (⟨w.heap.size, 0, none⟩ : Addr).add 0 = ⟨w.heap.size, 0, none⟩ := rfl
    rw [e]
    obtain rfl : v = u := by simpa using hu
    show (w.alloc (.cells #[v] t)).cell? ⟨w.heap.size, 0, none⟩ = some v
    rw [World.cell?_alloc_at _ _ _ _ rfl]
    first | done | rfl
  | succ j => simp at hu

theorem row_shape {w : World} {B : Nat} {e : TypeId} {v : Value} {n : Nat} {xs : List Value} (h : w.ownsRow B e 1 v (n + 1) xs) : ∃ g c, v = .slice (some ⟨g, 0, none⟩) (n + 1) c := by
  rcases h.2 with ⟨_, h2⟩ | ⟨g, cap, cur, h1, _⟩
  · omega
  · exact ⟨g, cap, h1⟩
theorem idx4 (A B : Int) (k : Nat) (hk : k < 4) (w : World) : (Instr.index 52 (.agg #[.int .i64 (slB A B 0 : Nat), .int .i64 (slB A B 1 : Nat), .int .i64 (slB A B 2 : Nat), .int .i64 (slB A B 3 : Nat)]) (.int .i64 (k : Nat))).run Try.prog w = .ok (.int .i64 (slB A B k : Nat)) w := by
  obtain rfl | rfl | rfl | rfl : k = 0 ∨ k = 1 ∨ k = 2 ∨ k = 3 := by omega
  all_goals
    unfold Instr.index
    simp [run_underlying Try.underlying52, asIntOf, go_sem]
    done

set_option maxHeartbeats 4000000 in
theorem turn_any (w : World) (P : Nat → Prop) (x : Mo) (v0 : Value) (h : MC w P x v0) (hP : ∀ k, w.heap.size ≤ k → P k) (A B : Int) (hA : 0 ≤ A ∧ A < 256) (hB : 0 ≤ B ∧ B < 256) :
    Calls Try.prog 25 #[.pointer (some ⟨x.m, 0, none⟩), pgV A B] w (TurnTo w P x A B) := by
  obtain ⟨wt, hwt, ht, hpg⟩ := set_page h A B (.cells #[.int .u8 A, .int .u8 B] 34)
  have HSL := Lib.hid fun w => b_slots A B w hA hB
  have HM := Lib.hid h
  have HT := Lib.hid ht
  have HP := Lib.hid hP
  obtain ⟨c1, c2, c3, c4, _⟩ := h.page
  have f1 := h.free 1
  have f2 := h.free 2
  have f4 := h.free 4
  have d0 : wt.cell? ⟨w.heap.size, 0, none⟩ = some (.int .u8 A) := by rw [cell_of_row _ _ _ _ _ _ hpg]; rfl
  have d1 : wt.cell? ⟨w.heap.size, 1, none⟩ = some (.int .u8 B) := by rw [cell_of_row _ _ _ _ _ _ hpg]; rfl
  have hlt := h.lt
  clear h ht hP hpg
  unfold pgV at HSL ⊢
  unfold slV at HSL
  go_enter Try.func25, Try.ntmps25
  go_wp2_with (go_at_call 21; (with_reducible refine (HSL.out _).mono ?_); rintro e w1 ⟨rfl, hb1⟩)
  (try rw [hwt] at hb1)
  have HT1 := Lib.hid (HT.out.below hb1)
  clear hb1 HT HSL d0 d1 c1 c2 c3 c4 f1 f2 f4 hwt
  go_loopw [15] (fun i wr => ∃ (k : Nat) (v : Value), i = .int .i64 k ∧ k ≤ 4 ∧ Tn w wr x A B k v) (fun i _ => 4 - (intOf i).toNat)
  case atStart => exact ⟨0, _, rfl, by omega, HT1.out⟩
  case round =>
    rename World => wr
    obtain ⟨k, v, rfl, hk, ht⟩ := hrel
    by_cases hlt4 : k < 4
    · obtain ⟨a3, a4, b4, a5⟩ := ht.facts HM.out
      have hs := slB_lt A B hA hB k hlt4
      have hc := a5 (slB A B k) hs
      have hs2 : ((slB A B k : Nat) : Int) < 12 := by omega
      clear a5
      obtain ⟨i0, hi, hz0, hz1, hz2⟩ := info_parts info_ptr
      have hBw : w.heap.size ≤ (wr.alloc (.cells #[ptrV (x.gs (slB A B k))] 63)).drew.heap.size := by have := ht.grown.size; simp; omega
      have a4b : (wr.alloc (.cells #[ptrV (x.gs (slB A B k))] 63)).cell? ⟨x.m, 4, none⟩ = some v := (World.cell?_of_block (heap_alloc_old wr _ (Array.getElem?_eq_some_iff.1 ht.self).1)).trans a4
      have HT2 := Lib.hid ht
      have HO := Lib.hid (ht.own.alloc (.cells #[ptrV (x.gs (slB A B k))] 63)).drew
      clear ht
      have HC : Hid (∀ u ∈ [ptrV (x.gs (slB A B k))], u.oneCell' = true) := fun u hu => by obtain rfl := List.mem_singleton.1 hu; rfl
      have hix := fun w => idx4 A B k hlt4 w
      go_upto_region 5 with fail
      clear hix
      go_region_law ((refine b_append rfl (.tmp 22) (.tmp 30) 60 rfl w.heap.size 63 i0 (.pointer none) 1 8 Try.underlying60 hi hz0 hz1 hz2 rfl (by decide) v k (seenV x A B k) (by simp [Act.eval, Act.put]) HO.out ⟨wr.heap.size, 0, none⟩ 1 1 [ptrV (x.gs (slB A B k))] (by simp [Act.eval, Act.put]) rfl (one_row wr (ptrV (x.gs (slB A B k))) _) HC.out (by unfold maxLen; omega) (by omega) hBw ?_); intro v' w1 hown' hgrow; obtain ⟨g, c', rfl⟩ := row_shape hown'; obtain ⟨q1, q2, q3⟩ := Tn.step HM.out HT2.out (((Below.refl _ _).alloc (Nat.le_refl _) _).drew) hown' hgrow; have HT3 := Lib.hid q3; clear q3 hown' hgrow)
      all_goals
        go_wp2_with fail
        exact ⟨⟨k + 1, _, by go_num, by omega, HT3.out.twin rfl rfl rfl rfl⟩, by simp [intOf]; omega⟩
    · obtain rfl : k = 4 := by omega
      have HW := Lib.hid (ht.whole HM.out HP.out hA hB)
      clear ht
      go_wp2_with fail
      go_end0
      exact HW.out
end Go.Proofs.Ytflbedomkeophaa
