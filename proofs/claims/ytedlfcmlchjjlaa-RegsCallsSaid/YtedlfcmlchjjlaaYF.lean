
/- Registers, the code: Put. -/
import Derived.Test.YtedlfcmlchjjlaaYE
namespace Go.Proofs.Ytedlfcmlchjjlaa
open Go.RowKit
set_option linter.unusedSimpArgs false
set_option linter.unusedVariables false
set_option maxRecDepth 100000

theorem Two.other {w w1 : World} {cs ds : Array Value} (h : Two w cs ds w1) (a : Addr) (v : Value) (hn : w.heap.size + 2 ≤ a.block) : Two w cs ds (w1.setCell a v) :=
  ⟨(heap_setCell_other w1 a _ v (by omega)).trans h.r, (heap_setCell_other w1 a _ v (by omega)).trans h.z, h.b.setCell (by omega) v⟩
theorem Two.set {w w1 : World} {cs ds : Array Value} (h : Two w cs ds w1) (i : Nat) (v : Value) : Two w (cs.setIfInBounds i v) ds (w1.setCell ⟨w.heap.size, i, none⟩ v) :=
  h.turn (h.r.set i v) (save_cell (Save.refl _ w1) w.heap.size i v rfl)
theorem Two.as {w w1 : World} {cs ds : Array Value} (h : Two w cs ds w1) {x : Rg} (e : cs = x.cells) : Two w x.cells ds w1 := e ▸ h
theorem c8_nojoin (w : World) : Calls Try.prog 76 #[] w fun e w' => e = .returned (.tuple #[]) ∧ w = w' := by
  go_enter Try.func76, Try.ntmps76
  go_wp2
  go_end0
  exact ⟨rfl, rfl⟩

set_option maxHeartbeats 1000000 in
theorem c8_join (b k : Nat) (cs : Array Value) (x hi lo : Int) (H L W : Nat) (w : World) (hR : RowW w b cs) (hx : cs[k]? = some (.int .u16 x)) (hh : w.heap[H]? = some (.cells #[.int .u8 hi] 5 (0, 0))) (hl : w.heap[L]? = some (.cells #[.int .u8 lo] 5 (0, 0)))
    (hp : w.heap[W]? = some (.cells #[.pointer (some ⟨b, k, none⟩)] 66 (0, 0))) (nH : H ≠ b) (nL : L ≠ b) (nW : W ≠ b) (h0 : isB hi) (l0 : isB lo) :
    Calls Try.prog 77 #[.pointer (some ⟨H, 0, none⟩), .pointer (some ⟨L, 0, none⟩), .pointer (some ⟨W, 0, none⟩)] w fun e w' => e = .returned (.tuple #[]) ∧ RowW w' b (cs.setIfInBounds k (.int .u16 (hi * 256 + lo))) ∧ Save (· = b) w w' := by
  obtain ⟨h0, h1⟩ := h0
  obtain ⟨l0, l1⟩ := l0
  obtain ⟨S, hS⟩ : ∃ S : Nat → Prop, ∀ k, S k ↔ k = b := ⟨(· = b), fun _ => Iff.rfl⟩
  have g0 : ∀ p : Later S w, p.w.cell? ⟨H, 0, none⟩ = some (.int .u8 hi) := fun p => by
    rw [cell_of_row _ _ _ _ _ _ ((p.ok.block H (Array.getElem?_eq_some_iff.1 hh).1 (fun h => nH ((hS _).1 h))).trans hh)]; rfl
  have g1 : ∀ p : Later S w, p.w.cell? ⟨L, 0, none⟩ = some (.int .u8 lo) := fun p => by
    rw [cell_of_row _ _ _ _ _ _ ((p.ok.block L (Array.getElem?_eq_some_iff.1 hl).1 (fun h => nL ((hS _).1 h))).trans hl)]; rfl
  have g2 : ∀ p : Later S w, p.w.cell? ⟨W, 0, none⟩ = some (.pointer (some ⟨b, k, none⟩)) := fun p => by
    rw [cell_of_row _ _ _ _ _ _ ((p.ok.block W (Array.getElem?_eq_some_iff.1 hp).1 (fun h => nW ((hS _).1 h))).trans hp)]; rfl
  have HR := Lib.hid hR
  have HS := Lib.hid hS
  clear hR hS hh hl hp
  go_enter Try.func77, Try.ntmps77
  go_upto_region 0 with fail
  refine region_ S (by kernel_rfl) ?_
  refine seg_ [0, 1, 2] 3 _ (by kernel_rfl) (by kernel_rfl) (by kernel_rfl) (by simp only [pickOps, mask, plain, List.getElem?_toArray, List.getElem?_cons_zero, List.getElem?_cons_succ, if_true]; rfl) ?_
  repeat (go_big_quiet_step (fail))
  refine wpQuiet_nil ?_
  clear g0 g1 g2
  refine calm_ (i := 3) (.int .u16 (hi * 256 + lo)) rfl (by kernel_rfl) (by kernel_rfl) (by kernel_rfl) (by kernel_rfl) ?_ ?_
  · intro wz sz
    unfold Oper.does
    go_simp
    refine (w7_pair hi lo _ h0 h1 l0 l1).mono ?_
    rintro e w' ⟨rfl, rfl⟩
    exact ⟨_, rfl, rfl, ⟨wz.drawn, rfl⟩⟩
  go_simp
  refine seg_ [4] 1 _ (by kernel_rfl) (by kernel_rfl) (by kernel_rfl) (by simp only [pickOps, mask, plain, List.getElem?_toArray, List.getElem?_cons_zero, List.getElem?_cons_succ, if_true]; rfl) ?_
  repeat (go_big_quiet_step (fail))
  refine wpQuiet_nil ?_
  refine callx_ (i := 5) rfl (by kernel_rfl) (by kernel_rfl) ?_
  intro nn
  have hV := Save.drawn S w nn
  have hR2 : RowW { w with drawn := nn } b cs := HR.out
  generalize hw2 : ({ w with drawn := nn } : World) = w2 at *
  clear hw2
  have hc := hR2.at_ k _ hx
  have fc := hR2.free k
  unfold Oper.does
  go_simp
  clear hc fc
  have hR3 := hR2.set k (.int .u16 (hi * 256 + lo))
  have hS3 := save_cell (Save.refl S w2) b k (.int .u16 (hi * 256 + lo)) ((HS.out _).2 rfl)
  refine turn_ (S1 := fun _ => False) hV hS3 (fun k hk h => h.elim) ?_
  have hS4 := hV.trans hS3
  generalize hw3 : w2.setCell ⟨b, k, none⟩ (.int .u16 (hi * 256 + lo)) = w3 at *
  clear hw3 hS3 hV hR2
  refine end_ (by kernel_rfl) ?_
  intro wc sc
  go_wp2
  go_end0
  refine ⟨rfl, hR3.below (sc.below (B := w3.heap.size) (Nat.le_refl _) (fun _ h => h.elim)) hR3.lt, ?_⟩
  have := hS4.trans (⟨sc.os, sc.tape, sc.output, sc.size, fun k hk _ => sc.block k hk (fun h => h)⟩ : Save S w3 wc)
  exact ⟨this.os, this.tape, this.output, this.size, fun k hk h => this.block k hk (fun hs => h ((HS.out _).1 hs))⟩

theorem put_hi {r : Rg} (hr : r.Ok) {i v : Int} (hv : isB v) (hi : i % 3 = 0) : setHl r i (v * 256 + hlR r i % 256) = { r with H := v } := by
  have k1 := hr.H
  have k2 := hr.L
  unfold isB at k1 k2 hv
  unfold setHl hlR
  simp only [hi]
  simp only [show ¬ (0 : Int) = 1 by omega, show ¬ (0 : Int) = 2 by omega, if_false]
  congr 1 <;> omega
theorem put_lo {r : Rg} (hr : r.Ok) {i v : Int} (hv : isB v) (hi : i % 3 = 0) : setHl r i (hlR r i / 256 * 256 + v) = { r with L := v } := by
  have k1 := hr.H
  have k2 := hr.L
  unfold isB at k1 k2 hv
  unfold setHl hlR
  simp only [hi]
  simp only [show ¬ (0 : Int) = 1 by omega, show ¬ (0 : Int) = 2 by omega, if_false]
  congr 1 <;> omega

set_option maxHeartbeats 4000000 in
theorem c8_put_0 (r : Rg) (hr : r.Ok) (i c v : Int) (hv : isB v) (w : World) (wi : (Lit.int .i64 i).wf = true) (wc : (Lit.int .i64 c).wf = true) (hj : i % 3 = 0) : Calls Try.prog 17 #[r.val, .int .i64 i, .int .i64 c, .int .u8 v] w fun e w' => e = .returned (putR r i c v).val ∧ Below w.heap.size w w' := by
  have HM := Lib.hid (fun w => c8_mod_8 c w wc)
  have hk8 : c % 8 = 0 ∨ c % 8 = 1 ∨ c % 8 = 2 ∨ c % 8 = 3 ∨ c % 8 = 4 ∨ c % 8 = 5 ∨ c % 8 = 6 ∨ c % 8 = 7 := by omega
  obtain ⟨x, hx⟩ : ∃ x, putR r i c v = x := ⟨_, rfl⟩
  rw [hx]
  unfold putR at hx
  have hval : r.val = .agg #[.int .u8 r.A, .int .u8 r.F, .int .u8 r.B, .int .u8 r.C, .int .u8 r.D, .int .u8 r.E, .int .u8 r.H, .int .u8 r.L, .int .u8 r.I, .int .u8 r.R, .int .u16 r.IX, .int .u16 r.IY, .int .u16 r.SP, .int .u16 r.PC, .int .u16 r.WZ, .int .u16 r.AF2, .int .u16 r.BC2, .int .u16 r.DE2, .int .u16 r.HL2, .bool r.IFF1, .bool r.IFF2, .int .i64 r.IM, .bool r.Halt, .bool r.Late] := rfl
  rw [hval]
  clear hval
  have hT0 := Two.laid w r
  have HT0 := Lib.hid hT0
  clear hT0
  go_enter Try.func17, Try.ntmps17
  go_wp2_with fail
  refine (c8_halves_0 w.heap.size i _ wi hj).mono ?_
  rintro e w3 ⟨rfl, hb⟩
  have hT3 := HT0.out.more hb
  clear hb HT0
  have hb := (Below.refl w3.heap.size w3).alloc (Nat.le_refl _) (.cells #[.pointer (some ⟨w.heap.size, 6, none⟩), .pointer (some ⟨w.heap.size, 7, none⟩)] 80)
  have HT4 := Lib.hid (hT3.more hb)
  clear hb hT3
  go_wp2_with fail
  refine (c8_bycode w.heap.size ⟨w.heap.size, 6, none⟩ ⟨w.heap.size, 7, none⟩ _).mono ?_
  rintro e w5 ⟨⟨N, rfl, hN, hN5⟩, hb⟩
  have hNn : w.heap.size + 2 ≤ N := by have := HT4.out.z.lt; omega
  have hT5 := HT4.out.more hb
  clear hb HT4 hN
  rcases hk8 with hk | hk | hk | hk | hk | hk | hk | hk <;> rw [hk] at hx HM <;> clear hk
  · have hI := fun w' => idx8_0 (some ⟨w.heap.size, 2, none⟩) (some ⟨w.heap.size, 3, none⟩) (some ⟨w.heap.size, 4, none⟩) (some ⟨w.heap.size, 5, none⟩) (some ⟨w.heap.size, 6, none⟩) (some ⟨w.heap.size, 7, none⟩) (some ⟨N, 0, none⟩) (some ⟨w.heap.size, 0, none⟩) w'
    have HX := Lib.hid (show _ = x from hx)
    have hc := hT5.r.at_ 2 (.int .u8 r.B) rfl
    have fc := hT5.r.free 2
    have HT6 := Lib.hid (hT5.set 2 (.int .u8 v))
    clear hx hT5 hN5
    go_wp2_with (first | (go_at_call 56; (with_reducible refine (HM.out _).mono ?_); rintro e w' ⟨rfl, rfl⟩))
    refine (c8_nojoin _).mono ?_
    rintro e w7 ⟨rfl, rfl⟩
    have hT := HT6.out.as (x := x) (by rw [← HX.out]; rfl)
    clear hI hc fc
    go_wp2_with (first
      | (refine wpList_load_row rfl 24 _ rfl w.heap.size rfl _ _ (0, 0) _ hT.r Try.underlying24 rfl (by kernel_rfl) ?_)
      | (refine wpList_store_row rfl 24 _ _ rfl (w.heap.size + 1) _ rfl rfl _ _ hT.z rg_info rfl (rg_one x) ?_))
    (try simp only [Exit.inBlock, Exit.then])
    exact bodyPost_ret (results_rg rfl _ _ _ x rfl (setRow_heap _ _ _ _ _ _ hT.z)) rfl ⟨rfl, below_setRow hT.b (by omega) _⟩
  · have hI := fun w' => idx8_1 (some ⟨w.heap.size, 2, none⟩) (some ⟨w.heap.size, 3, none⟩) (some ⟨w.heap.size, 4, none⟩) (some ⟨w.heap.size, 5, none⟩) (some ⟨w.heap.size, 6, none⟩) (some ⟨w.heap.size, 7, none⟩) (some ⟨N, 0, none⟩) (some ⟨w.heap.size, 0, none⟩) w'
    have HX := Lib.hid (show _ = x from hx)
    have hc := hT5.r.at_ 3 (.int .u8 r.C) rfl
    have fc := hT5.r.free 3
    have HT6 := Lib.hid (hT5.set 3 (.int .u8 v))
    clear hx hT5 hN5
    go_wp2_with (first | (go_at_call 56; (with_reducible refine (HM.out _).mono ?_); rintro e w' ⟨rfl, rfl⟩))
    refine (c8_nojoin _).mono ?_
    rintro e w7 ⟨rfl, rfl⟩
    have hT := HT6.out.as (x := x) (by rw [← HX.out]; rfl)
    clear hI hc fc
    go_wp2_with (first
      | (refine wpList_load_row rfl 24 _ rfl w.heap.size rfl _ _ (0, 0) _ hT.r Try.underlying24 rfl (by kernel_rfl) ?_)
      | (refine wpList_store_row rfl 24 _ _ rfl (w.heap.size + 1) _ rfl rfl _ _ hT.z rg_info rfl (rg_one x) ?_))
    (try simp only [Exit.inBlock, Exit.then])
    exact bodyPost_ret (results_rg rfl _ _ _ x rfl (setRow_heap _ _ _ _ _ _ hT.z)) rfl ⟨rfl, below_setRow hT.b (by omega) _⟩
  · have hI := fun w' => idx8_2 (some ⟨w.heap.size, 2, none⟩) (some ⟨w.heap.size, 3, none⟩) (some ⟨w.heap.size, 4, none⟩) (some ⟨w.heap.size, 5, none⟩) (some ⟨w.heap.size, 6, none⟩) (some ⟨w.heap.size, 7, none⟩) (some ⟨N, 0, none⟩) (some ⟨w.heap.size, 0, none⟩) w'
    have HX := Lib.hid (show _ = x from hx)
    have hc := hT5.r.at_ 4 (.int .u8 r.D) rfl
    have fc := hT5.r.free 4
    have HT6 := Lib.hid (hT5.set 4 (.int .u8 v))
    clear hx hT5 hN5
    go_wp2_with (first | (go_at_call 56; (with_reducible refine (HM.out _).mono ?_); rintro e w' ⟨rfl, rfl⟩))
    refine (c8_nojoin _).mono ?_
    rintro e w7 ⟨rfl, rfl⟩
    have hT := HT6.out.as (x := x) (by rw [← HX.out]; rfl)
    clear hI hc fc
    go_wp2_with (first
      | (refine wpList_load_row rfl 24 _ rfl w.heap.size rfl _ _ (0, 0) _ hT.r Try.underlying24 rfl (by kernel_rfl) ?_)
      | (refine wpList_store_row rfl 24 _ _ rfl (w.heap.size + 1) _ rfl rfl _ _ hT.z rg_info rfl (rg_one x) ?_))
    (try simp only [Exit.inBlock, Exit.then])
    exact bodyPost_ret (results_rg rfl _ _ _ x rfl (setRow_heap _ _ _ _ _ _ hT.z)) rfl ⟨rfl, below_setRow hT.b (by omega) _⟩
  · have hI := fun w' => idx8_3 (some ⟨w.heap.size, 2, none⟩) (some ⟨w.heap.size, 3, none⟩) (some ⟨w.heap.size, 4, none⟩) (some ⟨w.heap.size, 5, none⟩) (some ⟨w.heap.size, 6, none⟩) (some ⟨w.heap.size, 7, none⟩) (some ⟨N, 0, none⟩) (some ⟨w.heap.size, 0, none⟩) w'
    have HX := Lib.hid (show _ = x from hx)
    have hc := hT5.r.at_ 5 (.int .u8 r.E) rfl
    have fc := hT5.r.free 5
    have HT6 := Lib.hid (hT5.set 5 (.int .u8 v))
    clear hx hT5 hN5
    go_wp2_with (first | (go_at_call 56; (with_reducible refine (HM.out _).mono ?_); rintro e w' ⟨rfl, rfl⟩))
    refine (c8_nojoin _).mono ?_
    rintro e w7 ⟨rfl, rfl⟩
    have hT := HT6.out.as (x := x) (by rw [← HX.out]; rfl)
    clear hI hc fc
    go_wp2_with (first
      | (refine wpList_load_row rfl 24 _ rfl w.heap.size rfl _ _ (0, 0) _ hT.r Try.underlying24 rfl (by kernel_rfl) ?_)
      | (refine wpList_store_row rfl 24 _ _ rfl (w.heap.size + 1) _ rfl rfl _ _ hT.z rg_info rfl (rg_one x) ?_))
    (try simp only [Exit.inBlock, Exit.then])
    exact bodyPost_ret (results_rg rfl _ _ _ x rfl (setRow_heap _ _ _ _ _ _ hT.z)) rfl ⟨rfl, below_setRow hT.b (by omega) _⟩
  · have hI := fun w' => idx8_4 (some ⟨w.heap.size, 2, none⟩) (some ⟨w.heap.size, 3, none⟩) (some ⟨w.heap.size, 4, none⟩) (some ⟨w.heap.size, 5, none⟩) (some ⟨w.heap.size, 6, none⟩) (some ⟨w.heap.size, 7, none⟩) (some ⟨N, 0, none⟩) (some ⟨w.heap.size, 0, none⟩) w'
    have HX := Lib.hid (show _ = x from ((put_hi hr hv hj).symm.trans hx))
    have hc := hT5.r.at_ 6 (.int .u8 r.H) rfl
    have fc := hT5.r.free 6
    have HT6 := Lib.hid (hT5.set 6 (.int .u8 v))
    clear hx hT5 hN5
    go_wp2_with (first | (go_at_call 56; (with_reducible refine (HM.out _).mono ?_); rintro e w' ⟨rfl, rfl⟩))
    refine (c8_nojoin _).mono ?_
    rintro e w7 ⟨rfl, rfl⟩
    have hT := HT6.out.as (x := x) (by rw [← HX.out]; rfl)
    clear hI hc fc
    go_wp2_with (first
      | (refine wpList_load_row rfl 24 _ rfl w.heap.size rfl _ _ (0, 0) _ hT.r Try.underlying24 rfl (by kernel_rfl) ?_)
      | (refine wpList_store_row rfl 24 _ _ rfl (w.heap.size + 1) _ rfl rfl _ _ hT.z rg_info rfl (rg_one x) ?_))
    (try simp only [Exit.inBlock, Exit.then])
    exact bodyPost_ret (results_rg rfl _ _ _ x rfl (setRow_heap _ _ _ _ _ _ hT.z)) rfl ⟨rfl, below_setRow hT.b (by omega) _⟩
  · have hI := fun w' => idx8_5 (some ⟨w.heap.size, 2, none⟩) (some ⟨w.heap.size, 3, none⟩) (some ⟨w.heap.size, 4, none⟩) (some ⟨w.heap.size, 5, none⟩) (some ⟨w.heap.size, 6, none⟩) (some ⟨w.heap.size, 7, none⟩) (some ⟨N, 0, none⟩) (some ⟨w.heap.size, 0, none⟩) w'
    have HX := Lib.hid (show _ = x from ((put_lo hr hv hj).symm.trans hx))
    have hc := hT5.r.at_ 7 (.int .u8 r.L) rfl
    have fc := hT5.r.free 7
    have HT6 := Lib.hid (hT5.set 7 (.int .u8 v))
    clear hx hT5 hN5
    go_wp2_with (first | (go_at_call 56; (with_reducible refine (HM.out _).mono ?_); rintro e w' ⟨rfl, rfl⟩))
    refine (c8_nojoin _).mono ?_
    rintro e w7 ⟨rfl, rfl⟩
    have hT := HT6.out.as (x := x) (by rw [← HX.out]; rfl)
    clear hI hc fc
    go_wp2_with (first
      | (refine wpList_load_row rfl 24 _ rfl w.heap.size rfl _ _ (0, 0) _ hT.r Try.underlying24 rfl (by kernel_rfl) ?_)
      | (refine wpList_store_row rfl 24 _ _ rfl (w.heap.size + 1) _ rfl rfl _ _ hT.z rg_info rfl (rg_one x) ?_))
    (try simp only [Exit.inBlock, Exit.then])
    exact bodyPost_ret (results_rg rfl _ _ _ x rfl (setRow_heap _ _ _ _ _ _ hT.z)) rfl ⟨rfl, below_setRow hT.b (by omega) _⟩
  · have hI := fun w' => idx8_6 (some ⟨w.heap.size, 2, none⟩) (some ⟨w.heap.size, 3, none⟩) (some ⟨w.heap.size, 4, none⟩) (some ⟨w.heap.size, 5, none⟩) (some ⟨w.heap.size, 6, none⟩) (some ⟨w.heap.size, 7, none⟩) (some ⟨N, 0, none⟩) (some ⟨w.heap.size, 0, none⟩) w'
    have HX := Lib.hid (show _ = x from hx)
    have hc : w5.cell? ⟨N, 0, none⟩ = some (.int .u8 0) := by rw [cell_of_row _ _ _ _ _ _ hN5]; rfl
    have fc := frozen_of_row w5 N 0 _ _ hN5
    have HT6 := Lib.hid (hT5.other ⟨N, 0, none⟩ (.int .u8 v) hNn)
    clear hx hT5 hN5
    go_wp2_with (first | (go_at_call 56; (with_reducible refine (HM.out _).mono ?_); rintro e w' ⟨rfl, rfl⟩))
    refine (c8_nojoin _).mono ?_
    rintro e w7 ⟨rfl, rfl⟩
    have hT := HT6.out.as (x := x) (by rw [← HX.out]; rfl)
    clear hI hc fc
    go_wp2_with (first
      | (refine wpList_load_row rfl 24 _ rfl w.heap.size rfl _ _ (0, 0) _ hT.r Try.underlying24 rfl (by kernel_rfl) ?_)
      | (refine wpList_store_row rfl 24 _ _ rfl (w.heap.size + 1) _ rfl rfl _ _ hT.z rg_info rfl (rg_one x) ?_))
    (try simp only [Exit.inBlock, Exit.then])
    exact bodyPost_ret (results_rg rfl _ _ _ x rfl (setRow_heap _ _ _ _ _ _ hT.z)) rfl ⟨rfl, below_setRow hT.b (by omega) _⟩
  · have hI := fun w' => idx8_7 (some ⟨w.heap.size, 2, none⟩) (some ⟨w.heap.size, 3, none⟩) (some ⟨w.heap.size, 4, none⟩) (some ⟨w.heap.size, 5, none⟩) (some ⟨w.heap.size, 6, none⟩) (some ⟨w.heap.size, 7, none⟩) (some ⟨N, 0, none⟩) (some ⟨w.heap.size, 0, none⟩) w'
    have HX := Lib.hid (show _ = x from hx)
    have hc := hT5.r.at_ 0 (.int .u8 r.A) rfl
    have fc := hT5.r.free 0
    have HT6 := Lib.hid (hT5.set 0 (.int .u8 v))
    clear hx hT5 hN5
    go_wp2_with (first | (go_at_call 56; (with_reducible refine (HM.out _).mono ?_); rintro e w' ⟨rfl, rfl⟩))
    refine (c8_nojoin _).mono ?_
    rintro e w7 ⟨rfl, rfl⟩
    have hT := HT6.out.as (x := x) (by rw [← HX.out]; rfl)
    clear hI hc fc
    go_wp2_with (first
      | (refine wpList_load_row rfl 24 _ rfl w.heap.size rfl _ _ (0, 0) _ hT.r Try.underlying24 rfl (by kernel_rfl) ?_)
      | (refine wpList_store_row rfl 24 _ _ rfl (w.heap.size + 1) _ rfl rfl _ _ hT.z rg_info rfl (rg_one x) ?_))
    (try simp only [Exit.inBlock, Exit.then])
    exact bodyPost_ret (results_rg rfl _ _ _ x rfl (setRow_heap _ _ _ _ _ _ hT.z)) rfl ⟨rfl, below_setRow hT.b (by omega) _⟩

set_option maxHeartbeats 4000000 in
theorem c8_put_1 (r : Rg) (hr : r.Ok) (i c v : Int) (hv : isB v) (w : World) (wi : (Lit.int .i64 i).wf = true) (wc : (Lit.int .i64 c).wf = true) (hj : i % 3 = 1) : Calls Try.prog 17 #[r.val, .int .i64 i, .int .i64 c, .int .u8 v] w fun e w' => e = .returned (putR r i c v).val ∧ Below w.heap.size w w' := by
  have HM := Lib.hid (fun w => c8_mod_8 c w wc)
  have hk8 : c % 8 = 0 ∨ c % 8 = 1 ∨ c % 8 = 2 ∨ c % 8 = 3 ∨ c % 8 = 4 ∨ c % 8 = 5 ∨ c % 8 = 6 ∨ c % 8 = 7 := by omega
  obtain ⟨x, hx⟩ : ∃ x, putR r i c v = x := ⟨_, rfl⟩
  rw [hx]
  unfold putR at hx
  have hh := hr.IX
  unfold isW at hh
  have hi8 : isB (r.IX / 256) := by unfold isB; omega
  have lo8 : isB (r.IX % 256) := by unfold isB; omega
  have hwhole : r.IX / 256 * 256 + r.IX % 256 = r.IX := by omega
  have e1 : hlR r i = r.IX := by unfold hlR; simp [hj]
  have e2 : ∀ y, setHl r i y = { r with IX := y } := fun y => by unfold setHl; simp [hj]
  rw [e1, e2, e2] at hx
  clear e1 e2
  clear hh
  have hval : r.val = .agg #[.int .u8 r.A, .int .u8 r.F, .int .u8 r.B, .int .u8 r.C, .int .u8 r.D, .int .u8 r.E, .int .u8 r.H, .int .u8 r.L, .int .u8 r.I, .int .u8 r.R, .int .u16 r.IX, .int .u16 r.IY, .int .u16 r.SP, .int .u16 r.PC, .int .u16 r.WZ, .int .u16 r.AF2, .int .u16 r.BC2, .int .u16 r.DE2, .int .u16 r.HL2, .bool r.IFF1, .bool r.IFF2, .int .i64 r.IM, .bool r.Halt, .bool r.Late] := rfl
  rw [hval]
  clear hval
  have hT0 := Two.laid w r
  have HT0 := Lib.hid hT0
  clear hT0
  go_enter Try.func17, Try.ntmps17
  go_wp2_with fail
  refine (c8_halves_1 w.heap.size i r.cells r.IX _ wi hj HT0.out.r rfl hr.IX).mono ?_
  rintro e w3 ⟨H, L, W, rfl, hf⟩
  have hT3 := HT0.out.more hf.b
  obtain ⟨kh, kl, kp, -, nh, nl, np, hHL⟩ := hf
  have hsz := HT0.out.z.lt
  have nH : w.heap.size + 2 ≤ H := by omega
  have nL : w.heap.size + 2 ≤ L := by omega
  have nW : w.heap.size + 2 ≤ W := by omega
  clear nh nl np hsz HT0
  have hb := (Below.refl w3.heap.size w3).alloc (Nat.le_refl _) (.cells #[.pointer (some ⟨H, 0, none⟩), .pointer (some ⟨L, 0, none⟩)] 80)
  have HT4 := Lib.hid (hT3.more hb)
  have HH4 := Lib.hid ((hb.block _ (Array.getElem?_eq_some_iff.1 kh).1).trans kh)
  have HL4 := Lib.hid ((hb.block _ (Array.getElem?_eq_some_iff.1 kl).1).trans kl)
  have HP4 := Lib.hid ((hb.block _ (Array.getElem?_eq_some_iff.1 kp).1).trans kp)
  clear hb hT3 kh kl kp
  go_wp2_with fail
  refine (c8_bycode w.heap.size ⟨H, 0, none⟩ ⟨L, 0, none⟩ _).mono ?_
  rintro e w5 ⟨⟨N, rfl, hN, hN5⟩, hb⟩
  have hNn : w.heap.size + 2 ≤ N := by have := HT4.out.z.lt; omega
  have hNH : H ≠ N := by have := (Array.getElem?_eq_some_iff.1 HH4.out).1; omega
  have hNL : L ≠ N := by have := (Array.getElem?_eq_some_iff.1 HL4.out).1; omega
  have hT5 := HT4.out.more hb
  have kh := (hb.block _ (Array.getElem?_eq_some_iff.1 HH4.out).1).trans HH4.out
  have kl := (hb.block _ (Array.getElem?_eq_some_iff.1 HL4.out).1).trans HL4.out
  have kp := (hb.block _ (Array.getElem?_eq_some_iff.1 HP4.out).1).trans HP4.out
  have HKP := Lib.hid kp
  have hWH : W ≠ H := by intro e; subst e; rw [kh] at kp; injection kp with k1; injection k1 with k2 k3; injection k2 with k4; injection k4 with k5; cases k5
  have hWL : W ≠ L := by intro e; subst e; rw [kl] at kp; injection kp with k1; injection k1 with k2 k3; injection k2 with k4; injection k4 with k5; cases k5
  have hWN : W ≠ N := by have := (Array.getElem?_eq_some_iff.1 HP4.out).1; omega
  clear hb HT4 HH4 HL4 HP4 hN
  rcases hk8 with hk | hk | hk | hk | hk | hk | hk | hk <;> rw [hk] at hx HM <;> clear hk
  · have hI := fun w' => idx8_0 (some ⟨w.heap.size, 2, none⟩) (some ⟨w.heap.size, 3, none⟩) (some ⟨w.heap.size, 4, none⟩) (some ⟨w.heap.size, 5, none⟩) (some ⟨H, 0, none⟩) (some ⟨L, 0, none⟩) (some ⟨N, 0, none⟩) (some ⟨w.heap.size, 0, none⟩) w'
    have HX := Lib.hid (show _ = x from hx)
    have hc := hT5.r.at_ 2 (.int .u8 r.B) rfl
    have fc := hT5.r.free 2
    have HT6 := Lib.hid (hT5.set 2 (.int .u8 v))
    have HH6 := Lib.hid ((heap_setCell_other w5 ⟨w.heap.size, 2, none⟩ H (.int .u8 v) (by show H ≠ w.heap.size; omega)).trans kh)
    have HL6 := Lib.hid ((heap_setCell_other w5 ⟨w.heap.size, 2, none⟩ L (.int .u8 v) (by show L ≠ w.heap.size; omega)).trans kl)
    have HP6 := Lib.hid ((heap_setCell_other w5 ⟨w.heap.size, 2, none⟩ W (.int .u8 v) (by show W ≠ w.heap.size; omega)).trans HKP.out)
    clear hx hT5 hN5 kh kl kp
    go_wp2_with (first | (go_at_call 56; (with_reducible refine (HM.out _).mono ?_); rintro e w' ⟨rfl, rfl⟩))
    refine (c8_join w.heap.size 10 _ r.IX (r.IX / 256) (r.IX % 256) H L W _ HT6.out.r rfl HH6.out HL6.out HP6.out (by omega) (by omega) (by omega) hi8 lo8).mono ?_
    rintro e w7 ⟨rfl, hR7, hS7⟩
    have hT7 := HT6.out.turn hR7 hS7
    rw [hwhole] at hT7
    have hT : Two w x.cells zeroR.cells w7 := by rw [← HX.out]; exact hT7
    clear hI hc fc hT7 hR7 hS7
    go_wp2_with (first
      | (refine wpList_load_row rfl 24 _ rfl w.heap.size rfl _ _ (0, 0) _ hT.r Try.underlying24 rfl (by kernel_rfl) ?_)
      | (refine wpList_store_row rfl 24 _ _ rfl (w.heap.size + 1) _ rfl rfl _ _ hT.z rg_info rfl (rg_one x) ?_))
    (try simp only [Exit.inBlock, Exit.then])
    exact bodyPost_ret (results_rg rfl _ _ _ x rfl (setRow_heap _ _ _ _ _ _ hT.z)) rfl ⟨rfl, below_setRow hT.b (by omega) _⟩
  · have hI := fun w' => idx8_1 (some ⟨w.heap.size, 2, none⟩) (some ⟨w.heap.size, 3, none⟩) (some ⟨w.heap.size, 4, none⟩) (some ⟨w.heap.size, 5, none⟩) (some ⟨H, 0, none⟩) (some ⟨L, 0, none⟩) (some ⟨N, 0, none⟩) (some ⟨w.heap.size, 0, none⟩) w'
    have HX := Lib.hid (show _ = x from hx)
    have hc := hT5.r.at_ 3 (.int .u8 r.C) rfl
    have fc := hT5.r.free 3
    have HT6 := Lib.hid (hT5.set 3 (.int .u8 v))
    have HH6 := Lib.hid ((heap_setCell_other w5 ⟨w.heap.size, 3, none⟩ H (.int .u8 v) (by show H ≠ w.heap.size; omega)).trans kh)
    have HL6 := Lib.hid ((heap_setCell_other w5 ⟨w.heap.size, 3, none⟩ L (.int .u8 v) (by show L ≠ w.heap.size; omega)).trans kl)
    have HP6 := Lib.hid ((heap_setCell_other w5 ⟨w.heap.size, 3, none⟩ W (.int .u8 v) (by show W ≠ w.heap.size; omega)).trans HKP.out)
    clear hx hT5 hN5 kh kl kp
    go_wp2_with (first | (go_at_call 56; (with_reducible refine (HM.out _).mono ?_); rintro e w' ⟨rfl, rfl⟩))
    refine (c8_join w.heap.size 10 _ r.IX (r.IX / 256) (r.IX % 256) H L W _ HT6.out.r rfl HH6.out HL6.out HP6.out (by omega) (by omega) (by omega) hi8 lo8).mono ?_
    rintro e w7 ⟨rfl, hR7, hS7⟩
    have hT7 := HT6.out.turn hR7 hS7
    rw [hwhole] at hT7
    have hT : Two w x.cells zeroR.cells w7 := by rw [← HX.out]; exact hT7
    clear hI hc fc hT7 hR7 hS7
    go_wp2_with (first
      | (refine wpList_load_row rfl 24 _ rfl w.heap.size rfl _ _ (0, 0) _ hT.r Try.underlying24 rfl (by kernel_rfl) ?_)
      | (refine wpList_store_row rfl 24 _ _ rfl (w.heap.size + 1) _ rfl rfl _ _ hT.z rg_info rfl (rg_one x) ?_))
    (try simp only [Exit.inBlock, Exit.then])
    exact bodyPost_ret (results_rg rfl _ _ _ x rfl (setRow_heap _ _ _ _ _ _ hT.z)) rfl ⟨rfl, below_setRow hT.b (by omega) _⟩
  · have hI := fun w' => idx8_2 (some ⟨w.heap.size, 2, none⟩) (some ⟨w.heap.size, 3, none⟩) (some ⟨w.heap.size, 4, none⟩) (some ⟨w.heap.size, 5, none⟩) (some ⟨H, 0, none⟩) (some ⟨L, 0, none⟩) (some ⟨N, 0, none⟩) (some ⟨w.heap.size, 0, none⟩) w'
    have HX := Lib.hid (show _ = x from hx)
    have hc := hT5.r.at_ 4 (.int .u8 r.D) rfl
    have fc := hT5.r.free 4
    have HT6 := Lib.hid (hT5.set 4 (.int .u8 v))
    have HH6 := Lib.hid ((heap_setCell_other w5 ⟨w.heap.size, 4, none⟩ H (.int .u8 v) (by show H ≠ w.heap.size; omega)).trans kh)
    have HL6 := Lib.hid ((heap_setCell_other w5 ⟨w.heap.size, 4, none⟩ L (.int .u8 v) (by show L ≠ w.heap.size; omega)).trans kl)
    have HP6 := Lib.hid ((heap_setCell_other w5 ⟨w.heap.size, 4, none⟩ W (.int .u8 v) (by show W ≠ w.heap.size; omega)).trans HKP.out)
    clear hx hT5 hN5 kh kl kp
    go_wp2_with (first | (go_at_call 56; (with_reducible refine (HM.out _).mono ?_); rintro e w' ⟨rfl, rfl⟩))
    refine (c8_join w.heap.size 10 _ r.IX (r.IX / 256) (r.IX % 256) H L W _ HT6.out.r rfl HH6.out HL6.out HP6.out (by omega) (by omega) (by omega) hi8 lo8).mono ?_
    rintro e w7 ⟨rfl, hR7, hS7⟩
    have hT7 := HT6.out.turn hR7 hS7
    rw [hwhole] at hT7
    have hT : Two w x.cells zeroR.cells w7 := by rw [← HX.out]; exact hT7
    clear hI hc fc hT7 hR7 hS7
    go_wp2_with (first
      | (refine wpList_load_row rfl 24 _ rfl w.heap.size rfl _ _ (0, 0) _ hT.r Try.underlying24 rfl (by kernel_rfl) ?_)
      | (refine wpList_store_row rfl 24 _ _ rfl (w.heap.size + 1) _ rfl rfl _ _ hT.z rg_info rfl (rg_one x) ?_))
    (try simp only [Exit.inBlock, Exit.then])
    exact bodyPost_ret (results_rg rfl _ _ _ x rfl (setRow_heap _ _ _ _ _ _ hT.z)) rfl ⟨rfl, below_setRow hT.b (by omega) _⟩
  · have hI := fun w' => idx8_3 (some ⟨w.heap.size, 2, none⟩) (some ⟨w.heap.size, 3, none⟩) (some ⟨w.heap.size, 4, none⟩) (some ⟨w.heap.size, 5, none⟩) (some ⟨H, 0, none⟩) (some ⟨L, 0, none⟩) (some ⟨N, 0, none⟩) (some ⟨w.heap.size, 0, none⟩) w'
    have HX := Lib.hid (show _ = x from hx)
    have hc := hT5.r.at_ 5 (.int .u8 r.E) rfl
    have fc := hT5.r.free 5
    have HT6 := Lib.hid (hT5.set 5 (.int .u8 v))
    have HH6 := Lib.hid ((heap_setCell_other w5 ⟨w.heap.size, 5, none⟩ H (.int .u8 v) (by show H ≠ w.heap.size; omega)).trans kh)
    have HL6 := Lib.hid ((heap_setCell_other w5 ⟨w.heap.size, 5, none⟩ L (.int .u8 v) (by show L ≠ w.heap.size; omega)).trans kl)
    have HP6 := Lib.hid ((heap_setCell_other w5 ⟨w.heap.size, 5, none⟩ W (.int .u8 v) (by show W ≠ w.heap.size; omega)).trans HKP.out)
    clear hx hT5 hN5 kh kl kp
    go_wp2_with (first | (go_at_call 56; (with_reducible refine (HM.out _).mono ?_); rintro e w' ⟨rfl, rfl⟩))
    refine (c8_join w.heap.size 10 _ r.IX (r.IX / 256) (r.IX % 256) H L W _ HT6.out.r rfl HH6.out HL6.out HP6.out (by omega) (by omega) (by omega) hi8 lo8).mono ?_
    rintro e w7 ⟨rfl, hR7, hS7⟩
    have hT7 := HT6.out.turn hR7 hS7
    rw [hwhole] at hT7
    have hT : Two w x.cells zeroR.cells w7 := by rw [← HX.out]; exact hT7
    clear hI hc fc hT7 hR7 hS7
    go_wp2_with (first
      | (refine wpList_load_row rfl 24 _ rfl w.heap.size rfl _ _ (0, 0) _ hT.r Try.underlying24 rfl (by kernel_rfl) ?_)
      | (refine wpList_store_row rfl 24 _ _ rfl (w.heap.size + 1) _ rfl rfl _ _ hT.z rg_info rfl (rg_one x) ?_))
    (try simp only [Exit.inBlock, Exit.then])
    exact bodyPost_ret (results_rg rfl _ _ _ x rfl (setRow_heap _ _ _ _ _ _ hT.z)) rfl ⟨rfl, below_setRow hT.b (by omega) _⟩
  · have hI := fun w' => idx8_4 (some ⟨w.heap.size, 2, none⟩) (some ⟨w.heap.size, 3, none⟩) (some ⟨w.heap.size, 4, none⟩) (some ⟨w.heap.size, 5, none⟩) (some ⟨H, 0, none⟩) (some ⟨L, 0, none⟩) (some ⟨N, 0, none⟩) (some ⟨w.heap.size, 0, none⟩) w'
    have HX := Lib.hid (show _ = x from hx)
    have hc : w5.cell? ⟨H, 0, none⟩ = some (.int .u8 (r.IX / 256)) := by rw [cell_of_row _ _ _ _ _ _ kh]; rfl
    have fc := frozen_of_row w5 H 0 _ _ kh
    have HT6 := Lib.hid (hT5.other ⟨H, 0, none⟩ (.int .u8 v) nH)
    have HH6 := Lib.hid (show (w5.setCell ⟨H, 0, none⟩ (.int .u8 v)).heap[H]? = some (.cells #[.int .u8 v] 5 (0, 0)) by rw [heap_setCell_same w5 H 0 _ _ _ kh]; rfl)
    have HL6 := Lib.hid ((heap_setCell_other w5 ⟨H, 0, none⟩ L (.int .u8 v) (Ne.symm hHL)).trans kl)
    have HP6 := Lib.hid ((heap_setCell_other w5 ⟨H, 0, none⟩ W (.int .u8 v) hWH).trans HKP.out)
    clear hx hT5 hN5 kh kl kp
    go_wp2_with (first | (go_at_call 56; (with_reducible refine (HM.out _).mono ?_); rintro e w' ⟨rfl, rfl⟩))
    refine (c8_join w.heap.size 10 _ r.IX (v) (r.IX % 256) H L W _ HT6.out.r rfl HH6.out HL6.out HP6.out (by omega) (by omega) (by omega) hv lo8).mono ?_
    rintro e w7 ⟨rfl, hR7, hS7⟩
    have hT7 := HT6.out.turn hR7 hS7
    have hT : Two w x.cells zeroR.cells w7 := by rw [← HX.out]; exact hT7
    clear hI hc fc hT7 hR7 hS7
    go_wp2_with (first
      | (refine wpList_load_row rfl 24 _ rfl w.heap.size rfl _ _ (0, 0) _ hT.r Try.underlying24 rfl (by kernel_rfl) ?_)
      | (refine wpList_store_row rfl 24 _ _ rfl (w.heap.size + 1) _ rfl rfl _ _ hT.z rg_info rfl (rg_one x) ?_))
    (try simp only [Exit.inBlock, Exit.then])
    exact bodyPost_ret (results_rg rfl _ _ _ x rfl (setRow_heap _ _ _ _ _ _ hT.z)) rfl ⟨rfl, below_setRow hT.b (by omega) _⟩
  · have hI := fun w' => idx8_5 (some ⟨w.heap.size, 2, none⟩) (some ⟨w.heap.size, 3, none⟩) (some ⟨w.heap.size, 4, none⟩) (some ⟨w.heap.size, 5, none⟩) (some ⟨H, 0, none⟩) (some ⟨L, 0, none⟩) (some ⟨N, 0, none⟩) (some ⟨w.heap.size, 0, none⟩) w'
    have HX := Lib.hid (show _ = x from hx)
    have hc : w5.cell? ⟨L, 0, none⟩ = some (.int .u8 (r.IX % 256)) := by rw [cell_of_row _ _ _ _ _ _ kl]; rfl
    have fc := frozen_of_row w5 L 0 _ _ kl
    have HT6 := Lib.hid (hT5.other ⟨L, 0, none⟩ (.int .u8 v) nL)
    have HH6 := Lib.hid ((heap_setCell_other w5 ⟨L, 0, none⟩ H (.int .u8 v) hHL).trans kh)
    have HL6 := Lib.hid (show (w5.setCell ⟨L, 0, none⟩ (.int .u8 v)).heap[L]? = some (.cells #[.int .u8 v] 5 (0, 0)) by rw [heap_setCell_same w5 L 0 _ _ _ kl]; rfl)
    have HP6 := Lib.hid ((heap_setCell_other w5 ⟨L, 0, none⟩ W (.int .u8 v) hWL).trans HKP.out)
    clear hx hT5 hN5 kh kl kp
    go_wp2_with (first | (go_at_call 56; (with_reducible refine (HM.out _).mono ?_); rintro e w' ⟨rfl, rfl⟩))
    refine (c8_join w.heap.size 10 _ r.IX (r.IX / 256) (v) H L W _ HT6.out.r rfl HH6.out HL6.out HP6.out (by omega) (by omega) (by omega) hi8 hv).mono ?_
    rintro e w7 ⟨rfl, hR7, hS7⟩
    have hT7 := HT6.out.turn hR7 hS7
    have hT : Two w x.cells zeroR.cells w7 := by rw [← HX.out]; exact hT7
    clear hI hc fc hT7 hR7 hS7
    go_wp2_with (first
      | (refine wpList_load_row rfl 24 _ rfl w.heap.size rfl _ _ (0, 0) _ hT.r Try.underlying24 rfl (by kernel_rfl) ?_)
      | (refine wpList_store_row rfl 24 _ _ rfl (w.heap.size + 1) _ rfl rfl _ _ hT.z rg_info rfl (rg_one x) ?_))
    (try simp only [Exit.inBlock, Exit.then])
    exact bodyPost_ret (results_rg rfl _ _ _ x rfl (setRow_heap _ _ _ _ _ _ hT.z)) rfl ⟨rfl, below_setRow hT.b (by omega) _⟩
  · have hI := fun w' => idx8_6 (some ⟨w.heap.size, 2, none⟩) (some ⟨w.heap.size, 3, none⟩) (some ⟨w.heap.size, 4, none⟩) (some ⟨w.heap.size, 5, none⟩) (some ⟨H, 0, none⟩) (some ⟨L, 0, none⟩) (some ⟨N, 0, none⟩) (some ⟨w.heap.size, 0, none⟩) w'
    have HX := Lib.hid (show _ = x from hx)
    have hc : w5.cell? ⟨N, 0, none⟩ = some (.int .u8 0) := by rw [cell_of_row _ _ _ _ _ _ hN5]; rfl
    have fc := frozen_of_row w5 N 0 _ _ hN5
    have HT6 := Lib.hid (hT5.other ⟨N, 0, none⟩ (.int .u8 v) hNn)
    have HH6 := Lib.hid ((heap_setCell_other w5 ⟨N, 0, none⟩ H (.int .u8 v) hNH).trans kh)
    have HL6 := Lib.hid ((heap_setCell_other w5 ⟨N, 0, none⟩ L (.int .u8 v) hNL).trans kl)
    have HP6 := Lib.hid ((heap_setCell_other w5 ⟨N, 0, none⟩ W (.int .u8 v) hWN).trans HKP.out)
    clear hx hT5 hN5 kh kl kp
    go_wp2_with (first | (go_at_call 56; (with_reducible refine (HM.out _).mono ?_); rintro e w' ⟨rfl, rfl⟩))
    refine (c8_join w.heap.size 10 _ r.IX (r.IX / 256) (r.IX % 256) H L W _ HT6.out.r rfl HH6.out HL6.out HP6.out (by omega) (by omega) (by omega) hi8 lo8).mono ?_
    rintro e w7 ⟨rfl, hR7, hS7⟩
    have hT7 := HT6.out.turn hR7 hS7
    rw [hwhole] at hT7
    have hT : Two w x.cells zeroR.cells w7 := by rw [← HX.out]; exact hT7
    clear hI hc fc hT7 hR7 hS7
    go_wp2_with (first
      | (refine wpList_load_row rfl 24 _ rfl w.heap.size rfl _ _ (0, 0) _ hT.r Try.underlying24 rfl (by kernel_rfl) ?_)
      | (refine wpList_store_row rfl 24 _ _ rfl (w.heap.size + 1) _ rfl rfl _ _ hT.z rg_info rfl (rg_one x) ?_))
    (try simp only [Exit.inBlock, Exit.then])
    exact bodyPost_ret (results_rg rfl _ _ _ x rfl (setRow_heap _ _ _ _ _ _ hT.z)) rfl ⟨rfl, below_setRow hT.b (by omega) _⟩
  · have hI := fun w' => idx8_7 (some ⟨w.heap.size, 2, none⟩) (some ⟨w.heap.size, 3, none⟩) (some ⟨w.heap.size, 4, none⟩) (some ⟨w.heap.size, 5, none⟩) (some ⟨H, 0, none⟩) (some ⟨L, 0, none⟩) (some ⟨N, 0, none⟩) (some ⟨w.heap.size, 0, none⟩) w'
    have HX := Lib.hid (show _ = x from hx)
    have hc := hT5.r.at_ 0 (.int .u8 r.A) rfl
    have fc := hT5.r.free 0
    have HT6 := Lib.hid (hT5.set 0 (.int .u8 v))
    have HH6 := Lib.hid ((heap_setCell_other w5 ⟨w.heap.size, 0, none⟩ H (.int .u8 v) (by show H ≠ w.heap.size; omega)).trans kh)
    have HL6 := Lib.hid ((heap_setCell_other w5 ⟨w.heap.size, 0, none⟩ L (.int .u8 v) (by show L ≠ w.heap.size; omega)).trans kl)
    have HP6 := Lib.hid ((heap_setCell_other w5 ⟨w.heap.size, 0, none⟩ W (.int .u8 v) (by show W ≠ w.heap.size; omega)).trans HKP.out)
    clear hx hT5 hN5 kh kl kp
    go_wp2_with (first | (go_at_call 56; (with_reducible refine (HM.out _).mono ?_); rintro e w' ⟨rfl, rfl⟩))
    refine (c8_join w.heap.size 10 _ r.IX (r.IX / 256) (r.IX % 256) H L W _ HT6.out.r rfl HH6.out HL6.out HP6.out (by omega) (by omega) (by omega) hi8 lo8).mono ?_
    rintro e w7 ⟨rfl, hR7, hS7⟩
    have hT7 := HT6.out.turn hR7 hS7
    rw [hwhole] at hT7
    have hT : Two w x.cells zeroR.cells w7 := by rw [← HX.out]; exact hT7
    clear hI hc fc hT7 hR7 hS7
    go_wp2_with (first
      | (refine wpList_load_row rfl 24 _ rfl w.heap.size rfl _ _ (0, 0) _ hT.r Try.underlying24 rfl (by kernel_rfl) ?_)
      | (refine wpList_store_row rfl 24 _ _ rfl (w.heap.size + 1) _ rfl rfl _ _ hT.z rg_info rfl (rg_one x) ?_))
    (try simp only [Exit.inBlock, Exit.then])
    exact bodyPost_ret (results_rg rfl _ _ _ x rfl (setRow_heap _ _ _ _ _ _ hT.z)) rfl ⟨rfl, below_setRow hT.b (by omega) _⟩

set_option maxHeartbeats 4000000 in
theorem c8_put_2 (r : Rg) (hr : r.Ok) (i c v : Int) (hv : isB v) (w : World) (wi : (Lit.int .i64 i).wf = true) (wc : (Lit.int .i64 c).wf = true) (hj : i % 3 = 2) : Calls Try.prog 17 #[r.val, .int .i64 i, .int .i64 c, .int .u8 v] w fun e w' => e = .returned (putR r i c v).val ∧ Below w.heap.size w w' := by
  have HM := Lib.hid (fun w => c8_mod_8 c w wc)
  have hk8 : c % 8 = 0 ∨ c % 8 = 1 ∨ c % 8 = 2 ∨ c % 8 = 3 ∨ c % 8 = 4 ∨ c % 8 = 5 ∨ c % 8 = 6 ∨ c % 8 = 7 := by omega
  obtain ⟨x, hx⟩ : ∃ x, putR r i c v = x := ⟨_, rfl⟩
  rw [hx]
  unfold putR at hx
  have hh := hr.IY
  unfold isW at hh
  have hi8 : isB (r.IY / 256) := by unfold isB; omega
  have lo8 : isB (r.IY % 256) := by unfold isB; omega
  have hwhole : r.IY / 256 * 256 + r.IY % 256 = r.IY := by omega
  have e1 : hlR r i = r.IY := by unfold hlR; simp [hj]
  have e2 : ∀ y, setHl r i y = { r with IY := y } := fun y => by unfold setHl; simp [hj]
  rw [e1, e2, e2] at hx
  clear e1 e2
  clear hh
  have hval : r.val = .agg #[.int .u8 r.A, .int .u8 r.F, .int .u8 r.B, .int .u8 r.C, .int .u8 r.D, .int .u8 r.E, .int .u8 r.H, .int .u8 r.L, .int .u8 r.I, .int .u8 r.R, .int .u16 r.IX, .int .u16 r.IY, .int .u16 r.SP, .int .u16 r.PC, .int .u16 r.WZ, .int .u16 r.AF2, .int .u16 r.BC2, .int .u16 r.DE2, .int .u16 r.HL2, .bool r.IFF1, .bool r.IFF2, .int .i64 r.IM, .bool r.Halt, .bool r.Late] := rfl
  rw [hval]
  clear hval
  have hT0 := Two.laid w r
  have HT0 := Lib.hid hT0
  clear hT0
  go_enter Try.func17, Try.ntmps17
  go_wp2_with fail
  refine (c8_halves_2 w.heap.size i r.cells r.IY _ wi hj HT0.out.r rfl hr.IY).mono ?_
  rintro e w3 ⟨H, L, W, rfl, hf⟩
  have hT3 := HT0.out.more hf.b
  obtain ⟨kh, kl, kp, -, nh, nl, np, hHL⟩ := hf
  have hsz := HT0.out.z.lt
  have nH : w.heap.size + 2 ≤ H := by omega
  have nL : w.heap.size + 2 ≤ L := by omega
  have nW : w.heap.size + 2 ≤ W := by omega
  clear nh nl np hsz HT0
  have hb := (Below.refl w3.heap.size w3).alloc (Nat.le_refl _) (.cells #[.pointer (some ⟨H, 0, none⟩), .pointer (some ⟨L, 0, none⟩)] 80)
  have HT4 := Lib.hid (hT3.more hb)
  have HH4 := Lib.hid ((hb.block _ (Array.getElem?_eq_some_iff.1 kh).1).trans kh)
  have HL4 := Lib.hid ((hb.block _ (Array.getElem?_eq_some_iff.1 kl).1).trans kl)
  have HP4 := Lib.hid ((hb.block _ (Array.getElem?_eq_some_iff.1 kp).1).trans kp)
  clear hb hT3 kh kl kp
  go_wp2_with fail
  refine (c8_bycode w.heap.size ⟨H, 0, none⟩ ⟨L, 0, none⟩ _).mono ?_
  rintro e w5 ⟨⟨N, rfl, hN, hN5⟩, hb⟩
  have hNn : w.heap.size + 2 ≤ N := by have := HT4.out.z.lt; omega
  have hNH : H ≠ N := by have := (Array.getElem?_eq_some_iff.1 HH4.out).1; omega
  have hNL : L ≠ N := by have := (Array.getElem?_eq_some_iff.1 HL4.out).1; omega
  have hT5 := HT4.out.more hb
  have kh := (hb.block _ (Array.getElem?_eq_some_iff.1 HH4.out).1).trans HH4.out
  have kl := (hb.block _ (Array.getElem?_eq_some_iff.1 HL4.out).1).trans HL4.out
  have kp := (hb.block _ (Array.getElem?_eq_some_iff.1 HP4.out).1).trans HP4.out
  have HKP := Lib.hid kp
  have hWH : W ≠ H := by intro e; subst e; rw [kh] at kp; injection kp with k1; injection k1 with k2 k3; injection k2 with k4; injection k4 with k5; cases k5
  have hWL : W ≠ L := by intro e; subst e; rw [kl] at kp; injection kp with k1; injection k1 with k2 k3; injection k2 with k4; injection k4 with k5; cases k5
  have hWN : W ≠ N := by have := (Array.getElem?_eq_some_iff.1 HP4.out).1; omega
  clear hb HT4 HH4 HL4 HP4 hN
  rcases hk8 with hk | hk | hk | hk | hk | hk | hk | hk <;> rw [hk] at hx HM <;> clear hk
  · have hI := fun w' => idx8_0 (some ⟨w.heap.size, 2, none⟩) (some ⟨w.heap.size, 3, none⟩) (some ⟨w.heap.size, 4, none⟩) (some ⟨w.heap.size, 5, none⟩) (some ⟨H, 0, none⟩) (some ⟨L, 0, none⟩) (some ⟨N, 0, none⟩) (some ⟨w.heap.size, 0, none⟩) w'
    have HX := Lib.hid (show _ = x from hx)
    have hc := hT5.r.at_ 2 (.int .u8 r.B) rfl
    have fc := hT5.r.free 2
    have HT6 := Lib.hid (hT5.set 2 (.int .u8 v))
    have HH6 := Lib.hid ((heap_setCell_other w5 ⟨w.heap.size, 2, none⟩ H (.int .u8 v) (by show H ≠ w.heap.size; omega)).trans kh)
    have HL6 := Lib.hid ((heap_setCell_other w5 ⟨w.heap.size, 2, none⟩ L (.int .u8 v) (by show L ≠ w.heap.size; omega)).trans kl)
    have HP6 := Lib.hid ((heap_setCell_other w5 ⟨w.heap.size, 2, none⟩ W (.int .u8 v) (by show W ≠ w.heap.size; omega)).trans HKP.out)
    clear hx hT5 hN5 kh kl kp
    go_wp2_with (first | (go_at_call 56; (with_reducible refine (HM.out _).mono ?_); rintro e w' ⟨rfl, rfl⟩))
    refine (c8_join w.heap.size 11 _ r.IY (r.IY / 256) (r.IY % 256) H L W _ HT6.out.r rfl HH6.out HL6.out HP6.out (by omega) (by omega) (by omega) hi8 lo8).mono ?_
    rintro e w7 ⟨rfl, hR7, hS7⟩
    have hT7 := HT6.out.turn hR7 hS7
    rw [hwhole] at hT7
    have hT : Two w x.cells zeroR.cells w7 := by rw [← HX.out]; exact hT7
    clear hI hc fc hT7 hR7 hS7
    go_wp2_with (first
      | (refine wpList_load_row rfl 24 _ rfl w.heap.size rfl _ _ (0, 0) _ hT.r Try.underlying24 rfl (by kernel_rfl) ?_)
      | (refine wpList_store_row rfl 24 _ _ rfl (w.heap.size + 1) _ rfl rfl _ _ hT.z rg_info rfl (rg_one x) ?_))
    (try simp only [Exit.inBlock, Exit.then])
    exact bodyPost_ret (results_rg rfl _ _ _ x rfl (setRow_heap _ _ _ _ _ _ hT.z)) rfl ⟨rfl, below_setRow hT.b (by omega) _⟩
  · have hI := fun w' => idx8_1 (some ⟨w.heap.size, 2, none⟩) (some ⟨w.heap.size, 3, none⟩) (some ⟨w.heap.size, 4, none⟩) (some ⟨w.heap.size, 5, none⟩) (some ⟨H, 0, none⟩) (some ⟨L, 0, none⟩) (some ⟨N, 0, none⟩) (some ⟨w.heap.size, 0, none⟩) w'
    have HX := Lib.hid (show _ = x from hx)
    have hc := hT5.r.at_ 3 (.int .u8 r.C) rfl
    have fc := hT5.r.free 3
    have HT6 := Lib.hid (hT5.set 3 (.int .u8 v))
    have HH6 := Lib.hid ((heap_setCell_other w5 ⟨w.heap.size, 3, none⟩ H (.int .u8 v) (by show H ≠ w.heap.size; omega)).trans kh)
    have HL6 := Lib.hid ((heap_setCell_other w5 ⟨w.heap.size, 3, none⟩ L (.int .u8 v) (by show L ≠ w.heap.size; omega)).trans kl)
    have HP6 := Lib.hid ((heap_setCell_other w5 ⟨w.heap.size, 3, none⟩ W (.int .u8 v) (by show W ≠ w.heap.size; omega)).trans HKP.out)
    clear hx hT5 hN5 kh kl kp
    go_wp2_with (first | (go_at_call 56; (with_reducible refine (HM.out _).mono ?_); rintro e w' ⟨rfl, rfl⟩))
    refine (c8_join w.heap.size 11 _ r.IY (r.IY / 256) (r.IY % 256) H L W _ HT6.out.r rfl HH6.out HL6.out HP6.out (by omega) (by omega) (by omega) hi8 lo8).mono ?_
    rintro e w7 ⟨rfl, hR7, hS7⟩
    have hT7 := HT6.out.turn hR7 hS7
    rw [hwhole] at hT7
    have hT : Two w x.cells zeroR.cells w7 := by rw [← HX.out]; exact hT7
    clear hI hc fc hT7 hR7 hS7
    go_wp2_with (first
      | (refine wpList_load_row rfl 24 _ rfl w.heap.size rfl _ _ (0, 0) _ hT.r Try.underlying24 rfl (by kernel_rfl) ?_)
      | (refine wpList_store_row rfl 24 _ _ rfl (w.heap.size + 1) _ rfl rfl _ _ hT.z rg_info rfl (rg_one x) ?_))
    (try simp only [Exit.inBlock, Exit.then])
    exact bodyPost_ret (results_rg rfl _ _ _ x rfl (setRow_heap _ _ _ _ _ _ hT.z)) rfl ⟨rfl, below_setRow hT.b (by omega) _⟩
  · have hI := fun w' => idx8_2 (some ⟨w.heap.size, 2, none⟩) (some ⟨w.heap.size, 3, none⟩) (some ⟨w.heap.size, 4, none⟩) (some ⟨w.heap.size, 5, none⟩) (some ⟨H, 0, none⟩) (some ⟨L, 0, none⟩) (some ⟨N, 0, none⟩) (some ⟨w.heap.size, 0, none⟩) w'
    have HX := Lib.hid (show _ = x from hx)
    have hc := hT5.r.at_ 4 (.int .u8 r.D) rfl
    have fc := hT5.r.free 4
    have HT6 := Lib.hid (hT5.set 4 (.int .u8 v))
    have HH6 := Lib.hid ((heap_setCell_other w5 ⟨w.heap.size, 4, none⟩ H (.int .u8 v) (by show H ≠ w.heap.size; omega)).trans kh)
    have HL6 := Lib.hid ((heap_setCell_other w5 ⟨w.heap.size, 4, none⟩ L (.int .u8 v) (by show L ≠ w.heap.size; omega)).trans kl)
    have HP6 := Lib.hid ((heap_setCell_other w5 ⟨w.heap.size, 4, none⟩ W (.int .u8 v) (by show W ≠ w.heap.size; omega)).trans HKP.out)
    clear hx hT5 hN5 kh kl kp
    go_wp2_with (first | (go_at_call 56; (with_reducible refine (HM.out _).mono ?_); rintro e w' ⟨rfl, rfl⟩))
    refine (c8_join w.heap.size 11 _ r.IY (r.IY / 256) (r.IY % 256) H L W _ HT6.out.r rfl HH6.out HL6.out HP6.out (by omega) (by omega) (by omega) hi8 lo8).mono ?_
    rintro e w7 ⟨rfl, hR7, hS7⟩
    have hT7 := HT6.out.turn hR7 hS7
    rw [hwhole] at hT7
    have hT : Two w x.cells zeroR.cells w7 := by rw [← HX.out]; exact hT7
    clear hI hc fc hT7 hR7 hS7
    go_wp2_with (first
      | (refine wpList_load_row rfl 24 _ rfl w.heap.size rfl _ _ (0, 0) _ hT.r Try.underlying24 rfl (by kernel_rfl) ?_)
      | (refine wpList_store_row rfl 24 _ _ rfl (w.heap.size + 1) _ rfl rfl _ _ hT.z rg_info rfl (rg_one x) ?_))
    (try simp only [Exit.inBlock, Exit.then])
    exact bodyPost_ret (results_rg rfl _ _ _ x rfl (setRow_heap _ _ _ _ _ _ hT.z)) rfl ⟨rfl, below_setRow hT.b (by omega) _⟩
  · have hI := fun w' => idx8_3 (some ⟨w.heap.size, 2, none⟩) (some ⟨w.heap.size, 3, none⟩) (some ⟨w.heap.size, 4, none⟩) (some ⟨w.heap.size, 5, none⟩) (some ⟨H, 0, none⟩) (some ⟨L, 0, none⟩) (some ⟨N, 0, none⟩) (some ⟨w.heap.size, 0, none⟩) w'
    have HX := Lib.hid (show _ = x from hx)
    have hc := hT5.r.at_ 5 (.int .u8 r.E) rfl
    have fc := hT5.r.free 5
    have HT6 := Lib.hid (hT5.set 5 (.int .u8 v))
    have HH6 := Lib.hid ((heap_setCell_other w5 ⟨w.heap.size, 5, none⟩ H (.int .u8 v) (by show H ≠ w.heap.size; omega)).trans kh)
    have HL6 := Lib.hid ((heap_setCell_other w5 ⟨w.heap.size, 5, none⟩ L (.int .u8 v) (by show L ≠ w.heap.size; omega)).trans kl)
    have HP6 := Lib.hid ((heap_setCell_other w5 ⟨w.heap.size, 5, none⟩ W (.int .u8 v) (by show W ≠ w.heap.size; omega)).trans HKP.out)
    clear hx hT5 hN5 kh kl kp
    go_wp2_with (first | (go_at_call 56; (with_reducible refine (HM.out _).mono ?_); rintro e w' ⟨rfl, rfl⟩))
    refine (c8_join w.heap.size 11 _ r.IY (r.IY / 256) (r.IY % 256) H L W _ HT6.out.r rfl HH6.out HL6.out HP6.out (by omega) (by omega) (by omega) hi8 lo8).mono ?_
    rintro e w7 ⟨rfl, hR7, hS7⟩
    have hT7 := HT6.out.turn hR7 hS7
    rw [hwhole] at hT7
    have hT : Two w x.cells zeroR.cells w7 := by rw [← HX.out]; exact hT7
    clear hI hc fc hT7 hR7 hS7
    go_wp2_with (first
      | (refine wpList_load_row rfl 24 _ rfl w.heap.size rfl _ _ (0, 0) _ hT.r Try.underlying24 rfl (by kernel_rfl) ?_)
      | (refine wpList_store_row rfl 24 _ _ rfl (w.heap.size + 1) _ rfl rfl _ _ hT.z rg_info rfl (rg_one x) ?_))
    (try simp only [Exit.inBlock, Exit.then])
    exact bodyPost_ret (results_rg rfl _ _ _ x rfl (setRow_heap _ _ _ _ _ _ hT.z)) rfl ⟨rfl, below_setRow hT.b (by omega) _⟩
  · have hI := fun w' => idx8_4 (some ⟨w.heap.size, 2, none⟩) (some ⟨w.heap.size, 3, none⟩) (some ⟨w.heap.size, 4, none⟩) (some ⟨w.heap.size, 5, none⟩) (some ⟨H, 0, none⟩) (some ⟨L, 0, none⟩) (some ⟨N, 0, none⟩) (some ⟨w.heap.size, 0, none⟩) w'
    have HX := Lib.hid (show _ = x from hx)
    have hc : w5.cell? ⟨H, 0, none⟩ = some (.int .u8 (r.IY / 256)) := by rw [cell_of_row _ _ _ _ _ _ kh]; rfl
    have fc := frozen_of_row w5 H 0 _ _ kh
    have HT6 := Lib.hid (hT5.other ⟨H, 0, none⟩ (.int .u8 v) nH)
    have HH6 := Lib.hid (show (w5.setCell ⟨H, 0, none⟩ (.int .u8 v)).heap[H]? = some (.cells #[.int .u8 v] 5 (0, 0)) by rw [heap_setCell_same w5 H 0 _ _ _ kh]; rfl)
    have HL6 := Lib.hid ((heap_setCell_other w5 ⟨H, 0, none⟩ L (.int .u8 v) (Ne.symm hHL)).trans kl)
    have HP6 := Lib.hid ((heap_setCell_other w5 ⟨H, 0, none⟩ W (.int .u8 v) hWH).trans HKP.out)
    clear hx hT5 hN5 kh kl kp
    go_wp2_with (first | (go_at_call 56; (with_reducible refine (HM.out _).mono ?_); rintro e w' ⟨rfl, rfl⟩))
    refine (c8_join w.heap.size 11 _ r.IY (v) (r.IY % 256) H L W _ HT6.out.r rfl HH6.out HL6.out HP6.out (by omega) (by omega) (by omega) hv lo8).mono ?_
    rintro e w7 ⟨rfl, hR7, hS7⟩
    have hT7 := HT6.out.turn hR7 hS7
    have hT : Two w x.cells zeroR.cells w7 := by rw [← HX.out]; exact hT7
    clear hI hc fc hT7 hR7 hS7
    go_wp2_with (first
      | (refine wpList_load_row rfl 24 _ rfl w.heap.size rfl _ _ (0, 0) _ hT.r Try.underlying24 rfl (by kernel_rfl) ?_)
      | (refine wpList_store_row rfl 24 _ _ rfl (w.heap.size + 1) _ rfl rfl _ _ hT.z rg_info rfl (rg_one x) ?_))
    (try simp only [Exit.inBlock, Exit.then])
    exact bodyPost_ret (results_rg rfl _ _ _ x rfl (setRow_heap _ _ _ _ _ _ hT.z)) rfl ⟨rfl, below_setRow hT.b (by omega) _⟩
  · have hI := fun w' => idx8_5 (some ⟨w.heap.size, 2, none⟩) (some ⟨w.heap.size, 3, none⟩) (some ⟨w.heap.size, 4, none⟩) (some ⟨w.heap.size, 5, none⟩) (some ⟨H, 0, none⟩) (some ⟨L, 0, none⟩) (some ⟨N, 0, none⟩) (some ⟨w.heap.size, 0, none⟩) w'
    have HX := Lib.hid (show _ = x from hx)
    have hc : w5.cell? ⟨L, 0, none⟩ = some (.int .u8 (r.IY % 256)) := by rw [cell_of_row _ _ _ _ _ _ kl]; rfl
    have fc := frozen_of_row w5 L 0 _ _ kl
    have HT6 := Lib.hid (hT5.other ⟨L, 0, none⟩ (.int .u8 v) nL)
    have HH6 := Lib.hid ((heap_setCell_other w5 ⟨L, 0, none⟩ H (.int .u8 v) hHL).trans kh)
    have HL6 := Lib.hid (show (w5.setCell ⟨L, 0, none⟩ (.int .u8 v)).heap[L]? = some (.cells #[.int .u8 v] 5 (0, 0)) by rw [heap_setCell_same w5 L 0 _ _ _ kl]; rfl)
    have HP6 := Lib.hid ((heap_setCell_other w5 ⟨L, 0, none⟩ W (.int .u8 v) hWL).trans HKP.out)
    clear hx hT5 hN5 kh kl kp
    go_wp2_with (first | (go_at_call 56; (with_reducible refine (HM.out _).mono ?_); rintro e w' ⟨rfl, rfl⟩))
    refine (c8_join w.heap.size 11 _ r.IY (r.IY / 256) (v) H L W _ HT6.out.r rfl HH6.out HL6.out HP6.out (by omega) (by omega) (by omega) hi8 hv).mono ?_
    rintro e w7 ⟨rfl, hR7, hS7⟩
    have hT7 := HT6.out.turn hR7 hS7
    have hT : Two w x.cells zeroR.cells w7 := by rw [← HX.out]; exact hT7
    clear hI hc fc hT7 hR7 hS7
    go_wp2_with (first
      | (refine wpList_load_row rfl 24 _ rfl w.heap.size rfl _ _ (0, 0) _ hT.r Try.underlying24 rfl (by kernel_rfl) ?_)
      | (refine wpList_store_row rfl 24 _ _ rfl (w.heap.size + 1) _ rfl rfl _ _ hT.z rg_info rfl (rg_one x) ?_))
    (try simp only [Exit.inBlock, Exit.then])
    exact bodyPost_ret (results_rg rfl _ _ _ x rfl (setRow_heap _ _ _ _ _ _ hT.z)) rfl ⟨rfl, below_setRow hT.b (by omega) _⟩
  · have hI := fun w' => idx8_6 (some ⟨w.heap.size, 2, none⟩) (some ⟨w.heap.size, 3, none⟩) (some ⟨w.heap.size, 4, none⟩) (some ⟨w.heap.size, 5, none⟩) (some ⟨H, 0, none⟩) (some ⟨L, 0, none⟩) (some ⟨N, 0, none⟩) (some ⟨w.heap.size, 0, none⟩) w'
    have HX := Lib.hid (show _ = x from hx)
    have hc : w5.cell? ⟨N, 0, none⟩ = some (.int .u8 0) := by rw [cell_of_row _ _ _ _ _ _ hN5]; rfl
    have fc := frozen_of_row w5 N 0 _ _ hN5
    have HT6 := Lib.hid (hT5.other ⟨N, 0, none⟩ (.int .u8 v) hNn)
    have HH6 := Lib.hid ((heap_setCell_other w5 ⟨N, 0, none⟩ H (.int .u8 v) hNH).trans kh)
    have HL6 := Lib.hid ((heap_setCell_other w5 ⟨N, 0, none⟩ L (.int .u8 v) hNL).trans kl)
    have HP6 := Lib.hid ((heap_setCell_other w5 ⟨N, 0, none⟩ W (.int .u8 v) hWN).trans HKP.out)
    clear hx hT5 hN5 kh kl kp
    go_wp2_with (first | (go_at_call 56; (with_reducible refine (HM.out _).mono ?_); rintro e w' ⟨rfl, rfl⟩))
    refine (c8_join w.heap.size 11 _ r.IY (r.IY / 256) (r.IY % 256) H L W _ HT6.out.r rfl HH6.out HL6.out HP6.out (by omega) (by omega) (by omega) hi8 lo8).mono ?_
    rintro e w7 ⟨rfl, hR7, hS7⟩
    have hT7 := HT6.out.turn hR7 hS7
    rw [hwhole] at hT7
    have hT : Two w x.cells zeroR.cells w7 := by rw [← HX.out]; exact hT7
    clear hI hc fc hT7 hR7 hS7
    go_wp2_with (first
      | (refine wpList_load_row rfl 24 _ rfl w.heap.size rfl _ _ (0, 0) _ hT.r Try.underlying24 rfl (by kernel_rfl) ?_)
      | (refine wpList_store_row rfl 24 _ _ rfl (w.heap.size + 1) _ rfl rfl _ _ hT.z rg_info rfl (rg_one x) ?_))
    (try simp only [Exit.inBlock, Exit.then])
    exact bodyPost_ret (results_rg rfl _ _ _ x rfl (setRow_heap _ _ _ _ _ _ hT.z)) rfl ⟨rfl, below_setRow hT.b (by omega) _⟩
  · have hI := fun w' => idx8_7 (some ⟨w.heap.size, 2, none⟩) (some ⟨w.heap.size, 3, none⟩) (some ⟨w.heap.size, 4, none⟩) (some ⟨w.heap.size, 5, none⟩) (some ⟨H, 0, none⟩) (some ⟨L, 0, none⟩) (some ⟨N, 0, none⟩) (some ⟨w.heap.size, 0, none⟩) w'
    have HX := Lib.hid (show _ = x from hx)
    have hc := hT5.r.at_ 0 (.int .u8 r.A) rfl
    have fc := hT5.r.free 0
    have HT6 := Lib.hid (hT5.set 0 (.int .u8 v))
    have HH6 := Lib.hid ((heap_setCell_other w5 ⟨w.heap.size, 0, none⟩ H (.int .u8 v) (by show H ≠ w.heap.size; omega)).trans kh)
    have HL6 := Lib.hid ((heap_setCell_other w5 ⟨w.heap.size, 0, none⟩ L (.int .u8 v) (by show L ≠ w.heap.size; omega)).trans kl)
    have HP6 := Lib.hid ((heap_setCell_other w5 ⟨w.heap.size, 0, none⟩ W (.int .u8 v) (by show W ≠ w.heap.size; omega)).trans HKP.out)
    clear hx hT5 hN5 kh kl kp
    go_wp2_with (first | (go_at_call 56; (with_reducible refine (HM.out _).mono ?_); rintro e w' ⟨rfl, rfl⟩))
    refine (c8_join w.heap.size 11 _ r.IY (r.IY / 256) (r.IY % 256) H L W _ HT6.out.r rfl HH6.out HL6.out HP6.out (by omega) (by omega) (by omega) hi8 lo8).mono ?_
    rintro e w7 ⟨rfl, hR7, hS7⟩
    have hT7 := HT6.out.turn hR7 hS7
    rw [hwhole] at hT7
    have hT : Two w x.cells zeroR.cells w7 := by rw [← HX.out]; exact hT7
    clear hI hc fc hT7 hR7 hS7
    go_wp2_with (first
      | (refine wpList_load_row rfl 24 _ rfl w.heap.size rfl _ _ (0, 0) _ hT.r Try.underlying24 rfl (by kernel_rfl) ?_)
      | (refine wpList_store_row rfl 24 _ _ rfl (w.heap.size + 1) _ rfl rfl _ _ hT.z rg_info rfl (rg_one x) ?_))
    (try simp only [Exit.inBlock, Exit.then])
    exact bodyPost_ret (results_rg rfl _ _ _ x rfl (setRow_heap _ _ _ _ _ _ hT.z)) rfl ⟨rfl, below_setRow hT.b (by omega) _⟩

theorem c8_put (r : Rg) (hr : r.Ok) (i c v : Int) (hv : isB v) (w : World) (wi : (Lit.int .i64 i).wf = true) (wc : (Lit.int .i64 c).wf = true) : Calls Try.prog 17 #[r.val, .int .i64 i, .int .i64 c, .int .u8 v] w fun e w' => e = .returned (putR r i c v).val ∧ Below w.heap.size w w' := by
  have hj3 : i % 3 = 0 ∨ i % 3 = 1 ∨ i % 3 = 2 := by omega
  rcases hj3 with hj | hj | hj
  · exact c8_put_0 r hr i c v hv w wi wc hj
  · exact c8_put_1 r hr i c v hv w wi wc hj
  · exact c8_put_2 r hr i c v hv w wi wc hj

end Go.Proofs.Ytedlfcmlchjjlaa
