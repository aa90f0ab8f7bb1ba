
/- Package bank: Slots, Told, CheckPatch. -/
import Derived.Test.YtflbedomkeophaaSB
import Derived.Test.YtflbedomkeophaaQ4
import Derived.Deep.DeepCutAuto
import Derived.Laws.CopyOwn
import Derived.Laws.Tables
import Derived.Laws.ResultCell
namespace Go.Proofs.Ytflbedomkeophaa
open Go.RowKit
set_option linter.unusedSimpArgs false
set_option linter.unusedVariables false
set_option maxRecDepth 100000

theorem s_store_row {P : Program} {o : Oper} {a : Act} {w : World} {next : Value → World → Prop} (ty : TypeId) (x y : Operand) (ho : o.op = .store ty x y)
    (g : Nat) (cells : Array Value) (hx : a.eval x = .pointer (some ⟨g, 0, none⟩)) (hy : a.eval y = .agg cells)
    (t : TypeId) (old : Array Value) (hg : w.heap[g]? = some (.cells old t (0, 0))) (hi : (P.info? ty).map (·.size) = some cells.size)
    (hold : old.size = cells.size) (h1 : cells.all (·.oneCell') = true)
    (h : next undef (w.setRow g cells)) : Oper.does P o a w next := by
  unfold Oper.does execOp
  simp only [ho, hx, hy, Instr.storeAt, Instr.sureAddr, Sem.run_bind, Sem.run_pure, Result.andThen_ok, run_storeVar_row w g t ty old cells hg hi hold h1]
  exact h
theorem s_save_row (w : World) (g : Nat) (cs : Array Value) : Save (· = g) w (w.setRow g cs) :=
  ⟨rfl, rfl, rfl, by simp [World.setRow], fun k _ hk => setRow_other w g k cs hk⟩
theorem s_results_row_tmp {P : Program} {fn : Func} {p u : Tmp} {ty : TypeId} (h : fn.results = #[.cell p ty, .tmp u]) (tmps : Array Value) (w : World) (g : Nat) (t : TypeId) (cs : Array Value) (fr : Nat × Nat) (d : TypeDesc) (e : Value)
    (hp : tmps.getD p undef = .pointer (some ⟨g, 0, none⟩)) (he : tmps.getD u undef = e) (hg : w.heap[g]? = some (.cells cs t fr))
    (hu : P.underlying ty = some d) (hd : (match d with | .struct _ | .array _ _ => true | _ => false) = true) (hi : (P.info? ty).map (·.size) = some cs.size) :
    (results fn tmps).run P w = .ok (.tuple #[.agg cs, e]) w := by
  rw [results_cell_tmp h, hp, he]
  simp [asAddr, run_loadVar_row w g t ty cs fr d hg hu hd hi]

theorem byteAll {P : Int → Prop} (h : ∀ i : Fin 256, P (i.val : Int)) (r : Int) (h0 : 0 ≤ r) (h1 : r < 256) : P r := by
  have h2 := h ⟨r.toNat, by omega⟩
  simpa [Int.toNat_of_nonneg h0] using h2
theorem pand1 (x : Int) (h0 : 0 ≤ x) (h1 : x < 256) : bits .and .u8 x 1 = x % 2 := byteAll (P := fun x => bits .and .u8 x 1 = x % 2) (by decide +kernel) x h0 h1
theorem and3 (x : Int) (h0 : 0 ≤ x) (h1 : x < 256) : bits .and .u8 x 3 = x % 4 := byteAll (P := fun x => bits .and .u8 x 3 = x % 4) (by decide +kernel) x h0 h1
theorem and7 (x : Int) (h0 : 0 ≤ x) (h1 : x < 256) : bits .and .u8 x 7 = x % 8 := byteAll (P := fun x => bits .and .u8 x 7 = x % 8) (by decide +kernel) x h0 h1

theorem slB_three (A B : Int) (h : B % 2 = 0) : slB A B 1 = 5 ∧ slB A B 2 = 2 ∧ slB A B 3 = (A % 8).toNat := by
  unfold slB; simp only [if_pos h]; exact ⟨trivial, trivial, trivial⟩
theorem slB_whole (A B : Int) (h : ¬ B % 2 = 0) {a0 a1 a2 a3 : Nat} (hq : ([[0, 1, 2, 3], [4, 5, 6, 7], [4, 5, 6, 3], [4, 7, 6, 3]] : List (List Nat)).getD (B / 2 % 4).toNat [] = [a0, a1, a2, a3]) :
    slB A B 0 = a0 ∧ slB A B 1 = a1 ∧ slB A B 2 = a2 ∧ slB A B 3 = a3 := by
  unfold slB; simp only [if_neg h, hq]; exact ⟨rfl, rfl, rfl, rfl⟩
/-- A block of four numbers. -/
def fourN : Option Obj → Prop := fun o => ∃ a b c d : Value, o = some (.cells #[a, b, c, d] 52 (0, 0))

set_option maxHeartbeats 1000000 in
theorem b_slots (A B : Int) (w : World) (hA : 0 ≤ A ∧ A < 256) (hB : 0 ≤ B ∧ B < 256) : Calls Try.prog 21 #[pgV A B] w fun e w' => e = .returned (slV A B) ∧ Below w.heap.size w w' := by
  obtain ⟨hA0, hA1⟩ := hA
  obtain ⟨hB0, hB1⟩ := hB
  have e7 := and7 A hA0 hA1
  by_cases h : B % 2 = 0
  · have e1 : bits .and .u8 B 1 = 0 := (pand1 B hB0 hB1).trans h
    have HR := Lib.hid (b_readonly A B · h)
    have H3 := Lib.hid (slB_three A B h)
    obtain ⟨S0, hS0⟩ : ∃ S0, slB A B 0 = S0 := ⟨_, rfl⟩
    unfold slV
    rw [H3.out.1, H3.out.2.1, H3.out.2.2, hS0]
    rw [hS0] at HR
    have hA8 : ((A % 8).toNat : Int) = A % 8 := by omega
    rw [hA8]
    clear hA8 H3 hS0
    obtain ⟨w2, hw2⟩ : ∃ w2, (w.alloc (.cells #[.int .u8 A, .int .u8 B] 34)).alloc (.cells #[.int .i64 0, .int .i64 0, .int .i64 0, .int .i64 0] 52) = w2 := ⟨_, rfl⟩
    have hP : w2.heap[w.heap.size]? = some (.cells #[.int .u8 A, .int .u8 B] 34 (0, 0)) := by rw [← hw2, heap_alloc_old _ _ (by simp)]; exact heap_alloc_new _ _
    have hZ : w2.heap[w.heap.size + 1]? = some (.cells #[.int .i64 0, .int .i64 0, .int .i64 0, .int .i64 0] 52 (0, 0)) := by rw [← hw2]; exact heap_alloc2_new _ _ _
    have hb2 : Below w.heap.size w w2 := by rw [← hw2]; exact ((Below.refl _ _).alloc (Nat.le_refl _) _).alloc (by simp) _
    have hltP : w.heap.size < w2.heap.size := (Array.getElem?_eq_some_iff.1 hP).1
    have hlt : w.heap.size + 1 < w2.heap.size := (Array.getElem?_eq_some_iff.1 hZ).1
    have hI0 : fourN w2.heap[w.heap.size + 1]? := ⟨_, _, _, _, hZ⟩
    have g1 : w2.cell? ⟨w.heap.size, 1, none⟩ = some (.int .u8 B) := by rw [cell_of_row _ _ _ _ _ _ hP]; rfl
    unfold pgV at HR ⊢
    go_enter Try.func21, Try.ntmps21
    go_upto_region 3 with fail
    have hg0 : ∀ p : M.Of (M.But w2 (w.heap.size + 1) fourN), p.w.cell? ⟨w.heap.size, 0, none⟩ = some (.int .u8 A) := fun p => by rw [cell_of_row _ _ _ _ _ _ ((p.ok.other hltP (by omega)).trans hP)]; rfl
    have hg1 : ∀ p : M.Of (M.But w2 (w.heap.size + 1) fourN), p.w.cell? ⟨w.heap.size, 1, none⟩ = some (.int .u8 B) := fun p => by rw [cell_of_row _ _ _ _ _ _ ((p.ok.other hltP (by omega)).trans hP)]; rfl
    haveI : Nonempty (M.Of (M.But w2 (w.heap.size + 1) fourN)) := ⟨⟨w2, M.But.refl hlt hI0⟩⟩
    refine M.regionC_ (M.But w2 (w.heap.size + 1) fourN) (M.closed_but _ _ _) (fun n => M.But.start hlt hI0 n) (by kernel_rfl) ?_
    refine M.seg_ [0] 7 _ _ (M.But.refl hlt hI0) (by kernel_rfl) (by kernel_rfl) (by kernel_rfl) (by simp only [pickOps, mask, plain, List.getElem?_toArray, List.getElem?_cons_zero, List.getElem?_cons_succ, if_true, Bool.false_eq_true, if_false]; rfl) ?_
    repeat (go_big_quiet_step (fail))
    refine wpQuiet_nil ?_
    refine M.calm_ (i := 1) (.int .i64 (S0 : Nat)) rfl (by kernel_rfl) (by kernel_rfl) (by kernel_rfl) (by kernel_rfl) ?_ ?_
    · intro wz sz
      unfold Oper.does
      go_simp
      exact (HR.out wz).mono fun e w' ⟨he, hw⟩ => ⟨_, he, rfl, Save.of_below hw⟩
    go_simp
    refine M.seg_ [2, 3, 4, 5, 6] 1 _ _ (M.But.refl hlt hI0) (by kernel_rfl) (by kernel_rfl) (by kernel_rfl) (by simp only [pickOps, mask, plain, List.getElem?_toArray, List.getElem?_cons_zero, List.getElem?_cons_succ, if_true, Bool.false_eq_true, if_false]; rfl) ?_
    repeat (go_big_quiet_step (fail))
    refine wpQuiet_nil ?_
    refine M.call_ (i := 7) rfl (by kernel_rfl) (by kernel_rfl) ?_
    intro wz sz
    obtain ⟨a, b, c, d, hz⟩ := sz.2.2
    refine s_store_row 52 _ _ rfl (w.heap.size + 1) _ rfl rfl 52 _ hz infoS rfl (by rw [List.all_toArray]; rfl) ?_
    refine ⟨M.But w2 (w.heap.size + 1) (fun o => o = some (.cells #[.int .i64 (S0 : Nat), .int .i64 5, .int .i64 2, .int .i64 (A % 8)] 52 (0, 0))), sz.step (s_save_row wz _ _) (setRow_heap _ _ _ _ _ _ hz), M.closed_but _ _ _, M.But.weaken (R' := fourN) (fun o ho => ⟨_, _, _, _, ho⟩), ?_⟩
    clear hg0 hg1 sz hz
    refine M.end_ (by kernel_rfl) ?_
    intro wc sc
    go_wp2_with fail
    (try simp only [Exit.inBlock, Exit.then])
    exact bodyPost_ret (results_cell_row rfl _ _ _ _ _ (0, 0) _ rfl sc.2.2 Try.underlying52 rfl infoS) rfl ⟨rfl, hb2.trans ((sc.below (Nat.le_refl _)).mono (by omega))⟩
  · have h2 : B % 2 = 1 := by omega
    have e1 : bits .and .u8 B 1 = 1 := (pand1 B hB0 hB1).trans h2
    have e3 := and3 (B / 2) (by omega) (by omega)
    have HW := Lib.hid fun w => b_wholes (B / 2 % 4) w (by omega) (by omega)
    have H3 := Lib.hid fun a0 a1 a2 a3 => @slB_whole A B h a0 a1 a2 a3
    obtain ⟨w2, hw2⟩ : ∃ w2, (w.alloc (.cells #[.int .u8 A, .int .u8 B] 34)).alloc (.cells #[.int .i64 0, .int .i64 0, .int .i64 0, .int .i64 0] 52) = w2 := ⟨_, rfl⟩
    have hZ : w2.heap[w.heap.size + 1]? = some (.cells #[.int .i64 0, .int .i64 0, .int .i64 0, .int .i64 0] 52 (0, 0)) := by rw [← hw2]; exact heap_alloc2_new _ _ _
    have hP : w2.heap[w.heap.size]? = some (.cells #[.int .u8 A, .int .u8 B] 34 (0, 0)) := by rw [← hw2, heap_alloc_old _ _ (by simp)]; exact heap_alloc_new _ _
    have g1 : w2.cell? ⟨w.heap.size, 1, none⟩ = some (.int .u8 B) := by rw [cell_of_row _ _ _ _ _ _ hP]; rfl
    have hb2 : Below w.heap.size w w2 := by rw [← hw2]; exact ((Below.refl _ _).alloc (Nat.le_refl _) _).alloc (by simp) _
    have hlt : w.heap.size + 1 < w2.heap.size := (Array.getElem?_eq_some_iff.1 hZ).1
    clear hP
    unfold pgV
    clear h
    go_enter Try.func21, Try.ntmps21
    go_upto_region 2 with fail
    go_wp2_with (first | (refine wpList_store_row rfl 52 _ _ rfl (w.heap.size + 1) _ rfl rfl _ _ hZ1 infoS rfl (by rw [List.all_toArray]; rfl) ?_) | (go_at_call 34; (with_reducible refine (HW.out _).mono ?_); rintro e w1 ⟨⟨a0, a1, a2, a3, rfl, hq⟩, hb1⟩; have HQ := Lib.hid (H3.out _ _ _ _ hq); clear hq; have hZ1 := (hb1.block _ hlt).trans hZ))
    (try simp only [Exit.inBlock, Exit.then])
    refine bodyPost_ret (results_cell_row rfl _ _ _ _ _ (0, 0) _ rfl (setRow_heap _ _ _ _ _ _ hZ1) Try.underlying52 rfl infoS) rfl ⟨?_, below_setRow (hb2.trans (hb1.mono hb2.size)) (by omega) _⟩
    unfold slV
    rw [HQ.out.1, HQ.out.2.1, HQ.out.2.2.1, HQ.out.2.2.2]
end Go.Proofs.Ytflbedomkeophaa
