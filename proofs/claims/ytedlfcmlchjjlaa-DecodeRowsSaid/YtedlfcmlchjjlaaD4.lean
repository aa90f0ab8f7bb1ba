
/- Instructions (chapter 9): withOperands, Of. -/
import Derived.Test.YtedlfcmlchjjlaaD3
import Derived.Test.YtedlfcmlchjjlaaQ4
namespace Go.Proofs.Ytedlfcmlchjjlaa
open Go.RowKit
set_option linter.unusedSimpArgs false
set_option linter.unusedVariables false
set_option maxRecDepth 100000

/-- An instruction with the operands that stand in its bytes. -/
def opsI (i : In) (l : List Int) : In :=
  { i with d := if needD i.s i.x i.o = true then IntKind.i8.wrap (l.getD 2 0) else i.d, m := number9 (l.drop (l.length - (needN i.s i.x i.o).toNat)) (jumpI i.s i.o) }

theorem c9_number (A : Option Addr) (c n : Nat) (l : List Int) (sg : Bool) (w : World) (B : Nat) (hn : n = l.length) (h : RB w B A c l) (hl : l.length ≤ 2) : Calls Try.prog 87 #[.slice A n c, .bool sg] w fun e w' => e = .returned (.int .i64 (number9 l sg)) ∧ w = w' := by
  subst hn
  match l, hl with
  | [], _ => exact (c9_number0 A c sg w).mono fun e w' ⟨he, hw⟩ => ⟨by rw [he]; unfold number9 numL9; cases sg <;> rfl, hw⟩
  | [a], _ =>
    obtain ⟨b, off, rfl, _, hc⟩ := h.pos (by simp)
    have ha := h.bytes a (by simp)
    exact c9_number1 b off c a sg w ha.1 ha.2 (by have := hc 0 (by simp); simpa using this)
  | [x, y], _ =>
    obtain ⟨b, off, rfl, _, hc⟩ := h.pos (by simp)
    have hx := h.bytes x (by simp)
    have hy := h.bytes y (by simp)
    exact c9_number2 b off c x y sg w hx.1 hx.2 hy.1 hy.2 (by have := hc 0 (by simp); simpa using this) (by have := hc 1 (by simp); simpa using this)

/-- A block that is an instruction but for its immediate. -/
def insB (i : In) : Option Obj → Prop := fun o => ∃ v : Int, o = some (.cells ({ i with m := v } : In).cells 44 (0, 0))
theorem insB.gs {b w : World} {g : Nat} {i : In} (h : M.But b g (insB i) w) : w.cell? ⟨g, 0, none⟩ = some (.int .i64 i.s) := by
  obtain ⟨v, hv⟩ := h.2.2
  exact InW.gs (i := { i with m := v }) hv
theorem insB.go {b w : World} {g : Nat} {i : In} (h : M.But b g (insB i) w) : w.cell? ⟨g, 2, none⟩ = some (.int .i64 i.o) := by
  obtain ⟨v, hv⟩ := h.2.2
  exact InW.go (i := { i with m := v }) hv

set_option maxHeartbeats 4000000 in
theorem c9_withops (i : In) (b off n : Nat) (l : List Int) (w : World) (hn : n = l.length) (h : RB w w.heap.size (some ⟨b, off, none⟩) n l) (h1 : needN i.s i.x i.o < n) (h2 : needD i.s i.x i.o = true → 2 < n) :
    Calls Try.prog 67 #[i.val, .slice (some ⟨b, off, none⟩) n n] w fun e w' => e = .returned (opsI i l).val ∧ Below w.heap.size w w' := by
  have HN := Lib.hid (fun w => c9_needs i.s i.x i.o w)
  have HJ := Lib.hid (fun w => c9_jumps i.s i.o w)
  have hm := needN_in i.s i.x i.o
  obtain ⟨z, hz⟩ : ∃ z, opsI i l = z := ⟨_, rfl⟩
  rw [hz]
  unfold opsI at hz
  have hcap := h.cap
  unfold maxLen at hcap
  obtain ⟨d, hd⟩ : ∃ d, needD i.s i.x i.o = d := ⟨_, rfl⟩
  obtain ⟨m, hmm⟩ : ∃ m, needN i.s i.x i.o = m := ⟨_, rfl⟩
  obtain ⟨j, hj⟩ : ∃ j, jumpI i.s i.o = j := ⟨_, rfl⟩
  rw [hd] at HN hz h2
  rw [hmm] at HN hz h1 hm
  rw [hj] at HJ hz
  obtain ⟨m0, m1⟩ := hm
  obtain ⟨k, rfl⟩ : ∃ k : Nat, m = k := ⟨m.toNat, by omega⟩
  rw [Int.toNat_natCast] at hz
  -- the two blocks
  have hb2 : Below w.heap.size w ((w.alloc (inO i)).alloc (inO zeroI)) := ((Below.refl _ _).alloc (Nat.le_refl _) _).alloc (by simp) _
  have hI := (InW.laid w i).more (inO zeroI)
  have hZ := InW.laid (w.alloc (inO i)) zeroI
  have hsz : (w.alloc (inO i)).heap.size = w.heap.size + 1 := by simp
  rw [hsz] at hZ
  have hR2 : RB ((w.alloc (inO i)).alloc (inO zeroI)) w.heap.size (some ⟨b, off, none⟩) n l := h.below hb2
  obtain ⟨w2, hw2⟩ : ∃ w2, (w.alloc (inO i)).alloc (inO zeroI) = w2 := ⟨_, rfl⟩
  rw [hw2] at hb2 hI hZ hR2
  have g0 := hI.gs
  have g1 := hI.gx
  have g2 := hI.go
  have g3 := hI.gd
  have f3 := hI.free 3
  have HZ := Lib.hid hz
  have HL := Lib.hid (show (l.drop (l.length - k)).length = k by rw [List.length_drop]; omega)
  have HK := Lib.hid (show l.length - (l.length - k) = k by omega)
  obtain ⟨A, hA⟩ : ∃ A, (if l.length = l.length - k then some (⟨b, off, none⟩ : Addr) else some ⟨b, off + (l.length - k), none⟩) = A := ⟨_, rfl⟩
  have hRA : RB w2 w.heap.size A k (l.drop (l.length - k)) := by
    subst hn
    rcases Nat.eq_zero_or_pos k with rfl | hk
    · rw [if_pos (by omega)] at hA
      subst hA
      have := hR2.sub l.length 0 (by omega)
      simp only [Nat.sub_zero, List.drop_length]
      exact RB.empty w2 w.heap.size ⟨b, off, none⟩ 0 (by unfold maxLen; omega)
    · rw [if_neg (by omega)] at hA
      subst hA
      have := hR2.sub (l.length - k) k (by omega)
      rw [HK.out, List.take_of_length_le (by rw [HL.out]; omega)] at this
      exact this
  have HA := Lib.hid hA
  clear hA
  unfold inO zeroI at hw2
  clear hz hd hmm hj
  rw [in_val]
  cases d with
  | false =>
    clear h2
    have HI := Lib.hid hI
    have HW := Lib.hid hZ
    have HR := Lib.hid hRA
    have HB := Lib.hid hb2
    clear hI hZ hR2 hb2 hRA
    go_enter Try.func67, Try.ntmps67
    go_wp2_with (go_at_call 69; (with_reducible refine (HN.out _).mono ?_); rintro e w' ⟨rfl, rfl⟩)
    have hlt := HI.out.lt
    have hI3 := HI.out
    have hg0 : ∀ p : M.Of (M.But w2 w.heap.size (insB i)), p.w.cell? ⟨w.heap.size, 0, none⟩ = some (.int .i64 i.s) := fun p => insB.gs p.ok
    have hg2 : ∀ p : M.Of (M.But w2 w.heap.size (insB i)), p.w.cell? ⟨w.heap.size, 2, none⟩ = some (.int .i64 i.o) := fun p => insB.go p.ok
    haveI : Nonempty (M.Of (M.But w2 w.heap.size (insB i))) := ⟨⟨w2, M.But.refl hlt ⟨i.m, hI3⟩⟩⟩
    refine M.regionC_ (M.But w2 w.heap.size (insB i)) (M.closed_but _ _ _) (fun n => M.But.start hlt ⟨i.m, hI3⟩ n) (by kernel_rfl) ?_
    refine M.seg_ [0, 1, 2, 3, 4, 5, 6, 7, 8, 9, 10, 11, 12, 13] 4 _ _ (M.But.refl hlt ⟨i.m, hI3⟩) (by kernel_rfl) (by kernel_rfl) (by kernel_rfl) (by simp only [pickOps, mask, plain, List.getElem?_toArray, List.getElem?_cons_zero, List.getElem?_cons_succ, if_true, Bool.false_eq_true, if_false]; rfl) ?_
    repeat (go_big_quiet_step (fail))
    refine wpQuiet_nil ?_
    clear hg0 hg2
    rw [HK.out, HA.out]
    refine M.calm_ (i := 14) (.bool j) rfl (by kernel_rfl) (by kernel_rfl) (by kernel_rfl) (by kernel_rfl) ?_ ?_
    · intro wz sz
      unfold Oper.does
      go_simp
      exact (HJ.out wz).mono fun e w' ⟨he, hw⟩ => ⟨_, he, rfl, hw ▸ Save.refl _ _⟩
    go_simp
    refine M.calm_ (i := 15) (.int .i64 (number9 (l.drop (l.length - k)) j)) rfl (by kernel_rfl) (by kernel_rfl) (by kernel_rfl) (by kernel_rfl) ?_ ?_
    · intro wz sz
      unfold Oper.does
      go_simp
      exact (c9_number _ _ _ _ _ wz _ HL.out.symm (HR.out.below (sz.below (Nat.le_refl _))) (by rw [HL.out]; omega)).mono fun e w' ⟨he, hw⟩ => ⟨_, he, rfl, hw ▸ Save.refl _ _⟩
    go_simp
    refine M.seg_ [16] 1 _ _ (M.But.refl hlt ⟨i.m, hI3⟩) (by kernel_rfl) (by kernel_rfl) (by kernel_rfl) (by simp only [pickOps, mask, plain, List.getElem?_toArray, List.getElem?_cons_zero, List.getElem?_cons_succ, if_true, Bool.false_eq_true, if_false]; rfl) ?_
    repeat (go_big_quiet_step (fail))
    refine wpQuiet_nil ?_
    generalize number9 (l.drop (l.length - k)) j = X at *
    refine M.call_ (i := 17) rfl (by kernel_rfl) (by kernel_rfl) ?_
    intro wz sz
    have hf : wz.frozen? ⟨w.heap.size, 4, none⟩ = false := by obtain ⟨v, hv⟩ := sz.2.2; exact InW.free (i := { (i) with m := v }) hv 4
    have hc : ∃ v, wz.cell? ⟨w.heap.size, 4, none⟩ = some (.int .i64 v) := by obtain ⟨v, hv⟩ := sz.2.2; exact ⟨v, InW.gm (i := { (i) with m := v }) hv⟩
    obtain ⟨v, hc⟩ := hc
    unfold Oper.does
    go_simp
    refine ⟨M.But w2 w.heap.size (fun o => o = some (.cells ({ (i) with m := X } : In).cells 44 (0, 0))), sz.step (save_setCell wz w.heap.size 4 _) (by obtain ⟨v, hv⟩ := sz.2.2; exact InW.pm (i := { (i) with m := v }) hv X), M.closed_but _ _ _, M.But.weaken (fun o ho => ⟨X, ho⟩), ?_⟩
    clear hf hc sz
    refine M.end_ (by kernel_rfl) ?_
    intro wc sc
    have hIc : InW wc w.heap.size { (i) with m := X } := sc.2.2
    have hZc : InW wc (w.heap.size + 1) zeroI := (sc.other HW.out.lt (by omega)).trans HW.out
    have hBc := HB.out.trans (sc.below (Nat.le_refl _))
    clear sc HI HW HR HB HJ HN hI3 this
    go_wp2_with (first
      | (refine wpList_load_row rfl 44 _ rfl w.heap.size rfl _ _ (0, 0) _ hIc Try.underlying44 rfl in_info ?_)
      | (refine wpList_store_row rfl 44 _ _ rfl (w.heap.size + 1) _ rfl rfl _ _ hZc in_info rfl (in_one _) ?_))
    (try simp only [Exit.inBlock, Exit.then])
    exact bodyPost_ret (results_cell_row rfl _ _ _ _ _ (0, 0) _ rfl (setRow_heap _ _ _ _ _ _ hZc) Try.underlying44 rfl in_info) rfl ⟨by rw [← HZ.out]; rfl, below_setRow hBc (by omega) _⟩
  | true =>
    have h3 := h2 rfl
    clear h2
    obtain ⟨xb, hx⟩ : ∃ x, l.getD 2 0 = x := ⟨_, rfl⟩
    rw [hx] at HZ
    obtain ⟨b', off', he, hbb, hc⟩ := h.pos (by omega)
    simp only [Option.some.injEq, Addr.mk.injEq, and_true] at he
    obtain ⟨rfl, rfl⟩ := he
    have hc2 : w2.cell? ⟨b, off + 2, none⟩ = some (.int .u8 xb) := by rw [← hx]; exact (hb2.cell (p := ⟨b, off + 2, none⟩) hbb).trans (hc 2 (by omega))
    clear hc hx
    have hw8 := wrap64_i8 xb
    have HI := Lib.hid (hI.pd (IntKind.i8.wrap xb))
    have HW := Lib.hid (show InW (w2.setCell ⟨w.heap.size, 3, none⟩ (.int .i64 (IntKind.i8.wrap xb))) (w.heap.size + 1) zeroI from (heap_setCell_other w2 _ _ _ (by simp)).trans hZ)
    have HB := Lib.hid (hb2.setCell (p := ⟨w.heap.size, 3, none⟩) (Nat.le_refl _) (.int .i64 (IntKind.i8.wrap xb)))
    have HR := Lib.hid (hRA.below ((Below.refl w.heap.size w2).setCell (p := ⟨w.heap.size, 3, none⟩) (Nat.le_refl _) (.int .i64 (IntKind.i8.wrap xb))))
    clear hI hZ hR2 hb2 hRA
    go_enter Try.func67, Try.ntmps67
    go_wp2_with (go_at_call 69; (with_reducible refine (HN.out _).mono ?_); rintro e w' ⟨rfl, rfl⟩)
    clear g0 g1 g2 g3 f3 hc2 hw2 hw8
    generalize w2.setCell ⟨w.heap.size, 3, none⟩ (.int .i64 (IntKind.i8.wrap xb)) = w3 at *
    obtain ⟨i3, h3⟩ : ∃ i3 : In, { i with d := IntKind.i8.wrap xb } = i3 := ⟨_, rfl⟩
    rw [h3] at HI
    have e1 : i.s = i3.s := by rw [← h3]
    have e2 : i.o = i3.o := by rw [← h3]
    rw [e1, e2] at HJ
    have H3 := Lib.hid h3
    clear h3
    have E1 := Lib.hid e1
    have E2 := Lib.hid e2
    clear e1 e2
    have hlt := HI.out.lt
    have hI3 : insB i3 (w3.heap[w.heap.size]?) := ⟨i3.m, HI.out⟩
    have hg0 : ∀ p : M.Of (M.But w3 w.heap.size (insB i3)), p.w.cell? ⟨w.heap.size, 0, none⟩ = some (.int .i64 i3.s) := fun p => insB.gs p.ok
    have hg2 : ∀ p : M.Of (M.But w3 w.heap.size (insB i3)), p.w.cell? ⟨w.heap.size, 2, none⟩ = some (.int .i64 i3.o) := fun p => insB.go p.ok
    haveI : Nonempty (M.Of (M.But w3 w.heap.size (insB i3))) := ⟨⟨w3, M.But.refl hlt hI3⟩⟩
    refine M.regionC_ (M.But w3 w.heap.size (insB i3)) (M.closed_but _ _ _) (fun n => M.But.start hlt hI3 n) (by kernel_rfl) ?_
    refine M.seg_ [0, 1, 2, 3, 4, 5, 6, 7, 8, 9, 10, 11, 12, 13] 4 _ _ (M.But.refl hlt hI3) (by kernel_rfl) (by kernel_rfl) (by kernel_rfl) (by simp only [pickOps, mask, plain, List.getElem?_toArray, List.getElem?_cons_zero, List.getElem?_cons_succ, if_true, Bool.false_eq_true, if_false]; rfl) ?_
    repeat (go_big_quiet_step (fail))
    refine wpQuiet_nil ?_
    clear hg0 hg2
    rw [HK.out, HA.out]
    refine M.calm_ (i := 14) (.bool j) rfl (by kernel_rfl) (by kernel_rfl) (by kernel_rfl) (by kernel_rfl) ?_ ?_
    · intro wz sz
      unfold Oper.does
      go_simp
      exact (HJ.out wz).mono fun e w' ⟨he, hw⟩ => ⟨_, he, rfl, hw ▸ Save.refl _ _⟩
    go_simp
    refine M.calm_ (i := 15) (.int .i64 (number9 (l.drop (l.length - k)) j)) rfl (by kernel_rfl) (by kernel_rfl) (by kernel_rfl) (by kernel_rfl) ?_ ?_
    · intro wz sz
      unfold Oper.does
      go_simp
      exact (c9_number _ _ _ _ _ wz _ HL.out.symm (HR.out.below (sz.below (Nat.le_refl _))) (by rw [HL.out]; omega)).mono fun e w' ⟨he, hw⟩ => ⟨_, he, rfl, hw ▸ Save.refl _ _⟩
    go_simp
    refine M.seg_ [16] 1 _ _ (M.But.refl hlt hI3) (by kernel_rfl) (by kernel_rfl) (by kernel_rfl) (by simp only [pickOps, mask, plain, List.getElem?_toArray, List.getElem?_cons_zero, List.getElem?_cons_succ, if_true, Bool.false_eq_true, if_false]; rfl) ?_
    repeat (go_big_quiet_step (fail))
    refine wpQuiet_nil ?_
    generalize number9 (l.drop (l.length - k)) j = X at *
    refine M.call_ (i := 17) rfl (by kernel_rfl) (by kernel_rfl) ?_
    intro wz sz
    have hf : wz.frozen? ⟨w.heap.size, 4, none⟩ = false := by obtain ⟨v, hv⟩ := sz.2.2; exact InW.free (i := { (i3) with m := v }) hv 4
    have hc : ∃ v, wz.cell? ⟨w.heap.size, 4, none⟩ = some (.int .i64 v) := by obtain ⟨v, hv⟩ := sz.2.2; exact ⟨v, InW.gm (i := { (i3) with m := v }) hv⟩
    obtain ⟨v, hc⟩ := hc
    unfold Oper.does
    go_simp
    refine ⟨M.But w3 w.heap.size (fun o => o = some (.cells ({ (i3) with m := X } : In).cells 44 (0, 0))), sz.step (save_setCell wz w.heap.size 4 _) (by obtain ⟨v, hv⟩ := sz.2.2; exact InW.pm (i := { (i3) with m := v }) hv X), M.closed_but _ _ _, M.But.weaken (fun o ho => ⟨X, ho⟩), ?_⟩
    clear hf hc sz
    refine M.end_ (by kernel_rfl) ?_
    intro wc sc
    have hIc : InW wc w.heap.size { (i3) with m := X } := sc.2.2
    have hZc : InW wc (w.heap.size + 1) zeroI := (sc.other HW.out.lt (by omega)).trans HW.out
    have hBc := HB.out.trans (sc.below (Nat.le_refl _))
    clear sc HI HW HR HB HJ HN hI3 this
    go_wp2_with (first
      | (refine wpList_load_row rfl 44 _ rfl w.heap.size rfl _ _ (0, 0) _ hIc Try.underlying44 rfl in_info ?_)
      | (refine wpList_store_row rfl 44 _ _ rfl (w.heap.size + 1) _ rfl rfl _ _ hZc in_info rfl (in_one _) ?_))
    (try simp only [Exit.inBlock, Exit.then])
    exact bodyPost_ret (results_cell_row rfl _ _ _ _ _ (0, 0) _ rfl (setRow_heap _ _ _ _ _ _ hZc) Try.underlying44 rfl in_info) rfl ⟨by rw [← HZ.out, ← H3.out]; rfl, below_setRow hBc (by omega) _⟩
end Go.Proofs.Ytedlfcmlchjjlaa
