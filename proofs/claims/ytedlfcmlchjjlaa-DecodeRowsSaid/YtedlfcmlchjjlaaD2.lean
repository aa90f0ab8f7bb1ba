
/- Instructions (chapter 9) in memory; counts, length, operandsMayBe, Check. -/
import Derived.Test.YtedlfcmlchjjlaaD1
import Derived.Test.YtedlfcmlchjjlaaQ3
import Derived.Laws.ResultCell
import Derived.Deep.DeepCutAuto
import Derived.BigQuiet
import Derived.Laws.Rows
namespace Go.Proofs.Ytedlfcmlchjjlaa
open Go.RowKit
set_option linter.unusedSimpArgs false
set_option linter.unusedVariables false
set_option maxRecDepth 100000

/-- An instruction's numbers: set, index, operation, displacement, immediate, length. -/
structure In where
  s : Int
  x : Int
  o : Int
  d : Int
  m : Int
  n : Int
instance (a b : In) : Decidable (a = b) := decidable_of_iff (a.s = b.s ∧ a.x = b.x ∧ a.o = b.o ∧ a.d = b.d ∧ a.m = b.m ∧ a.n = b.n) (by cases a; cases b; simp only [In.mk.injEq])
def In.cells (i : In) : Array Value := #[.int .i64 i.s, .int .i64 i.x, .int .i64 i.o, .int .i64 i.d, .int .i64 i.m, .int .i64 i.n]
def In.val (i : In) : Value := .agg i.cells
def zeroI : In := ⟨0, 0, 0, 0, 0, 0⟩
structure In.Wf (i : In) : Prop where
  s : (Lit.int .i64 i.s).wf = true
  x : (Lit.int .i64 i.x).wf = true
  o : (Lit.int .i64 i.o).wf = true
  d : (Lit.int .i64 i.d).wf = true
  m : (Lit.int .i64 i.m).wf = true
  n : (Lit.int .i64 i.n).wf = true
abbrev inO (i : In) : Obj := .cells #[.int .i64 i.s, .int .i64 i.x, .int .i64 i.o, .int .i64 i.d, .int .i64 i.m, .int .i64 i.n] 44
/-- A block that is an instruction. -/
def InW (w : World) (b : Nat) (i : In) : Prop := w.heap[b]? = some (.cells i.cells 44 (0, 0))
theorem InW.free {w : World} {b : Nat} {i : In} (h : InW w b i) (k : Nat) : w.frozen? ⟨b, k, none⟩ = false := frozen_of_row w b k _ _ h
theorem InW.lt {w : World} {b : Nat} {i : In} (h : InW w b i) : b < w.heap.size := (Array.getElem?_eq_some_iff.1 h).1
theorem InW.keep {w w' : World} {b : Nat} {i : In} (h : InW w b i) (hb : w'.heap[b]? = w.heap[b]?) : InW w' b i := hb.trans h
theorem InW.laid (w : World) (i : In) : InW (w.alloc (inO i)) w.heap.size i := heap_alloc_new _ _
theorem InW.below {w w' : World} {b B : Nat} {i : In} (h : InW w b i) (hb : Below B w w') (hB : b < B) : InW w' b i := h.keep (hb.block _ hB)
theorem InW.more {w : World} {b : Nat} {i : In} (h : InW w b i) (o : Obj) : InW (w.alloc o) b i := h.below ((Below.refl w.heap.size _).alloc (Nat.le_refl _) _) h.lt
theorem InW.at_ {w : World} {b : Nat} {i : In} (h : InW w b i) (k : Nat) (v : Value) (hv : i.cells[k]? = some v) : w.cell? ⟨b, k, none⟩ = some v := by rw [cell_of_row _ _ _ _ _ _ h]; exact hv
theorem InW.gs {w : World} {b : Nat} {i : In} (h : InW w b i) : w.cell? ⟨b, 0, none⟩ = some (.int .i64 i.s) := h.at_ 0 _ rfl
theorem InW.gx {w : World} {b : Nat} {i : In} (h : InW w b i) : w.cell? ⟨b, 1, none⟩ = some (.int .i64 i.x) := h.at_ 1 _ rfl
theorem InW.go {w : World} {b : Nat} {i : In} (h : InW w b i) : w.cell? ⟨b, 2, none⟩ = some (.int .i64 i.o) := h.at_ 2 _ rfl
theorem InW.gd {w : World} {b : Nat} {i : In} (h : InW w b i) : w.cell? ⟨b, 3, none⟩ = some (.int .i64 i.d) := h.at_ 3 _ rfl
theorem InW.gm {w : World} {b : Nat} {i : In} (h : InW w b i) : w.cell? ⟨b, 4, none⟩ = some (.int .i64 i.m) := h.at_ 4 _ rfl
theorem InW.gn {w : World} {b : Nat} {i : In} (h : InW w b i) : w.cell? ⟨b, 5, none⟩ = some (.int .i64 i.n) := h.at_ 5 _ rfl
theorem InW.pd {w : World} {b : Nat} {i : In} (h : InW w b i) (v : Int) : InW (w.setCell ⟨b, 3, none⟩ (.int .i64 v)) b { i with d := v } := by
  unfold InW at *; rw [heap_setCell_same w b 3 _ _ _ h]; rfl
theorem InW.pm {w : World} {b : Nat} {i : In} (h : InW w b i) (v : Int) : InW (w.setCell ⟨b, 4, none⟩ (.int .i64 v)) b { i with m := v } := by
  unfold InW at *; rw [heap_setCell_same w b 4 _ _ _ h]; rfl
theorem InW.pn {w : World} {b : Nat} {i : In} (h : InW w b i) (v : Int) : InW (w.setCell ⟨b, 5, none⟩ (.int .i64 v)) b { i with n := v } := by
  unfold InW at *; rw [heap_setCell_same w b 5 _ _ _ h]; rfl
theorem InW.po {w : World} {b : Nat} {i : In} (h : InW w b i) (v : Int) : InW (w.setCell ⟨b, 2, none⟩ (.int .i64 v)) b { i with o := v } := by
  unfold InW at *; rw [heap_setCell_same w b 2 _ _ _ h]; rfl
theorem in_val (i : In) : i.val = .agg #[.int .i64 i.s, .int .i64 i.x, .int .i64 i.o, .int .i64 i.d, .int .i64 i.m, .int .i64 i.n] := rfl
theorem in_info : (Try.prog.info? 44).map (·.size) = some 6 := by kernel_rfl
theorem in_one (i : In) : i.cells.all (·.oneCell') = true := by unfold In.cells; rw [List.all_toArray]; rfl

/-- The length that an instruction's numbers ask. -/
def In.len (i : In) : Int := lenI i.s i.x i.o
def In.ops (i : In) : Bool := fitsI i.d (num1 (needD i.s i.x i.o)) true && fitsI i.m (needN i.s i.x i.o) (jumpI i.s i.o)
def In.may (i : In) : Bool := isOneI i.s i.x i.o && (i.n == i.len && i.ops)

theorem c9_counts (i : In) (w : World) : Calls Try.prog 86 #[i.val] w fun e w' => e = .returned (.tuple #[.int .i64 (num1 (needD i.s i.x i.o)), .int .i64 (needN i.s i.x i.o)]) ∧ Below w.heap.size w w' := by
  have HN := Lib.hid (fun w => c9_needs i.s i.x i.o w)
  rw [in_val]
  obtain ⟨d, hd⟩ : ∃ d, needD i.s i.x i.o = d := ⟨_, rfl⟩
  rw [hd] at HN ⊢
  clear hd
  cases d
  all_goals
    go_enter Try.func86, Try.ntmps86
    go_wp2_with (go_at_call 69; (with_reducible refine (HN.out _).mono ?_); rintro e w' ⟨rfl, rfl⟩)
    all_goals
      go_ret2
      exact ⟨rfl, (Below.refl _ _).alloc (Nat.le_refl _) _⟩

theorem c9_length (i : In) (w : World) : Calls Try.prog 66 #[i.val] w fun e w' => e = .returned (.int .i64 i.len) ∧ Below w.heap.size w w' := by
  have HN := Lib.hid (fun w => c9_counts i w)
  obtain ⟨z, hz⟩ : ∃ z, i.len = z := ⟨_, rfl⟩
  rw [hz, in_val]
  unfold In.len lenI at hz
  have hn := needN_in i.s i.x i.o
  obtain ⟨b0, b1⟩ := num1_in (needD i.s i.x i.o)
  have hL := InW.laid w i
  have hb0 : Below w.heap.size w (w.alloc (inO i)) := (Below.refl _ _).alloc (Nat.le_refl _) _
  generalize num1 (needD i.s i.x i.o) = a at *
  generalize needN i.s i.x i.o = b at *
  obtain ⟨n0, n1⟩ := hn
  have HZ := Lib.hid hz
  clear hz
  go_enter Try.func66, Try.ntmps66
  go_wp2_with fail
  refine (HN.out _).mono ?_
  rintro e w1 ⟨rfl, hb⟩
  have hL1 := hL.below hb hL.lt
  have hB1 := hb0.trans (hb.mono hb0.size)
  have g0 := hL1.gs
  have g1 := hL1.gx
  clear hb hL hb0 hL1
  go_wp2
  all_goals
    go_ret
    refine ⟨ret_n ?_, hB1⟩
    rw [← HZ.out]
    unfold num1
    simp_all <;> omega

set_option maxHeartbeats 2000000 in
theorem c9_operands (i : In) (hi : i.Wf) (w : World) : Calls Try.prog 72 #[i.val] w fun e w' => e = .returned (.bool i.ops) ∧ Below w.heap.size w w' := by
  have HN := Lib.hid (fun w => c9_counts i w)
  have hn := needN_in i.s i.x i.o
  obtain ⟨b0, b1⟩ := num1_in (needD i.s i.x i.o)
  have HF := Lib.hid (fun w => c9_fits i.d (num1 (needD i.s i.x i.o)) true w (by omega) hi.d)
  have HG := Lib.hid (fun w => c9_fits i.m (needN i.s i.x i.o) (jumpI i.s i.o) w (by omega) hi.m)
  obtain ⟨z, hz⟩ : ∃ z, i.ops = z := ⟨_, rfl⟩
  rw [hz, in_val]
  unfold In.ops at hz
  have hL := InW.laid w i
  have hb0 : Below w.heap.size w (w.alloc (inO i)) := (Below.refl _ _).alloc (Nat.le_refl _) _
  generalize num1 (needD i.s i.x i.o) = a at *
  generalize needN i.s i.x i.o = b at *
  generalize fitsI i.d a true = f at *
  generalize fitsI i.m b (jumpI i.s i.o) = g at *
  have HZ := Lib.hid hz
  clear hz
  cases f with
  | false =>
    go_enter Try.func72, Try.ntmps72
    go_wp2_with fail
    refine (HN.out _).mono ?_
    rintro e w1 ⟨rfl, hb⟩
    have hL1 := hL.below hb hL.lt
    have hB1 := hb0.trans (hb.mono hb0.size)
    have hlt := hL1.lt
    have g0 : ∀ p : M.Of (M.Base w1), p.w.cell? ⟨w.heap.size, 0, none⟩ = some (.int .i64 i.s) := fun p => (hL1.below p.ok.2 hlt).gs
    have g2 : ∀ p : M.Of (M.Base w1), p.w.cell? ⟨w.heap.size, 2, none⟩ = some (.int .i64 i.o) := fun p => (hL1.below p.ok.2 hlt).go
    have g3 : ∀ p : M.Of (M.Base w1), p.w.cell? ⟨w.heap.size, 3, none⟩ = some (.int .i64 i.d) := fun p => (hL1.below p.ok.2 hlt).gd
    have g4 : ∀ p : M.Of (M.Base w1), p.w.cell? ⟨w.heap.size, 4, none⟩ = some (.int .i64 i.m) := fun p => (hL1.below p.ok.2 hlt).gm
    clear hb hL hb0 hL1 hlt
    go_upto_region 2 with fail
    refine M.region_ (by kernel_rfl) ?_
    refine M.seg_ [0, 1, 2] 13 _ _ (M.Base.refl _) (by kernel_rfl) (by kernel_rfl) (by kernel_rfl) (by simp only [pickOps, mask, plain, List.getElem?_toArray, List.getElem?_cons_zero, List.getElem?_cons_succ, if_true, Bool.false_eq_true, if_false]; rfl) ?_
    repeat (go_big_quiet_step (fail))
    refine wpQuiet_nil ?_
    clear g0 g2 g3 g4
    refine M.calm_ (i := 3) (.bool false) rfl (by kernel_rfl) (by kernel_rfl) (by kernel_rfl) (by kernel_rfl) ?_ ?_
    · intro wz sz
      unfold Oper.does
      go_simp
      exact (HF.out wz).mono fun e w' ⟨he, hw⟩ => ⟨_, he, rfl, hw ▸ Save.refl _ _⟩
    go_simp
    refine M.seg_ [4, 5, 6, 7, 8, 9, 10, 11, 12, 13, 14, 15] 0 _ _ (M.Base.refl _) (by kernel_rfl) (by kernel_rfl) (by kernel_rfl) (by simp only [pickOps, mask, plain, List.getElem?_toArray, List.getElem?_cons_zero, List.getElem?_cons_succ, if_true, Bool.false_eq_true, if_false]; rfl) ?_
    repeat (go_big_quiet_step (fail))
    refine wpQuiet_nil ?_
    refine M.end_ (by kernel_rfl) ?_
    intro wc sc
    go_wp2
    go_ret
    exact ⟨ret_b HZ.out, hB1.trans (sc.2.mono hB1.size)⟩
  | true =>
    go_enter Try.func72, Try.ntmps72
    go_wp2_with fail
    refine (HN.out _).mono ?_
    rintro e w1 ⟨rfl, hb⟩
    have hL1 := hL.below hb hL.lt
    have hB1 := hb0.trans (hb.mono hb0.size)
    have hlt := hL1.lt
    have g0 : ∀ p : M.Of (M.Base w1), p.w.cell? ⟨w.heap.size, 0, none⟩ = some (.int .i64 i.s) := fun p => (hL1.below p.ok.2 hlt).gs
    have g2 : ∀ p : M.Of (M.Base w1), p.w.cell? ⟨w.heap.size, 2, none⟩ = some (.int .i64 i.o) := fun p => (hL1.below p.ok.2 hlt).go
    have g3 : ∀ p : M.Of (M.Base w1), p.w.cell? ⟨w.heap.size, 3, none⟩ = some (.int .i64 i.d) := fun p => (hL1.below p.ok.2 hlt).gd
    have g4 : ∀ p : M.Of (M.Base w1), p.w.cell? ⟨w.heap.size, 4, none⟩ = some (.int .i64 i.m) := fun p => (hL1.below p.ok.2 hlt).gm
    clear hb hL hb0 hL1 hlt
    go_upto_region 2 with fail
    refine M.region_ (by kernel_rfl) ?_
    refine M.seg_ [0, 1, 2] 13 _ _ (M.Base.refl _) (by kernel_rfl) (by kernel_rfl) (by kernel_rfl) (by simp only [pickOps, mask, plain, List.getElem?_toArray, List.getElem?_cons_zero, List.getElem?_cons_succ, if_true, Bool.false_eq_true, if_false]; rfl) ?_
    repeat (go_big_quiet_step (fail))
    refine wpQuiet_nil ?_
    refine M.calm_ (i := 3) (.bool true) rfl (by kernel_rfl) (by kernel_rfl) (by kernel_rfl) (by kernel_rfl) ?_ ?_
    · intro wz sz
      unfold Oper.does
      go_simp
      exact (HF.out wz).mono fun e w' ⟨he, hw⟩ => ⟨_, he, rfl, hw ▸ Save.refl _ _⟩
    go_simp
    refine M.seg_ [4, 5, 6, 7, 8, 9, 10, 11] 4 _ _ (M.Base.refl _) (by kernel_rfl) (by kernel_rfl) (by kernel_rfl) (by simp only [pickOps, mask, plain, List.getElem?_toArray, List.getElem?_cons_zero, List.getElem?_cons_succ, if_true, Bool.false_eq_true, if_false]; rfl) ?_
    repeat (go_big_quiet_step (fail))
    refine wpQuiet_nil ?_
    clear g0 g2 g3 g4
    refine M.calm_ (i := 12) (.bool (jumpI i.s i.o)) rfl (by kernel_rfl) (by kernel_rfl) (by kernel_rfl) (by kernel_rfl) ?_ ?_
    · intro wz sz
      unfold Oper.does
      go_simp
      exact (c9_jumps _ _ wz).mono fun e w' ⟨he, hw⟩ => ⟨_, he, rfl, hw ▸ Save.refl _ _⟩
    go_simp
    refine M.calm_ (i := 13) (.bool g) rfl (by kernel_rfl) (by kernel_rfl) (by kernel_rfl) (by kernel_rfl) ?_ ?_
    · intro wz sz
      unfold Oper.does
      go_simp
      exact (HG.out wz).mono fun e w' ⟨he, hw⟩ => ⟨_, he, rfl, hw ▸ Save.refl _ _⟩
    go_simp
    refine M.seg_ [14, 15] 0 _ _ (M.Base.refl _) (by kernel_rfl) (by kernel_rfl) (by kernel_rfl) (by simp only [pickOps, mask, plain, List.getElem?_toArray, List.getElem?_cons_zero, List.getElem?_cons_succ, if_true, Bool.false_eq_true, if_false]; rfl) ?_
    repeat (go_big_quiet_step (fail))
    refine wpQuiet_nil ?_
    refine M.end_ (by kernel_rfl) ?_
    intro wc sc
    go_wp2
    go_ret
    exact ⟨ret_b HZ.out, hB1.trans (sc.2.mono hB1.size)⟩

theorem does_load_ins {P : Program} {o : Oper} {a : Act} {w : World} {next : Value → World → Prop} (ty : TypeId) (x : Operand) (ho : o.op = .load ty x) (g : Nat) (hx : a.eval x = .pointer (some ⟨g, 0, none⟩))
    (t : TypeId) (cs : Array Value) (fr : Nat × Nat) (d : TypeDesc) (hg : w.heap[g]? = some (.cells cs t fr)) (hu : P.underlying ty = some d) (hd : (match d with | .struct _ | .array _ _ => true | _ => false) = true) (hi : (P.info? ty).map (·.size) = some cs.size)
    (h : next (.agg cs) w) : Oper.does P o a w next := by
  unfold Oper.does execOp
  simp only [ho, hx, Instr.loadAt, asAddr, Instr.sureAddr, Sem.run_bind, Sem.run_pure, Result.andThen_ok, run_loadVar_row w g t ty cs fr d hg hu hd hi]
  exact h

set_option maxHeartbeats 4000000 in
theorem c9_check (i : In) (hi : i.Wf) (w : World) : Calls Try.prog 38 #[i.val] w fun e w' => e = .returned (.int .i64 (if i.may = true then 0 else 2)) ∧ Below w.heap.size w w' := by
  have HO := Lib.hid (fun w => c9_isone i.s i.x i.o w)
  have HN := Lib.hid (fun w => c9_length i w)
  have HP := Lib.hid (fun w => c9_operands i hi w)
  obtain ⟨z, hz⟩ : ∃ z : Int, (if i.may = true then 0 else 2) = z := ⟨_, rfl⟩
  rw [hz]
  unfold In.may at hz
  have hL := InW.laid w i
  have hb0 : Below w.heap.size w (w.alloc (inO i)) := (Below.refl _ _).alloc (Nat.le_refl _) _
  have hlt := hL.lt
  have g0 : ∀ p : M.Of (M.Base (w.alloc (inO i))), p.w.cell? ⟨w.heap.size, 0, none⟩ = some (.int .i64 i.s) := fun p => (hL.below p.ok.2 hlt).gs
  have g1 : ∀ p : M.Of (M.Base (w.alloc (inO i))), p.w.cell? ⟨w.heap.size, 1, none⟩ = some (.int .i64 i.x) := fun p => (hL.below p.ok.2 hlt).gx
  have g2 : ∀ p : M.Of (M.Base (w.alloc (inO i))), p.w.cell? ⟨w.heap.size, 2, none⟩ = some (.int .i64 i.o) := fun p => (hL.below p.ok.2 hlt).go
  have g5 : ∀ p : M.Of (M.Base (w.alloc (inO i))), p.w.cell? ⟨w.heap.size, 5, none⟩ = some (.int .i64 i.n) := fun p => (hL.below p.ok.2 hlt).gn
  have HL := Lib.hid hL
  obtain ⟨a, ha⟩ : ∃ a, isOneI i.s i.x i.o = a := ⟨_, rfl⟩
  obtain ⟨b, hb⟩ : ∃ b, (i.n == i.len) = b := ⟨_, rfl⟩
  obtain ⟨c, hc⟩ : ∃ c, i.ops = c := ⟨_, rfl⟩
  rw [ha, hb, hc] at hz
  rw [ha] at HO
  rw [hc] at HP
  have hb' : (i.n != i.len) = !b := by rw [bne, hb]
  obtain ⟨n, hn⟩ : ∃ n, i.len = n := ⟨_, rfl⟩
  rw [hn] at hb' HN
  have HZ := Lib.hid hz
  clear hz ha hb hc hn hL hlt
  rw [in_val]
  cases a with
  | false =>
    go_enter Try.func38, Try.ntmps38
    go_upto_region 1 with fail
    refine M.region_ (by kernel_rfl) ?_
    refine M.seg_ [0, 1, 2, 3, 4, 5] 14 _ _ (M.Base.refl _) (by kernel_rfl) (by kernel_rfl) (by kernel_rfl) (by simp only [pickOps, mask, plain, List.getElem?_toArray, List.getElem?_cons_zero, List.getElem?_cons_succ, if_true, Bool.false_eq_true, if_false]; rfl) ?_
    repeat (go_big_quiet_step (fail))
    refine wpQuiet_nil ?_
    refine M.calm_ (i := 6) (.bool false) rfl (by kernel_rfl) (by kernel_rfl) (by kernel_rfl) (by kernel_rfl) ?_ ?_
    · intro wz sz
      unfold Oper.does
      go_simp
      exact (HO.out wz).mono fun e w' ⟨he, hw⟩ => ⟨_, he, rfl, hw ▸ Save.refl _ _⟩
    go_simp
    refine M.seg_ [7, 8, 9, 10, 11, 12, 13, 14, 15, 16, 17, 18, 19] 0 _ _ (M.Base.refl _) (by kernel_rfl) (by kernel_rfl) (by kernel_rfl) (by simp only [pickOps, mask, plain, List.getElem?_toArray, List.getElem?_cons_zero, List.getElem?_cons_succ, if_true, Bool.false_eq_true, if_false]; rfl) ?_
    repeat (go_big_quiet_step (fail))
    refine wpQuiet_nil ?_
    clear g0 g1 g2 g5
    refine M.end_ (by kernel_rfl) ?_
    intro wc sc
    go_wp2
    go_ret
    exact ⟨ret_n HZ.out, hb0.trans (sc.2.mono hb0.size)⟩
  | true =>
    cases b with
    | false =>
      go_enter Try.func38, Try.ntmps38
      go_upto_region 1 with fail
      refine M.region_ (by kernel_rfl) ?_
      refine M.seg_ [0, 1, 2, 3, 4, 5] 14 _ _ (M.Base.refl _) (by kernel_rfl) (by kernel_rfl) (by kernel_rfl) (by simp only [pickOps, mask, plain, List.getElem?_toArray, List.getElem?_cons_zero, List.getElem?_cons_succ, if_true, Bool.false_eq_true, if_false]; rfl) ?_
      repeat (go_big_quiet_step (fail))
      refine wpQuiet_nil ?_
      refine M.calm_ (i := 6) (.bool true) rfl (by kernel_rfl) (by kernel_rfl) (by kernel_rfl) (by kernel_rfl) ?_ ?_
      · intro wz sz
        unfold Oper.does
        go_simp
        exact (HO.out wz).mono fun e w' ⟨he, hw⟩ => ⟨_, he, rfl, hw ▸ Save.refl _ _⟩
      go_simp
      refine M.seg_ [7, 8, 9, 10] 9 _ _ (M.Base.refl _) (by kernel_rfl) (by kernel_rfl) (by kernel_rfl) (by simp only [pickOps, mask, plain, List.getElem?_toArray, List.getElem?_cons_zero, List.getElem?_cons_succ, if_true, Bool.false_eq_true, if_false]; rfl) ?_
      repeat (go_big_quiet_step (fail))
      refine wpQuiet_nil ?_
      clear g0 g1 g2 g5
      refine M.calm_ (i := 11) i.val rfl (by kernel_rfl) (by kernel_rfl) (by kernel_rfl) (by kernel_rfl) ?_ ?_
      · intro wz sz
        exact does_load_ins 44 _ rfl _ rfl _ _ (0, 0) _ (HL.out.below sz.2 HL.out.lt) Try.underlying44 rfl in_info ⟨rfl, Save.refl _ _⟩
      go_simp
      refine M.calm_ (i := 12) (.int .i64 n) rfl (by kernel_rfl) (by kernel_rfl) (by kernel_rfl) (by kernel_rfl) ?_ ?_
      · intro wz sz
        unfold Oper.does
        go_simp
        exact (HN.out wz).mono fun e w' ⟨he, hw⟩ => ⟨_, he, rfl, Save.of_below hw⟩
      go_simp
      refine M.seg_ [13, 14, 15, 16, 17, 18, 19] 0 _ _ (M.Base.refl _) (by kernel_rfl) (by kernel_rfl) (by kernel_rfl) (by simp only [pickOps, mask, plain, List.getElem?_toArray, List.getElem?_cons_zero, List.getElem?_cons_succ, if_true, Bool.false_eq_true, if_false]; rfl) ?_
      repeat (go_big_quiet_step (fail))
      refine wpQuiet_nil ?_
      refine M.end_ (by kernel_rfl) ?_
      intro wc sc
      go_wp2
      go_ret
      exact ⟨ret_n HZ.out, hb0.trans (sc.2.mono hb0.size)⟩
    | true =>
      go_enter Try.func38, Try.ntmps38
      go_upto_region 1 with fail
      refine M.region_ (by kernel_rfl) ?_
      refine M.seg_ [0, 1, 2, 3, 4, 5] 14 _ _ (M.Base.refl _) (by kernel_rfl) (by kernel_rfl) (by kernel_rfl) (by simp only [pickOps, mask, plain, List.getElem?_toArray, List.getElem?_cons_zero, List.getElem?_cons_succ, if_true, Bool.false_eq_true, if_false]; rfl) ?_
      repeat (go_big_quiet_step (fail))
      refine wpQuiet_nil ?_
      refine M.calm_ (i := 6) (.bool true) rfl (by kernel_rfl) (by kernel_rfl) (by kernel_rfl) (by kernel_rfl) ?_ ?_
      · intro wz sz
        unfold Oper.does
        go_simp
        exact (HO.out wz).mono fun e w' ⟨he, hw⟩ => ⟨_, he, rfl, hw ▸ Save.refl _ _⟩
      go_simp
      refine M.seg_ [7, 8, 9, 10] 9 _ _ (M.Base.refl _) (by kernel_rfl) (by kernel_rfl) (by kernel_rfl) (by simp only [pickOps, mask, plain, List.getElem?_toArray, List.getElem?_cons_zero, List.getElem?_cons_succ, if_true, Bool.false_eq_true, if_false]; rfl) ?_
      repeat (go_big_quiet_step (fail))
      refine wpQuiet_nil ?_
      clear g0 g1 g2 g5
      refine M.calm_ (i := 11) i.val rfl (by kernel_rfl) (by kernel_rfl) (by kernel_rfl) (by kernel_rfl) ?_ ?_
      · intro wz sz
        exact does_load_ins 44 _ rfl _ rfl _ _ (0, 0) _ (HL.out.below sz.2 HL.out.lt) Try.underlying44 rfl in_info ⟨rfl, Save.refl _ _⟩
      go_simp
      refine M.calm_ (i := 12) (.int .i64 n) rfl (by kernel_rfl) (by kernel_rfl) (by kernel_rfl) (by kernel_rfl) ?_ ?_
      · intro wz sz
        unfold Oper.does
        go_simp
        exact (HN.out wz).mono fun e w' ⟨he, hw⟩ => ⟨_, he, rfl, Save.of_below hw⟩
      go_simp
      refine M.seg_ [13, 14, 15] 4 _ _ (M.Base.refl _) (by kernel_rfl) (by kernel_rfl) (by kernel_rfl) (by simp only [pickOps, mask, plain, List.getElem?_toArray, List.getElem?_cons_zero, List.getElem?_cons_succ, if_true, Bool.false_eq_true, if_false]; rfl) ?_
      repeat (go_big_quiet_step (fail))
      refine wpQuiet_nil ?_
      refine M.calm_ (i := 16) i.val rfl (by kernel_rfl) (by kernel_rfl) (by kernel_rfl) (by kernel_rfl) ?_ ?_
      · intro wz sz
        exact does_load_ins 44 _ rfl _ rfl _ _ (0, 0) _ (HL.out.below sz.2 HL.out.lt) Try.underlying44 rfl in_info ⟨rfl, Save.refl _ _⟩
      go_simp
      refine M.calm_ (i := 17) (.bool c) rfl (by kernel_rfl) (by kernel_rfl) (by kernel_rfl) (by kernel_rfl) ?_ ?_
      · intro wz sz
        unfold Oper.does
        go_simp
        exact (HP.out wz).mono fun e w' ⟨he, hw⟩ => ⟨_, he, rfl, Save.of_below hw⟩
      go_simp
      refine M.seg_ [18, 19] 0 _ _ (M.Base.refl _) (by kernel_rfl) (by kernel_rfl) (by kernel_rfl) (by simp only [pickOps, mask, plain, List.getElem?_toArray, List.getElem?_cons_zero, List.getElem?_cons_succ, if_true, Bool.false_eq_true, if_false]; rfl) ?_
      repeat (go_big_quiet_step (fail))
      refine wpQuiet_nil ?_
      refine M.end_ (by kernel_rfl) ?_
      intro wc sc
      go_wp2
      all_goals
        go_ret
        exact ⟨ret_n (by rw [← HZ.out]; simp_all), hb0.trans (sc.2.mono hb0.size)⟩

end Go.Proofs.Ytedlfcmlchjjlaa
