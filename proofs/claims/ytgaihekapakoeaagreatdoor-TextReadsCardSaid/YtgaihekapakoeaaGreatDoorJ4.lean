/-   -/
import Derived.Test.YtgaihekapakoeaaGreatDoorJ2
import Derived.Test.YtgaihekapakoeaaGreatDoorJ1
import Derived.Laws.ResultCell
import Derived.Deep.DeepCutAuto
import Derived.BigQuiet
import Derived.Laws.Rows
set_option linter.unusedVariables false
set_option linter.unusedSimpArgs false
namespace Go.Proofs.YtgaihekapakoeaaGreatDoor
open Go.RowKit


def isByteI (o : Int) : Bool := decide (0 ≤ o) && decide (o ≤ 255)
def idxB (c : Int) : Int := if c = 221 then 1 else if c = 253 then 2 else 0
def loneB (c : Int) : Bool := c == 237 || (c == 221 || c == 253)
def hlI (o : Int) : Bool :=
 if o / 64 = 0 then (o == 52 || o == 53) || o == 54 else if o / 64 = 1 then (o / 8 % 8 == 6 || o % 8 == 6) && o != 118 else if o / 64 = 2 then o % 8 == 6 else false
def relI (o : Int) : Bool := o == 16 || (o == 24 || (o == 32 || (o == 40 || (o == 48 || o == 56))))
def jumpI (s o : Int) : Bool := relI o && s == 0
def one9 (o : Int) : Bool := o == 211 || o == 219
def two9 (o : Int) : Bool := o == 34 || (o == 42 || (o == 50 || (o == 58 || (o == 195 || o == 205))))
def immM (o : Int) : Int :=
 if one9 o = true then 1 else if two9 o = true then 2
 else if ((o / 64 == 0 || o / 64 == 3) && o % 8 == 6) || relI o then 1
 else if (o / 64 == 0 && (o % 8 == 1 && o / 8 % 2 == 0)) || (o / 64 == 3 && (o % 8 == 2 || o % 8 == 4)) then 2 else 0
def immX (o : Int) : Int := if o / 64 = 1 ∧ o % 8 = 3 then 2 else 0
def isOneI (s x o : Int) : Bool :=
 isByteI o && (if s = 0 then (if x = 1 ∨ x = 2 then o != 203 && !loneB o else x == 0 && (o != 203 && o != 237)) else if s = 1 ∨ s = 2 then x == 0 else s == 3 && (x == 1 || x == 2))
def needD (s x o : Int) : Bool := isOneI s x o && (if s = 0 then x != 0 && hlI o else s == 3)
def needN (s x o : Int) : Int := if isOneI s x o = true then (if s = 0 then immM o else if s = 2 then immX o else 0) else 0
def lenI (s x o : Int) : Int := 1 + num1 (needD s x o) + needN s x o + num1 (x != 0) + num1 (s != 0)
def fitsI (v c : Int) (sg : Bool) : Bool :=
 if c = 0 then v == 0 else if sg = true then (if c = 1 then decide (-128 ≤ v) && decide (v ≤ 127) else decide (-32768 ≤ v) && decide (v ≤ 32767)) else (if c = 1 then decide (0 ≤ v) && decide (v ≤ 255) else decide (0 ≤ v) && decide (v ≤ 65535))

theorem immM_in (o : Int) : 0 ≤ immM o ∧ immM o ≤ 2 := by unfold immM; repeat' split <;> omega
theorem immX_in (o : Int) : 0 ≤ immX o ∧ immX o ≤ 2 := by unfold immX; repeat' split <;> omega
theorem needN_in (s x o : Int) : 0 ≤ needN s x o ∧ needN s x o ≤ 2 := by
 unfold needN; have := immM_in o; have := immX_in o; repeat' split
 all_goals omega
theorem isOneI_byte {s x o : Int} (h : isOneI s x o = true) : 0 ≤ o ∧ o < 256 := by
 unfold isOneI isByteI at h; simp only [Bool.and_eq_true, decide_eq_true_eq] at h; omega

theorem ret_b {a b : Bool} (h : a = b) : Ending.returned (.bool a) = .returned (.bool b) := by rw [h]
theorem ret_n {a b : Int} (h : a = b) : Ending.returned (.int .i64 a) = .returned (.int .i64 b) := by rw [h]
theorem ret_bn {a b : Bool} {c d : Int} (h : a = b) (k : c = d) : Ending.returned (.tuple #[.bool a, .int .i64 c]) = .returned (.tuple #[.bool b, .int .i64 d]) := by rw [h, k]
theorem c9_isbyte (o : Int) (w : World) : Calls Tryz.prog 149 #[.int .i64 o] w fun e w' => e = .returned (.bool (isByteI o)) ∧ w = w' := by
 go_enter Tryz.func149, Tryz.ntmps149
 go_wp2
 all_goals
  go_ret
  exact ⟨ret_b (by unfold isByteI; simp_all <;> omega), rfl⟩

theorem c9_indexof (c : Int) (w : World) : Calls Tryz.prog 144 #[.int .u8 c] w fun e w' => e = .returned (.int .i64 (idxB c)) ∧ w = w' := by
 go_enter Tryz.func144, Tryz.ntmps144
 go_wp2
 all_goals
  go_ret
  exact ⟨ret_n (by unfold idxB; simp_all), rfl⟩

theorem idxB_zero (c : Int) : (idxB c != 0) = (c == 221 || c == 253) := by
 unfold idxB
 by_cases h1 : c = 221
 ·subst h1; rfl
 ·by_cases h2 : c = 253
  ·subst h2; rfl
  ·rw [if_neg h1, if_neg h2, beq_eq_false_iff_ne.2 h1, beq_eq_false_iff_ne.2 h2]; rfl
theorem c9_lone (c : Int) (w : World) : Calls Tryz.prog 145 #[.int .u8 c] w fun e w' => e = .returned (.bool (loneB c)) ∧ w = w' := by
 by_cases h : c = 237
 ·subst h
  go_enter Tryz.func145, Tryz.ntmps145
  go_wp2
  go_ret
  exact ⟨rfl, rfl⟩
 ·have h1 : (c == 237) = false := beq_eq_false_iff_ne.2 h
  have hz := z_ (idxB_zero c)
  go_enter Tryz.func145, Tryz.ntmps145
  go_wp2_with (go_at_call 144; (with_reducible refine (c9_indexof _ _).mono ?_); rintro e w' ⟨rfl, rfl⟩)
  go_ret
  exact ⟨ret_b (by rw [hz.out]; unfold loneB; rw [h1]; rfl), rfl⟩

theorem and_255 (o : Int) (h0 : 0 ≤ o) (h1 : o < 256) : bits .and .i64 o 255 = o := byte_all (P := fun o => bits .and .i64 o 255 = o) (by decide +kernel) o h0 h1
theorem and_7 (o : Int) (h0 : 0 ≤ o) (h1 : o < 256) : bits .and .i64 o 7 = o % 8 := byte_all (P := fun o => bits .and .i64 o 7 = o % 8) (by decide +kernel) o h0 h1
theorem and_1 (o : Int) (h0 : 0 ≤ o) (h1 : o < 256) : bits .and .i64 o 1 = o % 2 := byte_all (P := fun o => bits .and .i64 o 1 = o % 2) (by decide +kernel) o h0 h1

theorem results_tmp5 {fn : Func} {t u v x y : Tmp} (h : fn.results = #[.tmp t, .tmp u, .tmp v, .tmp x, .tmp y]) (tmps : Array Value) (P : Program) (w : World) :
  (results fn tmps).run P w = .ok (.tuple #[tmps.getD t undef, tmps.getD u undef, tmps.getD v undef, tmps.getD x undef, tmps.getD y undef]) w := by
 simp [results, h]

theorem c9_parts (o : Int) (w : World) (h0 : 0 ≤ o) (h1 : o < 256) : Calls Tryz.prog 67 #[.int .i64 o] w fun e w' =>
  e = .returned (.tuple #[.int .i64 (o / 64), .int .i64 (o / 8 % 8), .int .i64 (o % 8), .int .i64 (o / 8 % 8 / 2), .int .i64 (o / 8 % 2)]) ∧ w = w' := by
 have q1 := and_255 o h0 h1
 have q2 := and_7 o h0 h1
 have q3 := and_7 (o / 8) (by omega) (by omega)
 have q4 := and_1 (o / 8 % 8) (by omega) (by omega)
 go_enter Tryz.func67, Tryz.ntmps67
 go_wp2
 (try simp only [Exit.inBlock, Exit.then])
 refine bodyPost_ret (results_tmp5 rfl _ _ _) rfl ?_
 exact ⟨rfl, rfl⟩

theorem c9_jumps (s o : Int) (w : World) : Calls Tryz.prog 148 #[.int .i64 s, .int .i64 o] w fun e w' => e = .returned (.bool (jumpI s o)) ∧ w = w' := by
 go_enter Tryz.func148, Tryz.ntmps148
 go_wp2
 all_goals
  go_ret
  exact ⟨ret_b (by unfold jumpI relI; simp_all), rfl⟩

theorem c9_byhl (o : Int) (w : World) (h0 : 0 ≤ o) (h1 : o < 256) : Calls Tryz.prog 114 #[.int .i64 o] w fun e w' => e = .returned (.bool (hlI o)) ∧ w = w' := by
 have q0 : 0 ≤ o / 64 := by omega
 have q1 : o / 64 < 4 := by omega
 go_enter Tryz.func114, Tryz.ntmps114
 go_wp2_with (go_at_call 67; (with_reducible refine (c9_parts _ _ h0 h1).mono ?_); rintro e w' ⟨rfl, rfl⟩)
 all_goals
  go_ret
  exact ⟨ret_b (by unfold hlI; simp_all), rfl⟩


theorem c9_immmain (o : Int) (w : World) (h0 : 0 ≤ o) (h1 : o < 256) : Calls Tryz.prog 115 #[.int .i64 o] w fun e w' => e = .returned (.int .i64 (immM o)) ∧ w = w' := by
 obtain ⟨z, hz⟩ : ∃ z, immM o = z := ⟨_, rfl⟩
 rw [hz]
 have HZ := z_ hz
 clear hz
 go_enter Tryz.func115, Tryz.ntmps115
 go_wp2_with (first
  | (go_at_call 67; (with_reducible refine (c9_parts _ _ h0 h1).mono ?_); rintro e w' ⟨rfl, rfl⟩)
  | (go_at_call 148; (with_reducible refine (c9_jumps _ _ _).mono ?_); rintro e w' ⟨rfl, rfl⟩))
 all_goals
  go_ret
  exact ⟨ret_n (by rw [← HZ.out]; unfold immM one9 two9; simp_all [jumpI]), rfl⟩

theorem c9_immmore (o : Int) (w : World) (h0 : 0 ≤ o) (h1 : o < 256) : Calls Tryz.prog 116 #[.int .i64 o] w fun e w' => e = .returned (.int .i64 (immX o)) ∧ w = w' := by
 go_enter Tryz.func116, Tryz.ntmps116
 go_wp2_with (go_at_call 67; (with_reducible refine (c9_parts _ _ h0 h1).mono ?_); rintro e w' ⟨rfl, rfl⟩)
 all_goals
  go_ret
  exact ⟨ret_n (by unfold immX; simp_all), rfl⟩

theorem c9_isone (s x o : Int) (w : World) : Calls Tryz.prog 112 #[.int .i64 s, .int .i64 x, .int .i64 o] w fun e w' => e = .returned (.bool (isOneI s x o)) ∧ w = w' := by
 obtain ⟨z, hz⟩ : ∃ z, isOneI s x o = z := ⟨_, rfl⟩
 rw [hz]
 unfold isOneI at hz
 obtain ⟨b, hb⟩ : ∃ b, isByteI o = b := ⟨_, rfl⟩
 rw [hb] at hz
 have HB := z_ (fun w => c9_isbyte o w)
 rw [hb] at HB
 have hw : b = true → IntKind.u8.wrap o = o := by
  intro h; subst h
  unfold isByteI at hb
  simp only [Bool.and_eq_true, decide_eq_true_eq] at hb
  rw [wrap_u8]; omega
 cases b with
 | false =>
  have HZ := z_ hz
  clear hz hb hw
  go_enter Tryz.func112, Tryz.ntmps112
  go_wp2_with (go_at_call 149; (with_reducible refine (HB.out _).mono ?_); rintro e w' ⟨rfl, rfl⟩)
  all_goals
   go_ret
   exact ⟨ret_b HZ.out, rfl⟩
 | true =>
  have hw' := hw rfl
  have HL := z_ (fun w => c9_lone o w)
  rw [Bool.true_and] at hz
  have HZ := z_ hz
  clear hz hb hw
  go_enter Tryz.func112, Tryz.ntmps112
  go_wp2_with (first
   | (go_at_call 149; (with_reducible refine (HB.out _).mono ?_); rintro e w' ⟨rfl, rfl⟩)
   | (go_at_call 145; (with_reducible refine (HL.out _).mono ?_); rintro e w' ⟨rfl, rfl⟩))
  all_goals
   go_ret
   exact ⟨ret_b (by rw [← HZ.out]; simp_all), rfl⟩

theorem c9_needs (s x o : Int) (w : World) : Calls Tryz.prog 63 #[.int .i64 s, .int .i64 x, .int .i64 o] w fun e w' => e = .returned (.tuple #[.bool (needD s x o), .int .i64 (needN s x o)]) ∧ w = w' := by
 obtain ⟨d, hd⟩ : ∃ z, needD s x o = z := ⟨_, rfl⟩
 obtain ⟨n, hn⟩ : ∃ z, needN s x o = z := ⟨_, rfl⟩
 rw [hd, hn]
 unfold needD at hd
 unfold needN at hn
 have HO := z_ (fun w => c9_isone s x o w)
 have hby := @isOneI_byte s x o
 obtain ⟨b, hb⟩ : ∃ b, isOneI s x o = b := ⟨_, rfl⟩
 rw [hb] at hd hn HO hby
 clear hb
 cases b with
 | false =>
  have HD := z_ hd
  have HN := z_ hn
  clear hd hn hby
  go_enter Tryz.func63, Tryz.ntmps63
  go_wp2_with (go_at_call 112; (with_reducible refine (HO.out _).mono ?_); rintro e w' ⟨rfl, rfl⟩)
  all_goals
   go_ret2
   exact ⟨ret_bn HD.out HN.out, rfl⟩
 | true =>
  obtain ⟨o0, o1⟩ := hby rfl
  have HH := z_ (fun w => c9_byhl o w o0 o1)
  have HM := z_ (fun w => c9_immmain o w o0 o1)
  have HX := z_ (fun w => c9_immmore o w o0 o1)
  generalize hlI o = u at *
  generalize immM o = v at *
  generalize immX o = y at *
  have HD := z_ hd
  have HN := z_ hn
  clear hd hn hby
  go_enter Tryz.func63, Tryz.ntmps63
  go_wp2_with (first
   | (go_at_call 112; (with_reducible refine (HO.out _).mono ?_); rintro e w' ⟨rfl, rfl⟩)
   | (go_at_call 114; (with_reducible refine (HH.out _).mono ?_); rintro e w' ⟨rfl, rfl⟩)
   | (go_at_call 115; (with_reducible refine (HM.out _).mono ?_); rintro e w' ⟨rfl, rfl⟩)
   | (go_at_call 116; (with_reducible refine (HX.out _).mono ?_); rintro e w' ⟨rfl, rfl⟩))
  all_goals
   go_ret2
   exact ⟨ret_bn (by rw [← HD.out]; simp_all) (by rw [← HN.out]; simp_all), rfl⟩

theorem c9_fits (v c : Int) (sg : Bool) (w : World) (hc : c = 0 ∨ c = 1 ∨ c = 2) (wv : (Lit.int .i64 v).wf = true) : Calls Tryz.prog 150 #[.int .i64 v, .int .i64 c, .bool sg] w fun e w' => e = .returned (.bool (fitsI v c sg)) ∧ w = w' := by
 have hv := bounds_i64 wv
 obtain rfl | rfl | rfl := hc
 all_goals
  cases sg
  all_goals
   go_enter Tryz.func150, Tryz.ntmps150
   go_wp2
   all_goals
    go_ret
    exact ⟨ret_b (by unfold fitsI; rw [Bool.eq_iff_iff]; simp only [decide_eq_true_eq, beq_iff_eq, Bool.and_eq_true, if_true, if_false, Int.reduceEq, Bool.false_eq_true, reduceIte, decide_eq_false_iff_not, true_and, false_and, iff_true, iff_false, true_iff, false_iff] at *; omega), rfl⟩

end Go.Proofs.YtgaihekapakoeaaGreatDoor
namespace Go.Proofs.YtgaihekapakoeaaGreatDoor
open Go.RowKit


set_option maxRecDepth 100000

structure In where
 s : Int
 x : Int
 o : Int
 d : Int
 m : Int
 n : Int
instance (a b : In) : Decidable (a = b) := decidable_of_iff (a.s = b.s ∧ a.x = b.x ∧ a.o = b.o ∧ a.d = b.d ∧ a.m = b.m ∧ a.n = b.n) (by cases a; cases b; simp only [In.mk.injEq])
def In.cells (i : In) : Array Value := #[.int .i64 i.s, .int .i64 i.x, .int .i64 i.o, .int .i64 i.d, .int .i64 i.m, .int .i64 i.n]
def In.val (i : In) : Value := .agg i.cells
def zeroI : In := ⟨0, 0, 0, 0, 0, 0⟩
structure In.Wf (i : In) : Prop where
 s : (Lit.int .i64 i.s).wf = true
 x : (Lit.int .i64 i.x).wf = true
 o : (Lit.int .i64 i.o).wf = true
 d : (Lit.int .i64 i.d).wf = true
 m : (Lit.int .i64 i.m).wf = true
 n : (Lit.int .i64 i.n).wf = true
abbrev inO (i : In) : Obj := .cells #[.int .i64 i.s, .int .i64 i.x, .int .i64 i.o, .int .i64 i.d, .int .i64 i.m, .int .i64 i.n] 23
def InW (w : World) (b : Nat) (i : In) : Prop := w.heap[b]? = some (.cells i.cells 23 (0, 0))
theorem InW.free {w : World} {b : Nat} {i : In} (h : InW w b i) (k : Nat) : w.frozen? ⟨b, k, none⟩ = false := frozen_of_row w b k _ _ h
theorem InW.lt {w : World} {b : Nat} {i : In} (h : InW w b i) : b < w.heap.size := (Array.getElem?_eq_some_iff.1 h).1
theorem InW.keep {w w' : World} {b : Nat} {i : In} (h : InW w b i) (hb : w'.heap[b]? = w.heap[b]?) : InW w' b i := hb.trans h
theorem InW.laid (w : World) (i : In) : InW (w.alloc (inO i)) w.heap.size i := heap_alloc_new _ _
theorem InW.below {w w' : World} {b B : Nat} {i : In} (h : InW w b i) (hb : Below B w w') (hB : b < B) : InW w' b i := h.keep (hb.block _ hB)
theorem InW.more {w : World} {b : Nat} {i : In} (h : InW w b i) (o : Obj) : InW (w.alloc o) b i := h.below ((Below.refl w.heap.size _).alloc (Nat.le_refl _) _) h.lt
theorem InW.at_ {w : World} {b : Nat} {i : In} (h : InW w b i) (k : Nat) (v : Value) (hv : i.cells[k]? = some v) : w.cell? ⟨b, k, none⟩ = some v := by rw [cell_of_row _ _ _ _ _ _ h]; exact hv
theorem InW.gs {w : World} {b : Nat} {i : In} (h : InW w b i) : w.cell? ⟨b, 0, none⟩ = some (.int .i64 i.s) := h.at_ 0 _ rfl
theorem InW.gx {w : World} {b : Nat} {i : In} (h : InW w b i) : w.cell? ⟨b, 1, none⟩ = some (.int .i64 i.x) := h.at_ 1 _ rfl
theorem InW.go {w : World} {b : Nat} {i : In} (h : InW w b i) : w.cell? ⟨b, 2, none⟩ = some (.int .i64 i.o) := h.at_ 2 _ rfl
theorem InW.gd {w : World} {b : Nat} {i : In} (h : InW w b i) : w.cell? ⟨b, 3, none⟩ = some (.int .i64 i.d) := h.at_ 3 _ rfl
theorem InW.gm {w : World} {b : Nat} {i : In} (h : InW w b i) : w.cell? ⟨b, 4, none⟩ = some (.int .i64 i.m) := h.at_ 4 _ rfl
theorem InW.gn {w : World} {b : Nat} {i : In} (h : InW w b i) : w.cell? ⟨b, 5, none⟩ = some (.int .i64 i.n) := h.at_ 5 _ rfl
theorem InW.pd {w : World} {b : Nat} {i : In} (h : InW w b i) (v : Int) : InW (w.setCell ⟨b, 3, none⟩ (.int .i64 v)) b { i with d := v } := by
 unfold InW at *; rw [heap_setCell_same w b 3 _ _ _ h]; rfl
theorem InW.pm {w : World} {b : Nat} {i : In} (h : InW w b i) (v : Int) : InW (w.setCell ⟨b, 4, none⟩ (.int .i64 v)) b { i with m := v } := by
 unfold InW at *; rw [heap_setCell_same w b 4 _ _ _ h]; rfl
theorem InW.pn {w : World} {b : Nat} {i : In} (h : InW w b i) (v : Int) : InW (w.setCell ⟨b, 5, none⟩ (.int .i64 v)) b { i with n := v } := by
 unfold InW at *; rw [heap_setCell_same w b 5 _ _ _ h]; rfl
theorem InW.po {w : World} {b : Nat} {i : In} (h : InW w b i) (v : Int) : InW (w.setCell ⟨b, 2, none⟩ (.int .i64 v)) b { i with o := v } := by
 unfold InW at *; rw [heap_setCell_same w b 2 _ _ _ h]; rfl
theorem in_val (i : In) : i.val = .agg #[.int .i64 i.s, .int .i64 i.x, .int .i64 i.o, .int .i64 i.d, .int .i64 i.m, .int .i64 i.n] := rfl
theorem in_info : (Tryz.prog.info? 23).map (·.size) = some 6 := by kernel_rfl
theorem in_one (i : In) : i.cells.all (·.oneCell') = true := by unfold In.cells; rw [List.all_toArray]; rfl

def In.len (i : In) : Int := lenI i.s i.x i.o
def In.ops (i : In) : Bool := fitsI i.d (num1 (needD i.s i.x i.o)) true && fitsI i.m (needN i.s i.x i.o) (jumpI i.s i.o)
def In.may (i : In) : Bool := isOneI i.s i.x i.o && (i.n == i.len && i.ops)

theorem c9_counts (i : In) (w : World) : Calls Tryz.prog 146 #[i.val] w fun e w' => e = .returned (.tuple #[.int .i64 (num1 (needD i.s i.x i.o)), .int .i64 (needN i.s i.x i.o)]) ∧ Below w.heap.size w w' := by
 have HN := z_ (fun w => c9_needs i.s i.x i.o w)
 rw [in_val]
 obtain ⟨d, hd⟩ : ∃ d, needD i.s i.x i.o = d := ⟨_, rfl⟩
 rw [hd] at HN ⊢
 clear hd
 cases d
 all_goals
  go_enter Tryz.func146, Tryz.ntmps146
  go_wp2_with (go_at_call 63; (with_reducible refine (HN.out _).mono ?_); rintro e w' ⟨rfl, rfl⟩)
  all_goals
   go_ret2
   exact ⟨rfl, (Below.refl _ _).alloc (Nat.le_refl _) _⟩

theorem c9_length (i : In) (w : World) : Calls Tryz.prog 110 #[i.val] w fun e w' => e = .returned (.int .i64 i.len) ∧ Below w.heap.size w w' := by
 have HN := z_ (fun w => c9_counts i w)
 obtain ⟨z, hz⟩ : ∃ z, i.len = z := ⟨_, rfl⟩
 rw [hz, in_val]
 unfold In.len lenI at hz
 have hn := needN_in i.s i.x i.o
 obtain ⟨b0, b1⟩ := num1_in (needD i.s i.x i.o)
 have hL := InW.laid w i
 have hb0 : Below w.heap.size w (w.alloc (inO i)) := (Below.refl _ _).alloc (Nat.le_refl _) _
 generalize num1 (needD i.s i.x i.o) = a at *
 generalize needN i.s i.x i.o = b at *
 obtain ⟨n0, n1⟩ := hn
 have HZ := z_ hz
 clear hz
 go_enter Tryz.func110, Tryz.ntmps110
 go_wp2_with fail
 refine (HN.out _).mono ?_
 rintro e w1 ⟨rfl, hb⟩
 have hL1 := hL.below hb hL.lt
 have hB1 := hb0.trans (hb.mono hb0.size)
 have g0 := hL1.gs
 have g1 := hL1.gx
 clear hb hL hb0 hL1
 go_wp2
 all_goals
  go_ret
  refine ⟨ret_n ?_, hB1⟩
  rw [← HZ.out]
  unfold num1
  simp_all <;> omega

set_option maxHeartbeats 2000000 in
theorem c9_operands (i : In) (hi : i.Wf) (w : World) : Calls Tryz.prog 113 #[i.val] w fun e w' => e = .returned (.bool i.ops) ∧ Below w.heap.size w w' := by
 have HN := z_ (fun w => c9_counts i w)
 have hn := needN_in i.s i.x i.o
 obtain ⟨b0, b1⟩ := num1_in (needD i.s i.x i.o)
 have HF := z_ (fun w => c9_fits i.d (num1 (needD i.s i.x i.o)) true w (by omega) hi.d)
 have HG := z_ (fun w => c9_fits i.m (needN i.s i.x i.o) (jumpI i.s i.o) w (by omega) hi.m)
 obtain ⟨z, hz⟩ : ∃ z, i.ops = z := ⟨_, rfl⟩
 rw [hz, in_val]
 unfold In.ops at hz
 have hL := InW.laid w i
 have hb0 : Below w.heap.size w (w.alloc (inO i)) := (Below.refl _ _).alloc (Nat.le_refl _) _
 generalize num1 (needD i.s i.x i.o) = a at *
 generalize needN i.s i.x i.o = b at *
 generalize fitsI i.d a true = f at *
 generalize fitsI i.m b (jumpI i.s i.o) = g at *
 have HZ := z_ hz
 clear hz
 cases f with
 | false =>
  go_enter Tryz.func113, Tryz.ntmps113
  go_wp2_with fail
  refine (HN.out _).mono ?_
  rintro e w1 ⟨rfl, hb⟩
  have hL1 := hL.below hb hL.lt
  have hB1 := hb0.trans (hb.mono hb0.size)
  have hlt := hL1.lt
  have g0 : ∀ p : M.Of (M.Base w1), p.w.cell? ⟨w.heap.size, 0, none⟩ = some (.int .i64 i.s) := fun p => (hL1.below p.ok.2 hlt).gs
  have g2 : ∀ p : M.Of (M.Base w1), p.w.cell? ⟨w.heap.size, 2, none⟩ = some (.int .i64 i.o) := fun p => (hL1.below p.ok.2 hlt).go
  have g3 : ∀ p : M.Of (M.Base w1), p.w.cell? ⟨w.heap.size, 3, none⟩ = some (.int .i64 i.d) := fun p => (hL1.below p.ok.2 hlt).gd
  have g4 : ∀ p : M.Of (M.Base w1), p.w.cell? ⟨w.heap.size, 4, none⟩ = some (.int .i64 i.m) := fun p => (hL1.below p.ok.2 hlt).gm
  clear hb hL hb0 hL1 hlt
  go_upto_region 2 with fail
  refine M.rg ?_
  refine M.sg [0, 1, 2] 13 ?_
  repeat (go_big_quiet_step (fail))
  refine wpQuiet_nil ?_
  clear g0 g2 g3 g4
  refine M.cm 3 (.bool false) ?_ ?_
  ·intro wz sz
   unfold Oper.does
   go_simp
   exact (HF.out wz).mono fun e w' ⟨he, hw⟩ => ⟨_, he, rfl, hw ▸ Save.refl _ _⟩
  go_simp
  refine M.sg [4, 5, 6, 7, 8, 9, 10, 11, 12, 13, 14, 15] 0 ?_
  repeat (go_big_quiet_step (fail))
  refine wpQuiet_nil ?_
  refine M.en ?_
  intro wc sc
  go_wp2
  go_ret
  exact ⟨ret_b HZ.out, hB1.trans (sc.2.mono hB1.size)⟩
 | true =>
  go_enter Tryz.func113, Tryz.ntmps113
  go_wp2_with fail
  refine (HN.out _).mono ?_
  rintro e w1 ⟨rfl, hb⟩
  have hL1 := hL.below hb hL.lt
  have hB1 := hb0.trans (hb.mono hb0.size)
  have hlt := hL1.lt
  have g0 : ∀ p : M.Of (M.Base w1), p.w.cell? ⟨w.heap.size, 0, none⟩ = some (.int .i64 i.s) := fun p => (hL1.below p.ok.2 hlt).gs
  have g2 : ∀ p : M.Of (M.Base w1), p.w.cell? ⟨w.heap.size, 2, none⟩ = some (.int .i64 i.o) := fun p => (hL1.below p.ok.2 hlt).go
  have g3 : ∀ p : M.Of (M.Base w1), p.w.cell? ⟨w.heap.size, 3, none⟩ = some (.int .i64 i.d) := fun p => (hL1.below p.ok.2 hlt).gd
  have g4 : ∀ p : M.Of (M.Base w1), p.w.cell? ⟨w.heap.size, 4, none⟩ = some (.int .i64 i.m) := fun p => (hL1.below p.ok.2 hlt).gm
  clear hb hL hb0 hL1 hlt
  go_upto_region 2 with fail
  refine M.rg ?_
  refine M.sg [0, 1, 2] 13 ?_
  repeat (go_big_quiet_step (fail))
  refine wpQuiet_nil ?_
  refine M.cm 3 (.bool true) ?_ ?_
  ·intro wz sz
   unfold Oper.does
   go_simp
   exact (HF.out wz).mono fun e w' ⟨he, hw⟩ => ⟨_, he, rfl, hw ▸ Save.refl _ _⟩
  go_simp
  refine M.sg [4, 5, 6, 7, 8, 9, 10, 11] 4 ?_
  repeat (go_big_quiet_step (fail))
  refine wpQuiet_nil ?_
  clear g0 g2 g3 g4
  refine M.cm 12 (.bool (jumpI i.s i.o)) ?_ ?_
  ·intro wz sz
   unfold Oper.does
   go_simp
   exact (c9_jumps _ _ wz).mono fun e w' ⟨he, hw⟩ => ⟨_, he, rfl, hw ▸ Save.refl _ _⟩
  go_simp
  refine M.cm 13 (.bool g) ?_ ?_
  ·intro wz sz
   unfold Oper.does
   go_simp
   exact (HG.out wz).mono fun e w' ⟨he, hw⟩ => ⟨_, he, rfl, hw ▸ Save.refl _ _⟩
  go_simp
  refine M.sg [14, 15] 0 ?_
  repeat (go_big_quiet_step (fail))
  refine wpQuiet_nil ?_
  refine M.en ?_
  intro wc sc
  go_wp2
  go_ret
  exact ⟨ret_b HZ.out, hB1.trans (sc.2.mono hB1.size)⟩

theorem does_load_ins {P : Program} {o : Oper} {a : Act} {w : World} {next : Value → World → Prop} (ty : TypeId) (x : Operand) (ho : o.op = .load ty x) (g : Nat) (hx : a.eval x = .pointer (some ⟨g, 0, none⟩))
  (t : TypeId) (cs : Array Value) (fr : Nat × Nat) (d : TypeDesc) (hg : w.heap[g]? = some (.cells cs t fr)) (hu : P.underlying ty = some d) (hd : (match d with | .struct _ | .array _ _ => true | _ => false) = true) (hi : (P.info? ty).map (·.size) = some cs.size)
  (h : next (.agg cs) w) : Oper.does P o a w next := by
 unfold Oper.does execOp
 simp only [ho, hx, Instr.loadAt, asAddr, Instr.sureAddr, Sem.run_bind, Sem.run_pure, Result.andThen_ok, run_loadVar_row w g t ty cs fr d hg hu hd hi]
 exact h
theorem lr {ops : Array Oper} {rest : List Oper} {o : Oper} {a : Act} {w : World} {Q : Exit → Act → World → Prop} {x : Operand} {cs : Array Value} (g : Nat) (h1 : o.guard = none) (ho : o.op = .load 23 x) (hx : a.eval x = .pointer (some ⟨g, 0, none⟩)) (hg : w.heap[g]? = some (.cells cs 23 (0, 0)))
 (h : wpList Tryz.prog ops Q rest (a.put o.dst (.agg cs)) w) (hi : (Tryz.prog.info? 23).map (·.size) = some cs.size := by exact in_info) : wpList Tryz.prog ops Q (o :: rest) a w := wpList_load_row h1 23 x ho g hx 23 cs (0, 0) _ hg Tryz.underlying23 rfl hi h
theorem sr {ops : Array Oper} {rest : List Oper} {o : Oper} {a : Act} {w : World} {Q : Exit → Act → World → Prop} {x y : Operand} {cs old : Array Value} (g : Nat) (h1 : o.guard = none) (ho : o.op = .store 23 x y) (hx : a.eval x = .pointer (some ⟨g, 0, none⟩)) (hy : a.eval y = .agg cs) (hg : w.heap[g]? = some (.cells old 23 (0, 0)))
 (hc : cs.all (·.oneCell') = true) (h : wpList Tryz.prog ops Q rest (a.put o.dst undef) (w.setRow g cs)) (hi : (Tryz.prog.info? 23).map (·.size) = some cs.size := by exact in_info) (hold : old.size = cs.size := by exact rfl) : wpList Tryz.prog ops Q (o :: rest) a w := wpList_store_row h1 23 x y ho g cs hx hy 23 old hg hi hold hc h
theorem dl {o : Oper} {a : Act} {w : World} {g : Nat} {cs : Array Value} {v : Value} {x : Operand} (hg : w.heap[g]? = some (.cells cs 23 (0, 0))) (ho : o.op = .load 23 x := by exact rfl) (hx : a.eval x = .pointer (some ⟨g, 0, none⟩) := by exact rfl)
 (hi : (Tryz.prog.info? 23).map (·.size) = some cs.size := by exact in_info) (hv : Value.agg cs = v := by exact rfl) : Oper.does Tryz.prog o a w fun u w1 => u = v ∧ Save (fun _ => False) w w1 :=
 does_load_ins 23 x ho g hx 23 cs (0, 0) _ hg Tryz.underlying23 rfl hi ⟨hv, Save.refl _ _⟩

set_option maxHeartbeats 4000000 in
theorem c9_check (i : In) (hi : i.Wf) (w : World) : Calls Tryz.prog 62 #[i.val] w fun e w' => e = .returned (.int .i64 (if i.may = true then 0 else 2)) ∧ Below w.heap.size w w' := by
 have HO := z_ (fun w => c9_isone i.s i.x i.o w)
 have HN := z_ (fun w => c9_length i w)
 have HP := z_ (fun w => c9_operands i hi w)
 obtain ⟨z, hz⟩ : ∃ z : Int, (if i.may = true then 0 else 2) = z := ⟨_, rfl⟩
 rw [hz]
 unfold In.may at hz
 have hL := InW.laid w i
 have hb0 : Below w.heap.size w (w.alloc (inO i)) := (Below.refl _ _).alloc (Nat.le_refl _) _
 have hlt := hL.lt
 have g0 : ∀ p : M.Of (M.Base (w.alloc (inO i))), p.w.cell? ⟨w.heap.size, 0, none⟩ = some (.int .i64 i.s) := fun p => (hL.below p.ok.2 hlt).gs
 have g1 : ∀ p : M.Of (M.Base (w.alloc (inO i))), p.w.cell? ⟨w.heap.size, 1, none⟩ = some (.int .i64 i.x) := fun p => (hL.below p.ok.2 hlt).gx
 have g2 : ∀ p : M.Of (M.Base (w.alloc (inO i))), p.w.cell? ⟨w.heap.size, 2, none⟩ = some (.int .i64 i.o) := fun p => (hL.below p.ok.2 hlt).go
 have g5 : ∀ p : M.Of (M.Base (w.alloc (inO i))), p.w.cell? ⟨w.heap.size, 5, none⟩ = some (.int .i64 i.n) := fun p => (hL.below p.ok.2 hlt).gn
 have HL := z_ hL
 obtain ⟨a, ha⟩ : ∃ a, isOneI i.s i.x i.o = a := ⟨_, rfl⟩
 obtain ⟨b, hb⟩ : ∃ b, (i.n == i.len) = b := ⟨_, rfl⟩
 obtain ⟨c, hc⟩ : ∃ c, i.ops = c := ⟨_, rfl⟩
 rw [ha, hb, hc] at hz
 rw [ha] at HO
 rw [hc] at HP
 have hb' : (i.n != i.len) = !b := by rw [bne, hb]
 obtain ⟨n, hn⟩ : ∃ n, i.len = n := ⟨_, rfl⟩
 rw [hn] at hb' HN
 have HZ := z_ hz
 clear hz ha hb hc hn hL hlt
 rw [in_val]
 cases a with
 | false =>
  go_enter Tryz.func62, Tryz.ntmps62
  go_upto_region 1 with fail
  refine M.rg ?_
  refine M.sg [0, 1, 2, 3, 4, 5] 14 ?_
  repeat (go_big_quiet_step (fail))
  refine wpQuiet_nil ?_
  refine M.cm 6 (.bool false) ?_ ?_
  ·intro wz sz
   unfold Oper.does
   go_simp
   exact (HO.out wz).mono fun e w' ⟨he, hw⟩ => ⟨_, he, rfl, hw ▸ Save.refl _ _⟩
  go_simp
  refine M.sg [7, 8, 9, 10, 11, 12, 13, 14, 15, 16, 17, 18, 19] 0 ?_
  repeat (go_big_quiet_step (fail))
  refine wpQuiet_nil ?_
  clear g0 g1 g2 g5
  refine M.en ?_
  intro wc sc
  go_wp2
  go_ret
  exact ⟨ret_n HZ.out, hb0.trans (sc.2.mono hb0.size)⟩
 | true =>
  cases b with
  | false =>
   go_enter Tryz.func62, Tryz.ntmps62
   go_upto_region 1 with fail
   refine M.rg ?_
   refine M.sg [0, 1, 2, 3, 4, 5] 14 ?_
   repeat (go_big_quiet_step (fail))
   refine wpQuiet_nil ?_
   refine M.cm 6 (.bool true) ?_ ?_
   ·intro wz sz
    unfold Oper.does
    go_simp
    exact (HO.out wz).mono fun e w' ⟨he, hw⟩ => ⟨_, he, rfl, hw ▸ Save.refl _ _⟩
   go_simp
   refine M.sg [7, 8, 9, 10] 9 ?_
   repeat (go_big_quiet_step (fail))
   refine wpQuiet_nil ?_
   clear g0 g1 g2 g5
   refine M.cm 11 i.val ?_ ?_
   ·intro wz sz
    exact dl (HL.out.below sz.2 HL.out.lt)
   go_simp
   refine M.cm 12 (.int .i64 n) ?_ ?_
   ·intro wz sz
    unfold Oper.does
    go_simp
    exact (HN.out wz).mono fun e w' ⟨he, hw⟩ => ⟨_, he, rfl, Save.of_below hw⟩
   go_simp
   refine M.sg [13, 14, 15, 16, 17, 18, 19] 0 ?_
   repeat (go_big_quiet_step (fail))
   refine wpQuiet_nil ?_
   refine M.en ?_
   intro wc sc
   go_wp2
   go_ret
   exact ⟨ret_n HZ.out, hb0.trans (sc.2.mono hb0.size)⟩
  | true =>
   go_enter Tryz.func62, Tryz.ntmps62
   go_upto_region 1 with fail
   refine M.rg ?_
   refine M.sg [0, 1, 2, 3, 4, 5] 14 ?_
   repeat (go_big_quiet_step (fail))
   refine wpQuiet_nil ?_
   refine M.cm 6 (.bool true) ?_ ?_
   ·intro wz sz
    unfold Oper.does
    go_simp
    exact (HO.out wz).mono fun e w' ⟨he, hw⟩ => ⟨_, he, rfl, hw ▸ Save.refl _ _⟩
   go_simp
   refine M.sg [7, 8, 9, 10] 9 ?_
   repeat (go_big_quiet_step (fail))
   refine wpQuiet_nil ?_
   clear g0 g1 g2 g5
   refine M.cm 11 i.val ?_ ?_
   ·intro wz sz
    exact dl (HL.out.below sz.2 HL.out.lt)
   go_simp
   refine M.cm 12 (.int .i64 n) ?_ ?_
   ·intro wz sz
    unfold Oper.does
    go_simp
    exact (HN.out wz).mono fun e w' ⟨he, hw⟩ => ⟨_, he, rfl, Save.of_below hw⟩
   go_simp
   refine M.sg [13, 14, 15] 4 ?_
   repeat (go_big_quiet_step (fail))
   refine wpQuiet_nil ?_
   refine M.cm 16 i.val ?_ ?_
   ·intro wz sz
    exact dl (HL.out.below sz.2 HL.out.lt)
   go_simp
   refine M.cm 17 (.bool c) ?_ ?_
   ·intro wz sz
    unfold Oper.does
    go_simp
    exact (HP.out wz).mono fun e w' ⟨he, hw⟩ => ⟨_, he, rfl, Save.of_below hw⟩
   go_simp
   refine M.sg [18, 19] 0 ?_
   repeat (go_big_quiet_step (fail))
   refine wpQuiet_nil ?_
   refine M.en ?_
   intro wc sc
   go_wp2
   all_goals
    go_ret
    exact ⟨ret_n (by rw [← HZ.out]; simp_all), hb0.trans (sc.2.mono hb0.size)⟩

end Go.Proofs.YtgaihekapakoeaaGreatDoor
