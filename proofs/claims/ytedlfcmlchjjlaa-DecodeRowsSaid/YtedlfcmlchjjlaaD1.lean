
/- Instructions (chapter 9): the plain mathematics; what the small functions of package decode answer. -/
import Derived.Test.YtedlfcmlchjjlaaW1
namespace Go.Proofs.Ytedlfcmlchjjlaa
open Go.RowKit
set_option linter.unusedSimpArgs false
set_option linter.unusedVariables false

def isByteI (o : Int) : Bool := decide (0 ≤ o) && decide (o ≤ 255)
def idxB (c : Int) : Int := if c = 221 then 1 else if c = 253 then 2 else 0
def loneB (c : Int) : Bool := c == 237 || (c == 221 || c == 253)
def hlI (o : Int) : Bool :=
  if o / 64 = 0 then (o == 52 || o == 53) || o == 54 else if o / 64 = 1 then (o / 8 % 8 == 6 || o % 8 == 6) && o != 118 else if o / 64 = 2 then o % 8 == 6 else false
def relI (o : Int) : Bool := o == 16 || (o == 24 || (o == 32 || (o == 40 || (o == 48 || o == 56))))
def jumpI (s o : Int) : Bool := relI o && s == 0
def one9 (o : Int) : Bool := o == 211 || o == 219
def two9 (o : Int) : Bool := o == 34 || (o == 42 || (o == 50 || (o == 58 || (o == 195 || o == 205))))
def immM (o : Int) : Int :=
  if one9 o = true then 1 else if two9 o = true then 2
  else if ((o / 64 == 0 || o / 64 == 3) && o % 8 == 6) || relI o then 1
  else if (o / 64 == 0 && (o % 8 == 1 && o / 8 % 2 == 0)) || (o / 64 == 3 && (o % 8 == 2 || o % 8 == 4)) then 2 else 0
def immX (o : Int) : Int := if o / 64 = 1 ∧ o % 8 = 3 then 2 else 0
def isOneI (s x o : Int) : Bool :=
  isByteI o && (if s = 0 then (if x = 1 ∨ x = 2 then o != 203 && !loneB o else x == 0 && (o != 203 && o != 237)) else if s = 1 ∨ s = 2 then x == 0 else s == 3 && (x == 1 || x == 2))
def needD (s x o : Int) : Bool := isOneI s x o && (if s = 0 then x != 0 && hlI o else s == 3)
def needN (s x o : Int) : Int := if isOneI s x o = true then (if s = 0 then immM o else if s = 2 then immX o else 0) else 0
def lenI (s x o : Int) : Int := 1 + num1 (needD s x o) + needN s x o + num1 (x != 0) + num1 (s != 0)
def fitsI (v c : Int) (sg : Bool) : Bool :=
  if c = 0 then v == 0 else if sg = true then (if c = 1 then decide (-128 ≤ v) && decide (v ≤ 127) else decide (-32768 ≤ v) && decide (v ≤ 32767)) else (if c = 1 then decide (0 ≤ v) && decide (v ≤ 255) else decide (0 ≤ v) && decide (v ≤ 65535))

theorem immM_in (o : Int) : 0 ≤ immM o ∧ immM o ≤ 2 := by unfold immM; repeat' split <;> omega
theorem immX_in (o : Int) : 0 ≤ immX o ∧ immX o ≤ 2 := by unfold immX; repeat' split <;> omega
theorem needN_in (s x o : Int) : 0 ≤ needN s x o ∧ needN s x o ≤ 2 := by
  unfold needN; have := immM_in o; have := immX_in o; repeat' split
  all_goals omega
theorem isOneI_byte {s x o : Int} (h : isOneI s x o = true) : 0 ≤ o ∧ o < 256 := by
  unfold isOneI isByteI at h; simp only [Bool.and_eq_true, decide_eq_true_eq] at h; omega

theorem ret_b {a b : Bool} (h : a = b) : Ending.returned (.bool a) = .returned (.bool b) := by rw [h]
theorem ret_n {a b : Int} (h : a = b) : Ending.returned (.int .i64 a) = .returned (.int .i64 b) := by rw [h]
theorem ret_bn {a b : Bool} {c d : Int} (h : a = b) (k : c = d) : Ending.returned (.tuple #[.bool a, .int .i64 c]) = .returned (.tuple #[.bool b, .int .i64 d]) := by rw [h, k]
theorem ret_nn {a b : Int} {c d : Int} (h : a = b) (k : c = d) : Ending.returned (.tuple #[.int .i64 a, .int .i64 c]) = .returned (.tuple #[.int .i64 b, .int .i64 d]) := by rw [h, k]

theorem c9_isbyte (o : Int) (w : World) : Calls Try.prog 92 #[.int .i64 o] w fun e w' => e = .returned (.bool (isByteI o)) ∧ w = w' := by
  go_enter Try.func92, Try.ntmps92
  go_wp2
  all_goals
    go_ret
    exact ⟨ret_b (by unfold isByteI; simp_all <;> omega), rfl⟩

theorem c9_indexof (c : Int) (w : World) : Calls Try.prog 84 #[.int .u8 c] w fun e w' => e = .returned (.int .i64 (idxB c)) ∧ w = w' := by
  go_enter Try.func84, Try.ntmps84
  go_wp2
  all_goals
    go_ret
    exact ⟨ret_n (by unfold idxB; simp_all), rfl⟩

theorem idxB_zero (c : Int) : (idxB c != 0) = (c == 221 || c == 253) := by
  unfold idxB
  by_cases h1 : c = 221
  · subst h1; rfl
  · by_cases h2 : c = 253
    · subst h2; rfl
    · rw [if_neg h1, if_neg h2, beq_eq_false_iff_ne.2 h1, beq_eq_false_iff_ne.2 h2]; rfl
theorem idxB_zero' (c : Int) : (idxB c == 0) = !(c == 221 || c == 253) := by
  rw [← idxB_zero, bne, Bool.not_not]

theorem c9_lone (c : Int) (w : World) : Calls Try.prog 85 #[.int .u8 c] w fun e w' => e = .returned (.bool (loneB c)) ∧ w = w' := by
  by_cases h : c = 237
  · subst h
    go_enter Try.func85, Try.ntmps85
    go_wp2
    go_ret
    exact ⟨rfl, rfl⟩
  · have h1 : (c == 237) = false := beq_eq_false_iff_ne.2 h
    have hz := Lib.hid (idxB_zero c)
    go_enter Try.func85, Try.ntmps85
    go_wp2_with (go_at_call 84; (with_reducible refine (c9_indexof _ _).mono ?_); rintro e w' ⟨rfl, rfl⟩)
    go_ret
    exact ⟨ret_b (by rw [hz.out]; unfold loneB; rw [h1]; rfl), rfl⟩

theorem and_255 (o : Int) (h0 : 0 ≤ o) (h1 : o < 256) : bits .and .i64 o 255 = o := byte_all (P := fun o => bits .and .i64 o 255 = o) (by decide +kernel) o h0 h1
theorem and_7 (o : Int) (h0 : 0 ≤ o) (h1 : o < 256) : bits .and .i64 o 7 = o % 8 := byte_all (P := fun o => bits .and .i64 o 7 = o % 8) (by decide +kernel) o h0 h1
theorem and_1 (o : Int) (h0 : 0 ≤ o) (h1 : o < 256) : bits .and .i64 o 1 = o % 2 := byte_all (P := fun o => bits .and .i64 o 1 = o % 2) (by decide +kernel) o h0 h1

theorem results_tmp5 {fn : Func} {t u v x y : Tmp} (h : fn.results = #[.tmp t, .tmp u, .tmp v, .tmp x, .tmp y]) (tmps : Array Value) (P : Program) (w : World) :
    (results fn tmps).run P w = .ok (.tuple #[tmps.getD t undef, tmps.getD u undef, tmps.getD v undef, tmps.getD x undef, tmps.getD y undef]) w := by
  simp [results, h]

theorem c9_parts (o : Int) (w : World) (h0 : 0 ≤ o) (h1 : o < 256) : Calls Try.prog 32 #[.int .i64 o] w fun e w' =>
    e = .returned (.tuple #[.int .i64 (o / 64), .int .i64 (o / 8 % 8), .int .i64 (o % 8), .int .i64 (o / 8 % 8 / 2), .int .i64 (o / 8 % 2)]) ∧ w = w' := by
  have q1 := and_255 o h0 h1
  have q2 := and_7 o h0 h1
  have q3 := and_7 (o / 8) (by omega) (by omega)
  have q4 := and_1 (o / 8 % 8) (by omega) (by omega)
  go_enter Try.func32, Try.ntmps32
  go_wp2
  (try simp only [Exit.inBlock, Exit.then])
  refine bodyPost_ret (results_tmp5 rfl _ _ _) rfl ?_
  exact ⟨rfl, rfl⟩

theorem c9_jumps (s o : Int) (w : World) : Calls Try.prog 88 #[.int .i64 s, .int .i64 o] w fun e w' => e = .returned (.bool (jumpI s o)) ∧ w = w' := by
  go_enter Try.func88, Try.ntmps88
  go_wp2
  all_goals
    go_ret
    exact ⟨ret_b (by unfold jumpI relI; simp_all), rfl⟩

theorem c9_byhl (o : Int) (w : World) (h0 : 0 ≤ o) (h1 : o < 256) : Calls Try.prog 89 #[.int .i64 o] w fun e w' => e = .returned (.bool (hlI o)) ∧ w = w' := by
  have q0 : 0 ≤ o / 64 := by omega
  have q1 : o / 64 < 4 := by omega
  go_enter Try.func89, Try.ntmps89
  go_wp2_with (go_at_call 32; (with_reducible refine (c9_parts _ _ h0 h1).mono ?_); rintro e w' ⟨rfl, rfl⟩)
  all_goals
    go_ret
    exact ⟨ret_b (by unfold hlI; simp_all), rfl⟩


theorem c9_immmain (o : Int) (w : World) (h0 : 0 ≤ o) (h1 : o < 256) : Calls Try.prog 90 #[.int .i64 o] w fun e w' => e = .returned (.int .i64 (immM o)) ∧ w = w' := by
  obtain ⟨z, hz⟩ : ∃ z, immM o = z := ⟨_, rfl⟩
  rw [hz]
  have HZ := Lib.hid hz
  clear hz
  go_enter Try.func90, Try.ntmps90
  go_wp2_with (first
    | (go_at_call 32; (with_reducible refine (c9_parts _ _ h0 h1).mono ?_); rintro e w' ⟨rfl, rfl⟩)
    | (go_at_call 88; (with_reducible refine (c9_jumps _ _ _).mono ?_); rintro e w' ⟨rfl, rfl⟩))
  all_goals
    go_ret
    exact ⟨ret_n (by rw [← HZ.out]; unfold immM one9 two9; simp_all [jumpI]), rfl⟩

theorem c9_immmore (o : Int) (w : World) (h0 : 0 ≤ o) (h1 : o < 256) : Calls Try.prog 91 #[.int .i64 o] w fun e w' => e = .returned (.int .i64 (immX o)) ∧ w = w' := by
  go_enter Try.func91, Try.ntmps91
  go_wp2_with (go_at_call 32; (with_reducible refine (c9_parts _ _ h0 h1).mono ?_); rintro e w' ⟨rfl, rfl⟩)
  all_goals
    go_ret
    exact ⟨ret_n (by unfold immX; simp_all), rfl⟩

theorem c9_isone (s x o : Int) (w : World) : Calls Try.prog 71 #[.int .i64 s, .int .i64 x, .int .i64 o] w fun e w' => e = .returned (.bool (isOneI s x o)) ∧ w = w' := by
  obtain ⟨z, hz⟩ : ∃ z, isOneI s x o = z := ⟨_, rfl⟩
  rw [hz]
  unfold isOneI at hz
  obtain ⟨b, hb⟩ : ∃ b, isByteI o = b := ⟨_, rfl⟩
  rw [hb] at hz
  have HB := Lib.hid (fun w => c9_isbyte o w)
  rw [hb] at HB
  have hw : b = true → IntKind.u8.wrap o = o := by
    intro h; subst h
    unfold isByteI at hb
    simp only [Bool.and_eq_true, decide_eq_true_eq] at hb
    rw [wrap_u8]; omega
  cases b with
  | false =>
    have HZ := Lib.hid hz
    clear hz hb hw
    go_enter Try.func71, Try.ntmps71
    go_wp2_with (go_at_call 92; (with_reducible refine (HB.out _).mono ?_); rintro e w' ⟨rfl, rfl⟩)
    all_goals
      go_ret
      exact ⟨ret_b HZ.out, rfl⟩
  | true =>
    have hw' := hw rfl
    have HL := Lib.hid (fun w => c9_lone o w)
    rw [Bool.true_and] at hz
    have HZ := Lib.hid hz
    clear hz hb hw
    go_enter Try.func71, Try.ntmps71
    go_wp2_with (first
      | (go_at_call 92; (with_reducible refine (HB.out _).mono ?_); rintro e w' ⟨rfl, rfl⟩)
      | (go_at_call 85; (with_reducible refine (HL.out _).mono ?_); rintro e w' ⟨rfl, rfl⟩))
    all_goals
      go_ret
      exact ⟨ret_b (by rw [← HZ.out]; simp_all), rfl⟩

theorem c9_needs (s x o : Int) (w : World) : Calls Try.prog 69 #[.int .i64 s, .int .i64 x, .int .i64 o] w fun e w' => e = .returned (.tuple #[.bool (needD s x o), .int .i64 (needN s x o)]) ∧ w = w' := by
  obtain ⟨d, hd⟩ : ∃ z, needD s x o = z := ⟨_, rfl⟩
  obtain ⟨n, hn⟩ : ∃ z, needN s x o = z := ⟨_, rfl⟩
  rw [hd, hn]
  unfold needD at hd
  unfold needN at hn
  have HO := Lib.hid (fun w => c9_isone s x o w)
  have hby := @isOneI_byte s x o
  obtain ⟨b, hb⟩ : ∃ b, isOneI s x o = b := ⟨_, rfl⟩
  rw [hb] at hd hn HO hby
  clear hb
  cases b with
  | false =>
    have HD := Lib.hid hd
    have HN := Lib.hid hn
    clear hd hn hby
    go_enter Try.func69, Try.ntmps69
    go_wp2_with (go_at_call 71; (with_reducible refine (HO.out _).mono ?_); rintro e w' ⟨rfl, rfl⟩)
    all_goals
      go_ret2
      exact ⟨ret_bn HD.out HN.out, rfl⟩
  | true =>
    obtain ⟨o0, o1⟩ := hby rfl
    have HH := Lib.hid (fun w => c9_byhl o w o0 o1)
    have HM := Lib.hid (fun w => c9_immmain o w o0 o1)
    have HX := Lib.hid (fun w => c9_immmore o w o0 o1)
    generalize hlI o = u at *
    generalize immM o = v at *
    generalize immX o = y at *
    have HD := Lib.hid hd
    have HN := Lib.hid hn
    clear hd hn hby
    go_enter Try.func69, Try.ntmps69
    go_wp2_with (first
      | (go_at_call 71; (with_reducible refine (HO.out _).mono ?_); rintro e w' ⟨rfl, rfl⟩)
      | (go_at_call 89; (with_reducible refine (HH.out _).mono ?_); rintro e w' ⟨rfl, rfl⟩)
      | (go_at_call 90; (with_reducible refine (HM.out _).mono ?_); rintro e w' ⟨rfl, rfl⟩)
      | (go_at_call 91; (with_reducible refine (HX.out _).mono ?_); rintro e w' ⟨rfl, rfl⟩))
    all_goals
      go_ret2
      exact ⟨ret_bn (by rw [← HD.out]; simp_all) (by rw [← HN.out]; simp_all), rfl⟩

theorem c9_fits (v c : Int) (sg : Bool) (w : World) (hc : c = 0 ∨ c = 1 ∨ c = 2) (wv : (Lit.int .i64 v).wf = true) : Calls Try.prog 93 #[.int .i64 v, .int .i64 c, .bool sg] w fun e w' => e = .returned (.bool (fitsI v c sg)) ∧ w = w' := by
  have hv := bounds_i64 wv
  obtain rfl | rfl | rfl := hc
  all_goals
    cases sg
    all_goals
      go_enter Try.func93, Try.ntmps93
      go_wp2
      all_goals
        go_ret
        exact ⟨ret_b (by unfold fitsI; rw [Bool.eq_iff_iff]; simp only [decide_eq_true_eq, beq_iff_eq, Bool.and_eq_true, if_true, if_false, Int.reduceEq, Bool.false_eq_true, reduceIte, decide_eq_false_iff_not, true_and, false_and, iff_true, iff_false, true_iff, false_iff] at *; omega), rfl⟩

end Go.Proofs.Ytedlfcmlchjjlaa
