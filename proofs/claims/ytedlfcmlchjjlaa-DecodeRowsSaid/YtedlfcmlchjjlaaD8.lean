
/- Instructions (chapter 9): bytes and back, the plain mathematics. -/
import Derived.Test.YtedlfcmlchjjlaaD7
namespace Go.Proofs.Ytedlfcmlchjjlaa
open Go.RowKit
set_option linter.unusedSimpArgs false
set_option linter.unusedVariables false

theorem rel_one {s x o : Int} (h : jumpI s o = true) : needN s x o ≤ 1 := by
  unfold jumpI at h
  simp only [Bool.and_eq_true, beq_iff_eq] at h
  obtain ⟨h1, rfl⟩ := h
  unfold needN
  split
  · rw [if_pos rfl]
    unfold relI at h1
    simp only [Bool.or_eq_true, beq_iff_eq] at h1
    rcases h1 with rfl | rfl | rfl | rfl | rfl | rfl <;> decide
  · omega
theorem i8_mod (a : Int) (h0 : 0 ≤ a) (h1 : a < 256) : IntKind.i8.wrap a % 256 = a := by rw [sgn_eq a h0 h1]; unfold sgn; split <;> omega
theorem i8_in (a : Int) (h0 : 0 ≤ a) (h1 : a < 256) : -128 ≤ IntKind.i8.wrap a ∧ IntKind.i8.wrap a ≤ 127 := by rw [sgn_eq a h0 h1]; exact sgn_in a h0 h1
theorem i8_back (d : Int) (h0 : -128 ≤ d) (h1 : d ≤ 127) : IntKind.i8.wrap (d % 256) = d := by
  rw [sgn_eq _ (by omega) (by omega)]; unfold sgn; split <;> omega

/-- A row of at most two bytes is told by the number that it tells. -/
theorem immL_number (q : List Int) (k : Int) (sg : Bool) (hq : AllB q) (hl : (q.length : Int) = k) (hk : k ≤ 2) (hs : sg = true → k ≤ 1) : immL (number9 q sg) k = q := by
  match q, hq, hl with
  | [], _, hl =>
    have : k = 0 := by simpa using hl.symm
    subst this
    rfl
  | [a], hq, hl =>
    have : k = 1 := by simpa using hl.symm
    subst this
    obtain ⟨a0, a1⟩ := hq a (by simp)
    unfold immL number9 numL9
    cases sg
    · simp; omega
    · simp [i8_mod a a0 a1]
  | [a, b], hq, hl =>
    have : k = 2 := by simpa using hl.symm
    subst this
    obtain ⟨a0, a1⟩ := hq a (by simp)
    obtain ⟨b0, b1⟩ := hq b (by simp)
    have : sg = false := by cases sg; rfl; exact absurd (hs rfl) (by decide)
    subst this
    unfold immL number9 numL9
    simp
    omega
  | _ :: _ :: _ :: _, _, hl => simp at hl; omega
theorem number_fits (q : List Int) (k : Int) (sg : Bool) (hq : AllB q) (hl : (q.length : Int) = k) (hk : k ≤ 2) : fitsI (number9 q sg) k sg = true := by
  match q, hq, hl with
  | [], _, hl =>
    have : k = 0 := by simpa using hl.symm
    subst this
    cases sg <;> rfl
  | [a], hq, hl =>
    have : k = 1 := by simpa using hl.symm
    subst this
    obtain ⟨a0, a1⟩ := hq a (by simp)
    have h8 := i8_in a a0 a1
    unfold fitsI number9 numL9
    cases sg <;> simp <;> omega
  | [a, b], hq, hl =>
    have : k = 2 := by simpa using hl.symm
    subst this
    obtain ⟨a0, a1⟩ := hq a (by simp)
    obtain ⟨b0, b1⟩ := hq b (by simp)
    unfold fitsI number9 numL9
    cases sg
    · simp; omega
    · have h8 : -128 ≤ IntKind.i8.wrap (a + 256 * b) ∧ IntKind.i8.wrap (a + 256 * b) < 128 := by
        simp only [IntKind.wrap, IntKind.bits, IntKind.signed, Bool.true_and, decide_eq_true_eq, Nat.reduceSub, Int.reducePow, ge_iff_le]
        split <;> omega
      simp; omega
  | _ :: _ :: _ :: _, _, hl => simp at hl; omega
theorem number_imm (m k : Int) (sg : Bool) (h : fitsI m k sg = true) (hk : k = 0 ∨ k = 1 ∨ k = 2) (hs : sg = true → k ≤ 1) : number9 (immL m k) sg = m := by
  unfold fitsI at h
  rcases hk with rfl | rfl | rfl
  · simp at h; subst h; cases sg <;> rfl
  · unfold immL number9 numL9
    cases sg
    · simp at h ⊢; omega
    · simp at h ⊢; exact i8_back m h.1 h.2
  · have : sg = false := by cases sg; rfl; exact absurd (hs rfl) (by decide)
    subst this
    unfold immL number9 numL9
    simp at h ⊢; omega

theorem immL_length (m k : Int) (hk : k = 0 ∨ k = 1 ∨ k = 2) : ((immL m k).length : Int) = k := by
  rcases hk with rfl | rfl | rfl <;> rfl
theorem immL_all (m k : Int) : AllB (immL m k) := by
  unfold immL
  split
  · exact AllB.nil
  · split
    · exact AllB.one (by omega) (by omega)
    · exact AllB.cons (by omega) (by omega) (AllB.one (by omega) (by omega))

/-- What is put together of its parts. -/
def asmI (s x o d0 : Int) (q : List Int) : In := ⟨s, x, o, if needD s x o = true then IntKind.i8.wrap d0 else 0, number9 q (jumpI s o), lenI s x o⟩
theorem asm_may (s x o d0 : Int) (q : List Int) (h1 : isOneI s x o = true) (e0 : 0 ≤ d0) (e1 : d0 < 256) (hq : AllB q) (hl : (q.length : Int) = needN s x o) : (asmI s x o d0 q).may = true := by
  unfold In.may In.ops
  have hn := needN_in s x o
  have h2 := number_fits q _ (jumpI s o) hq hl hn.2
  have h3 : fitsI (asmI s x o d0 q).d (num1 (needD s x o)) true = true := by
    unfold asmI
    cases needD s x o
    · rfl
    · have h8 := i8_in d0 e0 e1
      unfold fitsI num1
      simp; omega
  have h4 : (asmI s x o d0 q).n = (asmI s x o d0 q).len := rfl
  simp only [Bool.and_eq_true, beq_iff_eq]
  exact ⟨h1, h4, h3, h2⟩
theorem asm_bytes (s x o d0 : Int) (q : List Int) (h1 : isOneI s x o = true) (e0 : 0 ≤ d0) (e1 : d0 < 256) (hq : AllB q) (hl : (q.length : Int) = needN s x o) : bytesI (asmI s x o d0 q) = preB x ++ setB s ++ (if s = 3 then [d0, o] else if needD s x o = true then [o, d0] else [o]) ++ q := by
  have hn := needN_in s x o
  have h2 := immL_number q _ (jumpI s o) hq hl hn.2 (fun h => rel_one h)
  have h3 : s = 3 → needD s x o = true := by
    rintro rfl
    unfold needD
    rw [h1]; rfl
  unfold bytesI aheadB midB
  show preB x ++ setB s ++ (if s = 3 then [(asmI s x o d0 q).d % 256, o] else if needD s x o = true then [o, (asmI s x o d0 q).d % 256] else [o]) ++ immL (number9 q (jumpI s o)) (needN s x o) = _
  rw [h2]
  have h4 : needD s x o = true → (asmI s x o d0 q).d % 256 = d0 := by
    intro h
    show (if needD s x o = true then IntKind.i8.wrap d0 else 0) % 256 = d0
    rw [if_pos h]; exact i8_mod d0 e0 e1
  by_cases hs : s = 3
  · rw [if_pos hs, if_pos hs, h4 (h3 hs)]
  · rw [if_neg hs, if_neg hs]
    by_cases hd : needD s x o = true
    · rw [if_pos hd, if_pos hd, h4 hd]
    · rw [if_neg hd, if_neg hd]
end Go.Proofs.Ytedlfcmlchjjlaa
