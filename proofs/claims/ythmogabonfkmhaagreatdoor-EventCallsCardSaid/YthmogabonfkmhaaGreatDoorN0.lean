
/- Words and numbers of a text, as the reference reads them: the plain mathematics. -/
import Derived.Test.YthmogabonfkmhaaGreatDoorB
import Derived.Lib.AppendIntMem
import Derived.Lib.SmallJoins
import Derived.Lib.AtoiErrMem
namespace Go.Proofs.YthmogabonfkmhaaGreatDoor
open Go.RowKit
set_option linter.unusedSimpArgs false
set_option linter.unusedVariables false

/-- All words, built up byte by byte. -/
def wstep (ws : List (List UInt8)) (c : UInt8) : List (List UInt8) := if c = 32 then ws ++ [[]] else ws.dropLast ++ [ws.getLastD [] ++ [c]]
def wall (l : List UInt8) : List (List UInt8) := l.foldl wstep [[]]
theorem wall_snoc (l : List UInt8) (c : UInt8) : wall (l ++ [c]) = wstep (wall l) c := by unfold wall; rw [List.foldl_append]; rfl
theorem wstep_ne (ws : List (List UInt8)) (c : UInt8) : wstep ws c ≠ [] := by unfold wstep; split <;> simp
theorem wall_ne (l : List UInt8) : wall l ≠ [] := by
  rcases List.eq_nil_or_concat l with rfl | ⟨p, c, rfl⟩
  · simp [wall]
  · rw [List.concat_eq_append, wall_snoc]; exact wstep_ne _ _
theorem wall_len (l : List UInt8) : 1 ≤ (wall l).length := List.length_pos_iff.2 (wall_ne l)
theorem wstep_len (ws : List (List UInt8)) (c : UInt8) (h : 1 ≤ ws.length) : (wstep ws c).length ≤ ws.length + 1 ∧ ws.length ≤ (wstep ws c).length := by
  unfold wstep; split
  · simp
  · simp; omega
theorem wall_le : ∀ (k : Nat) (l : List UInt8), l.length = k → (wall l).length ≤ k + 1
  | 0, l, h => by obtain rfl := List.eq_nil_of_length_eq_zero h; simp [wall]
  | k + 1, l, h => by
    rcases List.eq_nil_or_concat l with rfl | ⟨p, c, rfl⟩
    · simp at h
    · rw [List.concat_eq_append] at h ⊢
      rw [wall_snoc]
      have h1 := wall_le k p (by simpa using h)
      have h2 := (wstep_len (wall p) c (wall_len p)).1
      omega
/-- A row of bytes without a blank goes to the last word. -/
theorem fold_word : ∀ (a : List UInt8) (ws : List (List UInt8)) (p : List UInt8), 32 ∉ a → a.foldl wstep (ws ++ [p]) = ws ++ [p ++ a]
  | [], ws, p, _ => by simp
  | c :: a, ws, p, h => by
    have hc : c ≠ 32 := fun e => h (by rw [e]; exact List.mem_cons_self ..)
    have ha : 32 ∉ a := fun e => h (List.mem_cons_of_mem _ e)
    rw [List.foldl_cons]
    have : wstep (ws ++ [p]) c = ws ++ [p ++ [c]] := by unfold wstep; rw [if_neg hc]; simp
    rw [this, fold_word a ws (p ++ [c]) ha, List.append_assoc]; rfl
theorem fold_blank (r : List UInt8) (ws : List (List UInt8)) : (32 :: r).foldl wstep ws = r.foldl wstep (ws ++ [[]]) := by
  rw [List.foldl_cons]; congr 1
/-- The number that digits tell. -/
def numV (l : List UInt8) : Int := l.foldl (fun n c => n * 10 + ((c.toNat : Int) - 48)) 0
def isDig (c : UInt8) : Prop := 48 ≤ c.toNat ∧ c.toNat ≤ 57
instance (c : UInt8) : Decidable (isDig c) := inferInstanceAs (Decidable (_ ∧ _))
def numR (l : List UInt8) : Int := if 1 ≤ l.length ∧ l.length ≤ 13 ∧ ∀ c ∈ l, isDig c then numV l else -1
theorem numV_snoc (l : List UInt8) (c : UInt8) : numV (l ++ [c]) = numV l * 10 + ((c.toNat : Int) - 48) := by unfold numV; rw [List.foldl_append]; rfl
theorem numV_in : ∀ (k : Nat) (l : List UInt8), l.length = k → (∀ c ∈ l, isDig c) → 0 ≤ numV l ∧ numV l < 10 ^ k
  | 0, l, h, _ => by obtain rfl := List.eq_nil_of_length_eq_zero h; exact ⟨by decide, by decide⟩
  | k + 1, l, h, hd => by
    rcases List.eq_nil_or_concat l with rfl | ⟨p, c, rfl⟩
    · simp at h
    · rw [List.concat_eq_append] at h hd ⊢
      obtain ⟨h0, h1⟩ := numV_in k p (by simpa using h) (fun x hx => hd x (by simp [hx]))
      have hc : 48 ≤ c.toNat ∧ c.toNat ≤ 57 := hd c (by simp)
      rw [numV_snoc, Int.pow_succ]
      exact ⟨by omega, by omega⟩
theorem dec_ne (u : Nat) : 1 ≤ (Lib.decDigits u).length := by rw [Lib.decDigits_length]; exact Lib.nDigits_pos u
theorem dec_cons {u : Nat} (h : ¬ u < 10) : Lib.decDigits u = Lib.decDigits (u / 10) ++ [UInt8.ofNat (48 + u % 10)] := by rw [Lib.decDigits, dif_neg h]
end Go.Proofs.YthmogabonfkmhaaGreatDoor
