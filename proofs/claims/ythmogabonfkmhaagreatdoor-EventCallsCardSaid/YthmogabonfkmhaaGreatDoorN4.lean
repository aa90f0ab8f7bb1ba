
/- What the reference's Parse reads: words and numbers, the plain mathematics. -/
import Derived.Test.YthmogabonfkmhaaGreatDoorG7
import Derived.Test.YthmogabonfkmhaaGreatDoorN0
namespace Go.Proofs.YthmogabonfkmhaaGreatDoor
open Go.RowKit
set_option linter.unusedSimpArgs false
set_option linter.unusedVariables false

theorem wall_five (a b c d e : List UInt8) (ha : 32 ∉ a) (hb : 32 ∉ b) (hc : 32 ∉ c) (hd : 32 ∉ d) (he : 32 ∉ e) : wall (Lib.join [a, b, c, d, e] [32]) = [a, b, c, d, e] := by
  rw [join_five]
  unfold wall
  rw [List.foldl_append, show ([[]] : List (List UInt8)) = [] ++ [[]] from rfl, fold_word a [] [] ha, fold_blank, List.foldl_append, fold_word b _ [] hb, fold_blank, List.foldl_append, fold_word c _ [] hc, fold_blank, List.foldl_append, fold_word d _ [] hd, fold_blank, fold_word e _ [] he]
  simp

theorem numV_dec : ∀ (n u : Nat), u ≤ n → numV (Lib.decDigits u) = u
  | 0, u, h => by obtain rfl : u = 0 := by omega
                  rw [Lib.decDigits_one (by decide)]; rfl
  | n + 1, u, h => by
    by_cases h1 : u < 10
    · rw [Lib.decDigits_one h1]
      show (0 : Int) * 10 + (((UInt8.ofNat (48 + u)).toNat : Int) - 48) = u
      rw [dig_of u h1]; omega
    · rw [dec_cons h1, numV_snoc, numV_dec n (u / 10) (by omega), dig_of (u % 10) (by omega)]; omega
theorem numR_itoa (n : Int) (h0 : 0 ≤ n) (h1 : n < 10000000000000) : numR (Lib.itoa n) = n := by
  have e : Lib.itoa n = Lib.decDigits n.toNat := by unfold Lib.itoa; rw [if_neg (by omega)]
  rw [e]
  unfold numR
  rw [if_pos ⟨dec_ne _, by rw [Lib.decDigits_length]; exact nDigits_le 12 _ (by omega), fun c hc => dec_digits _ _ (Nat.le_refl _) c hc⟩, numV_dec _ _ (Nat.le_refl _)]
  omega

/-- The kind that the reference finds: the last one of the name. -/
def kindG (s : ByteArray) : Nat → Int
  | 0 => 0
  | k + 1 => if nameB (k + 1) = s then ((k + 1 : Nat) : Int) else kindG s k
theorem kindG_name : ∀ i : Fin 13, kindG (nameB i.val) 12 = i.val := by decide +kernel
theorem kindG_in (s : ByteArray) : ∀ k, 0 ≤ kindG s k ∧ kindG s k ≤ k
  | 0 => ⟨Int.le_refl _, Int.le_refl _⟩
  | k + 1 => by
    have h := kindG_in s k
    unfold kindG
    split <;> omega

def wb (ws : List (List UInt8)) (k : Nat) : ByteArray := ⟨(ws.getD k []).toArray⟩
/-- The event that the reference makes of the words. -/
def sayR (ws : List (List UInt8)) : Ev := ⟨numR (ws.getD 0 []), chipOf (kindG (wb ws 1) 12), numR (ws.getD 2 []), kindG (wb ws 1) 12, numR (ws.getD 3 []), numR (ws.getD 4 [])⟩
def ToldR (s : List UInt8) : Prop := s.length ≤ 100 ∧ (wall s).length = 5 ∧ (sayR (wall s)).May ∧ textE (sayR (wall s)) = s

theorem chip_may {x : Ev} (hm : x.May) : 1 ≤ x.kind ∧ x.kind ≤ 12 ∧ x.chip = chipOf x.kind := by
  obtain ⟨h1, h2, _⟩ := hm
  have h : 1 ≤ x.kind ∧ x.kind ≤ 12 := by
    unfold chipOf at h1
    repeat' split at h1
    all_goals first | omega | exact absurd rfl h1
  exact ⟨h.1, h.2, h2⟩

/-- A text of an event that may be is told as it. -/
theorem toldR_text (x : Ev) (hm : x.May) : ToldR (textE x) ∧ sayR (wall (textE x)) = x := by
  obtain ⟨k1, k2, k3⟩ := chip_may hm
  have hm' := hm
  obtain ⟨_, _, t0, t1, s0, s1, a0, a1, b0, b1⟩ := hm'
  obtain ⟨n, hn⟩ : ∃ n : Nat, x.kind = n := ⟨x.kind.toNat, by omega⟩
  have hnm : nameOf x.kind = nameB n := by unfold nameOf; rw [if_pos (by omega), hn]; rfl
  have hw : wall (textE x) = [Lib.itoa x.time, (nameOf x.kind).data.toList, Lib.itoa x.seq, Lib.itoa x.a, Lib.itoa x.b] := by
    unfold textE
    exact wall_five _ _ _ _ _ (itoa_no_blank _ t0) (by rw [hnm]; exact name_no_blank ⟨n, by omega⟩) (itoa_no_blank _ s0) (itoa_no_blank _ a0) (itoa_no_blank _ b0)
  have hk : kindG (wb (wall (textE x)) 1) 12 = x.kind := by
    rw [hw]
    show kindG ⟨((nameOf x.kind).data.toList).toArray⟩ 12 = x.kind
    rw [hnm, hn]
    exact kindG_name ⟨n, by omega⟩
  have hs : sayR (wall (textE x)) = x := by
    unfold sayR
    rw [hk, hw]
    show (⟨numR (Lib.itoa x.time), chipOf x.kind, numR (Lib.itoa x.seq), x.kind, numR (Lib.itoa x.a), numR (Lib.itoa x.b)⟩ : Ev) = x
    rw [numR_itoa _ t0 (by omega), numR_itoa _ s0 (by omega), numR_itoa _ a0 (by omega), numR_itoa _ b0 (by omega), ← k3]
  refine ⟨⟨textE_len x hm, by rw [hw]; rfl, by rw [hs]; exact hm, by rw [hs]⟩, hs⟩
/-- Both read the same. -/
theorem told_same (s : ByteArray) : (Told s ↔ ToldR s.data.toList) ∧ (Told s → sayE s = sayR (wall s.data.toList)) := by
  have h1 : Told s → ToldR s.data.toList ∧ sayE s = sayR (wall s.data.toList) := by
    rintro ⟨_, hm, ht⟩
    have h := toldR_text _ hm
    rw [ht] at h
    exact ⟨h.1, h.2.symm⟩
  refine ⟨⟨fun h => (h1 h).1, ?_⟩, fun h => (h1 h).2⟩
  rintro ⟨_, _, hm, ht⟩
  have h := (told_text _ hm).1
  rw [ht] at h
  exact h
end Go.Proofs.YthmogabonfkmhaaGreatDoor
