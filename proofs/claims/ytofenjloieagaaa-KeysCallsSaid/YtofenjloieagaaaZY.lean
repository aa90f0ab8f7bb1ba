/-  -/
import Derived.Test.YtofenjloieagaaaJ2
import Derived.Test.YtofenjloieagaaaZQ
namespace Go.Proofs.Ytofenjloieagaaa
open Go.RowKit

theorem number_nil (v : Nat) (w : World) (hv : v < 18446744073709551616) : Calls Try.prog 30 #[.slice none 0 0, .int .u64 v] w fun e w' =>
    ∃ A c, e = .returned (.slice A (numB v).length c) ∧ OB w' w.heap.size A c (numB v) ∧ Below w.heap.size w w' :=
  (number_any none 0 0 [] v w 0 rfl (RB.nil _ _) (Nat.zero_le _) (Nat.zero_le _) hv).mono fun _ _ ⟨A, c, h1, h2, h3⟩ => ⟨A, c, h1, h2, h3⟩
theorem RB.pre {w : World} {B c : Nat} {A : Option Addr} {l : List Int} (h : RB w B A c l) (k : Nat) (hk : k ≤ l.length) : RB w B A c (l.take k) := by
  have hlen : (l.take k).length = k := by rw [List.length_take]; omega
  refine ⟨by have := h.le; omega, h.cap, h.bytes.take k, ?_⟩
  rcases h.at_ with h1 | ⟨a, rfl, hc⟩
  · exact .inl h1
  · refine .inr ⟨a, rfl, fun h0 => ?_⟩
    obtain ⟨hs, hb, hc⟩ := hc (by omega)
    refine ⟨hs, hb, fun i hi => ?_⟩
    rw [hc i (by omega)]
    simp only [List.getD]
    rw [List.getElem?_take, if_pos (by omega)]

theorem unfoldN_bd (v : Nat) (h : v < 18446744073709551616) : -9223372036854775808 ≤ unfoldN v ∧ unfoldN v < 9223372036854775808 := by unfold unfoldN; split <;> omega

theorem numRd_err (r : List Int) : (numRd r).2.2 = 0 ∨ (numRd r).2.2 = 4 ∨ (numRd r).2.2 = 5 := by
  cases r with
  | nil => exact .inr (.inr rfl)
  | cons f t =>
    unfold numRd
    simp only
    split
    · exact .inl rfl
    · split
      · exact .inr (.inr rfl)
      · split
        · exact .inr (.inl rfl)
        · exact .inl rfl

theorem block_back (l : List Int) (hb : AllB l) : ∃ (m : List Int) (q : Nat) (x : Int), blockSt l 0 0 = (m, q, x) ∧ AllB m ∧ m.length ≤ 1048576 ∧ (x = 0 ∨ x = 3 ∨ x = 4 ∨ x = 5) ∧ (x = 0 → numB m.length ++ m = l.take q ∧ q ≤ l.length) := by
  have h1 := numB_numRd l hb
  have h2 := numRd_err l
  unfold blockSt numSt
  simp only [if_true, List.drop_zero]
  generalize numRd l = r at *
  obtain ⟨v, k, x⟩ := r
  simp only at *
  by_cases hv : 1048576 < v
  · rw [if_pos hv]
    exact ⟨_, _, _, rfl, AllB.nil, by simp, by simp, by simp⟩
  · rw [if_neg hv]
    by_cases hx : x = 0
    · subst hx
      obtain ⟨h3, h4⟩ := h1 rfl
      simp only [ne_eq, not_true, if_false, Nat.zero_add]
      by_cases hl : l.length - k < v
      · rw [if_pos hl]; exact ⟨_, _, _, rfl, AllB.nil, by simp, by simp, by simp⟩
      · rw [if_neg hl]
        have hml : ((l.drop k).take v).length = v := by rw [List.length_take, List.length_drop]; omega
        refine ⟨_, _, _, rfl, (hb.drop k).take v, by omega, .inl rfl, fun _ => ⟨?_, by omega⟩⟩
        rw [hml, h3, ← List.take_add]
    · simp only [ne_eq, hx, not_false_eq_true, if_true]
      refine ⟨_, _, _, rfl, AllB.nil, by simp, ?_, fun h => absurd h hx⟩
      rcases h2 with h2 | h2 | h2
      · exact absurd h2 hx
      · exact .inr (.inr (.inl h2))
      · exact .inr (.inr (.inr h2))

end Go.Proofs.Ytofenjloieagaaa
