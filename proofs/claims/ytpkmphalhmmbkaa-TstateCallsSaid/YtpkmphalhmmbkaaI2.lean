
/- Read: the code's numbers are the reference's. -/
import Derived.Test.YtpkmphalhmmbkaaI1
namespace Go.Proofs.Ytpkmphalhmmbkaa
open Go.RowKit
set_option linter.unusedSimpArgs false
set_option linter.unusedVariables false
set_option maxRecDepth 100000

def ReadRel (l : List Int) (k : Nat) : Prop :=
  ((rdN l k).2.2 = 0 ∧ (refN l k).2.2 = 0 ∧ (refN l k).2.1 = l.drop (rdN l k).2.1 ∧ (refN l k).1 = (rdN l k).1.map (fun x => min x 1000)) ∨ ((rdN l k).2.2 ≠ 0 ∧ ((refN l k).2.2 ≠ 0 ∨ (1000 : Int) ∈ (refN l k).1))

theorem read_rel (l : List Int) : ∀ k, ReadRel l k
  | 0 => .inl ⟨rfl, rfl, rfl, rfl⟩
  | k + 1 => by
    have ih := read_rel l k
    have h1 : rdN l (k + 1) = ((rdN l k).1 ++ [((countSt l (rdN l k).2.1 (rdN l k).2.2 9223372036854775807).1 : Int)], (countSt l (rdN l k).2.1 (rdN l k).2.2 9223372036854775807).2.1, (countSt l (rdN l k).2.1 (rdN l k).2.2 9223372036854775807).2.2) := rfl
    have h2 : refN l (k + 1) = ((refN l k).1 ++ [((min (numQ (refN l k).2.1 (refN l k).2.2).1 1000 : Nat) : Int)], (numQ (refN l k).2.1 (refN l k).2.2).2.1, (numQ (refN l k).2.1 (refN l k).2.2).2.2) := rfl
    unfold ReadRel at ih ⊢
    rw [h1, h2]
    clear h1 h2
    generalize (rdN l k).1 = ns at *
    generalize (rdN l k).2.1 = p at *
    generalize (rdN l k).2.2 = e at *
    generalize (refN l k).1 = ms at *
    generalize (refN l k).2.1 = r at *
    generalize (refN l k).2.2 = e2 at *
    rcases ih with ⟨rfl, rfl, rfl, rfl⟩ | ⟨he, h⟩
    · unfold countSt numSt numQ
      simp only [if_true]
      generalize numRd (l.drop p) = q
      by_cases hq : q.2.2 = 0
      · simp only [if_pos hq]
        by_cases hb : (q.1 : Int) > max 9223372036854775807 0
        · simp only [if_pos hb]
          refine .inr ⟨by decide, .inr ?_⟩
          have : (min q.1 1000 : Nat) = 1000 := by omega
          rw [this]
          simp
        · simp only [if_neg hb]
          refine .inl ⟨hq, by first | exact trivial | rfl, by rw [List.drop_drop], ?_⟩
          rw [List.map_append, List.map_cons, List.map_nil]
          congr 2
          omega
      · simp only [if_neg hq]
        refine .inr ⟨?_, .inl hq⟩
        split
        · simp
        · exact hq
    · have hc : countSt l p e 9223372036854775807 = (0, p, e) := by
        unfold countSt numSt
        simp only [if_neg he]
        rw [if_neg (by simp; omega)]
      rw [hc]
      refine .inr ⟨he, ?_⟩
      rcases h with h | h
      · refine .inl ?_
        unfold numQ
        simp only [if_neg h]
        exact h
      · exact .inr (List.mem_append_left _ h)

theorem nums_scrOf (x : List Int) (hx : x.length = 7) : (scrOf x).nums = x := by
  match x, hx with
  | [a, b, c, d, e, f, g], _ => rfl

theorem read_agree (l : List Int) : ((endSt l (rdN l 7).2.1 (rdN l 7).2.2 = 0 ∧ (scrOf (rdN l 7).1).May) ↔ (endQ (refN l 7).2.1 (refN l 7).2.2 = 0 ∧ (scrOf (refN l 7).1).May)) ∧ ((endSt l (rdN l 7).2.1 (rdN l 7).2.2 = 0 ∧ (scrOf (rdN l 7).1).May) → scrOf (rdN l 7).1 = scrOf (refN l 7).1) := by
  have h := read_rel l 7
  have h1 := rdN_length l 7
  have h2 := refN_length l 7
  unfold ReadRel at h
  generalize (rdN l 7).1 = ns at *
  generalize (rdN l 7).2.1 = p at *
  generalize (rdN l 7).2.2 = e at *
  generalize (refN l 7).1 = ms at *
  generalize (refN l 7).2.1 = r at *
  generalize (refN l 7).2.2 = e2 at *
  have same : ∀ x y : List Int, x.length = 7 → y.length = 7 → (scrOf x).May → (∀ j, j < 7 → x.getD j 0 ≤ 400 → x.getD j 0 = y.getD j 0) → x = y := by
    intro x y hx hy hm hj
    apply List.ext_getElem (by omega)
    intro i hi hi2
    have h3 := Scr.may_num hm i (by omega)
    rw [nums_scrOf x hx] at h3
    have h4 := hj i (by omega) h3.2
    simpa [List.getD_eq_getElem?_getD, hi, hi2] using h4
  rcases h with ⟨rfl, rfl, rfl, rfl⟩ | ⟨he, h⟩
  · have hend : endSt l p 0 = endQ (l.drop p) 0 := by
      unfold endSt endQ
      rw [List.length_drop]
      by_cases hp : p < l.length
      · rw [if_pos ⟨rfl, hp⟩, if_pos ⟨rfl, by omega⟩]
      · rw [if_neg (by omega), if_neg (by omega)]
    rw [hend]
    have hget : ∀ j, j < 7 → (ns.map (fun x => min x 1000)).getD j 0 = min (ns.getD j 0) 1000 := by
      intro j hj
      simp [List.getD_eq_getElem?_getD, h1, hj]
    have k1 : (scrOf ns).May → ns = ns.map (fun x => min x 1000) := fun hm => same _ _ h1 h2 hm fun j hj hle => by rw [hget j hj]; omega
    have k2 : (scrOf (ns.map (fun x => min x 1000))).May → ns.map (fun x => min x 1000) = ns := fun hm => same _ _ h2 h1 hm fun j hj hle => by rw [hget j hj] at hle ⊢; omega
    exact ⟨⟨fun h => ⟨h.1, (k1 h.2) ▸ h.2⟩, fun h => ⟨h.1, (k2 h.2) ▸ h.2⟩⟩, fun h => by rw [← k1 h.2]⟩
  · have n1 : ¬ (endSt l p e = 0 ∧ (scrOf ns).May) := fun hh => by
      have := hh.1
      unfold endSt at this
      rw [if_neg (fun h => he h.1)] at this
      exact he this
    have n2 : ¬ (endQ r e2 = 0 ∧ (scrOf ms).May) := fun hh => by
      rcases h with h | h
      · have := hh.1
        unfold endQ at this
        rw [if_neg (fun h' => h h'.1)] at this
        exact h this
      · obtain ⟨j, hj, hje⟩ := List.getElem_of_mem h
        have h3 := Scr.may_num hh.2 j (by omega)
        rw [nums_scrOf ms h2] at h3
        simp [List.getD_eq_getElem?_getD, hj, hje] at h3
    exact ⟨⟨fun h => absurd h n1, fun h => absurd h n2⟩, fun h => absurd h n1⟩

/-- A call that answers these bytes and this error, in every world, and writes nothing below. -/
def Gives (f : FuncId) (args : Array Value) (D : List Int) (x : Int) : Prop := ∀ w : World, Calls Try.prog f args w fun e w' => ∃ A c, e = .returned (.tuple #[.slice A D.length c, .int .i64 x]) ∧ RB w' w'.heap.size A c D ∧ Below w.heap.size w w'

theorem both_bytes (s : Scr) : ∃ (D : List Int) (x : Int), D.length ≤ 63 ∧ Gives 17 #[s.val] D x ∧ Gives 18 #[s.val] D x := by
  by_cases h : s.May
  · refine ⟨numsB s.nums, 0, ?_, fun w => (bytes_may w s h).mono ?_, fun w => (rbytes_may w s h).mono ?_⟩
    · have := numsB_le s.nums
      exact this
    · rintro e w' ⟨A, c, rfl, ho, hb⟩
      exact ⟨A, c, rfl, ho.rb, hb⟩
    · rintro e w' ⟨A, c, rfl, ho, hb⟩
      exact ⟨A, c, rfl, ho.rb, hb⟩
  · refine ⟨[], 2, by simp, fun w => (bytes_not w s h).mono ?_, fun w => (rbytes_not w s h).mono ?_⟩
    · rintro e w' ⟨rfl, hb⟩
      exact ⟨none, 0, rfl, (OB.nil w' w'.heap.size).rb, hb⟩
    · rintro e w' ⟨rfl, hb⟩
      exact ⟨none, 0, rfl, (OB.nil w' w'.heap.size).rb, hb⟩

/-- A call that answers v on these bytes, wherever they lie. -/
def Reads (f : FuncId) (l : List Int) (v : Value) : Prop := ∀ (A : Option Addr) (c : Nat) (w : World) (B : Nat), RB w B A c l → B ≤ w.heap.size → Calls Try.prog f #[.slice A l.length c] w fun e w' => e = .returned v ∧ Below w.heap.size w w'

theorem both_read (l : List Int) (hlen : l.length ≤ 1099511627776) : ∃ (q : Scr) (x : Int), Reads 19 l (.tuple #[q.val, .int .i64 x]) ∧ Reads 21 l (.tuple #[q.val, .int .i64 x]) := by
  obtain ⟨h1, h2⟩ := read_agree l
  by_cases h : endSt l (rdN l 7).2.1 (rdN l 7).2.2 = 0 ∧ (scrOf (rdN l 7).1).May
  · refine ⟨scrOf (rdN l 7).1, 0, fun A c w B hr hB => (sread_any A c _ l w B rfl hr hB hlen).mono fun e w' hh => ⟨hh.1.1 h, hh.2⟩, fun A c w B hr hB => (rread_any A c _ l w B rfl hr hB hlen).mono fun e w' hh => ⟨?_, hh.2⟩⟩
    rw [h2 h]
    exact hh.1.1 (h1.1 h)
  · exact ⟨scrOf [], 4, fun A c w B hr hB => (sread_any A c _ l w B rfl hr hB hlen).mono fun e w' hh => ⟨hh.1.2 h, hh.2⟩, fun A c w B hr hB => (rread_any A c _ l w B rfl hr hB hlen).mono fun e w' hh => ⟨hh.1.2 (fun hx => h (h1.2 hx)), hh.2⟩⟩
end Go.Proofs.Ytpkmphalhmmbkaa
