/-  -/
import Derived.Test.YtgaihekapakoeaaGreatDoorZBJ
namespace Go.Proofs.YtgaihekapakoeaaGreatDoor
open Go.RowKit
set_option linter.unusedVariables false
set_option linter.unusedSimpArgs false
set_option maxRecDepth 100000

theorem txs_small {l : List Int} (hb : AllB l) : ∀ s ∈ txs (allI l).1, s.size ≤ 100000 := by
  intro s hs
  obtain ⟨y, hy, rfl⟩ := List.mem_map.1 hs
  obtain ⟨h1, h2⟩ := allI_wf _ l (Nat.le_refl _) hb y hy
  unfold ofTx
  rw [if_pos h2]
  have := text_len h1 h2
  simp [ByteArray.size]
  omega
theorem own_shape_or {w : World} {base n : Nat} {v : Value} {xs : List Value} (h : w.ownsRow base 9 1 v n xs) : ∃ A c, v = .slice A n c ∧ ((A = none ∧ c = 0 ∧ n = 0) ∨ ∃ b o, A = some ⟨b, o, none⟩) := by
  rcases h.2 with ⟨h1, h2⟩ | ⟨g, cap, cur, h1, _⟩
  · exact ⟨none, 0, by rw [h1, h2], .inl ⟨rfl, rfl, h2⟩⟩
  · exact ⟨_, _, h1, .inr ⟨g, 0, rfl⟩⟩
set_option maxHeartbeats 8000000 in
theorem r9_all_empty (a : Addr) (c : Nat) (w : World) (hc : c ≤ maxLen) : Calls Tryz.prog 23 #[.slice (some a) 0 c] w (AllTo w []) := by
  have hO := fun (w : World) (a : Addr) (c : Nat) (hc : c ≤ maxLen) => r9_of (some a) c 0 [] w rfl (RB.empty w _ a c hc)
  unfold OfTo at hO
  rw [show ofV [] = zeroI from by decide +kernel, show ofE [] = 5 from by decide +kernel] at hO
  rw [in_val] at hO
  have HO := Lib.hid hO
  clear hO
  unfold AllTo
  rw [show allI [] = ([], 0) from by decide +kernel]
  obtain ⟨b, off, sp⟩ := a
  unfold maxLen at hc HO
  go_enter Tryz.func23, Tryz.ntmps23
  go_wp2_with fail
  go_loopw [4, 5] (fun v n wr => v = .slice none 0 0 ∧ n = .int .i64 0 ∧ Below w.heap.size w wr) (fun _ _ _ => 0)
  case atStart => exact ⟨rfl, rfl, Below.refl _ _⟩
  case round =>
    obtain ⟨rfl, rfl, hb⟩ := hrel
    go_wp2_with fail
    refine (HO.out _ _ _ (by omega)).mono ?_
    rintro e w2 ⟨rfl, hb2⟩
    have hB := hb.trans (hb2.mono hb.size)
    clear hb hb2
    go_wp2_with fail
    go_ret2
    exact ⟨⟨none, 0, rfl, World.ownsRow_nil _ _ _ _⟩, hB.alloc hB.size _⟩
theorem r9_all_any (A : Option Addr) (c n : Nat) (l : List Int) (w : World) (hn : n = l.length) (h : RB w w.heap.size A c l) (hl : l.length ≤ 500) : Calls Tryz.prog 23 #[.slice A n c] w (AllTo w l) := by
  rcases h.at_ with ⟨rfl, hc⟩ | ⟨⟨b, off, sp⟩, rfl, h1⟩
  · subst hc
    have h0 := h.le
    have : l = [] := List.eq_nil_of_length_eq_zero (by omega)
    subst this
    subst hn
    exact r9_all_nil w
  · rcases Nat.eq_zero_or_pos l.length with h0 | h0
    · have : l = [] := List.eq_nil_of_length_eq_zero h0
      subst this
      subst hn
      exact r9_all_empty _ c w h.cap
    · obtain ⟨rfl, -, -⟩ : sp = none ∧ True ∧ True := ⟨(h1 h0).1, trivial, trivial⟩
      exact r9_all b off c n l w hn h hl
end Go.Proofs.YtgaihekapakoeaaGreatDoor
