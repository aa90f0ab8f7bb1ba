/-  -/
import Derived.Test.YtgaihekapakoeaaGreatDoorJ26
namespace Go.Proofs.YtgaihekapakoeaaGreatDoor
open Go.RowKit
set_option linter.unusedSimpArgs false
set_option linter.unusedVariables false
set_option maxRecDepth 100000

theorem allI_cons {l : List Int} (hb : AllB l) {y : In} {T : List In} (h : (allI l).1 = y :: T) : ofI l = some y ∧ T = (allI (l.drop y.n.toNat)).1 ∧ (allI l).2 = y.n.toNat + (allI (l.drop y.n.toNat)).2 := by
  cases hy : ofI l with
  | none => rw [allI_none hy] at h; cases h
  | some z =>
    rw [allI_some hb hy] at h ⊢
    simp only [List.cons.injEq] at h
    obtain ⟨rfl, h2⟩ := h
    exact ⟨rfl, h2.symm, rfl⟩
theorem allI_nil {l : List Int} (hb : AllB l) (h : (allI l).1 = []) : (allI l).2 = 0 := by
  cases hy : ofI l with
  | none => rw [allI_none hy]
  | some z => rw [allI_some hb hy] at h; cases h
theorem in_neq (i : In) (w : World) : (binOp .neq 23 i.val i.val).run Tryz.prog w = .ok (.bool false) w := by
  unfold In.val In.cells
  go_simp
theorem IL.tail {w : World} {B b off c : Nat} {M : List In} (h : IL w B (some ⟨b, off, none⟩) c M) (j : Nat) (hj : j < M.length) : IL w B (some ⟨b, off + j * 6, none⟩) (c - j) (M.drop j) := by
  have h1 := h.le
  have h2 := h.cap
  refine ⟨by rw [List.length_drop]; omega, by omega, fun h0 => ?_⟩
  obtain ⟨b', o', e, hb, hat⟩ := h.at_ (by omega)
  simp only [Option.some.injEq, Addr.mk.injEq, and_true] at e
  obtain ⟨rfl, rfl⟩ := e
  refine ⟨_, _, rfl, hb, fun i hi => ?_⟩
  rw [List.length_drop] at hi
  have := hat (j + i) (by omega)
  rw [show off + j * 6 + i * 6 = off + (j + i) * 6 by omega]
  have e2 : (M.drop j).getD i zeroI = M.getD (j + i) zeroI := by simp [List.getD_eq_getElem?_getD]
  rw [e2]
  exact this

theorem pick_any (a m : Int) (w : World) (wa : (Lit.int .i64 a).wf = true) (m0 : 1 ≤ m) (m1 : m ≤ 1000) : Calls Tryz.prog 24 #[.int .i64 a, .int .i64 m] w fun e w' => (∃ k : Int, e = .returned (.int .i64 k)) ∧ w = w' := by
  have hm0 : m ≠ 0 := by omega
  have ha := bounds_i64 wa
  go_enter Tryz.func24, Tryz.ntmps24
  go_wp2
  all_goals
    go_ret
    exact ⟨⟨_, rfl⟩, rfl⟩
theorem drop_cons {Z : List In} {j : Nat} (hj : j < Z.length) : Z.drop j = Z.getD j zeroI :: Z.drop (j + 1) := by
  rw [List.drop_eq_getElem_cons hj]
  simp [List.getD_eq_getElem?_getD, hj]

theorem all_ob {w : World} {B c : Nat} {A : Option Addr} {l : List Int} (h : OB w B A c l) (hl : l.length ≤ 500) (n : Nat) (hn : n = l.length) : Calls Tryz.prog 40 #[.slice A n c] w (AllTo w l) := by
  rcases h.addr with ⟨rfl, rfl, rfl⟩ | ⟨g, rfl⟩
  · subst hn; exact c9_all_nil w
  · exact c9_all g 0 c n l w hn h.rb hl

end Go.Proofs.YtgaihekapakoeaaGreatDoor
