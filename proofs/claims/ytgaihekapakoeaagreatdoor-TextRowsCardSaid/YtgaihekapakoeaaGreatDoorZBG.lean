/-  -/
import Derived.Test.YtgaihekapakoeaaGreatDoorZBF
namespace Go.Proofs.YtgaihekapakoeaaGreatDoor
open Go.RowKit
set_option linter.unusedVariables false
set_option linter.unusedSimpArgs false
set_option maxRecDepth 100000

set_option maxHeartbeats 4000000 in
theorem light_texts (A : Option Addr) (c n : Nat) (M : List ByteArray) (w : World) (hn : n = M.length) (h : TL w w.heap.size A c M) :
    Calls Tryz.prog 19 #[.slice A n c, .int .i64 12, .int .i64 60] w fun e w' => (∃ b : Bool, e = .returned (.bool b) ∧ (b = true → M.length ≤ 12 ∧ ∀ s ∈ M, s.size ≤ 60)) ∧ w = w' := by
  subst hn
  have hle := h.le
  have hcap := h.cap
  unfold maxLen at hcap
  have H := Lib.hid h
  clear h
  go_enter Tryz.func19, Tryz.ntmps19
  go_wp2_with fail
  go_loopw [7] (fun i wr => wr = w ∧ ∃ k : Nat, i = .int .i64 k ∧ k ≤ M.length ∧ k ≤ 13 ∧ (id (∀ j, j < k → (M.getD j ⟨#[]⟩).size ≤ 60))) (fun i _ => M.length - (intOf i).toNat)
  case atStart => exact ⟨rfl, 0, rfl, by omega, by omega, (fun j hj => absurd hj (by omega) : ∀ j, j < 0 → (M.getD j ⟨#[]⟩).size ≤ 60)⟩
  case round =>
    obtain ⟨rfl, k, rfl, hk, hk13, hs0⟩ := hrel
    have hs1 : ∀ j, j < k → (M.getD j ⟨#[]⟩).size ≤ 60 := hs0
    have hs := Lib.hid hs1
    clear hs0 hs1
    by_cases hlt : k < M.length
    · by_cases h12 : k ≤ 12
      · obtain ⟨b1, o1, rfl, hb1, ha1⟩ := H.out.at_ (by omega)
        have u1 := ha1 k hlt
        obtain ⟨y, hy⟩ : ∃ y, M.getD k ⟨#[]⟩ = y := ⟨_, rfl⟩
        rw [hy] at u1
        have HY := Lib.hid hy
        clear hy ha1
        by_cases h60 : (60 : Int) < (y.size : Int)
        · go_wp2_with fail
          go_ret
          exact ⟨⟨false, rfl, fun h => by cases h⟩, rfl⟩
        · go_wp2_with fail
          refine ⟨⟨trivial, k + 1, by go_num, by omega, by omega, ?_⟩, by simp [intOf]; omega⟩
          show ∀ j, j < k + 1 → (M.getD j ⟨#[]⟩).size ≤ 60
          intro j hj
          by_cases hjk : j = k
          · subst hjk; rw [HY.out]; omega
          · exact hs.out j (by omega)
      · have hk3 : k = 13 := by omega
        go_wp2_with fail
        go_ret
        exact ⟨⟨_, rfl, fun h => by simp at h; omega⟩, rfl⟩
    · have hke : k = M.length := by omega
      go_wp2_with fail
      go_ret
      refine ⟨⟨_, rfl, fun h => ⟨by simp at h; omega, fun s hsM => ?_⟩⟩, rfl⟩
      obtain ⟨j, hj, rfl⟩ := List.getElem_of_mem hsM
      have := hs.out j (by omega)
      simpa [List.getD_eq_getElem?_getD, hj] using this
end Go.Proofs.YtgaihekapakoeaaGreatDoor
