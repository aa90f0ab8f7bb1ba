
/- The reference's number. -/
import Derived.Test.YthmogabonfkmhaaGreatDoorN0
namespace Go.Proofs.YthmogabonfkmhaaGreatDoor
open Go.RowKit
set_option linter.unusedSimpArgs false
set_option linter.unusedVariables false

theorem pow10_le (k : Nat) (hk : k ≤ 13) : (10 : Int) ^ k ≤ 10000000000000 := by
  obtain rfl | rfl | rfl | rfl | rfl | rfl | rfl | rfl | rfl | rfl | rfl | rfl | rfl | rfl : k = 0 ∨ k = 1 ∨ k = 2 ∨ k = 3 ∨ k = 4 ∨ k = 5 ∨ k = 6 ∨ k = 7 ∨ k = 8 ∨ k = 9 ∨ k = 10 ∨ k = 11 ∨ k = 12 ∨ k = 13 := by omega
  all_goals decide
theorem n2_ret {a b : Int} (h : a = b) : Ending.returned (.int .i64 a) = .returned (.int .i64 b) := by rw [h]
theorem numR_bad {l : List UInt8} (h : ¬ (1 ≤ l.length ∧ l.length ≤ 13 ∧ ∀ c ∈ l, isDig c)) : numR l = -1 := by unfold numR; rw [if_neg h]

set_option maxHeartbeats 800000 in
theorem p3number_any (s : ByteArray) (w : World) : Calls Tryz.prog 36 #[.string s] w fun e w' => e = .returned (.int .i64 (numR s.data.toList)) ∧ w = w' := by
  have hsz : s.data.toList.length = s.size := Array.length_toList
  by_cases h1 : s.size < 1
  · have hr := numR_bad (l := s.data.toList) (by omega)
    rw [hr]
    clear hr hsz
    go_enter Tryz.func36, Tryz.ntmps36
    go_wp2
    go_ret
    exact ⟨rfl, rfl⟩
  · by_cases h2 : 13 < s.size
    · have hr := numR_bad (l := s.data.toList) (by omega)
      rw [hr]
      clear hr hsz
      go_enter Tryz.func36, Tryz.ntmps36
      go_wp2
      go_ret
      exact ⟨rfl, rfl⟩
    · have H1 := Lib.hid h1
      go_enter Tryz.func36, Tryz.ntmps36
      go_wp2
      go_loop [3, 4] (fun n i => ∃ k : Nat, k ≤ s.size ∧ i = .int .i64 k ∧ n = .int .i64 (numV (s.data.toList.take k)) ∧ Hid (∀ c ∈ s.data.toList.take k, isDig c)) (fun _ i => s.size - (intOf i).toNat)
      case atStart => exact ⟨0, by omega, rfl, rfl, Lib.hid (fun c hc => by simp at hc)⟩
      case round =>
        obtain ⟨k, hk, rfl, rfl, HD⟩ := hrel
        by_cases hlt : k < s.size
        · have hl := numV_in k (s.data.toList.take k) (by simp; omega) HD.out
          have hp := pow10_le k (by omega)
          have hlk : k < s.data.toList.length := by omega
          have htk : s.data.toList.take (k + 1) = s.data.toList.take k ++ [s[k]] := List.take_succ_eq_append_getElem hlk
          have hmem : s[k] ∈ s.data.toList := List.getElem_mem hlk
          have HTK := Lib.hid htk
          have HME := Lib.hid hmem
          obtain ⟨l0, l1⟩ := hl
          clear htk hmem hsz
          go_wp2
          all_goals first
            | (go_ret
               exact ⟨n2_ret (numR_bad (fun h => by have h3 : 48 ≤ s[k].toNat ∧ s[k].toNat ≤ 57 := h.2.2 _ HME.out; omega)).symm, rfl⟩)
            | (refine ⟨⟨k + 1, by omega, by go_num, ?_, Lib.hid ?_⟩, by simp [intOf]; omega⟩
               · rw [HTK.out, numV_snoc]
               · rw [HTK.out]
                 intro c hc
                 rcases List.mem_append.1 hc with h | h
                 · exact HD.out c h
                 · obtain rfl := List.mem_singleton.1 h
                   show 48 ≤ s[k].toNat ∧ s[k].toNat ≤ 57
                   omega)
        · obtain rfl : k = s.size := by omega
          rw [← hsz] at HD
          rw [List.take_length] at HD
          have htl : s.data.toList.take s.size = s.data.toList := by rw [← hsz, List.take_length]
          rw [htl]
          have hr : numR s.data.toList = numV s.data.toList := by unfold numR; rw [if_pos ⟨by omega, by omega, HD.out⟩]

          clear hsz
          go_wp2
          go_ret
          exact ⟨rfl, rfl⟩
end Go.Proofs.YthmogabonfkmhaaGreatDoor
