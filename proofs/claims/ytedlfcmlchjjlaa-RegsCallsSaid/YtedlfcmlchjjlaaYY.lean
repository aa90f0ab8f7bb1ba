
/- Registers, the document's own: four, Text. -/
import Derived.Test.YtedlfcmlchjjlaaYX
import Derived.Test.YtedlfcmlchjjlaaYI
import Derived.Laws.Strings3
namespace Go.Proofs.Ytedlfcmlchjjlaa
open Go.RowKit
set_option linter.unusedSimpArgs false
set_option linter.unusedVariables false
set_option maxRecDepth 100000

theorem hex_ext : ∀ k : Fin 16, digitsS.extract k.val (k.val + 1) = strOfNums [hexd (k.val : Int)] := by decide +kernel

theorem hex_at (d : Int) (h0 : 0 ≤ d) (h1 : d < 16) : digitsS.extract d.toNat (d + 1).toNat = strOfNums [hexd d] := by
  obtain ⟨k, rfl⟩ := Int.eq_ofNat_of_zero_le h0
  have := hex_ext ⟨k, by omega⟩
  rw [Int.toNat_natCast, show ((k : Int) + 1).toNat = k + 1 by omega]
  exact this
theorem str_app (a b : List Int) : strOfNums a ++ strOfNums b = strOfNums (a ++ b) := by
  apply ByteArray.ext
  rw [ByteArray.data_append]
  unfold strOfNums
  simp

theorem r8_four (v : Int) (hv : isW v) (w : World) : Calls Try.prog 64 #[.int .u16 v] w fun e w' => e = .returned (.string (strOfNums (fourB v))) ∧ w = w' := by
  obtain ⟨v0, v1⟩ := hv
  go_enter Try.func64, Try.ntmps64
  go_wp2_with fail
  go_loopw [4, 5] (fun s i wr => (∃ j : Nat, j ≤ 4 ∧ i = .int .i64 j ∧ s = .string (strOfNums ((fourB v).take j))) ∧ w = wr) (fun _ i _ => 4 - (intOf i).toNat)
  case atStart => exact ⟨⟨0, by omega, rfl, rfl⟩, rfl⟩
  case round =>
    obtain ⟨⟨j, hj, rfl, rfl⟩, rfl⟩ := hrel
    have hj5 : j = 0 ∨ j = 1 ∨ j = 2 ∨ j = 3 ∨ j = 4 := by omega
    rcases hj5 with rfl | rfl | rfl | rfl | rfl
    · go_wp2_with fail
      · exfalso
        rename_i h9
        have h8 : (strOfNums []).size ≤ 4 := by rw [strOfNums_size]; simp
        have h7 := Nat.min_le_right ((v / 4096 % 16) + 1).toNat 16
        omega
      refine ⟨⟨⟨1, by omega, rfl, ?_⟩, trivial⟩, by simp [intOf]⟩
      rw [hex_at (v / 4096 % 16) (by omega) (by omega), str_app, show v / 4096 % 16 = v / 4096 by omega]; rfl
    · go_wp2_with fail
      · exfalso
        rename_i h9
        have h8 : (strOfNums (List.take 1 (fourB v))).size ≤ 4 := by rw [strOfNums_size]; simp [fourB]
        have h7 := Nat.min_le_right ((v / 256 % 16) + 1).toNat 16
        omega
      refine ⟨⟨⟨2, by omega, rfl, ?_⟩, trivial⟩, by simp [intOf]⟩
      rw [hex_at (v / 256 % 16) (by omega) (by omega), str_app]; rfl
    · go_wp2_with fail
      · exfalso
        rename_i h9
        have h8 : (strOfNums (List.take 2 (fourB v))).size ≤ 4 := by rw [strOfNums_size]; simp [fourB]
        have h7 := Nat.min_le_right ((v / 16 % 16) + 1).toNat 16
        omega
      refine ⟨⟨⟨3, by omega, rfl, ?_⟩, trivial⟩, by simp [intOf]⟩
      rw [hex_at (v / 16 % 16) (by omega) (by omega), str_app]; rfl
    · go_wp2_with fail
      · exfalso
        rename_i h9
        have h8 : (strOfNums (List.take 3 (fourB v))).size ≤ 4 := by rw [strOfNums_size]; simp [fourB]
        have h7 := Nat.min_le_right ((v % 16) + 1).toNat 16
        omega
      refine ⟨⟨⟨4, by omega, rfl, ?_⟩, trivial⟩, by simp [intOf]⟩
      rw [hex_at (v % 16) (by omega) (by omega), str_app]; rfl
    · go_wp2_with fail
      go_ret
      exact ⟨rfl, rfl⟩
end Go.Proofs.Ytedlfcmlchjjlaa
