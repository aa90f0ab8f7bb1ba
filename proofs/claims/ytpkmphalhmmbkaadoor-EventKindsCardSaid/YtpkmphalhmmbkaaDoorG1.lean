
/- The walk of EventKinds. -/
import Derived.Test.YtpkmphalhmmbkaaDoorF8
import Derived.BigQuiet
namespace Go.Proofs.YtpkmphalhmmbkaaDoor
open Go.RowKit
set_option linter.unusedSimpArgs false
set_option linter.unusedVariables false
set_option maxRecDepth 100000

theorem kind_range (k : Int) (h : chipOf k ≠ 0) : 1 ≤ k ∧ k ≤ 12 := by
  unfold chipOf at h
  (repeat' split at h) <;> omega
theorem name_none (k : Int) (h : chipOf k = 0) : nameOf k = ⟨#[]⟩ := by
  unfold nameOf
  split
  · rename_i hk
    have : k = 0 := by
      unfold chipOf at h
      (repeat' split at h) <;> omega
    subst this
    rfl
  · rfl
theorem name_some (k : Int) (h : chipOf k ≠ 0) : ((nameOf k).toList == []) = false := by
  obtain ⟨h1, h2⟩ := kind_range k h
  obtain ⟨n, rfl⟩ : ∃ n : Nat, k = n := ⟨k.toNat, by omega⟩
  have hn : n = 1 ∨ n = 2 ∨ n = 3 ∨ n = 4 ∨ n = 5 ∨ n = 6 ∨ n = 7 ∨ n = 8 ∨ n = 9 ∨ n = 10 ∨ n = 11 ∨ n = 12 := by omega
  rcases hn with rfl | rfl | rfl | rfl | rfl | rfl | rfl | rfl | rfl | rfl | rfl | rfl <;> decide +kernel
theorem name_inj : ∀ i : Fin 13, ∀ j : Fin 13, nameB i.val = nameB j.val → i = j := by decide +kernel
theorem name_same (a b : Int) (ha : chipOf a ≠ 0) (hb : chipOf b ≠ 0) (h : nameOf a = nameOf b) : a = b := by
  obtain ⟨a1, a2⟩ := kind_range a ha
  obtain ⟨b1, b2⟩ := kind_range b hb
  unfold nameOf at h
  rw [if_pos (by omega), if_pos (by omega)] at h
  have := name_inj ⟨a.toNat, by omega⟩ ⟨b.toNat, by omega⟩ h
  have h2 : a.toNat = b.toNat := congrArg Fin.val this
  omega
theorem chip_mono (a b : Int) (ha : chipOf a ≠ 0) (hb : chipOf b ≠ 0) (h : a < b) : chipOf a ≤ chipOf b := by
  obtain ⟨a1, a2⟩ := kind_range a ha
  obtain ⟨b1, b2⟩ := kind_range b hb
  unfold chipOf
  (repeat' split) <;> omega

set_option maxHeartbeats 1600000 in
theorem walk_EventKinds (w : World) (hV : Vars w) (a : Int) (_ : (Lit.int .i64 a).wf = true) (b : Int) (_ : (Lit.int .i64 b).wf = true) : Calls Tryd.prog 6 #[.int .i64 a, .int .i64 b] w fun e w' => e = .returned (.bool true) ∧ Below w.heap.size w w' := by
  have H0 := Lib.hid (lives3_any w hV)
  by_cases ha : chipOf a = 0
  · have NA := Lib.hid (fun w hV => name_none a ha ▸ name_any a w hV)
    have CA := Lib.hid (fun w => ha ▸ chip_any a w)
    clear ha
    go_enter Tryd.func6, Tryd.ntmps6
    go_wp2_with fail
    refine H0.out.mono ?_
    rintro e w1 ⟨rfl, hB1⟩
    go_wp2_with fail
    refine (NA.out _ (hV.on hB1)).mono ?_
    rintro e w' ⟨rfl, rfl⟩
    go_wp2_with (go_at_call 9; (with_reducible refine (CA.out _).mono ?_); rintro e w' ⟨rfl, rfl⟩)
    go_ret
    exact ⟨rfl, hB1⟩
  · obtain ⟨ca, hca⟩ : ∃ c, chipOf a = c := ⟨_, rfl⟩
    obtain ⟨sa, hsa⟩ : ∃ c, nameOf a = c := ⟨_, rfl⟩
    have NA := Lib.hid (fun w hV => hsa ▸ name_any a w hV)
    have CA := Lib.hid (fun w => hca ▸ chip_any a w)
    have e0 := chipOf_bd a
    rw [hca] at e0
    obtain ⟨e1, e2⟩ := e0
    have e3 : (ca == 0) = false := by rw [beq_eq_false_iff_ne, ← hca]; exact ha
    have e4 : (ca != 0) = true := by rw [bne_iff_ne, ← hca]; exact ha
    have b1 : (sa.toList == []) = false := by rw [← hsa]; exact name_some a ha
    have b2 : (sa.toList != []) = true := by unfold bne; rw [b1]; rfl
    have b4 : ¬ sa.toList = [] := by simpa using b1
    have b3 : sa.toList.isEmpty = false := by cases h : sa.toList with | nil => exact absurd h b4 | cons _ _ => rfl
    by_cases hb : chipOf b = 0
    · have CB := Lib.hid (fun w => hb ▸ chip_any b w)
      clear hb ha hca hsa
      go_enter Tryd.func6, Tryd.ntmps6
      go_wp2_with fail
      refine H0.out.mono ?_
      rintro e w1 ⟨rfl, hB1⟩
      go_wp2_with fail
      refine (NA.out _ (hV.on hB1)).mono ?_
      rintro e w' ⟨rfl, rfl⟩
      go_wp2_with (first | (go_at_call 9; (with_reducible refine (CA.out _).mono ?_); rintro e w' ⟨rfl, rfl⟩) | (go_at_call 9; (with_reducible refine (CB.out _).mono ?_); rintro e w' ⟨rfl, rfl⟩))
      go_ret
      exact ⟨rfl, hB1⟩
    · obtain ⟨cb, hcb⟩ : ∃ c, chipOf b = c := ⟨_, rfl⟩
      obtain ⟨sb, hsb⟩ : ∃ c, nameOf b = c := ⟨_, rfl⟩
      have NB := Lib.hid (fun w hV => hsb ▸ name_any b w hV)
      have CB := Lib.hid (fun w => hcb ▸ chip_any b w)
      have f3 : (cb == 0) = false := by rw [beq_eq_false_iff_ne, ← hcb]; exact hb
      by_cases hab : a = b
      · subst hab
        have hsab : sa = sb := hsa.symm.trans hsb
        subst hsab
        have hcab : ca = cb := hca.symm.trans hcb
        subst hcab
        clear hb ha hca hsa hcb hsb
        go_enter Tryd.func6, Tryd.ntmps6
        go_wp2_with fail
        refine H0.out.mono ?_
        rintro e w1 ⟨rfl, hB1⟩
        have hV1 := hV.on hB1
        go_wp2_with (first | (go_at_call 9; (with_reducible refine (CA.out _).mono ?_); rintro e w' ⟨rfl, rfl⟩) | (go_at_call 10; (with_reducible refine (NA.out _ hV1).mono ?_); rintro e w' ⟨rfl, rfl⟩))
        go_ret
        exact ⟨by simp, hB1⟩
      · have d1 : (sa.toList == sb.toList) = false := tl_ne (fun h => hab (name_same a b ha hb (by rw [hsa, hsb]; exact h)))
        have d2 : (a == b) = false := by simpa using hab
        by_cases hlt : b ≤ a
        · clear hb ha hca hsa hcb hsb hab
          go_enter Tryd.func6, Tryd.ntmps6
          go_wp2_with fail
          refine H0.out.mono ?_
          rintro e w1 ⟨rfl, hB1⟩
          have hV1 := hV.on hB1
          go_wp2_with (first | (go_at_call 9; (with_reducible refine (CA.out _).mono ?_); rintro e w' ⟨rfl, rfl⟩) | (go_at_call 9; (with_reducible refine (CB.out _).mono ?_); rintro e w' ⟨rfl, rfl⟩) | (go_at_call 10; (with_reducible refine (NA.out _ hV1).mono ?_); rintro e w' ⟨rfl, rfl⟩) | (go_at_call 10; (with_reducible refine (NB.out _ hV1).mono ?_); rintro e w' ⟨rfl, rfl⟩))
          go_ret
          exact ⟨rfl, hB1⟩
        · have hle : ca ≤ cb := by rw [← hca, ← hcb]; exact chip_mono a b ha hb (by omega)
          have hlt' : a < b := by omega
          clear hb ha hca hsa hcb hsb hab hlt
          go_enter Tryd.func6, Tryd.ntmps6
          go_wp2_with fail
          refine H0.out.mono ?_
          rintro e w1 ⟨rfl, hB1⟩
          have hV1 := hV.on hB1
          go_wp2_with (first | (go_at_call 9; (with_reducible refine (CA.out _).mono ?_); rintro e w' ⟨rfl, rfl⟩) | (go_at_call 9; (with_reducible refine (CB.out _).mono ?_); rintro e w' ⟨rfl, rfl⟩) | (go_at_call 10; (with_reducible refine (NA.out _ hV1).mono ?_); rintro e w' ⟨rfl, rfl⟩) | (go_at_call 10; (with_reducible refine (NB.out _ hV1).mono ?_); rintro e w' ⟨rfl, rfl⟩))
          go_ret
          exact ⟨rfl, hB1⟩
end Go.Proofs.YtpkmphalhmmbkaaDoor
