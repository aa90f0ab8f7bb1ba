
/- The reference's Digits. -/
import Derived.Test.YthmogabonfkmhaaGreatDoorQ2
import Derived.Deep.DeepCutAuto
import Derived.Laws.Concat
import Derived.Test.YthmogabonfkmhaaGreatDoorN0
namespace Go.Proofs.YthmogabonfkmhaaGreatDoor
open Go.RowKit
set_option linter.unusedSimpArgs false
set_option linter.unusedVariables false
set_option maxRecDepth 100000

theorem one_rb (w w' : World) (x : Int) (t : TypeId) (h0 : 0 ≤ x) (h1 : x < 256) (h : Below (w.heap.size + 1) (w.alloc (.cells #[.int .u8 x] t)) w') : RB w' (w.heap.size + 1) (some ⟨w.heap.size, 0, none⟩) 1 [x] := by
  refine ⟨Nat.le_refl _, by decide, AllB.one h0 h1, .inr ⟨_, rfl, fun _ => ⟨rfl, Nat.lt_succ_self _, fun i hi => ?_⟩⟩⟩
  obtain rfl : i = 0 := by simp at hi; omega
  rw [h.cell (Nat.lt_succ_self _), World.cell?_alloc_at _ _ _ _ rfl]
  rfl
theorem one_run (w : World) (x : Int) (t : TypeId) (h0 : 0 ≤ x) (h1 : x < 256) (w' : World) (h : Below (w.heap.size + 1) (w.alloc (.cells #[.int .u8 x] t)) w') :
    (convert 24 9 (.slice (some ⟨w.heap.size, 0, none⟩) 1 1)).run Tryz.prog w' = .ok (.string (strOfNums [x])) w' := run_string_rb w' _ _ _ [x] (one_rb w w' x t h0 h1 h)
theorem itoa_pos {n : Int} (h : 0 ≤ n) : Lib.itoa n = Lib.decDigits n.toNat := by unfold Lib.itoa; rw [if_neg (by omega)]
theorem nDig_le : ∀ (k u : Nat), u < 10 ^ (k + 1) → Lib.nDigits u ≤ k + 1
  | 0, u, h => by rw [Lib.nDigits_small (by simpa using h)]; omega
  | k + 1, u, h => by
    by_cases h1 : u < 10
    · rw [Lib.nDigits_small h1]; omega
    · rw [Lib.nDigits_big h1]
      have := nDig_le k (u / 10) (by rw [Nat.pow_succ] at h; omega)
      omega
theorem itoa_size {n : Int} (h : 0 ≤ n) (h1 : n ≤ 9223372036854775807) : (⟨(Lib.itoa n).toArray⟩ : ByteArray).size ≤ 20 := by
  rw [itoa_pos h]
  show (Lib.decDigits n.toNat).toArray.size ≤ 20
  rw [List.size_toArray, Lib.decDigits_length]
  exact nDig_le 19 _ (by omega)
theorem add_run (a b : ByteArray) (h : a.size + b.size ≤ 2000) : ∀ w, (Op.stringOp .add a b).run Tryz.prog w = .ok (.string (a ++ b)) w := fun w => run_string_add_sum w a b (by omega)
theorem itoa_small {n : Int} (h : 0 ≤ n) (h1 : n < 10) : strOfNums [48 + n] = ⟨(Lib.itoa n).toArray⟩ := by
  rw [itoa_pos h, Lib.decDigits_one (by omega)]
  show (⟨#[UInt8.ofNat (48 + n).toNat]⟩ : ByteArray) = ⟨#[UInt8.ofNat (48 + n.toNat)]⟩
  rw [show (48 + n).toNat = 48 + n.toNat by omega]
theorem itoa_big {n : Int} (h : 10 ≤ n) : (⟨(Lib.itoa (n / 10)).toArray⟩ : ByteArray) ++ strOfNums [48 + n % 10] = ⟨(Lib.itoa n).toArray⟩ := by
  rw [itoa_pos (show 0 ≤ n / 10 by omega), itoa_pos (show 0 ≤ n by omega), dec_cons (u := n.toNat) (by omega)]
  rw [show (n / 10).toNat = n.toNat / 10 by omega]
  have : strOfNums [48 + n % 10] = ⟨[UInt8.ofNat (48 + n.toNat % 10)].toArray⟩ := by
    show (⟨#[UInt8.ofNat (48 + n % 10).toNat]⟩ : ByteArray) = _
    rw [show (48 + n % 10).toNat = 48 + n.toNat % 10 by omega]
  rw [this]
  apply ByteArray.ext
  simp

set_option maxHeartbeats 1600000 in
theorem rdigits_any : ∀ (k : Nat) (n : Int) (w : World), n.toNat ≤ k → 0 ≤ n → n ≤ 9223372036854775807 →
    Calls Tryz.prog 43 #[.int .i64 n] w fun e w' => e = .returned (.string ⟨(Lib.itoa n).toArray⟩) ∧ Below w.heap.size w w' := by
  intro k
  induction k with
  | zero =>
    intro n w hk h0 h1
    obtain rfl : n = 0 := by omega
    have hrun := one_run w 48 5 (by decide) (by decide) _ (Below.refl _ _)
    go_enter Tryz.func43, Tryz.ntmps43
    go_wp2_with fail
    go_ret
    exact ⟨congrArg (fun b => Ending.returned (.string b)) (itoa_small (n := 0) (by decide) (by decide)), (Below.refl _ _).alloc (Nat.le_refl _) _⟩
  | succ k ih =>
    intro n w hk h0 h1
    by_cases hn : n < 10
    · have hrun := one_run w (48 + n) 5 (by omega) (by omega) _ (Below.refl _ _)
      go_enter Tryz.func43, Tryz.ntmps43
      go_wp2_with fail
      go_ret
      exact ⟨congrArg (fun b => Ending.returned (.string b)) (itoa_small h0 hn), (Below.refl _ _).alloc (Nat.le_refl _) _⟩
    · have IH := Lib.hid (fun w => ih (n / 10) w (by omega) (by omega) (by omega))
      clear ih
      go_enter Tryz.func43, Tryz.ntmps43
      go_upto_region 3 with fail
      refine L.region_ (fun _ => False) (by kernel_rfl) ?_
      refine L.seg_ [0, 1, 3, 4, 5, 6] 5 _ (by kernel_rfl) (by kernel_rfl) (by kernel_rfl) (by simp only [pickOps, mask, plain, List.getElem?_toArray, List.getElem?_cons_zero, List.getElem?_cons_succ, if_true]; rfl) ?_
      repeat (go_big_quiet_step (fail))
      refine wpQuiet_nil ?_
      refine L.calm_ (i := 2) (.string ⟨(Lib.itoa (n / 10)).toArray⟩) rfl (by kernel_rfl) (by kernel_rfl) (by kernel_rfl) (by kernel_rfl) ?_ ?_
      · intro wz sz
        unfold Oper.does
        go_simp
        exact (IH.out wz).mono fun e w' ⟨he, hw⟩ => ⟨_, he, rfl, Save.of_below hw⟩
      refine L.call_ (i := 7) rfl (by kernel_rfl) (by kernel_rfl) ?_
      intro wa sa
      unfold Oper.does
      go_simp
      have hBa : Below w.heap.size w wa := sa.all
      refine same_ sa (Save.of_below ((Below.refl _ _).alloc (Nat.le_refl _) _)) ?_
      clear sa
      refine L.call_ (i := 8) rfl (by kernel_rfl) (by kernel_rfl) ?_
      intro wb sb
      have hrun := one_run wa (48 + n % 10) 5 (by omega) (by omega) wb (sb.all.mono (by simp))
      have hBb : Below w.heap.size w wb := (hBa.alloc hBa.size _).trans (sb.all.mono (by have := hBa.size; simp; omega))
      unfold Oper.does
      go_simp
      refine same_ sb (Save.refl _ _) ?_
      clear sb hrun
      have hadd := add_run ⟨(Lib.itoa (n / 10)).toArray⟩ (strOfNums [48 + n % 10]) (by have := itoa_size (n := n / 10) (by omega) (by omega); rw [strOfNums_size]; simp; omega)
      refine L.seg_ [9, 10] 0 _ (by kernel_rfl) (by kernel_rfl) (by kernel_rfl) (by simp only [pickOps, mask, plain, List.getElem?_toArray, List.getElem?_cons_zero, List.getElem?_cons_succ, if_true]; rfl) ?_
      repeat (go_big_quiet_step (fail))
      refine wpQuiet_nil ?_
      refine L.end_ (by kernel_rfl) ?_
      intro wc sc
      have hBc := hBb.trans (sc.all.mono hBb.size)
      go_wp2
      go_ret
      exact ⟨congrArg (fun b => Ending.returned (.string b)) (itoa_big (by omega)), hBc⟩
end Go.Proofs.YthmogabonfkmhaaGreatDoor
