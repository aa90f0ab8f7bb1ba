
/- The chapter's examples: lives, OctetNames. -/
import Derived.Test.YtdmjfadeffcidaaT
import Derived.Lib.SlBytesConst
namespace Go.Proofs.Ytdmjfadeffcidaa
open Go.RowKit

/-- The row of a literal, marked or not. -/
theorem RB.row (w : World) (l : List Int) (fr : Nat × Nat) (hb : AllB l) (hm : l.length ≤ maxLen) : RB (w.alloc (.cells (l.map (Value.int .u8)).toArray 5 fr)) (w.heap.size + 1) (some ⟨w.heap.size, 0, none⟩) l.length l := by
  refine RB.mk_ (Nat.le_refl _) hm hb (Nat.lt_succ_self _) fun i hi => ?_
  rw [cell_of_row _ _ _ _ _ _ (heap_alloc_new w _)]
  simp [hi]

theorem str_rb (w : World) (B : Nat) (A : Option Addr) (c n : Nat) (l : List Int) (h : RB w B A c l) (hn : n = l.length) :
    (convert 31 9 (.slice A n c)).run Try.prog w = .ok (.string (strOfNums l)) w := by subst hn; exact run_string_rb w B A c l h

theorem AllB.of {l : List Int} (h : l.all (fun n => decide (0 ≤ n) && decide (n < 256)) = true) : AllB l := fun n hn => by
  have := List.all_eq_true.1 h n hn
  simpa using this

theorem sum_nine : (sumL [49, 50, 51, 52, 53, 54, 55, 56, 57]).toNat = 10673 := by decide +kernel
theorem read1 : numSt [250, 0, 0, 1, 5] 0 0 = (65536, 4, 0) := by decide +kernel
theorem read2 : numSt [250, 0, 0, 1, 5] 4 0 = (5, 5, 0) := by decide +kernel
theorem read3 : endSt [250, 0, 0, 1, 5] 5 0 = 0 := by decide +kernel

theorem number_248 (w : World) : Calls Try.prog 46 #[.slice none 0 0, .int .u64 248] w fun e w' =>
    ∃ A c, e = .returned (.slice A 2 c) ∧ OB w' w.heap.size A c [248, 248] ∧ Below w.heap.size w w' := by
  refine (number_any none 0 0 [] 248 w 0 rfl (RB.nil _ _) (Nat.zero_le _) (by decide) (by decide)).mono ?_
  rintro e w1 ⟨A1, c1, he, ho1, hb1⟩
  exact ⟨A1, c1, he, ho1, hb1⟩

end Go.Proofs.Ytdmjfadeffcidaa
