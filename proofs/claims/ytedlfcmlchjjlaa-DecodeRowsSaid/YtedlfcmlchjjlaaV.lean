
/- The chapter's examples: lives, OctetNames. -/
import Derived.Test.YtedlfcmlchjjlaaT
import Derived.Lib.SlBytesConst
namespace Go.Proofs.Ytedlfcmlchjjlaa
open Go.RowKit

/-- The row of a literal, marked or not. -/
theorem RB.row (w : World) (l : List Int) (fr : Nat × Nat) (hb : AllB l) (hm : l.length ≤ maxLen) : RB (w.alloc (.cells (l.map (Value.int .u8)).toArray 5 fr)) (w.heap.size + 1) (some ⟨w.heap.size, 0, none⟩) l.length l := by
  refine RB.mk_ (Nat.le_refl _) hm hb (Nat.lt_succ_self _) fun i hi => ?_
  rw [cell_of_row _ _ _ _ _ _ (heap_alloc_new w _)]
  simp [hi]

theorem str_rb (w : World) (B : Nat) (A : Option Addr) (c n : Nat) (l : List Int) (h : RB w B A c l) (hn : n = l.length) :
    (convert 25 9 (.slice A n c)).run Try.prog w = .ok (.string (strOfNums l)) w := by subst hn; exact run_string_rb w B A c l h

theorem AllB.of {l : List Int} (h : l.all (fun n => decide (0 ≤ n) && decide (n < 256)) = true) : AllB l := fun n hn => by
  have := List.all_eq_true.1 h n hn
  simpa using this

theorem sum1 (g : Nat) (A1 : Option Addr) (c1 n1 : Nat) (l1 : List Int) (w : World) (hg : g = w.heap.size) (hn : n1 = l1.length) (h1 : RB w w.heap.size A1 c1 l1) (hlen : l1.length ≤ 140737488355328) :
    Calls Try.prog 47 #[.slice (some ⟨g, 0, none⟩) 1 1] (w.alloc (.cells #[.slice A1 n1 c1] 25)) fun e w' => e = .returned (.int .u16 (sumL l1).toNat) ∧ w.alloc (.cells #[.slice A1 n1 c1] 25) = w' := by
  subst hg hn
  refine (sum_any w.heap.size 1 [⟨A1, c1, l1⟩] _ (by simp) ?_ ?_ (by simp [flat]; omega)).mono fun e w' h => ?_
  · intro i hi
    have : i = 0 := by simp at hi; omega
    subst this
    rw [World.cell?_alloc_at _ _ _ _ rfl]; rfl
  · intro i hi
    have : i = 0 := by simp at hi; omega
    subst this
    exact (h1.alloc (Nat.le_refl _) _).more (by simp)
  · simpa [flat] using h

theorem sum2 (g : Nat) (A1 A2 : Option Addr) (c1 c2 n1 n2 : Nat) (l1 l2 : List Int) (w : World) (hg : g = w.heap.size) (hn1 : n1 = l1.length) (hn2 : n2 = l2.length) (h1 : RB w w.heap.size A1 c1 l1) (h2 : RB w w.heap.size A2 c2 l2) (hlen : l1.length + l2.length ≤ 140737488355328) :
    Calls Try.prog 47 #[.slice (some ⟨g, 0, none⟩) 2 2] (w.alloc (.cells #[.slice A1 n1 c1, .slice A2 n2 c2] 25)) fun e w' => e = .returned (.int .u16 (sumL (l1 ++ l2)).toNat) ∧ w.alloc (.cells #[.slice A1 n1 c1, .slice A2 n2 c2] 25) = w' := by
  subst hg hn1 hn2
  refine (sum_any w.heap.size 2 [⟨A1, c1, l1⟩, ⟨A2, c2, l2⟩] _ (by simp) ?_ ?_ (by simp [flat]; omega)).mono fun e w' h => ?_
  · intro i hi
    match i, hi with
    | 0, _ => rw [World.cell?_alloc_at _ _ _ _ rfl]; rfl
    | 1, _ => rw [World.cell?_alloc_at _ _ _ _ rfl]; rfl
  · intro i hi
    match i, hi with
    | 0, _ => exact (h1.alloc (Nat.le_refl _) _).more (by simp)
    | 1, _ => exact (h2.alloc (Nat.le_refl _) _).more (by simp)
  · simpa [flat] using h

theorem refSum2 (g : Nat) (A1 A2 : Option Addr) (c1 c2 n1 n2 : Nat) (l1 l2 : List Int) (w : World) (hg : g = w.heap.size) (hn1 : n1 = l1.length) (hn2 : n2 = l2.length) (h1 : RB w w.heap.size A1 c1 l1) (h2 : RB w w.heap.size A2 c2 l2) (hlen : l1.length + l2.length ≤ 140737488355328) :
    Calls Try.prog 50 #[.slice (some ⟨g, 0, none⟩) 2 2] (w.alloc (.cells #[.slice A1 n1 c1, .slice A2 n2 c2] 25)) fun e w' => e = .returned (.int .u16 (sumL (l1 ++ l2)).toNat) ∧ w.alloc (.cells #[.slice A1 n1 c1, .slice A2 n2 c2] 25) = w' := by
  subst hg hn1 hn2
  refine (refSum_any w.heap.size 2 [⟨A1, c1, l1⟩, ⟨A2, c2, l2⟩] _ (by simp) ?_ ?_ (by simp [flat]; omega)).mono fun e w' h => ?_
  · intro i hi
    match i, hi with
    | 0, _ => rw [World.cell?_alloc_at _ _ _ _ rfl]; rfl
    | 1, _ => rw [World.cell?_alloc_at _ _ _ _ rfl]; rfl
  · intro i hi
    match i, hi with
    | 0, _ => exact (h1.alloc (Nat.le_refl _) _).more (by simp)
    | 1, _ => exact (h2.alloc (Nat.le_refl _) _).more (by simp)
  · simpa [flat] using h

theorem sum_nine : (sumL [49, 50, 51, 52, 53, 54, 55, 56, 57]).toNat = 10673 := by decide +kernel
theorem read1 : numSt [250, 0, 0, 1, 5] 0 0 = (65536, 4, 0) := by decide +kernel
theorem read2 : numSt [250, 0, 0, 1, 5] 4 0 = (5, 5, 0) := by decide +kernel
theorem read3 : endSt [250, 0, 0, 1, 5] 5 0 = 0 := by decide +kernel

end Go.Proofs.Ytedlfcmlchjjlaa
