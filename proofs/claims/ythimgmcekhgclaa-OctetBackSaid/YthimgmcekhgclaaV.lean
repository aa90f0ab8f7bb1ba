/- The chapter's examples: lives, OctetNames. -/
import Derived.Test.YthimgmcekhgclaaT
import Derived.Lib.SlBytesConst
namespace Go.Proofs.Ythimgmcekhgclaa
open Go.RowKit

/-- The row of a literal, marked or not. -/
theorem RB.row (w : World) (l : List Int) (fr : Nat × Nat) (hb : AllB l) (hm : l.length ≤ maxLen) : RB (w.alloc (.cells (l.map (Value.int .u8)).toArray 5 fr)) (w.heap.size + 1) (some ⟨w.heap.size, 0, none⟩) l.length l := by
  refine RB.mk_ (Nat.le_refl _) hm hb (Nat.lt_succ_self _) fun i hi => ?_
  rw [cell_of_row _ _ _ _ _ _ (heap_alloc_new w _)]
  simp [hi]

theorem str_rb (w : World) (B : Nat) (A : Option Addr) (c n : Nat) (l : List Int) (h : RB w B A c l) (hn : n = l.length) :
    (convert 24 9 (.slice A n c)).run Try.prog w = .ok (.string (strOfNums l)) w := by subst hn; exact run_string_rb w B A c l h

theorem AllB.of {l : List Int} (h : l.all (fun n => decide (0 ≤ n) && decide (n < 256)) = true) : AllB l := fun n hn => by
  have := List.all_eq_true.1 h n hn
  simpa using this

theorem sum1 (g : Nat) (A1 : Option Addr) (c1 n1 : Nat) (l1 : List Int) (w : World) (hg : g = w.heap.size) (hn : n1 = l1.length) (h1 : RB w w.heap.size A1 c1 l1) (hlen : l1.length ≤ 140737488355328) :
    Calls Try.prog 25 #[.slice (some ⟨g, 0, none⟩) 1 1] (w.alloc (.cells #[.slice A1 n1 c1] 24)) fun e w' => e = .returned (.int .u16 (sumL l1).toNat) ∧ w.alloc (.cells #[.slice A1 n1 c1] 24) = w' := by
  subst hg hn
  refine (sum_any w.heap.size 1 [⟨A1, c1, l1⟩] _ (by simp) ?_ ?_ (by simp [flat]; omega)).mono fun e w' h => ?_
  · intro i hi
    have : i = 0 := by simp at hi; omega
    subst this
    rw [World.cell?_alloc_at _ _ _ _ rfl]; rfl
  · intro i hi
    have : i = 0 := by simp at hi; omega
    subst this
    exact (h1.alloc (Nat.le_refl _) _).more (by simp)
  · simpa [flat] using h

theorem sum2 (g : Nat) (A1 A2 : Option Addr) (c1 c2 n1 n2 : Nat) (l1 l2 : List Int) (w : World) (hg : g = w.heap.size) (hn1 : n1 = l1.length) (hn2 : n2 = l2.length) (h1 : RB w w.heap.size A1 c1 l1) (h2 : RB w w.heap.size A2 c2 l2) (hlen : l1.length + l2.length ≤ 140737488355328) :
    Calls Try.prog 25 #[.slice (some ⟨g, 0, none⟩) 2 2] (w.alloc (.cells #[.slice A1 n1 c1, .slice A2 n2 c2] 24)) fun e w' => e = .returned (.int .u16 (sumL (l1 ++ l2)).toNat) ∧ w.alloc (.cells #[.slice A1 n1 c1, .slice A2 n2 c2] 24) = w' := by
  subst hg hn1 hn2
  refine (sum_any w.heap.size 2 [⟨A1, c1, l1⟩, ⟨A2, c2, l2⟩] _ (by simp) ?_ ?_ (by simp [flat]; omega)).mono fun e w' h => ?_
  · intro i hi
    match i, hi with
    | 0, _ => rw [World.cell?_alloc_at _ _ _ _ rfl]; rfl
    | 1, _ => rw [World.cell?_alloc_at _ _ _ _ rfl]; rfl
  · intro i hi
    match i, hi with
    | 0, _ => exact (h1.alloc (Nat.le_refl _) _).more (by simp)
    | 1, _ => exact (h2.alloc (Nat.le_refl _) _).more (by simp)
  · simpa [flat] using h

theorem refSum2 (g : Nat) (A1 A2 : Option Addr) (c1 c2 n1 n2 : Nat) (l1 l2 : List Int) (w : World) (hg : g = w.heap.size) (hn1 : n1 = l1.length) (hn2 : n2 = l2.length) (h1 : RB w w.heap.size A1 c1 l1) (h2 : RB w w.heap.size A2 c2 l2) (hlen : l1.length + l2.length ≤ 140737488355328) :
    Calls Try.prog 26 #[.slice (some ⟨g, 0, none⟩) 2 2] (w.alloc (.cells #[.slice A1 n1 c1, .slice A2 n2 c2] 24)) fun e w' => e = .returned (.int .u16 (sumL (l1 ++ l2)).toNat) ∧ w.alloc (.cells #[.slice A1 n1 c1, .slice A2 n2 c2] 24) = w' := by
  subst hg hn1 hn2
  refine (refSum_any w.heap.size 2 [⟨A1, c1, l1⟩, ⟨A2, c2, l2⟩] _ (by simp) ?_ ?_ (by simp [flat]; omega)).mono fun e w' h => ?_
  · intro i hi
    match i, hi with
    | 0, _ => rw [World.cell?_alloc_at _ _ _ _ rfl]; rfl
    | 1, _ => rw [World.cell?_alloc_at _ _ _ _ rfl]; rfl
  · intro i hi
    match i, hi with
    | 0, _ => exact (h1.alloc (Nat.le_refl _) _).more (by simp)
    | 1, _ => exact (h2.alloc (Nat.le_refl _) _).more (by simp)
  · simpa [flat] using h

theorem sum_nine : (sumL [49, 50, 51, 52, 53, 54, 55, 56, 57]).toNat = 10673 := by decide +kernel
theorem read1 : numSt [250, 0, 0, 1, 5] 0 0 = (65536, 4, 0) := by decide +kernel
theorem read2 : numSt [250, 0, 0, 1, 5] 4 0 = (5, 5, 0) := by decide +kernel
theorem read3 : endSt [250, 0, 0, 1, 5] 5 0 = 0 := by decide +kernel

theorem block_ab (w : World) : Calls Try.prog 20 #[.slice none 0 0, .slice (some ⟨w.heap.size, 0, none⟩) 2 2] (w.alloc (.cells #[.int .u8 97, .int .u8 98] 5 (2, 3))) fun e w' =>
    ∃ A c, e = .returned (.tuple #[.slice A 3 c, .int .i64 0]) ∧ OB w' w.heap.size A c [2, 97, 98] ∧ Below w.heap.size w w' := by
  refine (block_any none _ 0 0 2 2 [] [97, 98] _ _ rfl rfl (RB.nil _ _) (RB.row w [97, 98] (2, 3) (AllB.of (by decide)) (by decide)) (by simp) (by decide) (by decide)).mono ?_
  rintro e w1 ⟨A1, c1, he, ho1, hb1⟩
  exact ⟨A1, c1, he, ho1.mono (by simp), ((Below.refl _ _).alloc (Nat.le_refl _) _).trans (hb1.mono (by simp))⟩

theorem number_248 (w : World) : Calls Try.prog 16 #[.slice none 0 0, .int .u64 248] w fun e w' =>
    ∃ A c, e = .returned (.slice A 2 c) ∧ OB w' w.heap.size A c [248, 248] ∧ Below w.heap.size w w' := by
  refine (number_any none 0 0 [] 248 w 0 rfl (RB.nil _ _) (Nat.zero_le _) (by decide) (by decide)).mono ?_
  rintro e w1 ⟨A1, c1, he, ho1, hb1⟩
  exact ⟨A1, c1, he, ho1, hb1⟩

set_option maxHeartbeats 400000 in
theorem lives_any (w : World) : Calls Try.prog 15 #[] w fun e w' => e = .returned (.bool true) ∧ Below w.heap.size w w' := by
  have kc := fun (w : World) (C : Array Value) (n c : Nat) => Go.Lib.run_convert_bytes_const (P := Try.prog) w 24 5 C n c Try.underlying24 Try.underlying5
  go_enter Try.func15, Try.ntmps15
  go_wp2_with fail
  refine (block_ab _).mono ?_
  rintro e w1 ⟨A1, c1, rfl, ho1, hb1⟩
  go_wp2_with fail
  refine (new_any _ 5 5 [250, 0, 0, 1, 5] _ _ rfl (RB.row w1 [250, 0, 0, 1, 5] (0, 0) (AllB.of (by decide)) (by decide)) (by simp) (by decide)).mono ?_
  rintro e w2 ⟨g, A2, c2, rfl, hr2, hb2, hg2, _⟩
  have hs1 : (convert 24 9 (.slice A1 3 c1)).run Try.prog w2 = .ok (.string ⟨#[2, 97, 98]⟩) w2 := str_rb w2 w1.heap.size A1 c1 3 [2, 97, 98] (ho1.rb.below (((Below.refl _ _).alloc (Nat.le_refl _) _).trans (hb2.mono (by simp)))) rfl
  go_wp2_with fail
  refine (sum1 _ _ 9 9 [49, 50, 51, 52, 53, 54, 55, 56, 57] _ (by simp) rfl ((RB.row w2 [49, 50, 51, 52, 53, 54, 55, 56, 57] (9, 10) (AllB.of (by decide)) (by decide)).more (by simp)) (by decide)).mono ?_
  rintro e w' ⟨he, rfl⟩
  rw [sum_nine] at he
  subst he
  have hr3 : Rdr _ g A2 c2 [250, 0, 0, 1, 5] 0 0 := hr2.below (((Below.refl w2.heap.size w2).alloc (Nat.le_refl _) (.cells ([49, 50, 51, 52, 53, 54, 55, 56, 57].map (Value.int .u8)).toArray 5 (9, 10))).alloc (by simp) (.cells #[.slice (some ⟨w2.heap.size, 0, none⟩) 9 9] 24)) hr2.lt
  have hb3 : Below w.heap.size w _ := (hb1.trans (((Below.refl _ _).alloc hb1.size _).trans (hb2.mono (by have := hb1.size; simp; omega)))).trans (((Below.refl w.heap.size w2).alloc (by have := hb1.size; have := hb2.size; simp at *; omega) (.cells ([49, 50, 51, 52, 53, 54, 55, 56, 57].map (Value.int .u8)).toArray 5 (9, 10))).alloc (by have := hb1.size; have := hb2.size; simp at *; omega) (.cells #[.slice (some ⟨w2.heap.size, 0, none⟩) 9 9] 24))
  have hgw : w.heap.size ≤ g := by have := hb1.size; simp at hg2; omega
  clear hb1 hb2 hs1 hr2 ho1 hg2
  go_wp2_with fail
  refine (rnumber_any g A2 c2 _ 0 0 _ hr3).mono ?_
  rintro e w4 ⟨he, hr4, hg4⟩
  rw [read1] at he hr4
  subst he
  have hb4 := hb3.grown hg4 hb3.size (by rintro k ⟨⟩; exact hgw)
  clear hb3 hg4 hr3
  go_wp2_with fail
  refine (rsigned_any g A2 c2 _ 4 0 _ hr4).mono ?_
  rintro e w5 ⟨he, hr5, hg5⟩
  rw [read2] at he hr5
  subst he
  have hb5 := hb4.grown hg5 hb4.size (by rintro k ⟨⟩; exact hgw)
  clear hb4 hg5 hr4
  go_wp2_with fail
  refine (rend_any g A2 c2 _ 5 0 _ hr5).mono ?_
  rintro e w6 ⟨he, hr6, hg6⟩
  rw [read3] at he hr6
  subst he
  have hb6 := hb5.grown hg6 hb5.size (by rintro k ⟨⟩; exact hgw)
  clear hb5 hg6 hr5
  go_wp2_with fail
  refine (number_248 _).mono ?_
  rintro e w7 ⟨A7, c7, rfl, ho7, hb7⟩
  have hs7 : (convert 24 9 (.slice A7 2 c7)).run Try.prog w7 = .ok (.string ⟨#[248, 248]⟩) w7 := str_rb w7 _ A7 c7 2 [248, 248] ho7.rb rfl
  go_wp2_with fail
  go_ret
  exact ⟨rfl, hb6.trans (hb7.mono hb6.size)⟩
end Go.Proofs.Ythimgmcekhgclaa
