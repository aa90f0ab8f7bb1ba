/-  -/
import Derived.Test.YtgaihekapakoeaaGreatDoorJ29
import Derived.Test.YtgaihekapakoeaaGreatDoorJ30
import Derived.Test.YtgaihekapakoeaaGreatDoorJ19
import Derived.Test.YtgaihekapakoeaaGreatDoorJ17
set_option linter.unusedVariables false
set_option linter.unusedSimpArgs false
namespace Go.Proofs.YtgaihekapakoeaaGreatDoor
open Go.RowKit


set_option maxRecDepth 100000

def OfR : Prop := ∀ (i : In), i.Wf → ∀ w : World, Calls Tryz.prog 14 #[i.val] w fun e w' => e = .returned (.tuple #[.string ⟨(ofTx i).toArray⟩, .int .i64 (ofEr i)]) ∧ Below w.heap.size w w'
def isT (i : In) (s : ByteArray) : Bool := decide (i.may = true) && decide ((⟨(textI i).toArray⟩ : ByteArray) = s)
theorem of_isT (i : In) (s : ByteArray) : (decide (ofEr i = 0) && decide ((⟨(ofTx i).toArray⟩ : ByteArray) = s)) = isT i s := by
 unfold ofEr ofTx isT
 by_cases h : i.may = true
 ·simp [h]
 ·simp [h]

theorem ne_toList {a b : ByteArray} (h : a ≠ b) : (a.toList == b.toList) = false := by
 obtain ⟨l, rfl⟩ : ∃ l : List UInt8, (⟨l.toArray⟩ : ByteArray) = a := ⟨a.data.toList, by simp⟩
 obtain ⟨m, rfl⟩ : ∃ m : List UInt8, (⟨m.toArray⟩ : ByteArray) = b := ⟨b.data.toList, by simp⟩
 rw [toList_beq, decide_eq_false_iff_not]
 exact fun e => h (by rw [e])
theorem szA (w : World) (o : Obj) : (w.alloc o).heap.size = w.heap.size + 1 := by
 show (w.heap.push o).size = _
 exact Array.size_push _
theorem num1_true : num1 true = 1 := rfl
theorem num1_false : num1 false = 0 := rfl
theorem fin_eq {a b c d e L L' : Int} {q : Bool} (h : L' = L) : Ending.returned (.tuple #[(⟨a, b, c, d, e, L'⟩ : In).val, .bool q]) = .returned (.tuple #[.agg #[.int .i64 a, .int .i64 b, .int .i64 c, .int .i64 d, .int .i64 e, .int .i64 L], .bool q]) := by subst h; rfl

set_option maxHeartbeats 16000000 in
theorem d10_fits (s x o d m : Int) (S : ByteArray) (hOf : OfR) (hx0 : 0 ≤ x) (hX : (fitIn s x o d m).Wf) (w : World) :
  Calls Tryz.prog 44 #[.int .i64 s, .int .i64 x, .int .i64 o, .int .i64 d, .int .i64 m, .string S] w fun e w' => e = .returned (.tuple #[(fitIn s x o d m).val, .bool (isT (fitIn s x o d m) S)]) ∧ Below w.heap.size w w' := by
 obtain ⟨w1, hw1⟩ : ∃ w1, w.alloc (inO zeroI) = w1 := ⟨_, rfl⟩
 have hb1 : Below w.heap.size w w1 := hw1 ▸ (Below.refl _ _).alloc (Nat.le_refl _) _
 have hr1 : InW w1 w.heap.size zeroI := hw1 ▸ InW.laid w zeroI
 have HN := fun w => r9_needs s x o w
 have HO := fun w => hOf (fitIn s x o d m) hX w
 have hT := of_isT (fitIn s x o d m) S
 have hk := needN_in s x o
 obtain ⟨k0, k1⟩ := hk
 obtain ⟨T, hTT⟩ : ∃ T : ByteArray, (⟨(ofTx (fitIn s x o d m)).toArray⟩ : ByteArray) = T := ⟨_, rfl⟩
 obtain ⟨E, hE⟩ : ∃ E, ofEr (fitIn s x o d m) = E := ⟨_, rfl⟩
 obtain ⟨q, hq⟩ : ∃ q, isT (fitIn s x o d m) S = q := ⟨_, rfl⟩
 simp only [hTT, hE] at HO
 rw [hTT, hE, hq] at hT
 rw [hq]
 clear hTT hE hq hX
 rw [in_val] at HO ⊢
 unfold fitIn lenI at HO ⊢
 simp only at HO ⊢
 obtain ⟨p, hp⟩ : ∃ p, needD s x o = p := ⟨_, rfl⟩
 obtain ⟨k, hk⟩ : ∃ k, needN s x o = k := ⟨_, rfl⟩
 rw [hk] at k0 k1
 simp only [hp, hk] at HN HO ⊢
 clear hp hk
 have HB := z_ hb1
 have HR := z_ hr1
 have HN1 := z_ HN
 have HT := z_ hT
 unfold inO zeroI at hw1
 clear hb1 hr1 HN hT
 obtain ⟨D, hD⟩ : ∃ D, (if p = true then d else 0) = D := ⟨_, rfl⟩
 obtain ⟨M, hM⟩ : ∃ M, (if 0 < k then m else 0) = M := ⟨_, rfl⟩
 obtain ⟨L, hL⟩ : ∃ L, 1 + num1 p + k + num1 (x != 0) + num1 (s != 0) = L := ⟨_, rfl⟩
 rw [hD, hM, hL] at HO ⊢
 have HO2 : ∀ L' : Int, L' = L → ∀ w : World, Calls Tryz.prog 14 #[.agg #[.int .i64 s, .int .i64 x, .int .i64 o, .int .i64 D, .int .i64 M, .int .i64 L']] w fun e w' => e = .returned (.tuple #[.string T, .int .i64 E]) ∧ Below w.heap.size w w' := fun L' h w => by subst h; exact HO w
 have HO1 := z_ HO2
 clear HO HO2
 have hlt1 := HR.out.lt
 have hq3 : (E = 0 ∧ (T.toList == S.toList) = true ∧ q = true) ∨ (E = 0 ∧ (T.toList == S.toList) = false ∧ q = false) ∨ (¬ E = 0 ∧ q = false) := by
  have h := HT.out
  by_cases h1 : E = 0
  ·by_cases h2 : T = S
   ·exact .inl ⟨h1, by rw [h2]; exact beq_self_eq_true _, by rw [← h]; simp [h1, h2]⟩
   ·exact .inr (.inl ⟨h1, ne_toList h2, by rw [← h]; simp [h1, h2]⟩)
  ·exact .inr (.inr ⟨h1, by rw [← h]; simp [h1]⟩)
 clear HT
 have hp3 : (p = false ∧ D = 0) ∨ (p = true ∧ D = d) := by
  cases p
  ·exact .inl ⟨rfl, hD.symm⟩
  ·exact .inr ⟨rfl, hD.symm⟩
 have hk3 : (¬ 0 < k ∧ M = 0) ∨ (0 < k ∧ M = m) := by
  by_cases h : 0 < k
  ·exact .inr ⟨h, by rw [← hM, if_pos h]⟩
  ·exact .inl ⟨h, by rw [← hM, if_neg h]⟩
 have hx3 : (¬ 0 < x ∧ num1 (x != 0) = 0) ∨ (0 < x ∧ num1 (x != 0) = 1) := by
  by_cases h : 0 < x
  ·exact .inr ⟨h, by rw [show (x != 0) = true from by rw [bne_iff_ne]; omega]; rfl⟩
  ·exact .inl ⟨h, by rw [show (x != 0) = false from by rw [bne_eq_false_iff_eq]; omega]; rfl⟩
 have hs3 : ((s != 0) = false ∧ num1 (s != 0) = 0) ∨ ((s != 0) = true ∧ num1 (s != 0) = 1) := by
  cases h : s != 0
  ·exact .inl ⟨rfl, rfl⟩
  ·exact .inr ⟨rfl, rfl⟩
 clear hD hM
 rcases hp3 with ⟨rfl, rfl⟩ | ⟨rfl, rfl⟩ <;> rcases hk3 with ⟨hk0, rfl⟩ | ⟨hk0, rfl⟩ <;> rcases hx3 with ⟨hxp, hx1⟩ | ⟨hxp, hx1⟩ <;> rcases hs3 with ⟨hsp, hs1⟩ | ⟨hsp, hs1⟩
 all_goals
  rw [hx1, hs1] at hL
  simp only [num1_true, num1_false] at hL
  have HL := z_ hL
  clear hL hx1 hs1
  go_enter Tryz.func44, Tryz.ntmps44
  go_upto_region 14 with (go_at_call 47; (with_reducible refine (HN1.out _).mono ?_); rintro e w2 ⟨rfl, rfl⟩)
  obtain ⟨rfl, f4, rfl⟩ | ⟨rfl, f4, rfl⟩ | ⟨f1, rfl⟩ := hq3
  all_goals
   go_wp2_with (first
    | (refine lr w1.heap.size rfl rfl rfl HI5.out ?_)
    | (refine lr w1.heap.size rfl rfl rfl (heap_alloc_new w1 _) ?_)
    | (refine sr w.heap.size rfl rfl rfl rfl HR5.out (in_one ⟨_, _, _, _, _, _⟩) ?_)
    | (go_at_call 14; (with_reducible refine (HO1.out _ (by have := HL.out; omega) _).mono ?_); rintro e w5 ⟨rfl, hb5⟩; have HI5 := z_ ((hb5.block w1.heap.size (by rw [szA]; omega)).trans (heap_alloc_new w1 _)); have HR5 := z_ ((HR.out.more _).below hb5 (by rw [szA]; omega)); have HB5 := z_ ((HB.out.alloc HB.out.size _).trans (hb5.mono (by rw [szA]; omega))); clear hb5))
   (try simp only [Exit.inBlock, Exit.then])
   exact bodyPost_ret (results_ins_tmp rfl _ _ _ ⟨s, x, o, _, _, _⟩ _ rfl rfl (setRow_heap _ _ _ _ _ _ HR5.out)) rfl ⟨fin_eq (by have := HL.out; omega), below_setRow HB5.out (Nat.le_refl _) _⟩
end Go.Proofs.YtgaihekapakoeaaGreatDoor
