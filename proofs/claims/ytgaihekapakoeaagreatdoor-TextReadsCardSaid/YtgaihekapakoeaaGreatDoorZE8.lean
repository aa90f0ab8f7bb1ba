/-  -/
import Derived.Test.YtgaihekapakoeaaGreatDoorZE7
import Derived.Test.YtgaihekapakoeaaGreatDoorJ18
import Derived.Test.YtgaihekapakoeaaGreatDoorJ12
import Derived.Test.YtgaihekapakoeaaGreatDoorJ25
import Derived.Test.YtgaihekapakoeaaGreatDoorZEA
set_option linter.unusedVariables false
set_option linter.unusedSimpArgs false
namespace Go.Proofs.YtgaihekapakoeaaGreatDoor
open Go.RowKit


set_option maxRecDepth 100000

theorem pl_main0 : ∀ o : Fin 256, isOneI 0 0 o.val = false ∨ ((o.val : Int) = 221 ∨ (o.val : Int) = 253) ∨ plainR 0 0 o.val = toksK 0 0 o.val := by decide +kernel
theorem pl_main1 : ∀ o : Fin 256, isOneI 0 1 o.val = false ∨ (plainR 0 1 o.val = toksK 0 1 o.val ∧ plainR 0 0 o.val = toksK 0 0 o.val ∧ ∀ t ∈ toksK 0 0 o.val, t ≠ 258) := by decide +kernel
theorem pl_main2 : ∀ o : Fin 256, isOneI 0 2 o.val = false ∨ (plainR 0 2 o.val = toksK 0 2 o.val ∧ plainR 0 0 o.val = toksK 0 0 o.val ∧ ∀ t ∈ toksK 0 0 o.val, t ≠ 258) := by decide +kernel
theorem pl_bits : ∀ o : Fin 256, plainR 1 0 o.val = toksK 1 0 o.val := by decide +kernel
theorem pl_more : ∀ o : Fin 256, dbK 2 0 o.val = true ∨ plainR 2 0 o.val = toksK 2 0 o.val := by decide +kernel
theorem pl_both1 : ∀ o : Fin 256, dbK 3 1 o.val = true ∨ plainR 3 1 o.val = toksK 3 1 o.val := by decide +kernel
theorem pl_both2 : ∀ o : Fin 256, dbK 3 2 o.val = true ∨ plainR 3 2 o.val = toksK 3 2 o.val := by decide +kernel
theorem pl_low : ∀ o : Fin 256, ((o.val : Int) / 64 = 0 → (o.val : Int) % 8 = 1 ∨ (o.val : Int) % 8 = 2 ∨ (o.val : Int) % 8 = 6 → relI o.val = false) ∧ ((o.val : Int) / 64 = 3 → relI o.val = false) := by decide +kernel

theorem pl_toks {s x o : Int} (h : isOneI s x o = true) (hl : ¬ (s = 0 ∧ x = 0 ∧ (o = 221 ∨ o = 253))) (hd : s = 2 ∨ s = 3 → dbK s x o = false) : plainR s x o = toksK s x o := by
 obtain ⟨hs, hx, o0, o1⟩ := one_cases h
 have f : ∀ {P : Int → Prop}, (∀ o : Fin 256, P o.val) → P o := fun h => fin_o h o0 o1
 rcases hs with rfl | rfl | rfl | rfl
 ·rcases hx with rfl | rfl | rfl
  ·rcases f (P := fun o => isOneI 0 0 o = false ∨ (o = 221 ∨ o = 253) ∨ plainR 0 0 o = toksK 0 0 o) pl_main0 with k | k | k
   ·rw [h] at k; cases k
   ·exact absurd ⟨rfl, rfl, k⟩ hl
   ·exact k
  ·rcases f (P := fun o => isOneI 0 1 o = false ∨ (plainR 0 1 o = toksK 0 1 o ∧ plainR 0 0 o = toksK 0 0 o ∧ ∀ t ∈ toksK 0 0 o, t ≠ 258)) pl_main1 with k | k
   ·rw [h] at k; cases k
   ·exact k.1
  ·rcases f (P := fun o => isOneI 0 2 o = false ∨ (plainR 0 2 o = toksK 0 2 o ∧ plainR 0 0 o = toksK 0 0 o ∧ ∀ t ∈ toksK 0 0 o, t ≠ 258)) pl_main2 with k | k
   ·rw [h] at k; cases k
   ·exact k.1
 ·obtain rfl := one_x0 (.inl rfl) h
  exact f (P := fun o => plainR 1 0 o = toksK 1 0 o) pl_bits
 ·obtain rfl := one_x0 (.inr rfl) h
  rcases f (P := fun o => dbK 2 0 o = true ∨ plainR 2 0 o = toksK 2 0 o) pl_more with k | k
  ·rw [hd (.inl rfl)] at k; cases k
  ·exact k
 ·have hx12 : x = 1 ∨ x = 2 := by
   rcases hx with rfl | rfl | rfl
   ·unfold isOneI at h; simp at h
   ·exact .inl rfl
   ·exact .inr rfl
  rcases hx12 with rfl | rfl
  ·rcases f (P := fun o => dbK 3 1 o = true ∨ plainR 3 1 o = toksK 3 1 o) pl_both1 with k | k
   ·rw [hd (.inr rfl)] at k; cases k
   ·exact k
  ·rcases f (P := fun o => dbK 3 2 o = true ∨ plainR 3 2 o = toksK 3 2 o) pl_both2 with k | k
   ·rw [hd (.inr rfl)] at k; cases k
   ·exact k
theorem pl_bare {x o : Int} (h : isOneI 0 x o = true) (hx0 : x ≠ 0) : plainR 0 0 o = toksK 0 0 o ∧ ∀ t ∈ toksK 0 0 o, t ≠ 258 := by
 obtain ⟨-, hx, o0, o1⟩ := one_cases h
 have f : ∀ {P : Int → Prop}, (∀ o : Fin 256, P o.val) → P o := fun h => fin_o h o0 o1
 rcases hx with rfl | rfl | rfl
 ·exact absurd rfl hx0
 ·rcases f (P := fun o => isOneI 0 1 o = false ∨ (plainR 0 1 o = toksK 0 1 o ∧ plainR 0 0 o = toksK 0 0 o ∧ ∀ t ∈ toksK 0 0 o, t ≠ 258)) pl_main1 with k | k
  ·rw [h] at k; cases k
  ·exact k.2
 ·rcases f (P := fun o => isOneI 0 2 o = false ∨ (plainR 0 2 o = toksK 0 2 o ∧ plainR 0 0 o = toksK 0 0 o ∧ ∀ t ∈ toksK 0 0 o, t ≠ 258)) pl_main2 with k | k
  ·rw [h] at k; cases k
  ·exact k.2
theorem rend_no258 (d m : Int) : ∀ K : List Nat, (∀ t ∈ K, t ≠ 258) → rend false d m K = rend false 0 m K
 | [], _ => rfl
 | t :: K, h => by
  have h1 : rendT false d m t = rendT false 0 m t := by
   unfold rendT
   rw [if_neg (c := t = 258) (h t (List.mem_cons_self ..)), if_neg (c := t = 258) (h t (List.mem_cons_self ..))]
  show rendT false d m t ++ rend false d m K = rendT false 0 m t ++ rend false 0 m K
  rw [h1, rend_no258 d m K fun u hu => h u (List.mem_cons_of_mem _ hu)]
theorem plok_may {i : In} (hm : i.may = true) (hn : i.s = 2 → noneI i.o = false) : PlOk i := by
 obtain ⟨hs, hx, o0, o1⟩ := one_cases (may_one hm).1
 obtain ⟨⟨d0, d1⟩, ⟨m0, m1⟩, hj⟩ := nums_may hm
 have hl := fin_o (P := fun o => (o / 64 = 0 → o % 8 = 1 ∨ o % 8 = 2 ∨ o % 8 = 6 → relI o = false) ∧ (o / 64 = 3 → relI o = false)) pl_low o0 o1
 refine ⟨by omega, by omega, ⟨by omega, by omega, by omega, by omega⟩, o0, o1, hs, fun h0 h1 h2 => hj ?_, fun h0 h1 => hj ?_, fun h2 => hj ?_, fun h2 h3 => ?_⟩
 ·unfold jumpI; rw [hl.1 h1 h2]; rfl
 ·unfold jumpI; rw [hl.2 h1]; rfl
 ·unfold jumpI; rw [h2]; simp
 ·have h4 := hn h2
  unfold noneI at h4
  rw [if_neg (by omega), if_pos h3] at h4
  simp only [Bool.or_eq_false_iff, decide_eq_false_iff_not] at h4
  omega
theorem PlOk.bare {i : In} (h : PlOk i) (hs : i.s = 0) : PlOk ⟨i.s, 0, i.o, 0, i.m, i.n⟩ :=
 ⟨Int.le_refl 0, (by decide : (0 : Int) < 3), ⟨(by decide : (-1000000 : Int) ≤ 0), (by decide : (0 : Int) ≤ 1000000), h.nums.2.2.1, h.nums.2.2.2⟩, h.o0, h.o1, h.set, h.low, h.high, h.more, h.block⟩
theorem plain_text {i : In} (hm : i.may = true) (hb : isBytesI i = false) : rs i.d i.m (plainR i.s i.x i.o) = ⟨(textI i).toArray⟩ := by
 have h1 := (may_one hm).1
 have hd : dbK i.s i.x i.o = false := by rw [← isBytes_db hm]; exact hb
 unfold textI
 rw [if_neg (by rw [hb]; decide), pl_toks h1 (fun ⟨a, b, c⟩ => ?_) (fun _ => hd)]
 ·rfl
 ·unfold dbK at hd
  rw [a, b] at hd
  rcases c with c | c <;> rw [c] at hd <;> simp at hd
end Go.Proofs.YtgaihekapakoeaaGreatDoor
