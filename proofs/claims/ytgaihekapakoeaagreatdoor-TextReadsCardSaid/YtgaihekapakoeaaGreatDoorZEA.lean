/-  -/
import Derived.Test.YtgaihekapakoeaaGreatDoorJ18
import Derived.Test.YtgaihekapakoeaaGreatDoorJ11
import Derived.Test.YtgaihekapakoeaaGreatDoorJ6
import Derived.Test.YtgaihekapakoeaaGreatDoorJ9
set_option linter.unusedVariables false
set_option linter.unusedSimpArgs false
namespace Go.Proofs.YtgaihekapakoeaaGreatDoor
open Go.RowKit


set_option maxRecDepth 100000

theorem nums_may {i : In} (hm : i.may = true) : (-128 ≤ i.d ∧ i.d ≤ 127) ∧ (-32768 ≤ i.m ∧ i.m ≤ 65535) ∧ (jumpI i.s i.o = false → 0 ≤ i.m) := by
  have h3 := (may_one hm).2.2
  have hn := needN_in i.s i.x i.o
  unfold In.ops at h3
  simp only [Bool.and_eq_true] at h3
  obtain ⟨h1, h2⟩ := h3
  have hd : -128 ≤ i.d ∧ i.d ≤ 127 := by
    unfold fitsI num1 at h1
    cases hk : needD i.s i.x i.o with
    | true => simpa [hk] using h1
    | false => have : i.d = 0 := by simpa [hk] using h1
               omega
  unfold fitsI at h2
  have h012 : needN i.s i.x i.o = 0 ∨ needN i.s i.x i.o = 1 ∨ needN i.s i.x i.o = 2 := by omega
  rcases h012 with k | k | k
  · have : i.m = 0 := by simpa [k] using h2
    exact ⟨hd, by omega, fun _ => by omega⟩
  · cases hj : jumpI i.s i.o with
    | true =>
      have : -128 ≤ i.m ∧ i.m ≤ 127 := by simpa [k, hj] using h2
      exact ⟨hd, by omega, fun h => by cases h⟩
    | false =>
      have : 0 ≤ i.m ∧ i.m ≤ 255 := by simpa [k, hj] using h2
      exact ⟨hd, by omega, fun _ => by omega⟩
  · cases hj : jumpI i.s i.o with
    | true =>
      have : -32768 ≤ i.m ∧ i.m ≤ 32767 := by simpa [k, hj] using h2
      exact ⟨hd, by omega, fun h => by cases h⟩
    | false =>
      have : 0 ≤ i.m ∧ i.m ≤ 65535 := by simpa [k, hj] using h2
      exact ⟨hd, by omega, fun _ => by omega⟩
def BytesTo9 (w : World) (b : List Int) (e : Ending) (w' : World) : Prop := (∃ A c, e = .returned (.tuple #[.slice A b.length c, .int .i64 0]) ∧ RB w' w'.heap.size A c b) ∧ Below w.heap.size w w'
set_option maxHeartbeats 4000000 in
theorem r9_bytes_no (i : In) (hi : i.Wf) (hm : i.may = false) (w : World) : Calls Tryz.prog 36 #[i.val] w fun e w' => e = .returned (.tuple #[.slice none 0 0, .int .i64 2]) ∧ Below w.heap.size w w' := by
 have hC := fun w => r9_check i hi w
 rw [if_neg (by rw [hm]; decide)] at hC
 obtain ⟨w1, hw1⟩ : ∃ w1, w.alloc (inO i) = w1 := ⟨_, rfl⟩
 have hb1 : Below w.heap.size w w1 := hw1 ▸ (Below.refl _ _).alloc (Nat.le_refl _) _
 have HR := z_ (hw1 ▸ InW.laid w i : InW w1 w.heap.size i)
 have HB := z_ hb1
 have HC := z_ hC
 unfold inO at hw1
 rw [in_val]
 clear hb1 hC
 go_enter Tryz.func36, Tryz.ntmps36
 go_wp2_with (first
  | (refine lr w.heap.size rfl rfl rfl HR.out ?_)
  | (go_at_call 22; refine (HC.out _).mono ?_; rintro e w2 ⟨rfl, hb2⟩))
 go_ret2
 exact ⟨rfl, HB.out.trans (hb2.mono HB.out.size)⟩

theorem ea_rel : ∀ o : Fin 256, relI o.val = false ∨ (immM o.val ≠ 2) := by decide +kernel
def bytesK (s x o d m : Int) (D : Bool) (k : Int) : List Int := (preB x ++ setB s) ++ (if s = 3 then [d % 256, o] else if D = true then [o, d % 256] else [o]) ++ immL m k
set_option maxHeartbeats 40000000 in
theorem by_any (s x o d m n : Int) (D : Bool) (k : Int) (hi : (⟨s, x, o, d, m, n⟩ : In).Wf) (hm : (⟨s, x, o, d, m, n⟩ : In).may = true) (hD : needD s x o = D) (hk : needN s x o = k)
  (hc : (s = 0 ∧ x = 0 ∧ D = false ∧ k = 0) ∨ (s = 0 ∧ x = 0 ∧ D = false ∧ k = 1) ∨ (s = 0 ∧ x = 0 ∧ D = false ∧ k = 2) ∨ (s = 0 ∧ x = 1 ∧ D = false ∧ k = 0) ∨ (s = 0 ∧ x = 1 ∧ D = false ∧ k = 1) ∨ (s = 0 ∧ x = 1 ∧ D = false ∧ k = 2) ∨ (s = 0 ∧ x = 1 ∧ D = true ∧ k = 0) ∨ (s = 0 ∧ x = 1 ∧ D = true ∧ k = 1) ∨ (s = 0 ∧ x = 1 ∧ D = true ∧ k = 2) ∨ (s = 0 ∧ x = 2 ∧ D = false ∧ k = 0) ∨ (s = 0 ∧ x = 2 ∧ D = false ∧ k = 1) ∨ (s = 0 ∧ x = 2 ∧ D = false ∧ k = 2) ∨ (s = 0 ∧ x = 2 ∧ D = true ∧ k = 0) ∨ (s = 0 ∧ x = 2 ∧ D = true ∧ k = 1) ∨ (s = 0 ∧ x = 2 ∧ D = true ∧ k = 2) ∨ (s = 1 ∧ x = 0 ∧ D = false ∧ k = 0) ∨ (s = 2 ∧ x = 0 ∧ D = false ∧ k = 0) ∨ (s = 2 ∧ x = 0 ∧ D = false ∧ k = 1) ∨ (s = 2 ∧ x = 0 ∧ D = false ∧ k = 2) ∨ (s = 3 ∧ x = 1 ∧ D = true ∧ k = 0) ∨ (s = 3 ∧ x = 2 ∧ D = true ∧ k = 0)) (w : World) : Calls Tryz.prog 36 #[(⟨s, x, o, d, m, n⟩ : In).val] w (BytesTo9 w (bytesK s x o d m D k)) := by
 have hC := fun w => r9_check _ hi w
 rw [if_pos hm] at hC
 obtain ⟨-, -, o0, o1⟩ := one_cases (may_one hm).1
 obtain ⟨-, ⟨mm0, mm1⟩, hj⟩ := nums_may hm
 have hN := fun w => r9_needs s x o w
 rw [hD, hk] at hN
 simp only at o0 o1 mm0 mm1 hj
 have hq : k = 2 → m.tdiv 256 = m / 256 := fun h2 => Int.tdiv_eq_ediv_of_nonneg (hj (by
  unfold jumpI
  cases hr : relI o with
  | false => rfl
  | true =>
   by_cases h0 : s = 0
   ·exfalso
    have h3 := fin_o (P := fun o => relI o = false ∨ (immM o ≠ 2)) ea_rel o0 o1
    rw [hr] at h3
    rw [h2] at hk
    unfold needN at hk
    rw [if_pos (may_one hm).1, if_pos h0] at hk
    rcases h3 with h | h
    ·cases h
    ·exact h hk
   ·simp [h0]))
 obtain ⟨w1, hw1⟩ : ∃ w1, w.alloc (inO ⟨s, x, o, d, m, n⟩) = w1 := ⟨_, rfl⟩
 have hb1 : Below w.heap.size w w1 := hw1 ▸ (Below.refl _ _).alloc (Nat.le_refl _) _
 have HR := z_ (hw1 ▸ InW.laid w _ : InW w1 w.heap.size ⟨s, x, o, d, m, n⟩)
 have HB := z_ hb1
 have HC := z_ hC
 have HN := z_ hN
 have ho8 : IntKind.u8.wrap o = o := by rw [wrap_u8]; omega
 have hd8 : IntKind.u8.wrap d = d % 256 := wrap_u8 _
 have hm8 : IntKind.u8.wrap m = m % 256 := wrap_u8 _
 have hv8 : IntKind.u8.wrap (m / 256) = m / 256 % 256 := wrap_u8 _
 have hw8 : wrap64 (m / 256) = m / 256 := by unfold wrap64; omega
 unfold inO at hw1
 rw [in_val]
 simp only at hw1 ⊢
 clear hb1 hC hN hm hi hj hD hk
 rcases hc with ⟨rfl, rfl, rfl, rfl⟩ | ⟨rfl, rfl, rfl, rfl⟩ | ⟨rfl, rfl, rfl, rfl⟩ | ⟨rfl, rfl, rfl, rfl⟩ | ⟨rfl, rfl, rfl, rfl⟩ | ⟨rfl, rfl, rfl, rfl⟩ | ⟨rfl, rfl, rfl, rfl⟩ | ⟨rfl, rfl, rfl, rfl⟩ | ⟨rfl, rfl, rfl, rfl⟩ | ⟨rfl, rfl, rfl, rfl⟩ | ⟨rfl, rfl, rfl, rfl⟩ | ⟨rfl, rfl, rfl, rfl⟩ | ⟨rfl, rfl, rfl, rfl⟩ | ⟨rfl, rfl, rfl, rfl⟩ | ⟨rfl, rfl, rfl, rfl⟩ | ⟨rfl, rfl, rfl, rfl⟩ | ⟨rfl, rfl, rfl, rfl⟩ | ⟨rfl, rfl, rfl, rfl⟩ | ⟨rfl, rfl, rfl, rfl⟩ | ⟨rfl, rfl, rfl, rfl⟩ | ⟨rfl, rfl, rfl, rfl⟩
 all_goals
  try have hq8 := hq rfl
  clear hq
  go_enter Tryz.func36, Tryz.ntmps36
  go_wp2_with (first
   | (refine lr w.heap.size rfl rfl rfl HR.out ?_)
   | (go_at_call 22; refine (HC.out _).mono ?_; rintro e w2 ⟨rfl, hb2⟩; have hr2 := HR.out.below hb2 HR.out.lt; have HR2 := z_ hr2; have HB2 := z_ (HB.out.trans (hb2.mono HB.out.size)); have gs0 := hr2.gs; have gx0 := hr2.gx; have go0 := hr2.go; have gd0 := hr2.gd; have gm0 := hr2.gm; simp only at gs0 gx0 go0 gd0 gm0; have hlt0 := hr2.lt; clear hb2 hr2)
   | (go_at_call 47; refine (HN.out _).mono ?_; rintro e w9 ⟨rfl, rfl⟩)
   | (at_builtin; refine wpList_append_rb _ rfl _ _ rfl w2.heap.size _ _ _ _ _ rfl rfl (HO5.out.alloc _) _ _ _ [_] rfl rfl (RB.lit1g _ _ _ (by first | rfl | simp) (by omega) (by omega)) (by simp) (by have := Hs5.out; first | (simp; done) | (simp; omega)) ?_; intro A6 c6 v6 ho6 hl6 hx6; simp only [List.nil_append, List.cons_append] at ho6; have HO6 := z_ ho6; have Hb6 := z_ (show Below w2.heap.size w2 v6 from Below.trans (Hb5.out.alloc Hs5.out _) hl6); have Hs6 := z_ Hb6.out.size; have hr6 := HR2.out.below Hb6.out HR2.out.lt; have gs6 := hr6.gs; have gx6 := hr6.gx; have go6 := hr6.go; have gd6 := hr6.gd; have gm6 := hr6.gm; simp only at gs6 gx6 go6 gd6 gm6; clear ho6 hl6 hx6 hr6)
   | (at_builtin; refine wpList_append_rb _ rfl _ _ rfl w2.heap.size _ _ _ _ _ rfl rfl (HO4.out.alloc _) _ _ _ [_] rfl rfl (RB.lit1g _ _ _ (by first | rfl | simp) (by omega) (by omega)) (by simp) (by have := Hs4.out; first | (simp; done) | (simp; omega)) ?_; intro A5 c5 v5 ho5 hl5 hx5; simp only [List.nil_append, List.cons_append] at ho5; have HO5 := z_ ho5; have Hb5 := z_ (show Below w2.heap.size w2 v5 from Below.trans (Hb4.out.alloc Hs4.out _) hl5); have Hs5 := z_ Hb5.out.size; have hr5 := HR2.out.below Hb5.out HR2.out.lt; have gs5 := hr5.gs; have gx5 := hr5.gx; have go5 := hr5.go; have gd5 := hr5.gd; have gm5 := hr5.gm; simp only at gs5 gx5 go5 gd5 gm5; clear ho5 hl5 hx5 hr5)
   | (at_builtin; refine wpList_append_rb _ rfl _ _ rfl w2.heap.size _ _ _ _ _ rfl rfl (HO3.out.alloc _) _ _ _ [_] rfl rfl (RB.lit1g _ _ _ (by first | rfl | simp) (by omega) (by omega)) (by simp) (by have := Hs3.out; first | (simp; done) | (simp; omega)) ?_; intro A4 c4 v4 ho4 hl4 hx4; simp only [List.nil_append, List.cons_append] at ho4; have HO4 := z_ ho4; have Hb4 := z_ (show Below w2.heap.size w2 v4 from Below.trans (Hb3.out.alloc Hs3.out _) hl4); have Hs4 := z_ Hb4.out.size; have hr4 := HR2.out.below Hb4.out HR2.out.lt; have gs4 := hr4.gs; have gx4 := hr4.gx; have go4 := hr4.go; have gd4 := hr4.gd; have gm4 := hr4.gm; simp only at gs4 gx4 go4 gd4 gm4; clear ho4 hl4 hx4 hr4)
   | (at_builtin; refine wpList_append_rb _ rfl _ _ rfl w2.heap.size _ _ _ _ _ rfl rfl (HO2.out.alloc _) _ _ _ [_, _] rfl rfl (RB.lit2 _ _ _ (by omega) (by omega) (by omega) (by omega)) (by simp) (by have := Hs2.out; first | (simp; done) | (simp; omega)) ?_; intro A3 c3 v3 ho3 hl3 hx3; simp only [List.nil_append, List.cons_append] at ho3; have HO3 := z_ ho3; have Hb3 := z_ (show Below w2.heap.size w2 v3 from Below.trans (Hb2.out.alloc Hs2.out _) hl3); have Hs3 := z_ Hb3.out.size; have hr3 := HR2.out.below Hb3.out HR2.out.lt; have gs3 := hr3.gs; have gx3 := hr3.gx; have go3 := hr3.go; have gd3 := hr3.gd; have gm3 := hr3.gm; simp only at gs3 gx3 go3 gd3 gm3; clear ho3 hl3 hx3 hr3)
   | (at_builtin; refine wpList_append_rb _ rfl _ _ rfl w2.heap.size _ _ _ _ _ rfl rfl (HO2.out.alloc _) _ _ _ [_] rfl rfl (RB.lit1g _ _ _ (by first | rfl | simp) (by omega) (by omega)) (by simp) (by have := Hs2.out; first | (simp; done) | (simp; omega)) ?_; intro A3 c3 v3 ho3 hl3 hx3; simp only [List.nil_append, List.cons_append] at ho3; have HO3 := z_ ho3; have Hb3 := z_ (show Below w2.heap.size w2 v3 from Below.trans (Hb2.out.alloc Hs2.out _) hl3); have Hs3 := z_ Hb3.out.size; have hr3 := HR2.out.below Hb3.out HR2.out.lt; have gs3 := hr3.gs; have gx3 := hr3.gx; have go3 := hr3.go; have gd3 := hr3.gd; have gm3 := hr3.gm; simp only at gs3 gx3 go3 gd3 gm3; clear ho3 hl3 hx3 hr3)
   | (at_builtin; refine wpList_append_rb _ rfl _ _ rfl w2.heap.size _ _ _ _ _ rfl rfl (HO1.out.alloc _) _ _ _ [_] rfl rfl (RB.lit1g _ _ _ (by first | rfl | simp) (by omega) (by omega)) (by simp) (by have := Hs1.out; first | (simp; done) | (simp; omega)) ?_; intro A2 c2 v2 ho2 hl2 hx2; simp only [List.nil_append, List.cons_append] at ho2; have HO2 := z_ ho2; have Hb2 := z_ (show Below w2.heap.size w2 v2 from Below.trans (Hb1.out.alloc Hs1.out _) hl2); have Hs2 := z_ Hb2.out.size; have hr2 := HR2.out.below Hb2.out HR2.out.lt; have gs2 := hr2.gs; have gx2 := hr2.gx; have go2 := hr2.go; have gd2 := hr2.gd; have gm2 := hr2.gm; simp only at gs2 gx2 go2 gd2 gm2; clear ho2 hl2 hx2 hr2)
   | (at_builtin; refine wpList_append_rb _ rfl _ _ rfl w2.heap.size _ _ _ _ _ rfl rfl (OB.nil _ _) _ _ _ [_] rfl rfl (RB.lit1g _ _ _ (by first | rfl | simp) (by omega) (by omega)) (by simp) (by have := Nat.le_refl w2.heap.size; first | (simp; done) | (simp; omega)) ?_; intro A1 c1 v1 ho1 hl1 hx1; simp only [List.nil_append, List.cons_append] at ho1; have HO1 := z_ ho1; have Hb1 := z_ (show Below w2.heap.size w2 v1 from Below.trans (by first | exact (Below.refl _ _).alloc (Nat.le_refl _) _ | exact ((Below.refl _ _).alloc (Nat.le_refl _) _).alloc (by simp) _) hl1); have Hs1 := z_ Hb1.out.size; have hr1 := HR2.out.below Hb1.out HR2.out.lt; have gs1 := hr1.gs; have gx1 := hr1.gx; have go1 := hr1.go; have gd1 := hr1.gd; have gm1 := hr1.gm; simp only at gs1 gx1 go1 gd1 gm1; clear ho1 hl1 hx1 hr1))
  go_ret2
  first
   | exact ⟨⟨_, _, rfl, HO6.out.rb⟩, HB2.out.trans (Hb6.out.mono HB2.out.size)⟩
   | exact ⟨⟨_, _, rfl, HO5.out.rb⟩, HB2.out.trans (Hb5.out.mono HB2.out.size)⟩
   | exact ⟨⟨_, _, rfl, HO4.out.rb⟩, HB2.out.trans (Hb4.out.mono HB2.out.size)⟩
   | exact ⟨⟨_, _, rfl, HO3.out.rb⟩, HB2.out.trans (Hb3.out.mono HB2.out.size)⟩
   | exact ⟨⟨_, _, rfl, HO2.out.rb⟩, HB2.out.trans (Hb2.out.mono HB2.out.size)⟩
   | exact ⟨⟨_, _, rfl, HO1.out.rb⟩, HB2.out.trans (Hb1.out.mono HB2.out.size)⟩
theorem r9_bytes (i : In) (hi : i.Wf) (hm : i.may = true) (w : World) : Calls Tryz.prog 36 #[i.val] w (BytesTo9 w (bytesI i)) := by
 have h1 := (may_one hm).1
 obtain ⟨hs, hx, -, -⟩ := one_cases h1
 have hn := needN_in i.s i.x i.o
 have hn3 : needN i.s i.x i.o = 0 ∨ needN i.s i.x i.o = 1 ∨ needN i.s i.x i.o = 2 := by omega
 have hbk : bytesI i = bytesK i.s i.x i.o i.d i.m (needD i.s i.x i.o) (needN i.s i.x i.o) := rfl
 rw [hbk]
 refine by_any i.s i.x i.o i.d i.m i.n _ _ hi hm rfl rfl ?_ w
 rcases hs with hs | hs | hs | hs
 ·rcases hx with hx | hx | hx
  ·have hD : needD i.s i.x i.o = false := by unfold needD; rw [hs, hx]; simp
   rcases hn3 with hk | hk | hk <;> rw [hD, hk] <;> simp [hs, hx]
  all_goals
   cases hD : needD i.s i.x i.o <;> rcases hn3 with hk | hk | hk <;> rw [hk] <;> simp [hs, hx]
 ·have hx0 : i.x = 0 := one_x0 (.inl rfl) (hs ▸ h1)
  have hD : needD i.s i.x i.o = false := by unfold needD; rw [hs]; simp
  have hk : needN i.s i.x i.o = 0 := by unfold needN; rw [hs]; simp
  rw [hD, hk]; simp [hs, hx0]
 ·have hx0 : i.x = 0 := one_x0 (.inr rfl) (hs ▸ h1)
  have hD : needD i.s i.x i.o = false := by unfold needD; rw [hs]; simp
  rcases hn3 with hk | hk | hk <;> rw [hD, hk] <;> simp [hs, hx0]
 ·have hD : needD i.s i.x i.o = true := by unfold needD; rw [h1]; simp [hs]
  have hk : needN i.s i.x i.o = 0 := by unfold needN; rw [hs]; simp
  rcases hx with hx | hx | hx
  ·unfold isOneI at h1; rw [hs, hx] at h1; simp at h1
  all_goals
   rw [hD, hk]; simp [hs, hx]
end Go.Proofs.YtgaihekapakoeaaGreatDoor
