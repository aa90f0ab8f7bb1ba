/-     -/
import Derived.Test.YtgaihekapakoeaaGreatDoorJ5
set_option linter.unusedVariables false
set_option linter.unusedSimpArgs false
namespace Go.Proofs.YtgaihekapakoeaaGreatDoor
open Go.RowKit


set_option maxRecDepth 100000

def preB (x : Int) : List Int := if x = 1 then [221] else if x = 2 then [253] else []
def setB (s : Int) : List Int := if s = 1 ∨ s = 3 then [203] else if s = 2 then [237] else []
def aheadB (i : In) : List Int := preB i.x ++ setB i.s

set_option maxHeartbeats 8000000 in
theorem c9_ahead (base : Nat) (A : Option Addr) (c n : Nat) (l : List Int) (i : In) (w : World) (hn : n = l.length) (ho : OB w base A c l) (hl : l.length ≤ 100) (hbase : base ≤ w.heap.size) (hs : i.s = 0 ∨ i.s = 1 ∨ i.s = 2 ∨ i.s = 3) (hx : i.x = 0 ∨ i.x = 1 ∨ i.x = 2) :
  Calls Tryz.prog 64 #[.slice A n c, i.val] w fun e w' => (∃ A' c', e = .returned (.slice A' (l ++ aheadB i).length c') ∧ OB w' base A' c' (l ++ aheadB i)) ∧ Below base w w' := by
 subst hn
 have hb0 : Below base w (w.alloc (inO i)) := (Below.refl _ _).alloc hbase _
 have ho1 := ho.alloc (inO i)
 have hL := InW.laid w i
 obtain ⟨w1, hw1⟩ : ∃ w1, w.alloc (inO i) = w1 := ⟨_, rfl⟩
 rw [hw1] at hb0 ho1 hL
 unfold inO at hw1
 unfold aheadB
 rw [in_val]
 have g0 := hL.gs
 have g1 := hL.gx
 have hlt := hL.lt
 have hG1 : base ≤ w1.heap.size := Nat.le_trans hbase hb0.size
 obtain ⟨s, x, o, d, m, k⟩ := i
 simp only at hs hx g0 g1 ⊢
 have HNB := z_ (show some w.heap.size ≠ (Value.slice A l.length c).ownBlock from fun e => absurd (ho.own.lt _ e.symm).2 (Nat.lt_irrefl _))
 clear ho hL
 rcases hx with rfl | rfl | rfl
 ·rcases hs with rfl | rfl | rfl | rfl
  ·have HE := z_ (show l ++ (preB 0 ++ setB 0) = l from List.append_nil l)
   rw [HE.out]
   have HO := z_ ho1
   have HB := z_ hb0
   clear ho1 hb0
   go_enter Tryz.func64, Tryz.ntmps64
   go_wp2
   go_ret
   exact ⟨⟨A, c, rfl, HO.out⟩, HB.out⟩
  ·have HE := z_ (show l ++ (preB 0 ++ setB 1) = l ++ [203] from by simp [preB, setB])
   rw [HE.out]
   have HO := z_ ho1
   have HB := z_ hb0
   clear ho1 hb0
   obtain ⟨l1, h1⟩ : ∃ l1, l ++ [203] = l1 := ⟨_, rfl⟩
   rw [h1]
   have hl1 : l1.length ≤ 101 := by rw [← h1]; simp; omega
   have H1 := z_ h1
   clear h1
   go_enter Tryz.func64, Tryz.ntmps64
   go_wp2_with (at_builtin; refine wpList_append_rbg _ rfl _ _ rfl base _ A _ c l rfl rfl (HO.out.alloc _) _ _ _ [203] rfl rfl (RB.lit1 _ _ (by decide) (by decide)) (by simp; omega) (by simp; omega) ?_; intro A' c' w6 hob hbel hne; rw [H1.out] at hob; rw [H1.out]; have hb6 := (HB.out.alloc hG1 (.cells #[.int .u8 203] 5)).trans hbel; have hG6 : base ≤ w6.heap.size := Nat.le_trans hbase hb6.size)
   go_ret
   exact ⟨⟨A', c', rfl, hob⟩, hb6⟩
  ·have HE := z_ (show l ++ (preB 0 ++ setB 2) = l ++ [237] from by simp [preB, setB])
   rw [HE.out]
   have HO := z_ ho1
   have HB := z_ hb0
   clear ho1 hb0
   obtain ⟨l1, h1⟩ : ∃ l1, l ++ [237] = l1 := ⟨_, rfl⟩
   rw [h1]
   have hl1 : l1.length ≤ 101 := by rw [← h1]; simp; omega
   have H1 := z_ h1
   clear h1
   go_enter Tryz.func64, Tryz.ntmps64
   go_wp2_with (at_builtin; refine wpList_append_rbg _ rfl _ _ rfl base _ A _ c l rfl rfl (HO.out.alloc _) _ _ _ [237] rfl rfl (RB.lit1 _ _ (by decide) (by decide)) (by simp; omega) (by simp; omega) ?_; intro A' c' w6 hob hbel hne; rw [H1.out] at hob; rw [H1.out]; have hb6 := (HB.out.alloc hG1 (.cells #[.int .u8 237] 5)).trans hbel; have hG6 : base ≤ w6.heap.size := Nat.le_trans hbase hb6.size)
   go_ret
   exact ⟨⟨A', c', rfl, hob⟩, hb6⟩
  ·have HE := z_ (show l ++ (preB 0 ++ setB 3) = l ++ [203] from by simp [preB, setB])
   rw [HE.out]
   have HO := z_ ho1
   have HB := z_ hb0
   clear ho1 hb0
   obtain ⟨l1, h1⟩ : ∃ l1, l ++ [203] = l1 := ⟨_, rfl⟩
   rw [h1]
   have hl1 : l1.length ≤ 101 := by rw [← h1]; simp; omega
   have H1 := z_ h1
   clear h1
   go_enter Tryz.func64, Tryz.ntmps64
   go_wp2_with (at_builtin; refine wpList_append_rbg _ rfl _ _ rfl base _ A _ c l rfl rfl (HO.out.alloc _) _ _ _ [203] rfl rfl (RB.lit1 _ _ (by decide) (by decide)) (by simp; omega) (by simp; omega) ?_; intro A' c' w6 hob hbel hne; rw [H1.out] at hob; rw [H1.out]; have hb6 := (HB.out.alloc hG1 (.cells #[.int .u8 203] 5)).trans hbel; have hG6 : base ≤ w6.heap.size := Nat.le_trans hbase hb6.size)
   go_ret
   exact ⟨⟨A', c', rfl, hob⟩, hb6⟩
 ·rcases hs with rfl | rfl | rfl | rfl
  ·have HE := z_ (show l ++ (preB 1 ++ setB 0) = l ++ [221] from by simp [preB, setB])
   rw [HE.out]
   have HO := z_ ho1
   have HB := z_ hb0
   clear ho1 hb0
   obtain ⟨l1, h1⟩ : ∃ l1, l ++ [221] = l1 := ⟨_, rfl⟩
   rw [h1]
   have hl1 : l1.length ≤ 101 := by rw [← h1]; simp; omega
   have H1 := z_ h1
   clear h1
   go_enter Tryz.func64, Tryz.ntmps64
   go_wp2_with (at_builtin; refine wpList_append_rbg _ rfl _ _ rfl base _ A _ c l rfl rfl (HO.out.alloc _) _ _ _ [221] rfl rfl (RB.lit1 _ _ (by decide) (by decide)) (by simp; omega) (by simp; omega) ?_; intro A' c' w6 hob hbel hne; rw [H1.out] at hob; rw [H1.out]; have hb6 := (HB.out.alloc hG1 (.cells #[.int .u8 221] 5)).trans hbel; have hG6 : base ≤ w6.heap.size := Nat.le_trans hbase hb6.size; have g6 := (World.cell?_of_block (a := ⟨w.heap.size, 0, none⟩) (hne.block w.heap.size (by simp; omega) HNB.out)).trans ((((Below.refl w1.heap.size w1).alloc (Nat.le_refl _) (.cells #[.int .u8 221] 5)).cell (p := ⟨w.heap.size, 0, none⟩) hlt).trans g0))
   go_ret
   exact ⟨⟨A', c', rfl, hob⟩, hb6⟩
  ·have HE := z_ (show l ++ (preB 1 ++ setB 1) = l ++ [221] ++ [203] from by simp [preB, setB])
   rw [HE.out]
   have HO := z_ ho1
   have HB := z_ hb0
   clear ho1 hb0
   obtain ⟨l1, h1⟩ : ∃ l1, l ++ [221] = l1 := ⟨_, rfl⟩
   rw [h1]
   have hl1 : l1.length ≤ 101 := by rw [← h1]; simp; omega
   have H1 := z_ h1
   clear h1
   obtain ⟨l2, h2⟩ : ∃ l2, l1 ++ [203] = l2 := ⟨_, rfl⟩
   rw [h2]
   have H2 := z_ h2
   clear h2
   go_enter Tryz.func64, Tryz.ntmps64
   go_wp2_with (first
    | (at_builtin; refine wpList_append_rbg _ rfl _ _ rfl base _ A _ c l rfl rfl (HO.out.alloc _) _ _ _ [221] rfl rfl (RB.lit1 _ _ (by decide) (by decide)) (by simp; omega) (by simp; omega) ?_; intro A' c' w6 hob hbel hne; rw [H1.out] at hob; rw [H1.out]; have hb6 := (HB.out.alloc hG1 (.cells #[.int .u8 221] 5)).trans hbel; have hG6 : base ≤ w6.heap.size := Nat.le_trans hbase hb6.size; have g6 := (World.cell?_of_block (a := ⟨w.heap.size, 0, none⟩) (hne.block w.heap.size (by simp; omega) HNB.out)).trans ((((Below.refl w1.heap.size w1).alloc (Nat.le_refl _) (.cells #[.int .u8 221] 5)).cell (p := ⟨w.heap.size, 0, none⟩) hlt).trans g0))
    | (at_builtin; refine wpList_append_rb _ rfl _ _ rfl base _ A' _ c' l1 rfl rfl (hob.alloc _) _ _ _ [203] rfl rfl (RB.lit1 _ _ (by decide) (by decide)) (by simp; omega) (by simp; omega) ?_; intro A'' c'' w7 hob' hbel' hne'; rw [H2.out] at hob'; rw [H2.out]))
   go_ret
   exact ⟨⟨A'', c'', rfl, hob'⟩, (hb6.alloc hG6 _).trans hbel'⟩
  ·have HE := z_ (show l ++ (preB 1 ++ setB 2) = l ++ [221] ++ [237] from by simp [preB, setB])
   rw [HE.out]
   have HO := z_ ho1
   have HB := z_ hb0
   clear ho1 hb0
   obtain ⟨l1, h1⟩ : ∃ l1, l ++ [221] = l1 := ⟨_, rfl⟩
   rw [h1]
   have hl1 : l1.length ≤ 101 := by rw [← h1]; simp; omega
   have H1 := z_ h1
   clear h1
   obtain ⟨l2, h2⟩ : ∃ l2, l1 ++ [237] = l2 := ⟨_, rfl⟩
   rw [h2]
   have H2 := z_ h2
   clear h2
   go_enter Tryz.func64, Tryz.ntmps64
   go_wp2_with (first
    | (at_builtin; refine wpList_append_rbg _ rfl _ _ rfl base _ A _ c l rfl rfl (HO.out.alloc _) _ _ _ [221] rfl rfl (RB.lit1 _ _ (by decide) (by decide)) (by simp; omega) (by simp; omega) ?_; intro A' c' w6 hob hbel hne; rw [H1.out] at hob; rw [H1.out]; have hb6 := (HB.out.alloc hG1 (.cells #[.int .u8 221] 5)).trans hbel; have hG6 : base ≤ w6.heap.size := Nat.le_trans hbase hb6.size; have g6 := (World.cell?_of_block (a := ⟨w.heap.size, 0, none⟩) (hne.block w.heap.size (by simp; omega) HNB.out)).trans ((((Below.refl w1.heap.size w1).alloc (Nat.le_refl _) (.cells #[.int .u8 221] 5)).cell (p := ⟨w.heap.size, 0, none⟩) hlt).trans g0))
    | (at_builtin; refine wpList_append_rb _ rfl _ _ rfl base _ A' _ c' l1 rfl rfl (hob.alloc _) _ _ _ [237] rfl rfl (RB.lit1 _ _ (by decide) (by decide)) (by simp; omega) (by simp; omega) ?_; intro A'' c'' w7 hob' hbel' hne'; rw [H2.out] at hob'; rw [H2.out]))
   go_ret
   exact ⟨⟨A'', c'', rfl, hob'⟩, (hb6.alloc hG6 _).trans hbel'⟩
  ·have HE := z_ (show l ++ (preB 1 ++ setB 3) = l ++ [221] ++ [203] from by simp [preB, setB])
   rw [HE.out]
   have HO := z_ ho1
   have HB := z_ hb0
   clear ho1 hb0
   obtain ⟨l1, h1⟩ : ∃ l1, l ++ [221] = l1 := ⟨_, rfl⟩
   rw [h1]
   have hl1 : l1.length ≤ 101 := by rw [← h1]; simp; omega
   have H1 := z_ h1
   clear h1
   obtain ⟨l2, h2⟩ : ∃ l2, l1 ++ [203] = l2 := ⟨_, rfl⟩
   rw [h2]
   have H2 := z_ h2
   clear h2
   go_enter Tryz.func64, Tryz.ntmps64
   go_wp2_with (first
    | (at_builtin; refine wpList_append_rbg _ rfl _ _ rfl base _ A _ c l rfl rfl (HO.out.alloc _) _ _ _ [221] rfl rfl (RB.lit1 _ _ (by decide) (by decide)) (by simp; omega) (by simp; omega) ?_; intro A' c' w6 hob hbel hne; rw [H1.out] at hob; rw [H1.out]; have hb6 := (HB.out.alloc hG1 (.cells #[.int .u8 221] 5)).trans hbel; have hG6 : base ≤ w6.heap.size := Nat.le_trans hbase hb6.size; have g6 := (World.cell?_of_block (a := ⟨w.heap.size, 0, none⟩) (hne.block w.heap.size (by simp; omega) HNB.out)).trans ((((Below.refl w1.heap.size w1).alloc (Nat.le_refl _) (.cells #[.int .u8 221] 5)).cell (p := ⟨w.heap.size, 0, none⟩) hlt).trans g0))
    | (at_builtin; refine wpList_append_rb _ rfl _ _ rfl base _ A' _ c' l1 rfl rfl (hob.alloc _) _ _ _ [203] rfl rfl (RB.lit1 _ _ (by decide) (by decide)) (by simp; omega) (by simp; omega) ?_; intro A'' c'' w7 hob' hbel' hne'; rw [H2.out] at hob'; rw [H2.out]))
   go_ret
   exact ⟨⟨A'', c'', rfl, hob'⟩, (hb6.alloc hG6 _).trans hbel'⟩
 ·rcases hs with rfl | rfl | rfl | rfl
  ·have HE := z_ (show l ++ (preB 2 ++ setB 0) = l ++ [253] from by simp [preB, setB])
   rw [HE.out]
   have HO := z_ ho1
   have HB := z_ hb0
   clear ho1 hb0
   obtain ⟨l1, h1⟩ : ∃ l1, l ++ [253] = l1 := ⟨_, rfl⟩
   rw [h1]
   have hl1 : l1.length ≤ 101 := by rw [← h1]; simp; omega
   have H1 := z_ h1
   clear h1
   go_enter Tryz.func64, Tryz.ntmps64
   go_wp2_with (at_builtin; refine wpList_append_rbg _ rfl _ _ rfl base _ A _ c l rfl rfl (HO.out.alloc _) _ _ _ [253] rfl rfl (RB.lit1 _ _ (by decide) (by decide)) (by simp; omega) (by simp; omega) ?_; intro A' c' w6 hob hbel hne; rw [H1.out] at hob; rw [H1.out]; have hb6 := (HB.out.alloc hG1 (.cells #[.int .u8 253] 5)).trans hbel; have hG6 : base ≤ w6.heap.size := Nat.le_trans hbase hb6.size; have g6 := (World.cell?_of_block (a := ⟨w.heap.size, 0, none⟩) (hne.block w.heap.size (by simp; omega) HNB.out)).trans ((((Below.refl w1.heap.size w1).alloc (Nat.le_refl _) (.cells #[.int .u8 253] 5)).cell (p := ⟨w.heap.size, 0, none⟩) hlt).trans g0))
   go_ret
   exact ⟨⟨A', c', rfl, hob⟩, hb6⟩
  ·have HE := z_ (show l ++ (preB 2 ++ setB 1) = l ++ [253] ++ [203] from by simp [preB, setB])
   rw [HE.out]
   have HO := z_ ho1
   have HB := z_ hb0
   clear ho1 hb0
   obtain ⟨l1, h1⟩ : ∃ l1, l ++ [253] = l1 := ⟨_, rfl⟩
   rw [h1]
   have hl1 : l1.length ≤ 101 := by rw [← h1]; simp; omega
   have H1 := z_ h1
   clear h1
   obtain ⟨l2, h2⟩ : ∃ l2, l1 ++ [203] = l2 := ⟨_, rfl⟩
   rw [h2]
   have H2 := z_ h2
   clear h2
   go_enter Tryz.func64, Tryz.ntmps64
   go_wp2_with (first
    | (at_builtin; refine wpList_append_rbg _ rfl _ _ rfl base _ A _ c l rfl rfl (HO.out.alloc _) _ _ _ [253] rfl rfl (RB.lit1 _ _ (by decide) (by decide)) (by simp; omega) (by simp; omega) ?_; intro A' c' w6 hob hbel hne; rw [H1.out] at hob; rw [H1.out]; have hb6 := (HB.out.alloc hG1 (.cells #[.int .u8 253] 5)).trans hbel; have hG6 : base ≤ w6.heap.size := Nat.le_trans hbase hb6.size; have g6 := (World.cell?_of_block (a := ⟨w.heap.size, 0, none⟩) (hne.block w.heap.size (by simp; omega) HNB.out)).trans ((((Below.refl w1.heap.size w1).alloc (Nat.le_refl _) (.cells #[.int .u8 253] 5)).cell (p := ⟨w.heap.size, 0, none⟩) hlt).trans g0))
    | (at_builtin; refine wpList_append_rb _ rfl _ _ rfl base _ A' _ c' l1 rfl rfl (hob.alloc _) _ _ _ [203] rfl rfl (RB.lit1 _ _ (by decide) (by decide)) (by simp; omega) (by simp; omega) ?_; intro A'' c'' w7 hob' hbel' hne'; rw [H2.out] at hob'; rw [H2.out]))
   go_ret
   exact ⟨⟨A'', c'', rfl, hob'⟩, (hb6.alloc hG6 _).trans hbel'⟩
  ·have HE := z_ (show l ++ (preB 2 ++ setB 2) = l ++ [253] ++ [237] from by simp [preB, setB])
   rw [HE.out]
   have HO := z_ ho1
   have HB := z_ hb0
   clear ho1 hb0
   obtain ⟨l1, h1⟩ : ∃ l1, l ++ [253] = l1 := ⟨_, rfl⟩
   rw [h1]
   have hl1 : l1.length ≤ 101 := by rw [← h1]; simp; omega
   have H1 := z_ h1
   clear h1
   obtain ⟨l2, h2⟩ : ∃ l2, l1 ++ [237] = l2 := ⟨_, rfl⟩
   rw [h2]
   have H2 := z_ h2
   clear h2
   go_enter Tryz.func64, Tryz.ntmps64
   go_wp2_with (first
    | (at_builtin; refine wpList_append_rbg _ rfl _ _ rfl base _ A _ c l rfl rfl (HO.out.alloc _) _ _ _ [253] rfl rfl (RB.lit1 _ _ (by decide) (by decide)) (by simp; omega) (by simp; omega) ?_; intro A' c' w6 hob hbel hne; rw [H1.out] at hob; rw [H1.out]; have hb6 := (HB.out.alloc hG1 (.cells #[.int .u8 253] 5)).trans hbel; have hG6 : base ≤ w6.heap.size := Nat.le_trans hbase hb6.size; have g6 := (World.cell?_of_block (a := ⟨w.heap.size, 0, none⟩) (hne.block w.heap.size (by simp; omega) HNB.out)).trans ((((Below.refl w1.heap.size w1).alloc (Nat.le_refl _) (.cells #[.int .u8 253] 5)).cell (p := ⟨w.heap.size, 0, none⟩) hlt).trans g0))
    | (at_builtin; refine wpList_append_rb _ rfl _ _ rfl base _ A' _ c' l1 rfl rfl (hob.alloc _) _ _ _ [237] rfl rfl (RB.lit1 _ _ (by decide) (by decide)) (by simp; omega) (by simp; omega) ?_; intro A'' c'' w7 hob' hbel' hne'; rw [H2.out] at hob'; rw [H2.out]))
   go_ret
   exact ⟨⟨A'', c'', rfl, hob'⟩, (hb6.alloc hG6 _).trans hbel'⟩
  ·have HE := z_ (show l ++ (preB 2 ++ setB 3) = l ++ [253] ++ [203] from by simp [preB, setB])
   rw [HE.out]
   have HO := z_ ho1
   have HB := z_ hb0
   clear ho1 hb0
   obtain ⟨l1, h1⟩ : ∃ l1, l ++ [253] = l1 := ⟨_, rfl⟩
   rw [h1]
   have hl1 : l1.length ≤ 101 := by rw [← h1]; simp; omega
   have H1 := z_ h1
   clear h1
   obtain ⟨l2, h2⟩ : ∃ l2, l1 ++ [203] = l2 := ⟨_, rfl⟩
   rw [h2]
   have H2 := z_ h2
   clear h2
   go_enter Tryz.func64, Tryz.ntmps64
   go_wp2_with (first
    | (at_builtin; refine wpList_append_rbg _ rfl _ _ rfl base _ A _ c l rfl rfl (HO.out.alloc _) _ _ _ [253] rfl rfl (RB.lit1 _ _ (by decide) (by decide)) (by simp; omega) (by simp; omega) ?_; intro A' c' w6 hob hbel hne; rw [H1.out] at hob; rw [H1.out]; have hb6 := (HB.out.alloc hG1 (.cells #[.int .u8 253] 5)).trans hbel; have hG6 : base ≤ w6.heap.size := Nat.le_trans hbase hb6.size; have g6 := (World.cell?_of_block (a := ⟨w.heap.size, 0, none⟩) (hne.block w.heap.size (by simp; omega) HNB.out)).trans ((((Below.refl w1.heap.size w1).alloc (Nat.le_refl _) (.cells #[.int .u8 253] 5)).cell (p := ⟨w.heap.size, 0, none⟩) hlt).trans g0))
    | (at_builtin; refine wpList_append_rb _ rfl _ _ rfl base _ A' _ c' l1 rfl rfl (hob.alloc _) _ _ _ [203] rfl rfl (RB.lit1 _ _ (by decide) (by decide)) (by simp; omega) (by simp; omega) ?_; intro A'' c'' w7 hob' hbel' hne'; rw [H2.out] at hob'; rw [H2.out]))
   go_ret
   exact ⟨⟨A'', c'', rfl, hob'⟩, (hb6.alloc hG6 _).trans hbel'⟩
end Go.Proofs.YtgaihekapakoeaaGreatDoor
namespace Go.Proofs.YtgaihekapakoeaaGreatDoor
open Go.RowKit


set_option maxRecDepth 100000

def midB (i : In) : List Int := if i.s = 3 then [i.d % 256, i.o] else if needD i.s i.x i.o = true then [i.o, i.d % 256] else [i.o]
def immL (m : Int) (k : Int) : List Int := if k = 0 then [] else if k = 1 then [m % 256] else [m % 256, m / 256 % 256]
def bytesI (i : In) : List Int := aheadB i ++ midB i ++ immL i.m (needN i.s i.x i.o)

theorem one_cases {s x o : Int} (h : isOneI s x o = true) : (s = 0 ∨ s = 1 ∨ s = 2 ∨ s = 3) ∧ (x = 0 ∨ x = 1 ∨ x = 2) ∧ 0 ≤ o ∧ o < 256 := by
 have hb := isOneI_byte h
 unfold isOneI at h
 simp only [Bool.and_eq_true] at h
 have h1 := h.2
 refine ⟨?_, ?_, hb⟩
 ·by_cases h0 : s = 0
  ·omega
  ·rw [if_neg h0] at h1
   by_cases h2 : s = 1 ∨ s = 2
   ·omega
   ·rw [if_neg h2] at h1
    simp only [Bool.and_eq_true, beq_iff_eq] at h1
    omega
 ·by_cases h0 : s = 0
  ·rw [if_pos h0] at h1
   by_cases h2 : x = 1 ∨ x = 2
   ·omega
   ·rw [if_neg h2] at h1
    simp only [Bool.and_eq_true, beq_iff_eq] at h1
    omega
  ·rw [if_neg h0] at h1
   by_cases h2 : s = 1 ∨ s = 2
   ·rw [if_pos h2] at h1
    simp only [beq_iff_eq] at h1
    omega
   ·rw [if_neg h2] at h1
    simp only [Bool.and_eq_true, Bool.or_eq_true, beq_iff_eq] at h1
    omega
theorem may_one {i : In} (h : i.may = true) : isOneI i.s i.x i.o = true ∧ i.n = i.len ∧ i.ops = true := by
 unfold In.may at h
 simp only [Bool.and_eq_true, beq_iff_eq] at h
 exact ⟨h.1, h.2.1, h.2.2⟩
theorem aheadB_len (i : In) : (aheadB i).length ≤ 2 := by
 unfold aheadB preB setB
 repeat' split
 all_goals simp
theorem midB_len (i : In) : (midB i).length ≤ 2 := by
 unfold midB
 repeat' split
 all_goals simp

set_option maxHeartbeats 2000000 in
theorem c9_bytes_no (i : In) (hi : i.Wf) (hm : ¬ i.may = true) (w : World) : Calls Tryz.prog 31 #[i.val] w fun e w' => e = .returned (.tuple #[.slice none 0 0, .int .i64 2]) ∧ Below w.heap.size w w' := by
 have HC := z_ (fun w => c9_check i hi w)
 rw [if_neg hm] at HC
 have HL := z_ (InW.laid w i)
 have hb0 : Below w.heap.size w (w.alloc (inO i)) := (Below.refl _ _).alloc (Nat.le_refl _) _
 rw [in_val]
 go_enter Tryz.func31, Tryz.ntmps31
 go_wp2_with (refine lr w.heap.size rfl rfl rfl HL.out ?_)
 refine (HC.out _).mono ?_
 rintro e w3 ⟨rfl, hb⟩
 go_wp2
 go_ret2
 exact ⟨rfl, hb0.trans (hb.mono hb0.size)⟩

theorem RB.lit2 (w : World) (u v : Int) (h0 : 0 ≤ u) (h1 : u < 256) (k0 : 0 ≤ v) (k1 : v < 256) : RB (w.alloc (.cells #[.int .u8 u, .int .u8 v] 5)) (w.heap.size + 1) (some ⟨w.heap.size, 0, none⟩) 2 [u, v] :=
 (OB.lit w [u, v] (AllB.cons h0 h1 (AllB.one k0 k1)) (by unfold maxLen; simp)).rb.more (by simp)
theorem immL_len (m k : Int) : (immL m k).length ≤ 2 := by
 unfold immL
 split
 ·simp
 ·split <;> simp
theorem OB.save {w w' : World} {B : Nat} {A : Option Addr} {c : Nat} {l : List Int} (h : OB w B A c l) (hs : Save (fun _ => False) w w') : OB w' B A c l := h.below hs.all (Nat.le_refl _)
theorem closed_ob (b : World) (N : Nat) (A : Option Addr) (c : Nat) (l : List Int) : M.Closed (fun w' => (M.Base b w' ∧ N ≤ w'.heap.size) ∧ OB w' N A c l) := fun w w1 h hs => ⟨⟨M.closed_base b w w1 h.1.1 hs, Nat.le_trans h.1.2 hs.size⟩, h.2.save hs⟩

set_option maxHeartbeats 8000000 in
theorem c9_bytes_may (i : In) (hi : i.Wf) (hm : i.may = true) (w : World) : Calls Tryz.prog 31 #[i.val] w fun e w' => (∃ A c, e = .returned (.tuple #[.slice A (bytesI i).length c, .int .i64 0]) ∧ OB w' w.heap.size A c (bytesI i)) ∧ Below w.heap.size w w' := by
 obtain ⟨iB, hiB, hz0, hz1, hz2⟩ := info_parts infoB
 have HC := z_ (fun w => c9_check i hi w)
 rw [if_pos hm] at HC
 obtain ⟨m1, m2, m3⟩ := may_one hm
 obtain ⟨hs, hx, ho0, ho1⟩ := one_cases m1
 have hLn := lenI_in i.s i.x i.o
 rw [show lenI i.s i.x i.o = i.len from rfl, ← m2] at hLn
 obtain ⟨-, hn0, hn1⟩ := hLn
 have HN := z_ (fun w => c9_needs i.s i.x i.o w)
 have HA := z_ (fun (base : Nat) (w : World) (N : Nat) (hN : base ≤ w.heap.size) (A : Option Addr) (c : Nat) (h : OB w base A c []) => c9_ahead base A c 0 [] i w rfl h (by simp) hN hs hx)
 have hk := needN_in i.s i.x i.o
 have hX : bytesI i = aheadB i ++ midB i ++ immL i.m (needN i.s i.x i.o) := rfl
 have hM : midB i = if i.s = 3 then [i.d % 256, i.o] else if needD i.s i.x i.o = true then [i.o, i.d % 256] else [i.o] := rfl
 have hla := aheadB_len i
 have hlm := midB_len i
 generalize bytesI i = X at *
 generalize aheadB i = L0 at *
 generalize midB i = M0 at *
 obtain ⟨dd, hdd⟩ : ∃ d, needD i.s i.x i.o = d := ⟨_, rfl⟩
 rw [hdd] at HN hM
 generalize needN i.s i.x i.o = kk at *
 have HX := z_ hX
 clear hX hdd m1 m2 m3 hm
 have HL := z_ (InW.laid w i)
 have hb0 : Below w.heap.size w (w.alloc (inO i)) := (Below.refl _ _).alloc (Nat.le_refl _) _
 have hd8 : IntKind.u8.wrap i.d = i.d % 256 := wrap_u8 _
 have ho8 : IntKind.u8.wrap i.o = i.o := by rw [wrap_u8]; omega
 rw [in_val]
 go_enter Tryz.func31, Tryz.ntmps31
 go_wp2_with (refine lr w.heap.size rfl rfl rfl HL.out ?_)
 refine (HC.out _).mono ?_
 rintro e w2 ⟨rfl, hb⟩
 have hL2 := HL.out.below hb HL.out.lt
 have hB2 := hb0.trans (hb.mono hb0.size)
 clear hb hb0 HL HC
 have g0 := hL2.gs
 have g1 := hL2.gx
 have g2 := hL2.go
 have hlt := hL2.lt
 have g5 : ∀ p : M.Of (M.Base w2), p.w.cell? ⟨w.heap.size, 5, none⟩ = some (.int .i64 i.n) := fun p => (hL2.below p.ok.2 hlt).gn
 have HL := z_ hL2
 obtain ⟨nn, hnn⟩ : ∃ n : Nat, i.n = n := ⟨i.n.toNat, by omega⟩
 clear hL2
 go_upto_region 5 with (go_at_call 63; (with_reducible refine (HN.out _).mono ?_); rintro e w' ⟨rfl, rfl⟩)
 refine M.rg ?_
 refine M.sg [0, 1] 4 ?_
 repeat (go_big_quiet_step (fail))
 refine wpQuiet_nil ?_
 clear g0 g1 g2 g5
 refine M.cm 3 i.val ?_ ?_
 ·intro wz sz
  exact dl (HL.out.below sz.2 HL.out.lt)
 go_simp
 refine M.cl 2 ?_
 intro wz sz
 obtain ⟨w3, hrun, r1, r2⟩ := run_make_own (P := Tryz.prog) wz wz.heap.size 27 5 iB (.int .u8 0) 1 Tryz.underlying27 hiB hz0 hz1 .i64 .i64 nn (by rw [hz2]; omega) (by unfold maxLen; omega) (Nat.le_refl _)
 have ho3 : OB w3 wz.heap.size (some ⟨wz.heap.size, 0, none⟩) nn [] := ⟨r1, AllB.nil⟩
 have hb3 : Below wz.heap.size wz w3 := (Below.refl _ _).grown r2 (Nat.le_refl _) (fun _ h => by cases h)

 unfold Oper.does
 go_simp
 refine ⟨fun w' => (M.Base w2 w' ∧ wz.heap.size ≤ w'.heap.size) ∧ OB w' wz.heap.size (some ⟨wz.heap.size, 0, none⟩) nn [], ⟨⟨M.Base.below sz (hb3.mono sz.1), hb3.size⟩, ho3⟩, closed_ob _ _ _ _ _, fun _ h => h.1.1, ?_⟩
 have hNz : w2.heap.size ≤ wz.heap.size := sz.1
 clear sz hrun r1 r2 ho3 hb3
 generalize wz.heap.size = N at *
 go_simp
 refine M.cl 4 ?_
 intro wy sy
 unfold Oper.does
 go_simp
 refine (HA.out N wy N sy.1.2 _ nn sy.2).mono ?_
 rintro e w4 ⟨⟨A4, c4, rfl, ho4⟩, hb4⟩
 rw [List.nil_append] at ho4 ⊢
 refine ⟨_, rfl, fun w' => (M.Base w2 w' ∧ N ≤ w'.heap.size) ∧ OB w' N A4 c4 L0, ⟨⟨M.Base.below sy.1.1 (hb4.mono hNz), Nat.le_trans sy.1.2 hb4.size⟩, ho4⟩, closed_ob _ _ _ _ _, fun _ h => h.1.1, ?_⟩
 clear sy hb4 ho4
 go_simp
 refine M.sg [5] 0 ?_
 repeat (go_big_quiet_step (fail))
 refine wpQuiet_nil ?_
 refine M.en ?_
 intro wc sc
 have hO := sc.2
 have hN6 := sc.1.2
 have hL6 := HL.out.below sc.1.1.2 HL.out.lt
 have hB6 := hB2.trans (sc.1.1.2.mono hB2.size)
 have hltN : w.heap.size < N := by omega
 have q0 := hL6.gs
 have q2 := hL6.go
 have q3 := hL6.gd
 clear sc HL hB2 HA HN hnn
 have d0 : 0 ≤ i.d % 256 := by omega
 have d1 : i.d % 256 < 256 := by omega
 have HL6 := z_ hL6
 have HB6 := z_ hB6
 have HO := z_ hO
 clear hL6 hB6 hO
 by_cases h3 : i.s = 3
 ·rw [if_pos h3] at hM
  rw [h3] at q0
  have HM := z_ (show L0 ++ M0 = L0 ++ [i.d % 256, i.o] from by rw [hM])
  obtain ⟨L1, hL1⟩ : ∃ L, L0 ++ [i.d % 256, i.o] = L := ⟨_, rfl⟩
  rw [hL1] at HM
  have hl1 : L1.length ≤ 4 := by rw [← hL1]; simp; omega
  have H1 := z_ hL1
  clear hL1 hM hlm
  go_upto_region 12 with (at_builtin; refine wpList_append_rb _ rfl _ _ rfl N _ A4 _ c4 L0 rfl rfl (HO.out.alloc _) _ _ _ [i.d % 256, i.o] rfl rfl (RB.lit2 _ _ _ d0 d1 ho0 ho1) (by simp; omega) (by simp; omega) ?_; intro A7 c7 w7 hO7' hbel7 hne; rw [H1.out])
  have hO7 : OB w7 N A7 c7 L1 := by rw [← H1.out]; exact hO7'
  have hb7 : Below N wc w7 := ((Below.refl N wc).alloc hN6 (.cells #[.int .u8 (i.d % 256), .int .u8 (i.o)] 5)).trans hbel7
  clear hbel7
  have hL7 := HL6.out.below hb7 hltN
  have hB7 := HB6.out.trans (hb7.mono (Nat.le_of_lt hltN))
  have hN7 : N ≤ w7.heap.size := Nat.le_trans hN6 hb7.size
  clear HL6 HB6 HO hb7 q0 q2 q3 hO7' hne
  obtain hk0 | hk0 | hk0 : kk = 0 ∨ kk = 1 ∨ kk = 2 := by omega
  ·subst hk0
   go_wp2_with fail
   go_loopw [7, 58] (fun v j wr => ∃ (q : Int) (A : Option Addr) (c : Nat), (q = 0) ∧ j = .int .i64 q ∧ v = .slice A (L1 ++ immL i.m q).length c ∧ OB wr N A c (L1 ++ immL i.m q) ∧ InW wr w.heap.size i ∧ Below w.heap.size w wr ∧ N ≤ wr.heap.size) (fun _ j _ => 0 - (intOf j).toNat)
   case atStart => exact ⟨0, A7, c7, by simp, rfl, by simp [immL], by simpa [immL] using hO7, hL7, hB7, hN7⟩
   case round =>
    clear hO7 hL7 hB7 hN7
    obtain ⟨q, A, c, hq, rfl, rfl, ho, hL, hB, hN⟩ := hrel
    have hsl : (L1 ++ immL i.m q).length ≤ 6 := by rw [List.length_append]; have := immL_len i.m q; omega
    have q4 := hL.gm
    obtain rfl := hq
    ·have HO := z_ ho
     have HXe := z_ (show L1 ++ immL i.m 0 = X from by rw [HX.out, ← HM.out])
     rw [HXe.out] at HO ⊢
     clear ho
     go_wp2_with fail
     go_ret2
     exact ⟨⟨A, c, rfl, HO.out.mono (Nat.le_of_lt hltN)⟩, hB⟩
  ·subst hk0
   go_wp2_with fail
   go_loopw [7, 58] (fun v j wr => ∃ (q : Int) (A : Option Addr) (c : Nat), (q = 0 ∨ q = 1) ∧ j = .int .i64 q ∧ v = .slice A (L1 ++ immL i.m q).length c ∧ OB wr N A c (L1 ++ immL i.m q) ∧ InW wr w.heap.size i ∧ Below w.heap.size w wr ∧ N ≤ wr.heap.size) (fun _ j _ => 1 - (intOf j).toNat)
   case atStart => exact ⟨0, A7, c7, by simp, rfl, by simp [immL], by simpa [immL] using hO7, hL7, hB7, hN7⟩
   case round =>
    clear hO7 hL7 hB7 hN7
    obtain ⟨q, A, c, hq, rfl, rfl, ho, hL, hB, hN⟩ := hrel
    have hsl : (L1 ++ immL i.m q).length ≤ 6 := by rw [List.length_append]; have := immL_len i.m q; omega
    have q4 := hL.gm
    obtain rfl | rfl := hq
    ·have hS := z_ (show L1 ++ immL i.m 0 ++ [i.m % 256] = L1 ++ immL i.m 1 from by simp [immL])
     have h8 : IntKind.u8.wrap i.m = i.m % 256 := wrap_u8 _
     obtain ⟨K, hK⟩ : ∃ K, L1 ++ immL i.m 0 = K := ⟨_, rfl⟩
     rw [hK] at ho hsl hS ⊢
     clear hK
     have HO := z_ ho
     have HLr := z_ hL
     have HBr := z_ hB
     clear ho hL hB
     go_wp2_with (at_builtin; refine wpList_append_rb _ rfl _ _ rfl N _ A _ c K rfl rfl (HO.out.alloc _) _ _ _ [i.m % 256] rfl rfl (RB.lit1 _ _ (by omega) (by omega)) (by simp; omega) (by simp; omega) ?_; intro A' c' w8 hob hbel hne)
     have hbg : Below N wr w8 := ((Below.refl N wr).alloc hN _).trans hbel
     go_roundw
     case rel => exact ⟨1, A', c', by simp, by go_num, (by rw [← hS.out, List.length_append]; rfl), by rw [← hS.out]; exact hob, HLr.out.below hbg hltN, HBr.out.trans (hbg.mono (Nat.le_of_lt hltN)), Nat.le_trans hN hbg.size⟩
     case measure => simp [intOf]
    ·have HO := z_ ho
     have HXe := z_ (show L1 ++ immL i.m 1 = X from by rw [HX.out, ← HM.out])
     rw [HXe.out] at HO ⊢
     clear ho
     go_wp2_with fail
     go_ret2
     exact ⟨⟨A, c, rfl, HO.out.mono (Nat.le_of_lt hltN)⟩, hB⟩
  ·subst hk0
   go_wp2_with fail
   go_loopw [7, 58] (fun v j wr => ∃ (q : Int) (A : Option Addr) (c : Nat), (q = 0 ∨ q = 1 ∨ q = 2) ∧ j = .int .i64 q ∧ v = .slice A (L1 ++ immL i.m q).length c ∧ OB wr N A c (L1 ++ immL i.m q) ∧ InW wr w.heap.size i ∧ Below w.heap.size w wr ∧ N ≤ wr.heap.size) (fun _ j _ => 2 - (intOf j).toNat)
   case atStart => exact ⟨0, A7, c7, by simp, rfl, by simp [immL], by simpa [immL] using hO7, hL7, hB7, hN7⟩
   case round =>
    clear hO7 hL7 hB7 hN7
    obtain ⟨q, A, c, hq, rfl, rfl, ho, hL, hB, hN⟩ := hrel
    have hsl : (L1 ++ immL i.m q).length ≤ 6 := by rw [List.length_append]; have := immL_len i.m q; omega
    have q4 := hL.gm
    obtain rfl | rfl | rfl := hq
    ·have hS := z_ (show L1 ++ immL i.m 0 ++ [i.m % 256] = L1 ++ immL i.m 1 from by simp [immL])
     have h8 : IntKind.u8.wrap i.m = i.m % 256 := wrap_u8 _
     obtain ⟨K, hK⟩ : ∃ K, L1 ++ immL i.m 0 = K := ⟨_, rfl⟩
     rw [hK] at ho hsl hS ⊢
     clear hK
     have HO := z_ ho
     have HLr := z_ hL
     have HBr := z_ hB
     clear ho hL hB
     go_wp2_with (at_builtin; refine wpList_append_rb _ rfl _ _ rfl N _ A _ c K rfl rfl (HO.out.alloc _) _ _ _ [i.m % 256] rfl rfl (RB.lit1 _ _ (by omega) (by omega)) (by simp; omega) (by simp; omega) ?_; intro A' c' w8 hob hbel hne)
     have hbg : Below N wr w8 := ((Below.refl N wr).alloc hN _).trans hbel
     go_roundw
     case rel => exact ⟨1, A', c', by simp, by go_num, (by rw [← hS.out, List.length_append]; rfl), by rw [← hS.out]; exact hob, HLr.out.below hbg hltN, HBr.out.trans (hbg.mono (Nat.le_of_lt hltN)), Nat.le_trans hN hbg.size⟩
     case measure => simp [intOf]
    ·have hS := z_ (show L1 ++ immL i.m 1 ++ [i.m / 256 % 256] = L1 ++ immL i.m 2 from by simp [immL])
     have h8 : IntKind.u8.wrap (i.m / 256) = i.m / 256 % 256 := wrap_u8 _
     obtain ⟨K, hK⟩ : ∃ K, L1 ++ immL i.m 1 = K := ⟨_, rfl⟩
     rw [hK] at ho hsl hS ⊢
     clear hK
     have HO := z_ ho
     have HLr := z_ hL
     have HBr := z_ hB
     clear ho hL hB
     go_wp2_with (at_builtin; refine wpList_append_rb _ rfl _ _ rfl N _ A _ c K rfl rfl (HO.out.alloc _) _ _ _ [i.m / 256 % 256] rfl rfl (RB.lit1 _ _ (by omega) (by omega)) (by simp; omega) (by simp; omega) ?_; intro A' c' w8 hob hbel hne)
     have hbg : Below N wr w8 := ((Below.refl N wr).alloc hN _).trans hbel
     go_roundw
     case rel => exact ⟨2, A', c', by simp, by go_num, (by rw [← hS.out, List.length_append]; rfl), by rw [← hS.out]; exact hob, HLr.out.below hbg hltN, HBr.out.trans (hbg.mono (Nat.le_of_lt hltN)), Nat.le_trans hN hbg.size⟩
     case measure => simp [intOf]
    ·have HO := z_ ho
     have HXe := z_ (show L1 ++ immL i.m 2 = X from by rw [HX.out, ← HM.out])
     rw [HXe.out] at HO ⊢
     clear ho
     go_wp2_with fail
     go_ret2
     exact ⟨⟨A, c, rfl, HO.out.mono (Nat.le_of_lt hltN)⟩, hB⟩
 ·rw [if_neg h3] at hM
  have h3' : (i.s == 3) = false := beq_eq_false_iff_ne.2 h3
  cases dd with
  | true =>
   rw [if_pos rfl] at hM
   have HM := z_ (show L0 ++ M0 = L0 ++ [i.o, i.d % 256] from by rw [hM])
   obtain ⟨L1, hL1⟩ : ∃ L, L0 ++ [i.o, i.d % 256] = L := ⟨_, rfl⟩
   rw [hL1] at HM
   have hl1 : L1.length ≤ 4 := by rw [← hL1]; simp; omega
   have H1 := z_ hL1
   clear hL1 hM hlm
   go_upto_region 12 with (at_builtin; refine wpList_append_rb _ rfl _ _ rfl N _ A4 _ c4 L0 rfl rfl (HO.out.alloc _) _ _ _ [i.o, i.d % 256] rfl rfl (RB.lit2 _ _ _ ho0 ho1 d0 d1) (by simp; omega) (by simp; omega) ?_; intro A7 c7 w7 hO7' hbel7 hne; rw [H1.out])
   have hO7 : OB w7 N A7 c7 L1 := by rw [← H1.out]; exact hO7'
   have hb7 : Below N wc w7 := ((Below.refl N wc).alloc hN6 (.cells #[.int .u8 (i.o), .int .u8 (i.d % 256)] 5)).trans hbel7
   clear hbel7
   have hL7 := HL6.out.below hb7 hltN
   have hB7 := HB6.out.trans (hb7.mono (Nat.le_of_lt hltN))
   have hN7 : N ≤ w7.heap.size := Nat.le_trans hN6 hb7.size
   clear HL6 HB6 HO hb7 q0 q2 q3 hO7' hne
   obtain hk0 | hk0 | hk0 : kk = 0 ∨ kk = 1 ∨ kk = 2 := by omega
   ·subst hk0
    go_wp2_with fail
    go_loopw [7, 58] (fun v j wr => ∃ (q : Int) (A : Option Addr) (c : Nat), (q = 0) ∧ j = .int .i64 q ∧ v = .slice A (L1 ++ immL i.m q).length c ∧ OB wr N A c (L1 ++ immL i.m q) ∧ InW wr w.heap.size i ∧ Below w.heap.size w wr ∧ N ≤ wr.heap.size) (fun _ j _ => 0 - (intOf j).toNat)
    case atStart => exact ⟨0, A7, c7, by simp, rfl, by simp [immL], by simpa [immL] using hO7, hL7, hB7, hN7⟩
    case round =>
     clear hO7 hL7 hB7 hN7
     obtain ⟨q, A, c, hq, rfl, rfl, ho, hL, hB, hN⟩ := hrel
     have hsl : (L1 ++ immL i.m q).length ≤ 6 := by rw [List.length_append]; have := immL_len i.m q; omega
     have q4 := hL.gm
     obtain rfl := hq
     ·have HO := z_ ho
      have HXe := z_ (show L1 ++ immL i.m 0 = X from by rw [HX.out, ← HM.out])
      rw [HXe.out] at HO ⊢
      clear ho
      go_wp2_with fail
      go_ret2
      exact ⟨⟨A, c, rfl, HO.out.mono (Nat.le_of_lt hltN)⟩, hB⟩
   ·subst hk0
    go_wp2_with fail
    go_loopw [7, 58] (fun v j wr => ∃ (q : Int) (A : Option Addr) (c : Nat), (q = 0 ∨ q = 1) ∧ j = .int .i64 q ∧ v = .slice A (L1 ++ immL i.m q).length c ∧ OB wr N A c (L1 ++ immL i.m q) ∧ InW wr w.heap.size i ∧ Below w.heap.size w wr ∧ N ≤ wr.heap.size) (fun _ j _ => 1 - (intOf j).toNat)
    case atStart => exact ⟨0, A7, c7, by simp, rfl, by simp [immL], by simpa [immL] using hO7, hL7, hB7, hN7⟩
    case round =>
     clear hO7 hL7 hB7 hN7
     obtain ⟨q, A, c, hq, rfl, rfl, ho, hL, hB, hN⟩ := hrel
     have hsl : (L1 ++ immL i.m q).length ≤ 6 := by rw [List.length_append]; have := immL_len i.m q; omega
     have q4 := hL.gm
     obtain rfl | rfl := hq
     ·have hS := z_ (show L1 ++ immL i.m 0 ++ [i.m % 256] = L1 ++ immL i.m 1 from by simp [immL])
      have h8 : IntKind.u8.wrap i.m = i.m % 256 := wrap_u8 _
      obtain ⟨K, hK⟩ : ∃ K, L1 ++ immL i.m 0 = K := ⟨_, rfl⟩
      rw [hK] at ho hsl hS ⊢
      clear hK
      have HO := z_ ho
      have HLr := z_ hL
      have HBr := z_ hB
      clear ho hL hB
      go_wp2_with (at_builtin; refine wpList_append_rb _ rfl _ _ rfl N _ A _ c K rfl rfl (HO.out.alloc _) _ _ _ [i.m % 256] rfl rfl (RB.lit1 _ _ (by omega) (by omega)) (by simp; omega) (by simp; omega) ?_; intro A' c' w8 hob hbel hne)
      have hbg : Below N wr w8 := ((Below.refl N wr).alloc hN _).trans hbel
      go_roundw
      case rel => exact ⟨1, A', c', by simp, by go_num, (by rw [← hS.out, List.length_append]; rfl), by rw [← hS.out]; exact hob, HLr.out.below hbg hltN, HBr.out.trans (hbg.mono (Nat.le_of_lt hltN)), Nat.le_trans hN hbg.size⟩
      case measure => simp [intOf]
     ·have HO := z_ ho
      have HXe := z_ (show L1 ++ immL i.m 1 = X from by rw [HX.out, ← HM.out])
      rw [HXe.out] at HO ⊢
      clear ho
      go_wp2_with fail
      go_ret2
      exact ⟨⟨A, c, rfl, HO.out.mono (Nat.le_of_lt hltN)⟩, hB⟩
   ·subst hk0
    go_wp2_with fail
    go_loopw [7, 58] (fun v j wr => ∃ (q : Int) (A : Option Addr) (c : Nat), (q = 0 ∨ q = 1 ∨ q = 2) ∧ j = .int .i64 q ∧ v = .slice A (L1 ++ immL i.m q).length c ∧ OB wr N A c (L1 ++ immL i.m q) ∧ InW wr w.heap.size i ∧ Below w.heap.size w wr ∧ N ≤ wr.heap.size) (fun _ j _ => 2 - (intOf j).toNat)
    case atStart => exact ⟨0, A7, c7, by simp, rfl, by simp [immL], by simpa [immL] using hO7, hL7, hB7, hN7⟩
    case round =>
     clear hO7 hL7 hB7 hN7
     obtain ⟨q, A, c, hq, rfl, rfl, ho, hL, hB, hN⟩ := hrel
     have hsl : (L1 ++ immL i.m q).length ≤ 6 := by rw [List.length_append]; have := immL_len i.m q; omega
     have q4 := hL.gm
     obtain rfl | rfl | rfl := hq
     ·have hS := z_ (show L1 ++ immL i.m 0 ++ [i.m % 256] = L1 ++ immL i.m 1 from by simp [immL])
      have h8 : IntKind.u8.wrap i.m = i.m % 256 := wrap_u8 _
      obtain ⟨K, hK⟩ : ∃ K, L1 ++ immL i.m 0 = K := ⟨_, rfl⟩
      rw [hK] at ho hsl hS ⊢
      clear hK
      have HO := z_ ho
      have HLr := z_ hL
      have HBr := z_ hB
      clear ho hL hB
      go_wp2_with (at_builtin; refine wpList_append_rb _ rfl _ _ rfl N _ A _ c K rfl rfl (HO.out.alloc _) _ _ _ [i.m % 256] rfl rfl (RB.lit1 _ _ (by omega) (by omega)) (by simp; omega) (by simp; omega) ?_; intro A' c' w8 hob hbel hne)
      have hbg : Below N wr w8 := ((Below.refl N wr).alloc hN _).trans hbel
      go_roundw
      case rel => exact ⟨1, A', c', by simp, by go_num, (by rw [← hS.out, List.length_append]; rfl), by rw [← hS.out]; exact hob, HLr.out.below hbg hltN, HBr.out.trans (hbg.mono (Nat.le_of_lt hltN)), Nat.le_trans hN hbg.size⟩
      case measure => simp [intOf]
     ·have hS := z_ (show L1 ++ immL i.m 1 ++ [i.m / 256 % 256] = L1 ++ immL i.m 2 from by simp [immL])
      have h8 : IntKind.u8.wrap (i.m / 256) = i.m / 256 % 256 := wrap_u8 _
      obtain ⟨K, hK⟩ : ∃ K, L1 ++ immL i.m 1 = K := ⟨_, rfl⟩
      rw [hK] at ho hsl hS ⊢
      clear hK
      have HO := z_ ho
      have HLr := z_ hL
      have HBr := z_ hB
      clear ho hL hB
      go_wp2_with (at_builtin; refine wpList_append_rb _ rfl _ _ rfl N _ A _ c K rfl rfl (HO.out.alloc _) _ _ _ [i.m / 256 % 256] rfl rfl (RB.lit1 _ _ (by omega) (by omega)) (by simp; omega) (by simp; omega) ?_; intro A' c' w8 hob hbel hne)
      have hbg : Below N wr w8 := ((Below.refl N wr).alloc hN _).trans hbel
      go_roundw
      case rel => exact ⟨2, A', c', by simp, by go_num, (by rw [← hS.out, List.length_append]; rfl), by rw [← hS.out]; exact hob, HLr.out.below hbg hltN, HBr.out.trans (hbg.mono (Nat.le_of_lt hltN)), Nat.le_trans hN hbg.size⟩
      case measure => simp [intOf]
     ·have HO := z_ ho
      have HXe := z_ (show L1 ++ immL i.m 2 = X from by rw [HX.out, ← HM.out])
      rw [HXe.out] at HO ⊢
      clear ho
      go_wp2_with fail
      go_ret2
      exact ⟨⟨A, c, rfl, HO.out.mono (Nat.le_of_lt hltN)⟩, hB⟩
  | false =>
   rw [if_neg (by decide)] at hM
   have HM := z_ (show L0 ++ M0 = L0 ++ [i.o] from by rw [hM])
   obtain ⟨L1, hL1⟩ : ∃ L, L0 ++ [i.o] = L := ⟨_, rfl⟩
   rw [hL1] at HM
   have hl1 : L1.length ≤ 4 := by rw [← hL1]; simp; omega
   have H1 := z_ hL1
   clear hL1 hM hlm
   go_upto_region 12 with (at_builtin; refine wpList_append_rb _ rfl _ _ rfl N _ A4 _ c4 L0 rfl rfl (HO.out.alloc _) _ _ _ [i.o] rfl rfl (RB.lit1 _ _ ho0 ho1) (by simp; omega) (by simp; omega) ?_; intro A7 c7 w7 hO7' hbel7 hne; rw [H1.out])
   have hO7 : OB w7 N A7 c7 L1 := by rw [← H1.out]; exact hO7'
   have hb7 : Below N wc w7 := ((Below.refl N wc).alloc hN6 (.cells #[.int .u8 (i.o)] 5)).trans hbel7
   clear hbel7
   have hL7 := HL6.out.below hb7 hltN
   have hB7 := HB6.out.trans (hb7.mono (Nat.le_of_lt hltN))
   have hN7 : N ≤ w7.heap.size := Nat.le_trans hN6 hb7.size
   clear HL6 HB6 HO hb7 q0 q2 q3 hO7' hne
   obtain hk0 | hk0 | hk0 : kk = 0 ∨ kk = 1 ∨ kk = 2 := by omega
   ·subst hk0
    go_wp2_with fail
    go_loopw [7, 58] (fun v j wr => ∃ (q : Int) (A : Option Addr) (c : Nat), (q = 0) ∧ j = .int .i64 q ∧ v = .slice A (L1 ++ immL i.m q).length c ∧ OB wr N A c (L1 ++ immL i.m q) ∧ InW wr w.heap.size i ∧ Below w.heap.size w wr ∧ N ≤ wr.heap.size) (fun _ j _ => 0 - (intOf j).toNat)
    case atStart => exact ⟨0, A7, c7, by simp, rfl, by simp [immL], by simpa [immL] using hO7, hL7, hB7, hN7⟩
    case round =>
     clear hO7 hL7 hB7 hN7
     obtain ⟨q, A, c, hq, rfl, rfl, ho, hL, hB, hN⟩ := hrel
     have hsl : (L1 ++ immL i.m q).length ≤ 6 := by rw [List.length_append]; have := immL_len i.m q; omega
     have q4 := hL.gm
     obtain rfl := hq
     ·have HO := z_ ho
      have HXe := z_ (show L1 ++ immL i.m 0 = X from by rw [HX.out, ← HM.out])
      rw [HXe.out] at HO ⊢
      clear ho
      go_wp2_with fail
      go_ret2
      exact ⟨⟨A, c, rfl, HO.out.mono (Nat.le_of_lt hltN)⟩, hB⟩
   ·subst hk0
    go_wp2_with fail
    go_loopw [7, 58] (fun v j wr => ∃ (q : Int) (A : Option Addr) (c : Nat), (q = 0 ∨ q = 1) ∧ j = .int .i64 q ∧ v = .slice A (L1 ++ immL i.m q).length c ∧ OB wr N A c (L1 ++ immL i.m q) ∧ InW wr w.heap.size i ∧ Below w.heap.size w wr ∧ N ≤ wr.heap.size) (fun _ j _ => 1 - (intOf j).toNat)
    case atStart => exact ⟨0, A7, c7, by simp, rfl, by simp [immL], by simpa [immL] using hO7, hL7, hB7, hN7⟩
    case round =>
     clear hO7 hL7 hB7 hN7
     obtain ⟨q, A, c, hq, rfl, rfl, ho, hL, hB, hN⟩ := hrel
     have hsl : (L1 ++ immL i.m q).length ≤ 6 := by rw [List.length_append]; have := immL_len i.m q; omega
     have q4 := hL.gm
     obtain rfl | rfl := hq
     ·have hS := z_ (show L1 ++ immL i.m 0 ++ [i.m % 256] = L1 ++ immL i.m 1 from by simp [immL])
      have h8 : IntKind.u8.wrap i.m = i.m % 256 := wrap_u8 _
      obtain ⟨K, hK⟩ : ∃ K, L1 ++ immL i.m 0 = K := ⟨_, rfl⟩
      rw [hK] at ho hsl hS ⊢
      clear hK
      have HO := z_ ho
      have HLr := z_ hL
      have HBr := z_ hB
      clear ho hL hB
      go_wp2_with (at_builtin; refine wpList_append_rb _ rfl _ _ rfl N _ A _ c K rfl rfl (HO.out.alloc _) _ _ _ [i.m % 256] rfl rfl (RB.lit1 _ _ (by omega) (by omega)) (by simp; omega) (by simp; omega) ?_; intro A' c' w8 hob hbel hne)
      have hbg : Below N wr w8 := ((Below.refl N wr).alloc hN _).trans hbel
      go_roundw
      case rel => exact ⟨1, A', c', by simp, by go_num, (by rw [← hS.out, List.length_append]; rfl), by rw [← hS.out]; exact hob, HLr.out.below hbg hltN, HBr.out.trans (hbg.mono (Nat.le_of_lt hltN)), Nat.le_trans hN hbg.size⟩
      case measure => simp [intOf]
     ·have HO := z_ ho
      have HXe := z_ (show L1 ++ immL i.m 1 = X from by rw [HX.out, ← HM.out])
      rw [HXe.out] at HO ⊢
      clear ho
      go_wp2_with fail
      go_ret2
      exact ⟨⟨A, c, rfl, HO.out.mono (Nat.le_of_lt hltN)⟩, hB⟩
   ·subst hk0
    go_wp2_with fail
    go_loopw [7, 58] (fun v j wr => ∃ (q : Int) (A : Option Addr) (c : Nat), (q = 0 ∨ q = 1 ∨ q = 2) ∧ j = .int .i64 q ∧ v = .slice A (L1 ++ immL i.m q).length c ∧ OB wr N A c (L1 ++ immL i.m q) ∧ InW wr w.heap.size i ∧ Below w.heap.size w wr ∧ N ≤ wr.heap.size) (fun _ j _ => 2 - (intOf j).toNat)
    case atStart => exact ⟨0, A7, c7, by simp, rfl, by simp [immL], by simpa [immL] using hO7, hL7, hB7, hN7⟩
    case round =>
     clear hO7 hL7 hB7 hN7
     obtain ⟨q, A, c, hq, rfl, rfl, ho, hL, hB, hN⟩ := hrel
     have hsl : (L1 ++ immL i.m q).length ≤ 6 := by rw [List.length_append]; have := immL_len i.m q; omega
     have q4 := hL.gm
     obtain rfl | rfl | rfl := hq
     ·have hS := z_ (show L1 ++ immL i.m 0 ++ [i.m % 256] = L1 ++ immL i.m 1 from by simp [immL])
      have h8 : IntKind.u8.wrap i.m = i.m % 256 := wrap_u8 _
      obtain ⟨K, hK⟩ : ∃ K, L1 ++ immL i.m 0 = K := ⟨_, rfl⟩
      rw [hK] at ho hsl hS ⊢
      clear hK
      have HO := z_ ho
      have HLr := z_ hL
      have HBr := z_ hB
      clear ho hL hB
      go_wp2_with (at_builtin; refine wpList_append_rb _ rfl _ _ rfl N _ A _ c K rfl rfl (HO.out.alloc _) _ _ _ [i.m % 256] rfl rfl (RB.lit1 _ _ (by omega) (by omega)) (by simp; omega) (by simp; omega) ?_; intro A' c' w8 hob hbel hne)
      have hbg : Below N wr w8 := ((Below.refl N wr).alloc hN _).trans hbel
      go_roundw
      case rel => exact ⟨1, A', c', by simp, by go_num, (by rw [← hS.out, List.length_append]; rfl), by rw [← hS.out]; exact hob, HLr.out.below hbg hltN, HBr.out.trans (hbg.mono (Nat.le_of_lt hltN)), Nat.le_trans hN hbg.size⟩
      case measure => simp [intOf]
     ·have hS := z_ (show L1 ++ immL i.m 1 ++ [i.m / 256 % 256] = L1 ++ immL i.m 2 from by simp [immL])
      have h8 : IntKind.u8.wrap (i.m / 256) = i.m / 256 % 256 := wrap_u8 _
      obtain ⟨K, hK⟩ : ∃ K, L1 ++ immL i.m 1 = K := ⟨_, rfl⟩
      rw [hK] at ho hsl hS ⊢
      clear hK
      have HO := z_ ho
      have HLr := z_ hL
      have HBr := z_ hB
      clear ho hL hB
      go_wp2_with (at_builtin; refine wpList_append_rb _ rfl _ _ rfl N _ A _ c K rfl rfl (HO.out.alloc _) _ _ _ [i.m / 256 % 256] rfl rfl (RB.lit1 _ _ (by omega) (by omega)) (by simp; omega) (by simp; omega) ?_; intro A' c' w8 hob hbel hne)
      have hbg : Below N wr w8 := ((Below.refl N wr).alloc hN _).trans hbel
      go_roundw
      case rel => exact ⟨2, A', c', by simp, by go_num, (by rw [← hS.out, List.length_append]; rfl), by rw [← hS.out]; exact hob, HLr.out.below hbg hltN, HBr.out.trans (hbg.mono (Nat.le_of_lt hltN)), Nat.le_trans hN hbg.size⟩
      case measure => simp [intOf]
     ·have HO := z_ ho
      have HXe := z_ (show L1 ++ immL i.m 2 = X from by rw [HX.out, ← HM.out])
      rw [HXe.out] at HO ⊢
      clear ho
      go_wp2_with fail
      go_ret2
      exact ⟨⟨A, c, rfl, HO.out.mono (Nat.le_of_lt hltN)⟩, hB⟩
end Go.Proofs.YtgaihekapakoeaaGreatDoor
namespace Go.Proofs.YtgaihekapakoeaaGreatDoor
open Go.RowKit


theorem rel_one {s x o : Int} (h : jumpI s o = true) : needN s x o ≤ 1 := by
 unfold jumpI at h
 simp only [Bool.and_eq_true, beq_iff_eq] at h
 obtain ⟨h1, rfl⟩ := h
 unfold needN
 split
 ·rw [if_pos rfl]
  unfold relI at h1
  simp only [Bool.or_eq_true, beq_iff_eq] at h1
  rcases h1 with rfl | rfl | rfl | rfl | rfl | rfl <;> decide
 ·omega
theorem i8_mod (a : Int) (h0 : 0 ≤ a) (h1 : a < 256) : IntKind.i8.wrap a % 256 = a := by rw [sgn_eq a h0 h1]; unfold sgn; split <;> omega
theorem i8_in (a : Int) (h0 : 0 ≤ a) (h1 : a < 256) : -128 ≤ IntKind.i8.wrap a ∧ IntKind.i8.wrap a ≤ 127 := by rw [sgn_eq a h0 h1]; exact sgn_in a h0 h1
theorem i8_back (d : Int) (h0 : -128 ≤ d) (h1 : d ≤ 127) : IntKind.i8.wrap (d % 256) = d := by
 rw [sgn_eq _ (by omega) (by omega)]; unfold sgn; split <;> omega

theorem immL_number (q : List Int) (k : Int) (sg : Bool) (hq : AllB q) (hl : (q.length : Int) = k) (hk : k ≤ 2) (hs : sg = true → k ≤ 1) : immL (number9 q sg) k = q := by
 match q, hq, hl with
 | [], _, hl =>
  have : k = 0 := by simpa using hl.symm
  subst this
  rfl
 | [a], hq, hl =>
  have : k = 1 := by simpa using hl.symm
  subst this
  obtain ⟨a0, a1⟩ := hq a (by simp)
  unfold immL number9 numL9
  cases sg
  ·simp; omega
  ·simp [i8_mod a a0 a1]
 | [a, b], hq, hl =>
  have : k = 2 := by simpa using hl.symm
  subst this
  obtain ⟨a0, a1⟩ := hq a (by simp)
  obtain ⟨b0, b1⟩ := hq b (by simp)
  have : sg = false := by cases sg; rfl; exact absurd (hs rfl) (by decide)
  subst this
  unfold immL number9 numL9
  simp
  omega
 | _ :: _ :: _ :: _, _, hl => simp at hl; omega
theorem number_fits (q : List Int) (k : Int) (sg : Bool) (hq : AllB q) (hl : (q.length : Int) = k) (hk : k ≤ 2) : fitsI (number9 q sg) k sg = true := by
 match q, hq, hl with
 | [], _, hl =>
  have : k = 0 := by simpa using hl.symm
  subst this
  cases sg <;> rfl
 | [a], hq, hl =>
  have : k = 1 := by simpa using hl.symm
  subst this
  obtain ⟨a0, a1⟩ := hq a (by simp)
  have h8 := i8_in a a0 a1
  unfold fitsI number9 numL9
  cases sg <;> simp <;> omega
 | [a, b], hq, hl =>
  have : k = 2 := by simpa using hl.symm
  subst this
  obtain ⟨a0, a1⟩ := hq a (by simp)
  obtain ⟨b0, b1⟩ := hq b (by simp)
  unfold fitsI number9 numL9
  cases sg
  ·simp; omega
  ·have h8 : -128 ≤ IntKind.i8.wrap (a + 256 * b) ∧ IntKind.i8.wrap (a + 256 * b) < 128 := by
    simp only [IntKind.wrap, IntKind.bits, IntKind.signed, Bool.true_and, decide_eq_true_eq, Nat.reduceSub, Int.reducePow, ge_iff_le]
    split <;> omega
   simp; omega
 | _ :: _ :: _ :: _, _, hl => simp at hl; omega
theorem number_imm (m k : Int) (sg : Bool) (h : fitsI m k sg = true) (hk : k = 0 ∨ k = 1 ∨ k = 2) (hs : sg = true → k ≤ 1) : number9 (immL m k) sg = m := by
 unfold fitsI at h
 rcases hk with rfl | rfl | rfl
 ·simp at h; subst h; cases sg <;> rfl
 ·unfold immL number9 numL9
  cases sg
  ·simp at h ⊢; omega
  ·simp at h ⊢; exact i8_back m h.1 h.2
 ·have : sg = false := by cases sg; rfl; exact absurd (hs rfl) (by decide)
  subst this
  unfold immL number9 numL9
  simp at h ⊢; omega

theorem immL_length (m k : Int) (hk : k = 0 ∨ k = 1 ∨ k = 2) : ((immL m k).length : Int) = k := by
 rcases hk with rfl | rfl | rfl <;> rfl
theorem immL_all (m k : Int) : AllB (immL m k) := by
 unfold immL
 split
 ·exact AllB.nil
 ·split
  ·exact AllB.one (by omega) (by omega)
  ·exact AllB.cons (by omega) (by omega) (AllB.one (by omega) (by omega))

def asmI (s x o d0 : Int) (q : List Int) : In := ⟨s, x, o, if needD s x o = true then IntKind.i8.wrap d0 else 0, number9 q (jumpI s o), lenI s x o⟩
theorem asm_may (s x o d0 : Int) (q : List Int) (h1 : isOneI s x o = true) (e0 : 0 ≤ d0) (e1 : d0 < 256) (hq : AllB q) (hl : (q.length : Int) = needN s x o) : (asmI s x o d0 q).may = true := by
 unfold In.may In.ops
 have hn := needN_in s x o
 have h2 := number_fits q _ (jumpI s o) hq hl hn.2
 have h3 : fitsI (asmI s x o d0 q).d (num1 (needD s x o)) true = true := by
  unfold asmI
  cases needD s x o
  ·rfl
  ·have h8 := i8_in d0 e0 e1
   unfold fitsI num1
   simp; omega
 have h4 : (asmI s x o d0 q).n = (asmI s x o d0 q).len := rfl
 simp only [Bool.and_eq_true, beq_iff_eq]
 exact ⟨h1, h4, h3, h2⟩
theorem asm_bytes (s x o d0 : Int) (q : List Int) (h1 : isOneI s x o = true) (e0 : 0 ≤ d0) (e1 : d0 < 256) (hq : AllB q) (hl : (q.length : Int) = needN s x o) : bytesI (asmI s x o d0 q) = preB x ++ setB s ++ (if s = 3 then [d0, o] else if needD s x o = true then [o, d0] else [o]) ++ q := by
 have hn := needN_in s x o
 have h2 := immL_number q _ (jumpI s o) hq hl hn.2 (fun h => rel_one h)
 have h3 : s = 3 → needD s x o = true := by
  rintro rfl
  unfold needD
  rw [h1]; rfl
 unfold bytesI aheadB midB
 show preB x ++ setB s ++ (if s = 3 then [(asmI s x o d0 q).d % 256, o] else if needD s x o = true then [o, (asmI s x o d0 q).d % 256] else [o]) ++ immL (number9 q (jumpI s o)) (needN s x o) = _
 rw [h2]
 have h4 : needD s x o = true → (asmI s x o d0 q).d % 256 = d0 := by
  intro h
  show (if needD s x o = true then IntKind.i8.wrap d0 else 0) % 256 = d0
  rw [if_pos h]; exact i8_mod d0 e0 e1
 by_cases hs : s = 3
 ·rw [if_pos hs, if_pos hs, h4 (h3 hs)]
 ·rw [if_neg hs, if_neg hs]
  by_cases hd : needD s x o = true
  ·rw [if_pos hd, if_pos hd, h4 hd]
  ·rw [if_neg hd, if_neg hd]
end Go.Proofs.YtgaihekapakoeaaGreatDoor
namespace Go.Proofs.YtgaihekapakoeaaGreatDoor
open Go.RowKit


theorem nd0 (o : Int) : needD 0 0 o = false := by unfold needD; simp
theorem nd1 (o : Int) : needD 1 0 o = false := by unfold needD; simp
theorem nd2 (o : Int) : needD 2 0 o = false := by unfold needD; simp
theorem nn1 (o : Int) : needN 1 0 o = 0 := by unfold needN; simp
theorem nn3 (x o : Int) : needN 3 x o = 0 := by unfold needN; simp
theorem isB {o : Int} (h0 : 0 ≤ o) (h1 : o < 256) : isByteI o = true := by unfold isByteI; simp; omega
theorem nd3 {x o : Int} (hx : x = 1 ∨ x = 2) (h0 : 0 ≤ o) (h1 : o < 256) : isOneI 3 x o = true ∧ needD 3 x o = true := by
 have h : isOneI 3 x o = true := by unfold isOneI; rw [isB h0 h1]; rcases hx with rfl | rfl <;> rfl
 exact ⟨h, by unfold needD; rw [h]; rfl⟩
theorem one_x0 {s x o : Int} (hs : s = 1 ∨ s = 2) (h : isOneI s x o = true) : x = 0 := by
 unfold isOneI at h
 rcases hs with rfl | rfl <;> simp at h <;> exact h.2
theorem hl_imm (o : Int) (h0 : 0 ≤ o) (h1 : o < 256) : hlI o = true → immM o ≤ 1 := byte_all (P := fun o => hlI o = true → immM o ≤ 1) (by decide +kernel) o h0 h1
theorem lenI_four {s x o : Int} (h : isOneI s x o = true) : lenI s x o ≤ 4 := by
 obtain ⟨hs, hx, h0, h1⟩ := one_cases h
 have hn := needN_in s x o
 have hx1 := num1_in (x != 0)
 unfold lenI
 rcases hs with rfl | rfl | rfl | rfl
 ·have hd := num1_in (needD 0 x o)
  have : num1 ((0 : Int) != 0) = 0 := rfl
  by_cases hD : needD 0 x o = true
  ·have hk : needN 0 x o ≤ 1 := by
    have hh := hD
    unfold needD at hh
    rw [if_pos rfl] at hh
    simp only [Bool.and_eq_true] at hh
    unfold needN
    rw [if_pos h, if_pos rfl]
    exact hl_imm o h0 h1 hh.2.2
   omega
  ·have : needD 0 x o = false := by simpa using hD
   rw [this]
   have : num1 false = 0 := rfl
   omega
 ·obtain rfl := one_x0 (.inl rfl) h
  rw [nd1, nn1]; decide
 ·obtain rfl := one_x0 (.inr rfl) h
  rw [nd2]
  have h1 : num1 false = 0 := rfl
  have h2 : num1 ((0 : Int) != 0) = 0 := rfl
  have h3 : num1 ((2 : Int) != 0) = 1 := rfl
  omega
 ·rw [nn3]
  have hd := num1_in (needD 3 x o)
  have h3 : num1 ((3 : Int) != 0) = 1 := rfl
  omega

theorem ops_asm (s x o d0 : Int) (q lt : List Int) (hd : needD s x o = true → lt.getD 2 0 = d0) (hq : lt.drop (lt.length - (needN s x o).toNat) = q) : opsI ⟨s, x, o, 0, 0, lenI s x o⟩ lt = asmI s x o d0 q := by
 unfold opsI asmI
 simp only [hq]
 by_cases h : needD s x o = true
 ·rw [if_pos h, if_pos h, hd h]
 ·rw [if_neg h, if_neg h]
theorem of_eq {l : List Int} {s x o : Int} {p : Nat} (hh : headL (l.getD 0 0) (l.getD 1 0) = ⟨s, x, p⟩) (hp : p < l.length) (ho : l.getD p 0 = o) (hn : lenI s x o ≤ l.length) : ofI l = some (opsI ⟨s, x, o, 0, 0, lenI s x o⟩ (l.take (lenI s x o).toNat)) := by
 have h0 : of0 l = ⟨s, x, o, 0, 0, 0⟩ := by unfold of0; rw [hh]; simp only [ho]
 unfold ofI
 rw [h0, hh]
 rw [if_neg (by simp only; omega), if_neg (show ¬ (l.length : Int) < (⟨s, x, o, 0, 0, 0⟩ : In).len from by show ¬ (l.length : Int) < lenI s x o; omega)]
 rfl
structure Got (l : List Int) (y : In) : Prop where
 may : y.may = true
 bytes : bytesI y = l.take y.n.toNat
 len : y.n.toNat ≤ l.length
 low : 1 ≤ y.n
 high : y.n ≤ 4
 d : -128 ≤ y.d ∧ y.d ≤ 127
 m : -65536 ≤ y.m ∧ y.m ≤ 65535
 cases : (y.s = 0 ∨ y.s = 1 ∨ y.s = 2 ∨ y.s = 3) ∧ (y.x = 0 ∨ y.x = 1 ∨ y.x = 2) ∧ 0 ≤ y.o ∧ y.o < 256
theorem got_asm {l : List Int} (s x o d0 : Int) (q : List Int) (h1 : isOneI s x o = true) (e0 : 0 ≤ d0) (e1 : d0 < 256) (hq : AllB q) (hl : (q.length : Int) = needN s x o)
  (hn : lenI s x o ≤ l.length) (ht : l.take (lenI s x o).toNat = preB x ++ setB s ++ (if s = 3 then [d0, o] else if needD s x o = true then [o, d0] else [o]) ++ q) : Got l (asmI s x o d0 q) := by
 have hm := asm_may s x o d0 q h1 e0 e1 hq hl
 have hlen := lenI_in s x o
 refine ⟨hm, (asm_bytes s x o d0 q h1 e0 e1 hq hl).trans ht.symm, ?_, hlen.2.1, lenI_four h1, ?_, ?_, one_cases h1⟩
 ·show (lenI s x o).toNat ≤ l.length; omega
 ·show -128 ≤ (if needD s x o = true then IntKind.i8.wrap d0 else 0) ∧ (if needD s x o = true then IntKind.i8.wrap d0 else 0) ≤ 127
  have := i8_in d0 e0 e1
  split <;> omega
 ·have h2 := (may_one hm).2.2
  unfold In.ops at h2
  simp only [Bool.and_eq_true] at h2
  have h3 := h2.2
  have hk := needN_in s x o
  unfold fitsI at h3
  have : (asmI s x o d0 q).s = s ∧ (asmI s x o d0 q).x = x ∧ (asmI s x o d0 q).o = o := ⟨rfl, rfl, rfl⟩
  generalize (asmI s x o d0 q).m = m at *
  split at h3
  ·simp at h3; omega
  ·split at h3
   ·split at h3 <;> simp at h3 <;> omega
   ·split at h3 <;> simp at h3 <;> omega

theorem two_of {l : List Int} (h : 2 ≤ l.length) : ∃ r, l = l.getD 0 0 :: l.getD 1 0 :: r := by
 match l, h with
 | a :: b :: r, _ => exact ⟨r, rfl⟩
theorem four_of {l : List Int} (h : 4 ≤ l.length) : ∃ d0 r, l = l.getD 0 0 :: l.getD 1 0 :: d0 :: l.getD 3 0 :: r := by
 match l, h with
 | a :: b :: c :: d :: r, _ => exact ⟨c, r, rfl⟩
theorem idx_cases {a : Int} (h : ¬ idxB a = 0) : (a = 221 ∧ idxB a = 1) ∨ (a = 253 ∧ idxB a = 2) := by
 unfold idxB at h ⊢
 split at h
 ·rename_i h1; subst h1; exact .inl ⟨rfl, rfl⟩
 ·split at h
  ·rename_i h1; subst h1; exact .inr ⟨rfl, rfl⟩
  ·exact absurd rfl h

theorem of_got {l : List Int} (hb : AllB l) {y : In} (h : ofI l = some y) : Got l y := by
 obtain ⟨a0, a1⟩ := hb.getD 0
 obtain ⟨b0, b1⟩ := hb.getD 1
 have hu : ofI l = if l.length ≤ (headL (l.getD 0 0) (l.getD 1 0)).at_ then none else if (l.length : Int) < (of0 l).len then none else some (opsI { of0 l with n := (of0 l).len } (l.take (of0 l).len.toNat)) := rfl
 rw [h] at hu
 have h0 : of0 l = ⟨(headL (l.getD 0 0) (l.getD 1 0)).s, (headL (l.getD 0 0) (l.getD 1 0)).x, l.getD (headL (l.getD 0 0) (l.getD 1 0)).at_ 0, 0, 0, 0⟩ := rfl
 by_cases c1 : l.getD 0 0 = 203
 ·have hh : headL (l.getD 0 0) (l.getD 1 0) = ⟨1, 0, 1⟩ := by unfold headL; rw [if_pos c1]
  rw [h0, hh] at hu
  simp only at hu
  by_cases c2 : l.length ≤ 1
  ·rw [if_pos c2] at hu; cases hu
  ·rw [if_neg c2] at hu
   obtain ⟨r, hr⟩ := two_of (l := l) (by omega)
   rw [c1] at hr
   generalize l.getD 1 0 = o at *
   have hL : lenI 1 0 o = 2 := by unfold lenI; rw [nd1, nn1]; rfl
   have e : (⟨1, 0, o, 0, 0, 0⟩ : In).len = lenI 1 0 o := rfl
   rw [e, hL] at hu
   rw [if_neg (by omega)] at hu
   have hI : isOneI 1 0 o = true := by unfold isOneI; rw [isB b0 b1]; rfl
   have hy : y = asmI 1 0 o 0 [] := by
    rw [← ops_asm 1 0 o 0 [] (l.take 2) (by rw [nd1]; intro h; cases h) (by rw [nn1]; simp), hL]
    exact Option.some.inj hu
   rw [hy]
   exact got_asm 1 0 o 0 [] hI (by decide) (by decide) AllB.nil (by rw [nn1]; rfl) (by omega) (by rw [hL, hr, nd1]; rfl)
 ·by_cases c3 : l.getD 0 0 = 237
  ·have hh : headL (l.getD 0 0) (l.getD 1 0) = ⟨2, 0, 1⟩ := by unfold headL; rw [if_neg c1, if_pos c3]
   rw [h0, hh] at hu
   simp only at hu
   by_cases c2 : l.length ≤ 1
   ·rw [if_pos c2] at hu; cases hu
   ·rw [if_neg c2] at hu
    obtain ⟨r, hr⟩ := two_of (l := l) (by omega)
    rw [c3] at hr
    generalize l.getD 1 0 = o at *
    obtain ⟨k, hk⟩ : ∃ k : Nat, needN 2 0 o = k := ⟨(needN 2 0 o).toNat, by have := needN_in 2 0 o; omega⟩
    have hL : lenI 2 0 o = ((2 + k : Nat) : Int) := by unfold lenI; rw [nd2, hk]; simp [num1]; omega
    have e : (⟨2, 0, o, 0, 0, 0⟩ : In).len = lenI 2 0 o := rfl
    rw [e, hL] at hu
    by_cases c4 : (l.length : Int) < ((2 + k : Nat) : Int)
    ·rw [if_pos c4] at hu; cases hu
    ·rw [if_neg c4, Int.toNat_natCast] at hu
     have hI : isOneI 2 0 o = true := by unfold isOneI; rw [isB b0 b1]; rfl
     have hrl : k ≤ r.length := by rw [hr] at c4; simp at c4; omega
     have ht : l.take (2 + k) = 237 :: o :: r.take k := by rw [hr, Nat.add_comm]; rfl
     have hq : AllB (r.take k) := by
      have : AllB r := fun n hn => hb n (by rw [hr]; simp [hn])
      exact this.take k
     have hql : (r.take k).length = k := by rw [List.length_take]; omega
     have hy : y = asmI 2 0 o 0 (r.take k) := by
      rw [← ops_asm 2 0 o 0 (r.take k) (l.take (2 + k)) (by rw [nd2]; intro h; cases h) (by rw [hk, ht, Int.toNat_natCast]; simp only [List.length_cons, hql]; rw [show k + 1 + 1 - k = 2 by omega]; rfl), hL]
      exact Option.some.inj hu
     rw [hy]
     exact got_asm 2 0 o 0 (r.take k) hI (by decide) (by decide) hq (by rw [hk, hql]) (by omega) (by rw [hL, Int.toNat_natCast, ht, nd2]; rfl)
  ·by_cases c5 : idxB (l.getD 0 0) = 0 ∨ loneB (l.getD 1 0) = true
   ·have hh : headL (l.getD 0 0) (l.getD 1 0) = ⟨0, 0, 0⟩ := by unfold headL; rw [if_neg c1, if_neg c3, if_pos c5]
    rw [h0, hh] at hu
    simp only at hu
    by_cases c2 : l.length ≤ 0
    ·rw [if_pos c2] at hu; cases hu
    ·rw [if_neg c2] at hu
     obtain ⟨r, hr⟩ : ∃ r, l = l.getD 0 0 :: r := by
      match l, c2 with
      | a :: r, _ => exact ⟨r, rfl⟩
     generalize l.getD 0 0 = o at *
     obtain ⟨k, hk⟩ : ∃ k : Nat, needN 0 0 o = k := ⟨(needN 0 0 o).toNat, by have := needN_in 0 0 o; omega⟩
     have hL : lenI 0 0 o = ((1 + k : Nat) : Int) := by unfold lenI; rw [nd0, hk]; simp [num1]
     have e : (⟨0, 0, o, 0, 0, 0⟩ : In).len = lenI 0 0 o := rfl
     rw [e, hL] at hu
     by_cases c4 : (l.length : Int) < ((1 + k : Nat) : Int)
     ·rw [if_pos c4] at hu; cases hu
     ·rw [if_neg c4, Int.toNat_natCast] at hu
      have hI : isOneI 0 0 o = true := by unfold isOneI; rw [isB a0 a1]; simp [c1, c3]
      have hrl : k ≤ r.length := by rw [hr] at c4; simp at c4; omega
      have ht : l.take (1 + k) = o :: r.take k := by rw [hr, Nat.add_comm]; rfl
      have hq : AllB (r.take k) := by
       have : AllB r := fun n hn => hb n (by rw [hr]; simp [hn])
       exact this.take k
      have hql : (r.take k).length = k := by rw [List.length_take]; omega
      have hy : y = asmI 0 0 o 0 (r.take k) := by
       rw [← ops_asm 0 0 o 0 (r.take k) (l.take (1 + k)) (by rw [nd0]; intro h; cases h) (by rw [hk, ht, Int.toNat_natCast]; simp only [List.length_cons, hql]; rw [show k + 1 - k = 1 by omega]; rfl), hL]
       exact Option.some.inj hu
      rw [hy]
      exact got_asm 0 0 o 0 (r.take k) hI (by decide) (by decide) hq (by rw [hk, hql]) (by omega) (by rw [hL, Int.toNat_natCast, ht, nd0]; rfl)
   ·have c6 : ¬ idxB (l.getD 0 0) = 0 := fun h => c5 (.inl h)
    have c7 : loneB (l.getD 1 0) = false := by cases hl : loneB (l.getD 1 0); rfl; exact absurd (.inr hl) c5
    obtain ⟨x, hx, hx12, hpre⟩ : ∃ x, idxB (l.getD 0 0) = x ∧ (x = 1 ∨ x = 2) ∧ preB x = [l.getD 0 0] := by
     rcases idx_cases c6 with ⟨ha, hx⟩ | ⟨ha, hx⟩
     ·exact ⟨1, hx, .inl rfl, by rw [ha]; rfl⟩
     ·exact ⟨2, hx, .inr rfl, by rw [ha]; rfl⟩
    by_cases c8 : l.getD 1 0 = 203
    ·have hh : headL (l.getD 0 0) (l.getD 1 0) = ⟨3, x, 3⟩ := by unfold headL; rw [if_neg c1, if_neg c3, if_neg c5, if_pos c8, hx]
     rw [h0, hh] at hu
     simp only at hu
     by_cases c2 : l.length ≤ 3
     ·rw [if_pos c2] at hu; cases hu
     ·rw [if_neg c2] at hu
      obtain ⟨d0, r, hr⟩ := four_of (l := l) (by omega)
      obtain ⟨o0, o1⟩ := hb.getD 3
      have hd := hb d0 (by rw [hr]; simp)
      generalize l.getD 3 0 = o at *
      rw [c8] at hr
      generalize l.getD 0 0 = a at *
      obtain ⟨hI, hD⟩ := nd3 hx12 o0 o1
      have hL : lenI 3 x o = 4 := by unfold lenI; rw [hD, nn3]; rcases hx12 with rfl | rfl <;> rfl
      have e : (⟨3, x, o, 0, 0, 0⟩ : In).len = lenI 3 x o := rfl
      rw [e, hL] at hu
      rw [if_neg (by omega)] at hu
      have ht : l.take 4 = [a, 203, d0, o] := by rw [hr]; rfl
      have hy : y = asmI 3 x o d0 [] := by
       rw [← ops_asm 3 x o d0 [] (l.take 4) (fun _ => by rw [ht]; rfl) (by rw [nn3]; simp), hL]
       exact Option.some.inj hu
      rw [hy]
      exact got_asm 3 x o d0 [] hI hd.1 hd.2 AllB.nil (by rw [nn3]; rfl) (by omega) (by rw [hL]; show l.take 4 = _; rw [ht, hpre]; rfl)
    ·have hh : headL (l.getD 0 0) (l.getD 1 0) = ⟨0, x, 1⟩ := by unfold headL; rw [if_neg c1, if_neg c3, if_neg c5, if_neg c8, hx]
     rw [h0, hh] at hu
     simp only at hu
     by_cases c2 : l.length ≤ 1
     ·rw [if_pos c2] at hu; cases hu
     ·rw [if_neg c2] at hu
      obtain ⟨r, hr⟩ := two_of (l := l) (by omega)
      generalize l.getD 1 0 = o at *
      generalize l.getD 0 0 = a at *
      have hI : isOneI 0 x o = true := by
       unfold isOneI
       rw [isB b0 b1, if_pos rfl, if_pos hx12, c7]
       simp [c8]
      have hx0 : (x != 0) = true := by rcases hx12 with rfl | rfl <;> rfl
      obtain ⟨k, hk⟩ : ∃ k : Nat, needN 0 x o = k := ⟨(needN 0 x o).toNat, by have := needN_in 0 x o; omega⟩
      have hra : AllB r := fun n hn => hb n (by rw [hr]; simp [hn])
      have e : (⟨0, x, o, 0, 0, 0⟩ : In).len = lenI 0 x o := rfl
      by_cases hD : needD 0 x o = true
      ·have hL : lenI 0 x o = ((3 + k : Nat) : Int) := by unfold lenI; rw [hD, hk, hx0]; simp [num1]; omega
       rw [e, hL] at hu
       by_cases c4 : (l.length : Int) < ((3 + k : Nat) : Int)
       ·rw [if_pos c4] at hu; cases hu
       ·rw [if_neg c4, Int.toNat_natCast] at hu
        match r, hr, hra with
        | [], hr, _ => rw [hr] at c4; simp at c4; omega
        | d0 :: r, hr, hra =>
         obtain ⟨e0, e1⟩ := hra d0 (by simp)
         have hrl : k ≤ r.length := by rw [hr] at c4; simp at c4; omega
         have ht : l.take (3 + k) = a :: o :: d0 :: r.take k := by rw [hr, Nat.add_comm]; rfl
         have hq : AllB (r.take k) := AllB.take (fun n hn => hra n (by simp [hn])) k
         have hql : (r.take k).length = k := by rw [List.length_take]; omega
         have hy : y = asmI 0 x o d0 (r.take k) := by
          rw [← ops_asm 0 x o d0 (r.take k) (l.take (3 + k)) (fun _ => by rw [ht]; rfl) (by rw [hk, ht, Int.toNat_natCast]; simp only [List.length_cons, hql]; rw [show k + 1 + 1 + 1 - k = 3 by omega]; rfl), hL]
          exact Option.some.inj hu
         rw [hy]
         exact got_asm 0 x o d0 (r.take k) hI e0 e1 hq (by rw [hk, hql]) (by omega) (by rw [hL, Int.toNat_natCast, ht, hpre, if_neg (by decide), if_pos hD]; rfl)
      ·have hD' : needD 0 x o = false := by simpa using hD
       have hL : lenI 0 x o = ((2 + k : Nat) : Int) := by unfold lenI; rw [hD', hk, hx0]; simp [num1]; omega
       rw [e, hL] at hu
       by_cases c4 : (l.length : Int) < ((2 + k : Nat) : Int)
       ·rw [if_pos c4] at hu; cases hu
       ·rw [if_neg c4, Int.toNat_natCast] at hu
        have hrl : k ≤ r.length := by rw [hr] at c4; simp at c4; omega
        have ht : l.take (2 + k) = a :: o :: r.take k := by rw [hr, Nat.add_comm]; rfl
        have hq : AllB (r.take k) := hra.take k
        have hql : (r.take k).length = k := by rw [List.length_take]; omega
        have hy : y = asmI 0 x o 0 (r.take k) := by
         rw [← ops_asm 0 x o 0 (r.take k) (l.take (2 + k)) (by rw [hD']; intro h; cases h) (by rw [hk, ht, Int.toNat_natCast]; simp only [List.length_cons, hql]; rw [show k + 1 + 1 - k = 2 by omega]; rfl), hL]
         exact Option.some.inj hu
        rw [hy]
        exact got_asm 0 x o 0 (r.take k) hI (by decide) (by decide) hq (by rw [hk, hql]) (by omega) (by rw [hL, Int.toNat_natCast, ht, hpre, hD', if_neg (by decide), if_neg (by decide)]; rfl)

theorem bytesI_length {i : In} (hm : i.may = true) : ((bytesI i).length : Int) = i.n := by
 obtain ⟨h1, h2, h3⟩ := may_one hm
 obtain ⟨hs, hx, h0, h0'⟩ := one_cases h1
 have hk := needN_in i.s i.x i.o
 have hi := immL_length i.m (needN i.s i.x i.o) (by omega)
 rw [h2]
 show ((bytesI i).length : Int) = lenI i.s i.x i.o
 unfold bytesI
 rw [List.length_append, List.length_append]
 unfold aheadB midB lenI
 rw [List.length_append]
 have h3' : i.s = 3 → needD i.s i.x i.o = true := fun h => by unfold needD; rw [h1, h]; rfl
 have h12 : i.s = 1 → needD i.s i.x i.o = false := fun h => by unfold needD; rw [h1, h]; rfl
 have h22 : i.s = 2 → needD i.s i.x i.o = false := fun h => by unfold needD; rw [h1, h]; rfl
 generalize needN i.s i.x i.o = k at *
 generalize needD i.s i.x i.o = D at *
 generalize i.s = s at *
 generalize i.x = x at *
 push_cast
 rw [hi]
 rcases hs with rfl | rfl | rfl | rfl <;> rcases hx with rfl | rfl | rfl <;> cases D <;> simp_all [preB, setB, num1] <;> omega

theorem take_self {l r : List Int} {n : Nat} (h : l.length = n) : (l ++ r).take n = l := by subst h; simp
theorem of_bytes {i : In} (hm : i.may = true) (bh : Int) (hbh : i.s = 0 → (i.o = 221 ∨ i.o = 253) → loneB bh = true) : ofI (bytesI i ++ [bh]) = some i := by
 obtain ⟨h1, h2, h3⟩ := may_one hm
 obtain ⟨hs, hx, ho0, ho1⟩ := one_cases h1
 have hl := bytesI_length hm
 have hkk := needN_in i.s i.x i.o
 unfold In.ops at h3
 simp only [Bool.and_eq_true] at h3
 obtain ⟨hd, hf⟩ := h3
 have hq := number_imm i.m (needN i.s i.x i.o) (jumpI i.s i.o) hf (by omega) (fun h => rel_one h)
 have hql := immL_length i.m (needN i.s i.x i.o) (by omega)
 have hL : lenI i.s i.x i.o = i.n := h2.symm
 have hlo := (lenI_in i.s i.x i.o).2.1
 -- what is left of the question
 have key : ∀ p : Nat, headL ((bytesI i ++ [bh]).getD 0 0) ((bytesI i ++ [bh]).getD 1 0) = ⟨i.s, i.x, p⟩ → p < (bytesI i ++ [bh]).length → (bytesI i ++ [bh]).getD p 0 = i.o → (needD i.s i.x i.o = true → (bytesI i).getD 2 0 = i.d % 256) → ofI (bytesI i ++ [bh]) = some i := by
  intro p a1 a2 a3 a4
  rw [of_eq a1 a2 a3 (by rw [hL, List.length_append]; simp; omega), hL, take_self (n := i.n.toNat) (by omega), ← hL]
  have e := ops_asm i.s i.x i.o (i.d % 256) (immL i.m (needN i.s i.x i.o)) (bytesI i) a4 (by
   have e1 : bytesI i = (aheadB i ++ midB i) ++ immL i.m (needN i.s i.x i.o) := rfl
   have e2 : (bytesI i).length - (needN i.s i.x i.o).toNat = (aheadB i ++ midB i).length := by
    rw [e1, List.length_append]; omega
   rw [e2, e1]; exact List.drop_left)
  rw [e]
  unfold asmI
  rw [hq, hL]
  have hdd : (if needD i.s i.x i.o = true then IntKind.i8.wrap (i.d % 256) else 0) = i.d := by
   unfold fitsI at hd
   by_cases hD : needD i.s i.x i.o = true
   ·rw [if_pos hD]
    rw [hD] at hd
    simp [num1] at hd
    exact i8_back i.d hd.1 hd.2
   ·rw [if_neg hD]
    have : needD i.s i.x i.o = false := by simpa using hD
    rw [this] at hd
    simp [num1] at hd
    exact hd.symm
  rw [hdd]
 have hb : bytesI i = aheadB i ++ midB i ++ immL i.m (needN i.s i.x i.o) := rfl
 unfold aheadB midB at hb
 rcases hs with e | e | e | e
 ·rw [e] at hb h1 hbh
  have hs0 : setB 0 = [] := rfl
  rw [hs0, List.append_nil, if_neg (by decide)] at hb
  rcases hx with f | f | f
  ·rw [f] at hb h1
   rw [nd0, if_neg (by decide)] at hb
   have hn3 : i.o ≠ 203 ∧ i.o ≠ 237 := by
    unfold isOneI at h1; simp at h1; omega
   refine key 0 ?_ (by rw [List.length_append]; simp) (by rw [hb]; rfl) (by rw [e, f, nd0]; intro h; cases h)
   rw [hb]
   show headL i.o _ = _
   unfold headL
   rw [if_neg hn3.1, if_neg hn3.2, if_pos, e, f]
   by_cases hi : idxB i.o = 0
   ·exact .inl hi
   ·right
    have ho : i.o = 221 ∨ i.o = 253 := by rcases idx_cases hi with h | h <;> omega
    have hk0 : needN 0 0 i.o = 0 := by rcases ho with h | h <;> rw [h] <;> decide
    rw [hk0]
    exact hbh rfl ho
  ·rw [f] at hb h1
   have hn : i.o ≠ 203 ∧ loneB i.o = false := by unfold isOneI at h1; simp at h1; exact h1.2
   refine key 1 ?_ (by rw [hb]; split <;> simp [preB] <;> omega) (by rw [hb]; split <;> rfl) (by rw [e, f]; intro h; rw [hb, if_pos h]; rfl)
   have hg : (bytesI i ++ [bh]).getD 0 0 = 221 ∧ (bytesI i ++ [bh]).getD 1 0 = i.o := by rw [hb]; split <;> exact ⟨rfl, rfl⟩
   rw [hg.1, hg.2, e, f]
   unfold headL
   rw [if_neg (by decide), if_neg (by decide), if_neg (by rw [hn.2]; decide), if_neg hn.1]; rfl
  ·rw [f] at hb h1
   have hn : i.o ≠ 203 ∧ loneB i.o = false := by unfold isOneI at h1; simp at h1; exact h1.2
   refine key 1 ?_ (by rw [hb]; split <;> simp [preB] <;> omega) (by rw [hb]; split <;> rfl) (by rw [e, f]; intro h; rw [hb, if_pos h]; rfl)
   have hg : (bytesI i ++ [bh]).getD 0 0 = 253 ∧ (bytesI i ++ [bh]).getD 1 0 = i.o := by rw [hb]; split <;> exact ⟨rfl, rfl⟩
   rw [hg.1, hg.2, e, f]
   unfold headL
   rw [if_neg (by decide), if_neg (by decide), if_neg (by rw [hn.2]; decide), if_neg hn.1]; rfl
 ·rw [e] at hb h1
  have f := one_x0 (.inl rfl) h1
  rw [f, nd1, nn1] at hb
  refine key 1 ?_ (by rw [hb]; simp [setB, preB]) (by rw [hb]; rfl) (by rw [e, f, nd1]; intro h; cases h)
  rw [hb, e, f]; rfl
 ·rw [e] at hb h1
  have f := one_x0 (.inr rfl) h1
  rw [f, nd2] at hb
  refine key 1 ?_ (by rw [hb]; simp [setB, preB]) (by rw [hb]; rfl) (by rw [e, f, nd2]; intro h; cases h)
  rw [hb, e, f]; rfl
 ·rw [e] at hb h1
  have hx12 : i.x = 1 ∨ i.x = 2 := by unfold isOneI at h1; simp at h1; exact h1.2
  rw [nn3, if_pos rfl] at hb
  refine key 3 ?_ (by rw [hb]; rcases hx12 with f | f <;> rw [f] <;> simp [setB, preB]) (by rw [hb]; rcases hx12 with f | f <;> rw [f] <;> rfl) (fun _ => by rw [hb]; rcases hx12 with f | f <;> rw [f] <;> rfl)
  rw [hb, e]
  rcases hx12 with f | f <;> rw [f] <;> rfl
end Go.Proofs.YtgaihekapakoeaaGreatDoor
