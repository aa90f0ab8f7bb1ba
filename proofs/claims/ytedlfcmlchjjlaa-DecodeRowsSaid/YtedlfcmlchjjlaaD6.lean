
/- Instructions (chapter 9): the bytes ahead of an operation's. -/
import Derived.Test.YtedlfcmlchjjlaaD5
namespace Go.Proofs.Ytedlfcmlchjjlaa
open Go.RowKit
set_option linter.unusedSimpArgs false
set_option linter.unusedVariables false
set_option maxRecDepth 100000

def preB (x : Int) : List Int := if x = 1 then [221] else if x = 2 then [253] else []
def setB (s : Int) : List Int := if s = 1 ∨ s = 3 then [203] else if s = 2 then [237] else []
def aheadB (i : In) : List Int := preB i.x ++ setB i.s

set_option maxHeartbeats 8000000 in
theorem c9_ahead (base : Nat) (A : Option Addr) (c n : Nat) (l : List Int) (i : In) (w : World) (hn : n = l.length) (ho : OB w base A c l) (hl : l.length ≤ 100) (hbase : base ≤ w.heap.size) (hs : i.s = 0 ∨ i.s = 1 ∨ i.s = 2 ∨ i.s = 3) (hx : i.x = 0 ∨ i.x = 1 ∨ i.x = 2) :
    Calls Try.prog 70 #[.slice A n c, i.val] w fun e w' => (∃ A' c', e = .returned (.slice A' (l ++ aheadB i).length c') ∧ OB w' base A' c' (l ++ aheadB i)) ∧ Below base w w' := by
  subst hn
  have hb0 : Below base w (w.alloc (inO i)) := (Below.refl _ _).alloc hbase _
  have ho1 := ho.alloc (inO i)
  have hL := InW.laid w i
  obtain ⟨w1, hw1⟩ : ∃ w1, w.alloc (inO i) = w1 := ⟨_, rfl⟩
  rw [hw1] at hb0 ho1 hL
  unfold inO at hw1
  unfold aheadB
  rw [in_val]
  have g0 := hL.gs
  have g1 := hL.gx
  have hlt := hL.lt
  have hG1 : base ≤ w1.heap.size := Nat.le_trans hbase hb0.size
  obtain ⟨s, x, o, d, m, k⟩ := i
  simp only at hs hx g0 g1 ⊢
  have HNB := Lib.hid (show some w.heap.size ≠ (Value.slice A l.length c).ownBlock from fun e => absurd (ho.own.lt _ e.symm).2 (Nat.lt_irrefl _))
  clear ho hL
  rcases hx with rfl | rfl | rfl
  · rcases hs with rfl | rfl | rfl | rfl
    · have HE := Lib.hid (show l ++ (preB 0 ++ setB 0) = l from List.append_nil l)
      rw [HE.out]
      have HO := Lib.hid ho1
      have HB := Lib.hid hb0
      clear ho1 hb0
      go_enter Try.func70, Try.ntmps70
      go_wp2
      go_ret
      exact ⟨⟨A, c, rfl, HO.out⟩, HB.out⟩
    · have HE := Lib.hid (show l ++ (preB 0 ++ setB 1) = l ++ [203] from by simp [preB, setB])
      rw [HE.out]
      have HO := Lib.hid ho1
      have HB := Lib.hid hb0
      clear ho1 hb0
      obtain ⟨l1, h1⟩ : ∃ l1, l ++ [203] = l1 := ⟨_, rfl⟩
      rw [h1]
      have hl1 : l1.length ≤ 101 := by rw [← h1]; simp; omega
      have H1 := Lib.hid h1
      clear h1
      go_enter Try.func70, Try.ntmps70
      go_wp2_with (at_builtin; refine wpList_append_rbg _ rfl _ _ rfl base _ A _ c l rfl rfl (HO.out.alloc _) _ _ _ [203] rfl rfl (RB.lit1 _ _ (by decide) (by decide)) (by simp; omega) (by simp; omega) ?_; intro A' c' w6 hob hbel hne; rw [H1.out] at hob; rw [H1.out]; have hb6 := (HB.out.alloc hG1 (.cells #[.int .u8 203] 5)).trans hbel; have hG6 : base ≤ w6.heap.size := Nat.le_trans hbase hb6.size)
      go_ret
      exact ⟨⟨A', c', rfl, hob⟩, hb6⟩
    · have HE := Lib.hid (show l ++ (preB 0 ++ setB 2) = l ++ [237] from by simp [preB, setB])
      rw [HE.out]
      have HO := Lib.hid ho1
      have HB := Lib.hid hb0
      clear ho1 hb0
      obtain ⟨l1, h1⟩ : ∃ l1, l ++ [237] = l1 := ⟨_, rfl⟩
      rw [h1]
      have hl1 : l1.length ≤ 101 := by rw [← h1]; simp; omega
      have H1 := Lib.hid h1
      clear h1
      go_enter Try.func70, Try.ntmps70
      go_wp2_with (at_builtin; refine wpList_append_rbg _ rfl _ _ rfl base _ A _ c l rfl rfl (HO.out.alloc _) _ _ _ [237] rfl rfl (RB.lit1 _ _ (by decide) (by decide)) (by simp; omega) (by simp; omega) ?_; intro A' c' w6 hob hbel hne; rw [H1.out] at hob; rw [H1.out]; have hb6 := (HB.out.alloc hG1 (.cells #[.int .u8 237] 5)).trans hbel; have hG6 : base ≤ w6.heap.size := Nat.le_trans hbase hb6.size)
      go_ret
      exact ⟨⟨A', c', rfl, hob⟩, hb6⟩
    · have HE := Lib.hid (show l ++ (preB 0 ++ setB 3) = l ++ [203] from by simp [preB, setB])
      rw [HE.out]
      have HO := Lib.hid ho1
      have HB := Lib.hid hb0
      clear ho1 hb0
      obtain ⟨l1, h1⟩ : ∃ l1, l ++ [203] = l1 := ⟨_, rfl⟩
      rw [h1]
      have hl1 : l1.length ≤ 101 := by rw [← h1]; simp; omega
      have H1 := Lib.hid h1
      clear h1
      go_enter Try.func70, Try.ntmps70
      go_wp2_with (at_builtin; refine wpList_append_rbg _ rfl _ _ rfl base _ A _ c l rfl rfl (HO.out.alloc _) _ _ _ [203] rfl rfl (RB.lit1 _ _ (by decide) (by decide)) (by simp; omega) (by simp; omega) ?_; intro A' c' w6 hob hbel hne; rw [H1.out] at hob; rw [H1.out]; have hb6 := (HB.out.alloc hG1 (.cells #[.int .u8 203] 5)).trans hbel; have hG6 : base ≤ w6.heap.size := Nat.le_trans hbase hb6.size)
      go_ret
      exact ⟨⟨A', c', rfl, hob⟩, hb6⟩
  · rcases hs with rfl | rfl | rfl | rfl
    · have HE := Lib.hid (show l ++ (preB 1 ++ setB 0) = l ++ [221] from by simp [preB, setB])
      rw [HE.out]
      have HO := Lib.hid ho1
      have HB := Lib.hid hb0
      clear ho1 hb0
      obtain ⟨l1, h1⟩ : ∃ l1, l ++ [221] = l1 := ⟨_, rfl⟩
      rw [h1]
      have hl1 : l1.length ≤ 101 := by rw [← h1]; simp; omega
      have H1 := Lib.hid h1
      clear h1
      go_enter Try.func70, Try.ntmps70
      go_wp2_with (at_builtin; refine wpList_append_rbg _ rfl _ _ rfl base _ A _ c l rfl rfl (HO.out.alloc _) _ _ _ [221] rfl rfl (RB.lit1 _ _ (by decide) (by decide)) (by simp; omega) (by simp; omega) ?_; intro A' c' w6 hob hbel hne; rw [H1.out] at hob; rw [H1.out]; have hb6 := (HB.out.alloc hG1 (.cells #[.int .u8 221] 5)).trans hbel; have hG6 : base ≤ w6.heap.size := Nat.le_trans hbase hb6.size; have g6 := (World.cell?_of_block (a := ⟨w.heap.size, 0, none⟩) (hne.block w.heap.size (by simp; omega) HNB.out)).trans ((((Below.refl w1.heap.size w1).alloc (Nat.le_refl _) (.cells #[.int .u8 221] 5)).cell (p := ⟨w.heap.size, 0, none⟩) hlt).trans g0))
      go_ret
      exact ⟨⟨A', c', rfl, hob⟩, hb6⟩
    · have HE := Lib.hid (show l ++ (preB 1 ++ setB 1) = l ++ [221] ++ [203] from by simp [preB, setB])
      rw [HE.out]
      have HO := Lib.hid ho1
      have HB := Lib.hid hb0
      clear ho1 hb0
      obtain ⟨l1, h1⟩ : ∃ l1, l ++ [221] = l1 := ⟨_, rfl⟩
      rw [h1]
      have hl1 : l1.length ≤ 101 := by rw [← h1]; simp; omega
      have H1 := Lib.hid h1
      clear h1
      obtain ⟨l2, h2⟩ : ∃ l2, l1 ++ [203] = l2 := ⟨_, rfl⟩
      rw [h2]
      have H2 := Lib.hid h2
      clear h2
      go_enter Try.func70, Try.ntmps70
      go_wp2_with (first
        | (at_builtin; refine wpList_append_rbg _ rfl _ _ rfl base _ A _ c l rfl rfl (HO.out.alloc _) _ _ _ [221] rfl rfl (RB.lit1 _ _ (by decide) (by decide)) (by simp; omega) (by simp; omega) ?_; intro A' c' w6 hob hbel hne; rw [H1.out] at hob; rw [H1.out]; have hb6 := (HB.out.alloc hG1 (.cells #[.int .u8 221] 5)).trans hbel; have hG6 : base ≤ w6.heap.size := Nat.le_trans hbase hb6.size; have g6 := (World.cell?_of_block (a := ⟨w.heap.size, 0, none⟩) (hne.block w.heap.size (by simp; omega) HNB.out)).trans ((((Below.refl w1.heap.size w1).alloc (Nat.le_refl _) (.cells #[.int .u8 221] 5)).cell (p := ⟨w.heap.size, 0, none⟩) hlt).trans g0))
        | (at_builtin; refine wpList_append_rb _ rfl _ _ rfl base _ A' _ c' l1 rfl rfl (hob.alloc _) _ _ _ [203] rfl rfl (RB.lit1 _ _ (by decide) (by decide)) (by simp; omega) (by simp; omega) ?_; intro A'' c'' w7 hob' hbel' hne'; rw [H2.out] at hob'; rw [H2.out]))
      go_ret
      exact ⟨⟨A'', c'', rfl, hob'⟩, (hb6.alloc hG6 _).trans hbel'⟩
    · have HE := Lib.hid (show l ++ (preB 1 ++ setB 2) = l ++ [221] ++ [237] from by simp [preB, setB])
      rw [HE.out]
      have HO := Lib.hid ho1
      have HB := Lib.hid hb0
      clear ho1 hb0
      obtain ⟨l1, h1⟩ : ∃ l1, l ++ [221] = l1 := ⟨_, rfl⟩
      rw [h1]
      have hl1 : l1.length ≤ 101 := by rw [← h1]; simp; omega
      have H1 := Lib.hid h1
      clear h1
      obtain ⟨l2, h2⟩ : ∃ l2, l1 ++ [237] = l2 := ⟨_, rfl⟩
      rw [h2]
      have H2 := Lib.hid h2
      clear h2
      go_enter Try.func70, Try.ntmps70
      go_wp2_with (first
        | (at_builtin; refine wpList_append_rbg _ rfl _ _ rfl base _ A _ c l rfl rfl (HO.out.alloc _) _ _ _ [221] rfl rfl (RB.lit1 _ _ (by decide) (by decide)) (by simp; omega) (by simp; omega) ?_; intro A' c' w6 hob hbel hne; rw [H1.out] at hob; rw [H1.out]; have hb6 := (HB.out.alloc hG1 (.cells #[.int .u8 221] 5)).trans hbel; have hG6 : base ≤ w6.heap.size := Nat.le_trans hbase hb6.size; have g6 := (World.cell?_of_block (a := ⟨w.heap.size, 0, none⟩) (hne.block w.heap.size (by simp; omega) HNB.out)).trans ((((Below.refl w1.heap.size w1).alloc (Nat.le_refl _) (.cells #[.int .u8 221] 5)).cell (p := ⟨w.heap.size, 0, none⟩) hlt).trans g0))
        | (at_builtin; refine wpList_append_rb _ rfl _ _ rfl base _ A' _ c' l1 rfl rfl (hob.alloc _) _ _ _ [237] rfl rfl (RB.lit1 _ _ (by decide) (by decide)) (by simp; omega) (by simp; omega) ?_; intro A'' c'' w7 hob' hbel' hne'; rw [H2.out] at hob'; rw [H2.out]))
      go_ret
      exact ⟨⟨A'', c'', rfl, hob'⟩, (hb6.alloc hG6 _).trans hbel'⟩
    · have HE := Lib.hid (show l ++ (preB 1 ++ setB 3) = l ++ [221] ++ [203] from by simp [preB, setB])
      rw [HE.out]
      have HO := Lib.hid ho1
      have HB := Lib.hid hb0
      clear ho1 hb0
      obtain ⟨l1, h1⟩ : ∃ l1, l ++ [221] = l1 := ⟨_, rfl⟩
      rw [h1]
      have hl1 : l1.length ≤ 101 := by rw [← h1]; simp; omega
      have H1 := Lib.hid h1
      clear h1
      obtain ⟨l2, h2⟩ : ∃ l2, l1 ++ [203] = l2 := ⟨_, rfl⟩
      rw [h2]
      have H2 := Lib.hid h2
      clear h2
      go_enter Try.func70, Try.ntmps70
      go_wp2_with (first
        | (at_builtin; refine wpList_append_rbg _ rfl _ _ rfl base _ A _ c l rfl rfl (HO.out.alloc _) _ _ _ [221] rfl rfl (RB.lit1 _ _ (by decide) (by decide)) (by simp; omega) (by simp; omega) ?_; intro A' c' w6 hob hbel hne; rw [H1.out] at hob; rw [H1.out]; have hb6 := (HB.out.alloc hG1 (.cells #[.int .u8 221] 5)).trans hbel; have hG6 : base ≤ w6.heap.size := Nat.le_trans hbase hb6.size; have g6 := (World.cell?_of_block (a := ⟨w.heap.size, 0, none⟩) (hne.block w.heap.size (by simp; omega) HNB.out)).trans ((((Below.refl w1.heap.size w1).alloc (Nat.le_refl _) (.cells #[.int .u8 221] 5)).cell (p := ⟨w.heap.size, 0, none⟩) hlt).trans g0))
        | (at_builtin; refine wpList_append_rb _ rfl _ _ rfl base _ A' _ c' l1 rfl rfl (hob.alloc _) _ _ _ [203] rfl rfl (RB.lit1 _ _ (by decide) (by decide)) (by simp; omega) (by simp; omega) ?_; intro A'' c'' w7 hob' hbel' hne'; rw [H2.out] at hob'; rw [H2.out]))
      go_ret
      exact ⟨⟨A'', c'', rfl, hob'⟩, (hb6.alloc hG6 _).trans hbel'⟩
  · rcases hs with rfl | rfl | rfl | rfl
    · have HE := Lib.hid (show l ++ (preB 2 ++ setB 0) = l ++ [253] from by simp [preB, setB])
      rw [HE.out]
      have HO := Lib.hid ho1
      have HB := Lib.hid hb0
      clear ho1 hb0
      obtain ⟨l1, h1⟩ : ∃ l1, l ++ [253] = l1 := ⟨_, rfl⟩
      rw [h1]
      have hl1 : l1.length ≤ 101 := by rw [← h1]; simp; omega
      have H1 := Lib.hid h1
      clear h1
      go_enter Try.func70, Try.ntmps70
      go_wp2_with (at_builtin; refine wpList_append_rbg _ rfl _ _ rfl base _ A _ c l rfl rfl (HO.out.alloc _) _ _ _ [253] rfl rfl (RB.lit1 _ _ (by decide) (by decide)) (by simp; omega) (by simp; omega) ?_; intro A' c' w6 hob hbel hne; rw [H1.out] at hob; rw [H1.out]; have hb6 := (HB.out.alloc hG1 (.cells #[.int .u8 253] 5)).trans hbel; have hG6 : base ≤ w6.heap.size := Nat.le_trans hbase hb6.size; have g6 := (World.cell?_of_block (a := ⟨w.heap.size, 0, none⟩) (hne.block w.heap.size (by simp; omega) HNB.out)).trans ((((Below.refl w1.heap.size w1).alloc (Nat.le_refl _) (.cells #[.int .u8 253] 5)).cell (p := ⟨w.heap.size, 0, none⟩) hlt).trans g0))
      go_ret
      exact ⟨⟨A', c', rfl, hob⟩, hb6⟩
    · have HE := Lib.hid (show l ++ (preB 2 ++ setB 1) = l ++ [253] ++ [203] from by simp [preB, setB])
      rw [HE.out]
      have HO := Lib.hid ho1
      have HB := Lib.hid hb0
      clear ho1 hb0
      obtain ⟨l1, h1⟩ : ∃ l1, l ++ [253] = l1 := ⟨_, rfl⟩
      rw [h1]
      have hl1 : l1.length ≤ 101 := by rw [← h1]; simp; omega
      have H1 := Lib.hid h1
      clear h1
      obtain ⟨l2, h2⟩ : ∃ l2, l1 ++ [203] = l2 := ⟨_, rfl⟩
      rw [h2]
      have H2 := Lib.hid h2
      clear h2
      go_enter Try.func70, Try.ntmps70
      go_wp2_with (first
        | (at_builtin; refine wpList_append_rbg _ rfl _ _ rfl base _ A _ c l rfl rfl (HO.out.alloc _) _ _ _ [253] rfl rfl (RB.lit1 _ _ (by decide) (by decide)) (by simp; omega) (by simp; omega) ?_; intro A' c' w6 hob hbel hne; rw [H1.out] at hob; rw [H1.out]; have hb6 := (HB.out.alloc hG1 (.cells #[.int .u8 253] 5)).trans hbel; have hG6 : base ≤ w6.heap.size := Nat.le_trans hbase hb6.size; have g6 := (World.cell?_of_block (a := ⟨w.heap.size, 0, none⟩) (hne.block w.heap.size (by simp; omega) HNB.out)).trans ((((Below.refl w1.heap.size w1).alloc (Nat.le_refl _) (.cells #[.int .u8 253] 5)).cell (p := ⟨w.heap.size, 0, none⟩) hlt).trans g0))
        | (at_builtin; refine wpList_append_rb _ rfl _ _ rfl base _ A' _ c' l1 rfl rfl (hob.alloc _) _ _ _ [203] rfl rfl (RB.lit1 _ _ (by decide) (by decide)) (by simp; omega) (by simp; omega) ?_; intro A'' c'' w7 hob' hbel' hne'; rw [H2.out] at hob'; rw [H2.out]))
      go_ret
      exact ⟨⟨A'', c'', rfl, hob'⟩, (hb6.alloc hG6 _).trans hbel'⟩
    · have HE := Lib.hid (show l ++ (preB 2 ++ setB 2) = l ++ [253] ++ [237] from by simp [preB, setB])
      rw [HE.out]
      have HO := Lib.hid ho1
      have HB := Lib.hid hb0
      clear ho1 hb0
      obtain ⟨l1, h1⟩ : ∃ l1, l ++ [253] = l1 := ⟨_, rfl⟩
      rw [h1]
      have hl1 : l1.length ≤ 101 := by rw [← h1]; simp; omega
      have H1 := Lib.hid h1
      clear h1
      obtain ⟨l2, h2⟩ : ∃ l2, l1 ++ [237] = l2 := ⟨_, rfl⟩
      rw [h2]
      have H2 := Lib.hid h2
      clear h2
      go_enter Try.func70, Try.ntmps70
      go_wp2_with (first
        | (at_builtin; refine wpList_append_rbg _ rfl _ _ rfl base _ A _ c l rfl rfl (HO.out.alloc _) _ _ _ [253] rfl rfl (RB.lit1 _ _ (by decide) (by decide)) (by simp; omega) (by simp; omega) ?_; intro A' c' w6 hob hbel hne; rw [H1.out] at hob; rw [H1.out]; have hb6 := (HB.out.alloc hG1 (.cells #[.int .u8 253] 5)).trans hbel; have hG6 : base ≤ w6.heap.size := Nat.le_trans hbase hb6.size; have g6 := (World.cell?_of_block (a := ⟨w.heap.size, 0, none⟩) (hne.block w.heap.size (by simp; omega) HNB.out)).trans ((((Below.refl w1.heap.size w1).alloc (Nat.le_refl _) (.cells #[.int .u8 253] 5)).cell (p := ⟨w.heap.size, 0, none⟩) hlt).trans g0))
        | (at_builtin; refine wpList_append_rb _ rfl _ _ rfl base _ A' _ c' l1 rfl rfl (hob.alloc _) _ _ _ [237] rfl rfl (RB.lit1 _ _ (by decide) (by decide)) (by simp; omega) (by simp; omega) ?_; intro A'' c'' w7 hob' hbel' hne'; rw [H2.out] at hob'; rw [H2.out]))
      go_ret
      exact ⟨⟨A'', c'', rfl, hob'⟩, (hb6.alloc hG6 _).trans hbel'⟩
    · have HE := Lib.hid (show l ++ (preB 2 ++ setB 3) = l ++ [253] ++ [203] from by simp [preB, setB])
      rw [HE.out]
      have HO := Lib.hid ho1
      have HB := Lib.hid hb0
      clear ho1 hb0
      obtain ⟨l1, h1⟩ : ∃ l1, l ++ [253] = l1 := ⟨_, rfl⟩
      rw [h1]
      have hl1 : l1.length ≤ 101 := by rw [← h1]; simp; omega
      have H1 := Lib.hid h1
      clear h1
      obtain ⟨l2, h2⟩ : ∃ l2, l1 ++ [203] = l2 := ⟨_, rfl⟩
      rw [h2]
      have H2 := Lib.hid h2
      clear h2
      go_enter Try.func70, Try.ntmps70
      go_wp2_with (first
        | (at_builtin; refine wpList_append_rbg _ rfl _ _ rfl base _ A _ c l rfl rfl (HO.out.alloc _) _ _ _ [253] rfl rfl (RB.lit1 _ _ (by decide) (by decide)) (by simp; omega) (by simp; omega) ?_; intro A' c' w6 hob hbel hne; rw [H1.out] at hob; rw [H1.out]; have hb6 := (HB.out.alloc hG1 (.cells #[.int .u8 253] 5)).trans hbel; have hG6 : base ≤ w6.heap.size := Nat.le_trans hbase hb6.size; have g6 := (World.cell?_of_block (a := ⟨w.heap.size, 0, none⟩) (hne.block w.heap.size (by simp; omega) HNB.out)).trans ((((Below.refl w1.heap.size w1).alloc (Nat.le_refl _) (.cells #[.int .u8 253] 5)).cell (p := ⟨w.heap.size, 0, none⟩) hlt).trans g0))
        | (at_builtin; refine wpList_append_rb _ rfl _ _ rfl base _ A' _ c' l1 rfl rfl (hob.alloc _) _ _ _ [203] rfl rfl (RB.lit1 _ _ (by decide) (by decide)) (by simp; omega) (by simp; omega) ?_; intro A'' c'' w7 hob' hbel' hne'; rw [H2.out] at hob'; rw [H2.out]))
      go_ret
      exact ⟨⟨A'', c'', rfl, hob'⟩, (hb6.alloc hG6 _).trans hbel'⟩
end Go.Proofs.Ytedlfcmlchjjlaa
