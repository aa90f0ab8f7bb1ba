
/- slices: swapRange. -/
import Derived.Test.YtdmjfadeffcidaaT21
namespace Go.Proofs.Ytdmjfadeffcidaa
open Go.RowKit
set_option linter.unusedSimpArgs false
set_option linter.unusedVariables false
set_option maxRecDepth 100000

/-- The first k of two ranges exchanged. -/
def swL (M : List Tc) (a b : Nat) : Nat → List Tc
  | 0 => M
  | k + 1 => ((swL M a b k).set (a + k) ((swL M a b k).getD (b + k) tcZ)).set (b + k) ((swL M a b k).getD (a + k) tcZ)
theorem swL_len (M : List Tc) (a b : Nat) : ∀ k, (swL M a b k).length = M.length
  | 0 => rfl
  | k + 1 => by simp [swL, swL_len M a b k]
/-- What the parts of a sort leave: the row as M' is, all other blocks as they were. -/
def SortTo (w : World) (g : Nat) (X : List Value) (M' : List Tc) (e : Ending) (w' : World) : Prop := e = .returned (.tuple #[]) ∧ SW w' g X M' ∧ Save (· = g) w w'

set_option maxHeartbeats 8000000 in
theorem swaprange_any (w : World) (g c L : Nat) (X : List Value) (D : List Tc) (h : SW w g X D) (hL : D.length = L) (hLc : L ≤ c) (hL1 : L ≤ 1000000) (a b n : Nat) (ha : a + n ≤ L) (hb : b + n ≤ L) (F : Value) :
    Calls Try.prog 94 #[.slice (some ⟨g, 0, none⟩) L c, .int .i64 a, .int .i64 b, .int .i64 n, F] w (SortTo w g X (swL D a b n)) := by
  have Hs0 := Lib.hid h
  have HS := Lib.hid (show ∀ k, swL D a b (k + 1) = ((swL D a b k).set (a + k) ((swL D a b k).getD (b + k) tcZ)).set (b + k) ((swL D a b k).getD (a + k) tcZ) from fun k => rfl)
  have HLn := Lib.hid (fun k => (swL_len D a b k).trans hL)
  have H0 := Lib.hid (show swL D a b 0 = D from rfl)
  unfold SortTo
  clear h hL
  generalize swL D a b = sw at *
  go_enter Try.func94, Try.ntmps94
  go_wp2_with fail
  go_loopw [10] (fun i wr => ∃ k : Nat, k ≤ n ∧ i = .int .i64 k ∧ SW wr g X (sw k) ∧ Save (· = g) w wr) (fun i _ => n - (intOf i).toNat)
  case atStart => exact ⟨0, Nat.zero_le _, rfl, by rw [H0.out]; exact Hs0.out, Save.refl _ _⟩
  case round =>
    rename World => wr
    obtain ⟨k, hk, rfl, hs, hsv⟩ := hrel
    have HN := Lib.hid hs
    have HV := Lib.hid hsv
    have hlt := hs.lt
    clear hs hsv Hs0
    by_cases hkn : k < n
    · have HSk := Lib.hid (HS.out k)
      have hNL := HLn.out k
      have hxk : a + k < (sw k).length := by omega
      have hyk : b + k < (sw k).length := by omega
      clear HS HLn H0
      generalize hsk : sw k = N at *
      clear hsk
      obtain ⟨pa, hpa⟩ : ∃ pa, a + k = pa := ⟨_, rfl⟩
      obtain ⟨pb, hpb⟩ : ∃ pb, b + k = pb := ⟨_, rfl⟩
      rw [hpa] at hxk
      rw [hpb] at hyk
      rw [hpa, hpb] at HSk
      have ea : (a : Int) + k = pa := by omega
      have eb : (b : Int) + k = pb := by omega
      clear hpa hpb
      have hla : pa < L := by omega
      have hlb : pb < L := by omega
      have wa : IntKind.i64.wrap (pa : Int) = pa := by rw [IntKind.wrap_i64]; omega
      have wb : IntKind.i64.wrap (pb : Int) = pb := by rw [IntKind.wrap_i64]; omega
      obtain ⟨x, hx⟩ : ∃ x, N.getD pa tcZ = x := ⟨_, rfl⟩
      obtain ⟨y, hy⟩ : ∃ y, N.getD pb tcZ = y := ⟨_, rfl⟩
      rw [hx, hy] at HSk
      have HXY := Lib.hid (And.intro hx hy)
      clear hx hy
      go_upto_region 3 with fail
      refine H.region_ (fun i => i == 13 || i == 19) (fun i => i == 21 || i == 23) (M.Base wr) (M.But wr g (fun o => ∃ N' : List Tc, N'.length = L ∧ SWo X N' o)) (M.closed_base _) (fun w' hw' => ⟨hlt, Save.of_below hw'.2, ⟨_, hNL, HN.out.below hw'.2 hlt⟩⟩) (fun n => ⟨Nat.le_refl _, (Save.drawn _ wr n).all⟩) (by kernel_rfl) ?_
      refine H.any_ (i := 0) (.slice (some ⟨g, 0, none⟩) L c) rfl (by kernel_rfl) (by kernel_rfl) (by kernel_rfl) rfl (by kernel_rfl) ?_ ?_
      · intro wz sz
        unfold Oper.does
        go_simp
        try exact Save.refl _ _
      go_simp
      refine H.any_ (i := 1) (.int .i64 a) rfl (by kernel_rfl) (by kernel_rfl) (by kernel_rfl) rfl (by kernel_rfl) ?_ ?_
      · intro wz sz
        unfold Oper.does
        go_simp
        try exact Save.refl _ _
      go_simp
      refine H.any_ (i := 2) (.int .i64 k) rfl (by kernel_rfl) (by kernel_rfl) (by kernel_rfl) rfl (by kernel_rfl) ?_ ?_
      · intro wz sz
        unfold Oper.does
        go_simp
        try exact Save.refl _ _
      go_simp
      refine H.any_ (i := 3) (.int .i64 pa) rfl (by kernel_rfl) (by kernel_rfl) (by kernel_rfl) rfl (by kernel_rfl) ?_ ?_
      · intro wz sz
        unfold Oper.does
        go_simp
        try exact Save.refl _ _
      go_simp
      refine H.any_ (i := 4) (.slice (some ⟨g, 0, none⟩) L c) rfl (by kernel_rfl) (by kernel_rfl) (by kernel_rfl) rfl (by kernel_rfl) ?_ ?_
      · intro wz sz
        unfold Oper.does
        go_simp
        try exact Save.refl _ _
      go_simp
      refine H.any_ (i := 5) (.int .i64 b) rfl (by kernel_rfl) (by kernel_rfl) (by kernel_rfl) rfl (by kernel_rfl) ?_ ?_
      · intro wz sz
        unfold Oper.does
        go_simp
        try exact Save.refl _ _
      go_simp
      refine H.any_ (i := 6) (.int .i64 k) rfl (by kernel_rfl) (by kernel_rfl) (by kernel_rfl) rfl (by kernel_rfl) ?_ ?_
      · intro wz sz
        unfold Oper.does
        go_simp
        try exact Save.refl _ _
      go_simp
      refine H.any_ (i := 7) (.int .i64 pb) rfl (by kernel_rfl) (by kernel_rfl) (by kernel_rfl) rfl (by kernel_rfl) ?_ ?_
      · intro wz sz
        unfold Oper.does
        go_simp
        try exact Save.refl _ _
      go_simp
      refine H.any_ (i := 8) (.slice (some ⟨g, 0, none⟩) L c) rfl (by kernel_rfl) (by kernel_rfl) (by kernel_rfl) rfl (by kernel_rfl) ?_ ?_
      · intro wz sz
        unfold Oper.does
        go_simp
        try exact Save.refl _ _
      go_simp
      refine H.any_ (i := 9) (.int .i64 b) rfl (by kernel_rfl) (by kernel_rfl) (by kernel_rfl) rfl (by kernel_rfl) ?_ ?_
      · intro wz sz
        unfold Oper.does
        go_simp
        try exact Save.refl _ _
      go_simp
      refine H.any_ (i := 10) (.int .i64 k) rfl (by kernel_rfl) (by kernel_rfl) (by kernel_rfl) rfl (by kernel_rfl) ?_ ?_
      · intro wz sz
        unfold Oper.does
        go_simp
        try exact Save.refl _ _
      go_simp
      refine H.any_ (i := 11) (.int .i64 pb) rfl (by kernel_rfl) (by kernel_rfl) (by kernel_rfl) rfl (by kernel_rfl) ?_ ?_
      · intro wz sz
        unfold Oper.does
        go_simp
        try exact Save.refl _ _
      go_simp
      refine H.any_ (i := 12) (.pointer (some ⟨g, pb * 4, none⟩)) rfl (by kernel_rfl) (by kernel_rfl) (by kernel_rfl) rfl (by kernel_rfl) ?_ ?_
      · intro wz sz
        unfold Oper.does
        go_simp
        try exact Save.refl _ _
      go_simp
      refine H.calm_ (i := 13) (.agg #[.int .i64 y.time, .int .i64 y.what, .int .i64 y.key, .bool y.on]) rfl (by kernel_rfl) (by kernel_rfl) (by kernel_rfl) rfl (by kernel_rfl) (by kernel_rfl) ?_ ?_
      · intro wz sz
        have hT := (HN.out.below sz.2 hlt).tb hyk
        rw [HXY.out.2] at hT
        obtain ⟨c0, c1, c2, c3⟩ := hT
        unfold Oper.does
        go_simp
        exact Save.refl _ _
      go_simp
      refine H.any_ (i := 14) (.slice (some ⟨g, 0, none⟩) L c) rfl (by kernel_rfl) (by kernel_rfl) (by kernel_rfl) rfl (by kernel_rfl) ?_ ?_
      · intro wz sz
        unfold Oper.does
        go_simp
        try exact Save.refl _ _
      go_simp
      refine H.any_ (i := 15) (.int .i64 a) rfl (by kernel_rfl) (by kernel_rfl) (by kernel_rfl) rfl (by kernel_rfl) ?_ ?_
      · intro wz sz
        unfold Oper.does
        go_simp
        try exact Save.refl _ _
      go_simp
      refine H.any_ (i := 16) (.int .i64 k) rfl (by kernel_rfl) (by kernel_rfl) (by kernel_rfl) rfl (by kernel_rfl) ?_ ?_
      · intro wz sz
        unfold Oper.does
        go_simp
        try exact Save.refl _ _
      go_simp
      refine H.any_ (i := 17) (.int .i64 pa) rfl (by kernel_rfl) (by kernel_rfl) (by kernel_rfl) rfl (by kernel_rfl) ?_ ?_
      · intro wz sz
        unfold Oper.does
        go_simp
        try exact Save.refl _ _
      go_simp
      refine H.any_ (i := 18) (.pointer (some ⟨g, pa * 4, none⟩)) rfl (by kernel_rfl) (by kernel_rfl) (by kernel_rfl) rfl (by kernel_rfl) ?_ ?_
      · intro wz sz
        unfold Oper.does
        go_simp
        try exact Save.refl _ _
      go_simp
      refine H.calm_ (i := 19) (.agg #[.int .i64 x.time, .int .i64 x.what, .int .i64 x.key, .bool x.on]) rfl (by kernel_rfl) (by kernel_rfl) (by kernel_rfl) rfl (by kernel_rfl) (by kernel_rfl) ?_ ?_
      · intro wz sz
        have hT := (HN.out.below sz.2 hlt).tb hxk
        rw [HXY.out.1] at hT
        obtain ⟨c0, c1, c2, c3⟩ := hT
        unfold Oper.does
        go_simp
        exact Save.refl _ _
      go_simp
      refine H.any_ (i := 20) (.pointer (some ⟨g, pa * 4, none⟩)) rfl (by kernel_rfl) (by kernel_rfl) (by kernel_rfl) rfl (by kernel_rfl) ?_ ?_
      · intro wz sz
        unfold Oper.does
        go_simp
        try exact Save.refl _ _
      go_simp
      refine H.store_ [21] (by kernel_rfl) (by simp) ?_
      intro i hi
      obtain rfl : i = 21 := by simpa using hi
      refine H.one_ rfl rfl (by intro t ht; simp only [Bool.or_eq_true, beq_iff_eq] at ht; rcases ht with rfl | rfl <;> kernel_rfl) (by kernel_rfl) ?_
      intro wz sz
      have hB : SW wz g X N := HN.out.below sz.2 hlt
      obtain ⟨c0, c1, c2, c3⟩ := hB.tb (k := pa) (by omega)
      have f0 := hB.free (pa * 4)
      have f1 := hB.free (pa * 4 + 1)
      have f2 := hB.free (pa * 4 + 2)
      have f3 := hB.free (pa * 4 + 3)
      unfold Oper.does
      go_simp
      refine ⟨M.But wr g (SWo X (N.set pa y)), ⟨hlt, Save.trans (Save.of_below sz.2) (save_putT wz g pa y), hB.put (by omega) y⟩, M.closed_but _ _ _, M.But.weaken (fun o ho => ⟨_, by simpa using hNL, ho⟩), ?_⟩
      clear c0 c1 c2 c3 f0 f1 f2 f3 hB sz
      go_simp
      refine H.any_ (i := 22) (.pointer (some ⟨g, pb * 4, none⟩)) rfl (by kernel_rfl) (by kernel_rfl) (by kernel_rfl) rfl (by kernel_rfl) ?_ ?_
      · intro wz sz
        unfold Oper.does
        go_simp
        try exact Save.refl _ _
      go_simp
      refine H.store_ [23] (by kernel_rfl) (by simp) ?_
      intro i hi
      obtain rfl : i = 23 := by simpa using hi
      refine H.one_ rfl rfl (by intro t ht; simp only [Bool.or_eq_true, beq_iff_eq] at ht; rcases ht with rfl | rfl <;> kernel_rfl) (by kernel_rfl) ?_
      intro wz sz
      have hB : SW wz g X (N.set pa y) := sz.2.2
      obtain ⟨c0, c1, c2, c3⟩ := hB.tb (k := pb) (by simp; omega)
      have f0 := hB.free (pb * 4)
      have f1 := hB.free (pb * 4 + 1)
      have f2 := hB.free (pb * 4 + 2)
      have f3 := hB.free (pb * 4 + 3)
      unfold Oper.does
      go_simp
      refine ⟨M.But wr g (SWo X ((N.set pa y).set pb x)), sz.step (save_putT wz g pb x) (hB.put (by simp; omega) x), M.closed_but _ _ _, M.But.weaken (fun o ho => ⟨_, by simpa using hNL, ho⟩), ?_⟩
      clear c0 c1 c2 c3 f0 f1 f2 f3 hB sz
      go_simp
      refine H.end_ (by kernel_rfl) ?_
      intro we se
      have HWe : Hid (SW we g X (sw (k + 1))) := Lib.hid (by rw [HSk.out]; exact se.2.2)
      have HVe := Lib.hid (HV.out.trans se.2.1)
      clear se HN HV HXY
      go_wp2_with fail
      exact ⟨⟨k + 1, by omega, by go_num, HWe.out, HVe.out⟩, by simp [intOf]; omega⟩
    · obtain rfl : k = n := by omega
      clear HS HLn H0
      go_wp2_with fail
      go_end0
      exact ⟨rfl, HN.out, HV.out⟩
end Go.Proofs.Ytdmjfadeffcidaa
