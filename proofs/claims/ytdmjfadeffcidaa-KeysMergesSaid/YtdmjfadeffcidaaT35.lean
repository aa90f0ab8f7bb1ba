
/- KeysMerges. -/
import Derived.Test.YtdmjfadeffcidaaT34
namespace Go.Proofs.Ytdmjfadeffcidaa
open Go.RowKit
set_option linter.unusedSimpArgs false
set_option linter.unusedVariables false
set_option maxRecDepth 100000

set_option maxHeartbeats 16000000 in
theorem walk_KeysMerges (w : World) (A1 : Option Addr) (c1 n1 : Nat) (l1 : List Tc) (hn1 : n1 = l1.length) (hl1 : TsAt w w.heap.size A1 l1 ∧ n1 ≤ c1 ∧ c1 ≤ maxLen ∧ (∀ x ∈ l1, x.wf) ∧ (A1 = none → c1 = 0)) (A2 : Option Addr) (c2 n2 : Nat) (l2 : List Tc) (hn2 : n2 = l2.length) (hl2 : TsAt w w.heap.size A2 l2 ∧ n2 ≤ c2 ∧ c2 ≤ maxLen ∧ (∀ x ∈ l2, x.wf) ∧ (A2 = none → c2 = 0)) (t : Int) (wt : (Lit.int .i64 t).wf = true) :
    Calls Try.prog 8 #[.slice A1 n1 c1, .slice A2 n2 c2, .int .i64 t] w fun e w' => e = .returned (.bool true) ∧ Below w.heap.size w w' := by
  subst hn1 hn2
  obtain ⟨ht1, k1, m1, w1, z1⟩ := hl1
  obtain ⟨ht2, k2, m2, w2, z2⟩ := hl2
  have HLv := Lib.hid (fun w => lives17_any w)
  have HCk1 := Lib.hid (fun (w1 : World) (hb : Below w.heap.size w w1) => check_any w1 A1 c1 l1 (ht1.on hb hb.size) ⟨k1, m1⟩)
  have HCk2 := Lib.hid (fun (w1 : World) (hb : Below w.heap.size w w1) => check_any w1 A2 c2 l2 (ht2.on hb hb.size) ⟨k2, m2⟩)
  by_cases hlong : 60 < l1.length ∨ (l1.length ≤ 60 ∧ 60 < l2.length)
  · clear ht1 ht2 w1 w2 z1 z2 HCk1 HCk2
    unfold maxLen at m1 m2
    rcases hlong with hlong | ⟨hq, hlong⟩
    all_goals
      go_enter Try.func8, Try.ntmps8
      go_wp2_with fail
      refine (HLv.out w).mono ?_
      rintro e w1 ⟨rfl, hb⟩
      go_wp2_with fail
      go_ret
      exact ⟨rfl, hb⟩
  · have hq1 : l1.length ≤ 60 := by omega
    have hq2 : l2.length ≤ 60 := by omega
    clear hlong
    by_cases hg1 : Good l1
    · have he1 : errL l1 = 0 := errL_zero.2 hg1
      simp only [he1] at HCk1
      clear he1
      by_cases hg2 : Good l2
      · have he2 : errL l2 = 0 := errL_zero.2 hg2
        simp only [he2] at HCk2
        clear he2
        exact merges_good w A1 c1 l1 ht1 ⟨k1, m1⟩ w1 z1 A2 c2 l2 ht2 ⟨k2, m2⟩ w2 z2 t hq1 hq2 hg1 hg2
      · have hz : errL l2 ≠ 0 := fun h => hg2 (errL_zero.1 h)
        clear ht1 ht2 w1 w2 z1 z2 hg1 hg2
        unfold maxLen at m1 m2
        generalize errL l2 = z at *
        have hzb : (z != 0) = true := by simpa using hz
        clear hz
        go_enter Try.func8, Try.ntmps8
        go_wp2_with fail
        refine (HLv.out w).mono ?_
        rintro e w1 ⟨rfl, hb⟩
        have HB1 := Lib.hid hb
        clear hb
        go_wp2_with fail
        refine (HCk1.out w1 HB1.out).mono ?_
        rintro e w2 ⟨rfl, hb⟩
        have HB2 := Lib.hid (HB1.out.trans (hb.mono HB1.out.size))
        clear hb HB1
        go_wp2_with fail
        refine (HCk2.out w2 HB2.out).mono ?_
        rintro e w3 ⟨rfl, hb⟩
        have HB3 := Lib.hid (HB2.out.trans (hb.mono HB2.out.size))
        clear hb HB2
        go_wp2_with fail
        go_ret
        exact ⟨rfl, HB3.out⟩
    · have hz : errL l1 ≠ 0 := fun h => hg1 (errL_zero.1 h)
      clear ht1 ht2 w1 w2 z1 z2 hg1 HCk2
      unfold maxLen at m1 m2
      generalize errL l1 = z at *
      have hzb : (z != 0) = true := by simpa using hz
      clear hz
      go_enter Try.func8, Try.ntmps8
      go_wp2_with fail
      refine (HLv.out w).mono ?_
      rintro e w1 ⟨rfl, hb⟩
      have HB1 := Lib.hid hb
      clear hb
      go_wp2_with fail
      refine (HCk1.out w1 HB1.out).mono ?_
      rintro e w2 ⟨rfl, hb⟩
      have HB2 := Lib.hid (HB1.out.trans (hb.mono HB1.out.size))
      clear hb HB1
      go_wp2_with fail
      go_ret
      exact ⟨rfl, HB2.out⟩
end Go.Proofs.Ytdmjfadeffcidaa
