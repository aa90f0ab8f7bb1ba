/-  -/
import Derived.Test.YtofenjloieagaaaJ6
import Derived.Test.YtofenjloieagaaaZT9
import Derived.Deep.DeepCutAuto
namespace Go.Proofs.Ytofenjloieagaaa
open Go.RowKit
set_option linter.unusedSimpArgs false
set_option linter.unusedVariables false
set_option maxRecDepth 100000

theorem or42 (g : Nat) (w : World) (x y : Int) (h0 : w.cell? ⟨g, 0, none⟩ = some (.int .i64 x)) (h1 : w.cell? ⟨g, 1, none⟩ = some (.int .i64 y)) :
    Calls Try.prog 25 #[.slice (some ⟨g, 0, none⟩) 2 2] w fun e w' => e = .returned (.int .i64 (if x = 0 then y else x)) ∧ w = w' := by
  have H0 := Lib.hid h0
  have H1 := Lib.hid h1
  obtain ⟨z, hz⟩ : ∃ z, (if x = 0 then y else x) = z := ⟨_, rfl⟩
  rw [hz]
  have HZ0 := Lib.hid hz
  clear h0 h1 hz
  go_enter Try.func25, Try.ntmps25
  go_wp2_with fail
  go_loopw [5, 8] (fun _ i wr => ∃ k : Nat, k ≤ 2 ∧ i = .int .i64 k ∧ Hid ((1 ≤ k → x = 0) ∧ (2 ≤ k → y = 0)) ∧ w = wr) (fun _ i _ => 2 - (intOf i).toNat)
  case atStart => exact ⟨0, Nat.zero_le _, rfl, Lib.hid ⟨fun h => by omega, fun h => by omega⟩, rfl⟩
  case round =>
    obtain ⟨k, hk, rfl, HZ, rfl⟩ := hrel
    have hk3 : k = 0 ∨ k = 1 ∨ k = 2 := by omega
    rcases hk3 with rfl | rfl | rfl
    · have hc := H0.out
      by_cases hx : x = 0
      · have HX := Lib.hid hx
        have hb : (x != 0) = false := by simpa using hx
        clear hx
        go_wp2_with fail
        exact ⟨⟨1, by omega, rfl, Lib.hid ⟨fun _ => HX.out, fun h => by omega⟩, trivial⟩, by simp [intOf]⟩
      · have HX := Lib.hid hx
        have hb : (x != 0) = true := by simpa using hx
        clear hx
        go_wp2_with fail
        go_ret
        exact ⟨by rw [← HZ0.out, if_neg HX.out]; rfl, rfl⟩
    · have hc := H1.out
      have HX := Lib.hid (HZ.out.1 (Nat.le_refl _))
      by_cases hy : y = 0
      · have HY := Lib.hid hy
        have hb : (y != 0) = false := by simpa using hy
        clear hy
        go_wp2_with fail
        exact ⟨⟨2, by omega, rfl, Lib.hid ⟨fun _ => HX.out, fun _ => HY.out⟩, trivial⟩, by simp [intOf]⟩
      · have hb : (y != 0) = true := by simpa using hy
        clear hy
        go_wp2_with fail
        go_ret
        exact ⟨by rw [← HZ0.out, if_pos HX.out]; rfl, rfl⟩
    · have HX := Lib.hid (HZ.out.1 (by omega))
      have HY := Lib.hid (HZ.out.2 (by omega))
      go_wp2_with fail
      go_ret
      exact ⟨by rw [← HZ0.out, if_pos HX.out, HY.out]; rfl, rfl⟩
/-- Merge's error. -/
def errM (a b : List Tc) : Int := if errL a = 0 then (if errL b = 0 then (if 65536 < a.length + b.length then 3 else 0) else errL b) else errL a
theorem good_rising {l : List Tc} (h : Good l) : Rising l := by
  refine (rising_iff l).2 ?_
  have step : ∀ i, i + 1 < l.length → (l.getD i tcZ).time ≤ (l.getD (i + 1) tcZ).time := fun i hi => by
    have := (h.2 (i + 1) hi).2
    simpa [lastT] using this
  intro i j hij hj
  induction j with
  | zero => omega
  | succ j ih =>
    by_cases e : i = j
    · subst e; exact step i hj
    · have := ih (by omega) (by omega)
      have := step j hj
      omega

set_option maxHeartbeats 4000000 in
theorem merge17_any (w : World) (A1 A2 : Option Addr) (c1 c2 : Nat) (l1 l2 : List Tc) (h1 : TsAt w w.heap.size A1 l1) (h2 : TsAt w w.heap.size A2 l2) (n1 : A1 = none → c1 = 0) (n2 : A2 = none → c2 = 0) (k1 : l1.length ≤ c1 ∧ c1 ≤ maxLen) (k2 : l2.length ≤ c2 ∧ c2 ≤ maxLen) :
    Calls Try.prog 5 #[.slice A1 l1.length c1, .slice A2 l2.length c2] w (ListE w (errM l1 l2) (mergeL l1 l2)) := by
  have HK1 := Lib.hid (fun (w1 : World) (hb : Below w.heap.size w w1) => check_any w1 A1 c1 l1 ((h1.below hb).more hb.size) k1)
  have HK2 := Lib.hid (fun (w1 : World) (hb : Below w.heap.size w w1) => check_any w1 A2 c2 l2 ((h2.below hb).more hb.size) k2)
  have HO : Hid (∀ (e1 e2 : Int) (w1 : World), Calls Try.prog 25 #[.slice (some ⟨w1.heap.size, 0, none⟩) 2 2] (w1.alloc (.cells #[.int .i64 e1, .int .i64 e2] 25)) fun e w' => e = .returned (.int .i64 (if e1 = 0 then e2 else e1)) ∧ (w1.alloc (.cells #[.int .i64 e1, .int .i64 e2] 25)) = w') :=
    Lib.hid fun e1 e2 w1 => or42 _ _ _ _ (by rw [World.cell?_alloc_at _ _ _ _ rfl]; rfl) (by rw [World.cell?_alloc_at _ _ _ _ rfl]; rfl)
  have hm1 := k1.2; have hm2 := k2.2; have hl1 := k1.1; have hl2 := k2.1
  unfold maxLen at hm1 hm2
  by_cases he1 : errL l1 = 0
  · by_cases he2 : errL l2 = 0
    · have hq1 : l1.length ≤ 65536 := (errL_zero.1 he1).1
      have hq2 : l2.length ≤ 65536 := (errL_zero.1 he2).1
      by_cases hlong : 65536 < l1.length + l2.length
      · have he : errM l1 l2 = 3 := by unfold errM; rw [if_pos he1, if_pos he2, if_pos hlong]
        rw [he]
        rw [he1] at HK1
        rw [he2] at HK2
        have HO0 := Lib.hid (fun w1 => by have := HO.out 0 0 w1; rw [if_pos rfl] at this; exact this)
        clear HO he he1 he2 h1 h2 n1 n2 k1 k2
        generalize mergeL l1 l2 = ml at *
        unfold ListE
        go_enter Try.func5, Try.ntmps5
        go_wp2_with fail
        refine (HK1.out w (Below.refl _ _)).mono ?_
        rintro e w1 ⟨rfl, hb⟩
        have HB1 := Lib.hid hb
        clear hb HK1
        go_wp2_with fail
        refine (HK2.out w1 HB1.out).mono ?_
        rintro e w2 ⟨rfl, hb⟩
        have HB2 := Lib.hid (HB1.out.trans (hb.mono HB1.out.size))
        clear hb HB1 HK2
        go_wp2_with fail
        refine (HO0.out w2).mono ?_
        rintro e w3 ⟨rfl, hw3⟩
        have HB3 : Hid (Below w.heap.size w w3) := Lib.hid (by rw [← hw3]; exact HB2.out.alloc HB2.out.size _)
        clear hw3 HB2 HO0
        go_wp2_with fail
        go_ret2
        exact ⟨⟨_, rfl, by first | exact World.ownsRow_nil _ _ _ _ | (rw [if_neg (by decide)]; exact World.ownsRow_nil _ _ _ _)⟩, HB3.out⟩
      · have he : errM l1 l2 = 0 := by unfold errM; rw [if_pos he1, if_pos he2, if_neg hlong]
        rw [he]
        rw [he1] at HK1
        rw [he2] at HK2
        have HO0 := Lib.hid (fun w1 => by have := HO.out 0 0 w1; rw [if_pos rfl] at this; exact this)
        have HCc := Lib.hid (fun (w1 : World) (hb : Below w.heap.size w w1) => concatT2 A1 A2 c1 c2 l1 l2 w1 ((h1.below hb).more hb.size) ((h2.below hb).more hb.size) n1 n2 (by omega))
        have HMe := Lib.hid (fun (N : List Tc) (hs : Stable (l1 ++ l2) N) (hr : Rising N) => merge_is (good_rising (errL_zero.1 he1)) (good_rising (errL_zero.1 he2)) hs hr)
        have HLn : Hid ((l1 ++ l2).length ≤ 1000000) := Lib.hid (by rw [List.length_append]; omega)
        clear HO he he1 he2 h1 h2 n1 n2 k1 k2
        generalize mergeL l1 l2 = ml at *
        obtain ⟨ll, hll⟩ : ∃ ll, l1 ++ l2 = ll := ⟨_, rfl⟩
        rw [hll] at HCc HMe HLn
        clear hll
        unfold ListE
        go_enter Try.func5, Try.ntmps5
        go_wp2_with fail
        refine (HK1.out w (Below.refl _ _)).mono ?_
        rintro e w1 ⟨rfl, hb⟩
        have HB1 := Lib.hid hb
        clear hb HK1
        go_wp2_with fail
        refine (HK2.out w1 HB1.out).mono ?_
        rintro e w2 ⟨rfl, hb⟩
        have HB2 := Lib.hid (HB1.out.trans (hb.mono HB1.out.size))
        clear hb HB1 HK2
        go_wp2_with fail
        refine (HO0.out w2).mono ?_
        rintro e w3 ⟨rfl, hw3⟩
        have HB3 : Hid (Below w.heap.size w w3) := Lib.hid (by rw [← hw3]; exact HB2.out.alloc HB2.out.size _)
        clear hw3 HB2 HO0
        go_wp2_with fail
        refine (HCc.out w3 HB3.out).mono ?_
        rintro e w4 ⟨v, rfl, ho, hb⟩
        have HO4 := Lib.hid ho
        have HS4 := Lib.hid hb
        have HB4 := Lib.hid (HB3.out.trans (hb.mono HB3.out.size))
        clear ho hb HCc
        go_wp2_with fail
        refine (sortstable_any w4 w3.heap.size v ll HO4.out HS4.out.size HLn.out).mono ?_
        rintro e w5 ⟨rfl, N, hst, hr, ho, hb⟩
        obtain rfl := HMe.out N hst hr
        have HO5 := Lib.hid (ownsRow_base_a ho HB3.out.size)
        have HB5 := Lib.hid (HB4.out.trans (hb.mono HB3.out.size))
        clear hst hr ho hb HMe HO4 HS4 HB4 HB3 HLn
        go_wp2_with fail
        go_ret2
        exact ⟨⟨_, rfl, by first | exact HO5.out | (rw [if_pos rfl]; exact HO5.out)⟩, HB5.out⟩
    · have he : errM l1 l2 = errL l2 := by unfold errM; rw [if_pos he1, if_neg he2]
      rw [he]
      rw [he1] at HK1
      obtain ⟨z, hz⟩ : ∃ z, errL l2 = z := ⟨_, rfl⟩
      rw [hz] at he2 HK2 ⊢
      have HO0 := Lib.hid (fun w1 => by have := HO.out 0 z w1; rw [if_pos rfl] at this; exact this)
      have HZ := Lib.hid he2
      have hne : (z != 0) = true := by simpa using he2
      clear HO he hz he1 he2 h1 h2 n1 n2 k1 k2
      generalize mergeL l1 l2 = ml at *
      unfold ListE
      go_enter Try.func5, Try.ntmps5
      go_wp2_with fail
      refine (HK1.out w (Below.refl _ _)).mono ?_
      rintro e w1 ⟨rfl, hb⟩
      have HB1 := Lib.hid hb
      clear hb HK1
      go_wp2_with fail
      refine (HK2.out w1 HB1.out).mono ?_
      rintro e w2 ⟨rfl, hb⟩
      have HB2 := Lib.hid (HB1.out.trans (hb.mono HB1.out.size))
      clear hb HB1 HK2
      go_wp2_with fail
      refine (HO0.out w2).mono ?_
      rintro e w3 ⟨rfl, hw3⟩
      have HB3 : Hid (Below w.heap.size w w3) := Lib.hid (by rw [← hw3]; exact HB2.out.alloc HB2.out.size _)
      clear hw3 HB2 HO0
      go_wp2_with fail
      go_ret2
      exact ⟨⟨_, rfl, by first | exact World.ownsRow_nil _ _ _ _ | (rw [if_neg HZ.out]; exact World.ownsRow_nil _ _ _ _)⟩, HB3.out⟩
  · have he : errM l1 l2 = errL l1 := by unfold errM; rw [if_neg he1]
    rw [he]
    obtain ⟨z, hz⟩ : ∃ z, errL l1 = z := ⟨_, rfl⟩
    rw [hz] at he1 HK1 ⊢
    obtain ⟨z2, hz2⟩ : ∃ z, errL l2 = z := ⟨_, rfl⟩
    rw [hz2] at HK2
    have HO0 := Lib.hid (fun w1 => by have := HO.out z z2 w1; rw [if_neg he1] at this; exact this)
    have HZ := Lib.hid he1
    have hne : (z != 0) = true := by simpa using he1
    clear HO he hz hz2 he1 h1 h2 n1 n2 k1 k2
    generalize mergeL l1 l2 = ml at *
    unfold ListE
    go_enter Try.func5, Try.ntmps5
    go_wp2_with fail
    refine (HK1.out w (Below.refl _ _)).mono ?_
    rintro e w1 ⟨rfl, hb⟩
    have HB1 := Lib.hid hb
    clear hb HK1
    go_wp2_with fail
    refine (HK2.out w1 HB1.out).mono ?_
    rintro e w2 ⟨rfl, hb⟩
    have HB2 := Lib.hid (HB1.out.trans (hb.mono HB1.out.size))
    clear hb HB1 HK2
    go_wp2_with fail
    refine (HO0.out w2).mono ?_
    rintro e w3 ⟨rfl, hw3⟩
    have HB3 : Hid (Below w.heap.size w w3) := Lib.hid (by rw [← hw3]; exact HB2.out.alloc HB2.out.size _)
    clear hw3 HB2 HO0
    go_wp2_with fail
    go_ret2
    exact ⟨⟨_, rfl, by first | exact World.ownsRow_nil _ _ _ _ | (rw [if_neg HZ.out]; exact World.ownsRow_nil _ _ _ _)⟩, HB3.out⟩
end Go.Proofs.Ytofenjloieagaaa
