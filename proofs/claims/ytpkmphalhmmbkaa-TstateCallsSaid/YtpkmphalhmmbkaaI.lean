
/- A spot's time: onScreen, Time. -/
import Derived.Test.YtpkmphalhmmbkaaX5
namespace Go.Proofs.Ytpkmphalhmmbkaa
open Go.RowKit

def onB (s : Scr) (f l c : Int) : Prop := 0 ≤ f ∧ 0 ≤ l ∧ l < s.lines ∧ 0 ≤ c ∧ c < s.columns

set_option maxHeartbeats 2000000 in
set_option maxRecDepth 100000 in
theorem onScreen_any (w : World) (s : Scr) (f l c : Int) : Calls Try.prog 61 #[s.val, spotV f l c] w fun e w' => Tells e (onB s f l c) ∧ Below w.heap.size w w' := by
  unfold Scr.val spotV
  go_enter Try.func61, Try.ntmps61
  by_cases h1 : 0 ≤ f
  · by_cases h2 : 0 ≤ l
    · by_cases h3 : l < s.lines
      · by_cases h4 : 0 ≤ c
        · by_cases h5 : c < s.columns
          · go_wp2_with fail
            go_ret
            exact ⟨⟨_, rfl, by simp [onB, h1, h2, h3, h4, h5]⟩, ((Below.refl _ _).alloc (Nat.le_refl _) _).alloc (by simp) _⟩
          · go_wp2_with fail
            go_ret
            exact ⟨⟨_, rfl, ⟨fun h => absurd h Bool.false_ne_true, fun h => by unfold onB at h; omega⟩⟩, ((Below.refl _ _).alloc (Nat.le_refl _) _).alloc (by simp) _⟩
        · go_wp2_with fail
          go_ret
          exact ⟨⟨_, rfl, ⟨fun h => absurd h Bool.false_ne_true, fun h => by unfold onB at h; omega⟩⟩, ((Below.refl _ _).alloc (Nat.le_refl _) _).alloc (by simp) _⟩
      · go_wp2_with fail
        go_ret
        exact ⟨⟨_, rfl, ⟨fun h => absurd h Bool.false_ne_true, fun h => by unfold onB at h; omega⟩⟩, ((Below.refl _ _).alloc (Nat.le_refl _) _).alloc (by simp) _⟩
    · go_wp2_with fail
      go_ret
      exact ⟨⟨_, rfl, ⟨fun h => absurd h Bool.false_ne_true, fun h => by unfold onB at h; omega⟩⟩, ((Below.refl _ _).alloc (Nat.le_refl _) _).alloc (by simp) _⟩
  · go_wp2_with fail
    go_ret
    exact ⟨⟨_, rfl, ⟨fun h => absurd h Bool.false_ne_true, fun h => by unfold onB at h; omega⟩⟩, ((Below.refl _ _).alloc (Nat.le_refl _) _).alloc (by simp) _⟩

def timeOk (s : Scr) (f l c : Int) : Prop := s.May ∧ onB s f l c ∧ f * s.len + l * s.columns + c ≤ 1099511627776

set_option maxHeartbeats 2000000 in
set_option maxRecDepth 100000 in
theorem time_any (w : World) (s : Scr) (f l c : Int) : Calls Try.prog 13 #[s.val, spotV f l c] w fun e w' => ((timeOk s f l c → e = .returned (.tuple #[.int .i64 (f * s.len + l * s.columns + c), .int .i64 0])) ∧ (¬ timeOk s f l c → e = .returned (.tuple #[.int .i64 0, .int .i64 2]))) ∧ Below w.heap.size w w' := by
  have hval : s.val = .agg #[.int .i64 s.lines, .int .i64 s.columns, .int .i64 s.top, .int .i64 s.rows, .int .i64 s.left, .int .i64 s.wide, .int .i64 s.pulse] := rfl
  have hvs : spotV f l c = .agg #[.int .i64 f, .int .i64 l, .int .i64 c] := rfl
  rw [hval, hvs]
  have HV := Lib.hid hval
  have HVS := Lib.hid hvs
  clear hval hvs
  go_enter Try.func13, Try.ntmps13
  go_wp2_with fail
  rw [← HV.out]
  refine (length_any _ s).mono ?_
  rintro e w2 ⟨rfl, hb⟩
  have hB : Below w.heap.size w w2 := (((Below.refl _ _).alloc (Nat.le_refl _) _).alloc (by simp) _).trans (hb.mono (by simp; omega))
  have hS : SB w2 w.heap.size s := SB.laid s ((((Below.refl _ _).alloc (by simp) _)).trans (hb.mono (by simp)))
  have hP : SP w2 (w.heap.size + 1) f l c := by
    have := SP.laid (w := w.alloc (.cells #[.int .i64 s.lines, .int .i64 s.columns, .int .i64 s.top, .int .i64 s.rows, .int .i64 s.left, .int .i64 s.wide, .int .i64 s.pulse] 23)) f l c (hb.mono (by simp))
    simpa using this
  have hw2 : w.heap.size + 1 < w2.heap.size := by have := hb.size; simp at this; omega
  clear hb
  by_cases hm : s.May
  · obtain ⟨hl, hl0, hl1⟩ := Scr.len_may hm
    have hC := hm 1 (by omega)
    have hL := hm 0 (by omega)
    simp only [Scr.asks] at hC hL
    obtain ⟨L, hLe⟩ : ∃ L, s.len = L := ⟨_, rfl⟩
    rw [hLe] at hl hl0 hl1
    rw [hLe]
    have HLE := Lib.hid hLe
    have HLL := Lib.hid hl
    clear hl hLe
    have hne : ¬ L = 0 := by omega
    have hneb : (L == 0) = false := by simpa using hne
    obtain ⟨c0, c1, c2, c3, c4, c5, c6⟩ := hS
    have hS : SB w2 w.heap.size s := ⟨c0, c1, c2, c3, c4, c5, c6⟩
    obtain ⟨d0, d1, d2⟩ := hP
    have hP : SP w2 (w.heap.size + 1) f l c := ⟨d0, d1, d2⟩
    go_wp2_with fail
    clear c0 c1 c2 c3 c4 c5 c6 d0 d1 d2
    rw [← HV.out, ← HVS.out]
    refine (onScreen_any w2 s f l c).mono ?_
    rintro e w3 ⟨⟨r, rfl, hr⟩, hb⟩
    have hS3 := hS.below hb (by omega)
    have hP3 := hP.below hb (by omega)
    have hB3 := hB.trans (hb.mono hB.size)
    clear hb hS hP hB
    cases r with
    | false =>
      have hno := Lib.hid (show ¬ timeOk s f l c from fun h => Bool.false_ne_true (hr.2 h.2.1))
      clear hr
      go_wp2_with fail
      go_ret2
      exact ⟨⟨fun h => absurd h hno.out, fun _ => rfl⟩, hB3⟩
    | true =>
      have hon := hr.1 rfl
      clear hr
      obtain ⟨f0, l0, l1, k0, k1⟩ := hon
      have HON := Lib.hid (show onB s f l c from ⟨f0, l0, l1, k0, k1⟩)
      have hq : (1099511627776 : Int).tdiv L = 1099511627776 / L := Int.tdiv_eq_ediv_of_nonneg (by omega)
      obtain ⟨q, hqe⟩ : ∃ q, (1099511627776 : Int) / L = q := ⟨_, rfl⟩
      have hqd : 1099511627776 = q * L + 1099511627776 % L := by have := Int.mul_ediv_add_emod 1099511627776 L; rw [hqe, Int.mul_comm] at this; omega
      have hr0 : 0 ≤ (1099511627776 : Int) % L := Int.emod_nonneg _ (by omega)
      have hr1 : (1099511627776 : Int) % L < L := Int.emod_lt_of_pos _ (by omega)
      have q0 : 0 ≤ (1099511627776 : Int) / L := Int.ediv_nonneg (by omega) (by omega)
      have q1 : (1099511627776 : Int) / L ≤ 1099511627776 := Int.ediv_le_self L (by omega)
      rw [hqe] at hq q0 q1
      clear hqe
      obtain ⟨c0, c1, c2, c3, c4, c5, c6⟩ := hS3
      obtain ⟨d0, d1, d2⟩ := hP3
      have b0 : 0 ≤ l * s.columns := Int.mul_nonneg l0 (by omega)
      have b1 : l * s.columns ≤ 160000 := by have := Int.mul_le_mul (show l ≤ 400 by omega) hC.2 (by omega) (by omega); omega
      have a0 : 0 ≤ f * L := Int.mul_nonneg f0 (by omega)
      by_cases hf : q < f
      · have hno := Lib.hid (show ¬ timeOk s f l c from fun h => by
          have h3 := h.2.2
          rw [HLE.out] at h3
          have h4 := Int.mul_le_mul (show q + 1 ≤ f by omega) (Int.le_refl L) (by omega) (by omega)
          rw [Int.add_mul] at h4
          omega)
        clear hqd hr0 hr1
        go_upto_region 4 with fail
        go_region
        all_goals (try go_wp2_with fail)
        all_goals go_ret2
        all_goals exact ⟨⟨fun h => absurd h hno.out, fun _ => rfl⟩, hB3.drew⟩
      · have a1 : f * L ≤ 1099511627776 := by
          have h4 := Int.mul_le_mul (show f ≤ q by omega) (Int.le_refl L) (by omega) (by omega)
          omega
        clear hqd hr0 hr1
        have HAA := Lib.hid (show f * s.len + l * s.columns + c = f * L + l * s.columns + c by rw [HLE.out])
        by_cases hgt : 1099511627776 < f * L + l * s.columns + c
        · have hno := Lib.hid (show ¬ timeOk s f l c from fun h => by have := h.2.2; rw [HAA.out] at this; omega)
          go_upto_region 4 with fail
          go_region
          all_goals (try go_wp2_with fail)
          all_goals go_ret2
          all_goals exact ⟨⟨fun h => absurd h hno.out, fun _ => rfl⟩, hB3.drew⟩
        · have hyes := Lib.hid (show timeOk s f l c from ⟨hm, HON.out, by rw [HAA.out]; omega⟩)
          go_upto_region 4 with fail
          go_region
          all_goals (try go_wp2_with fail)
          all_goals go_ret2
          all_goals exact ⟨⟨fun _ => by rw [HAA.out]; rfl, fun h => absurd hyes.out h⟩, hB3.drew⟩
  · have hno := Lib.hid (show ¬ timeOk s f l c from fun h => hm h.1)
    rw [Scr.len_not hm]
    go_wp2_with fail
    go_ret2
    exact ⟨⟨fun h => absurd h hno.out, fun _ => rfl⟩, hB⟩
end Go.Proofs.Ytpkmphalhmmbkaa
