
/- RasterOnce. -/
import Derived.Test.YtlghfngomiiclaaVA
namespace Go.Proofs.Ytlghfngomiiclaa
open Go.RowKit
set_option linter.unusedSimpArgs false
set_option linter.unusedVariables false
set_option maxRecDepth 100000

/-- What is drawn of the frame, and all that the walk asks. -/
structure Onc (s : Scr) (x y F L : Int) : Prop where
  hm : s.May
  hl : s.len = L
  f0 : 0 ≤ F
  f1 : F ≤ 1000
  x0 : -9223372036854775808 ≤ x ∧ x ≤ 9223372036854775807
theorem Onc.len {s : Scr} {x y F L : Int} (h : Onc s x y F L) : (8 ≤ L ∧ L ≤ 160000) ∧ (0 ≤ F * L ∧ F * L ≤ 160000000) ∧ (0 ≤ (F + 1) * L ∧ (F + 1) * L ≤ 160160000) := by
  obtain ⟨_, h0, h1⟩ := Scr.len_may h.hm
  rw [h.hl] at h0 h1
  have := h.f0
  have a := Int.mul_nonneg h.f0 (show 0 ≤ L by omega)
  have b := Int.mul_le_mul h.f1 h1 (by omega) (by omega)
  have c := Int.mul_nonneg (show 0 ≤ F + 1 by omega) (show 0 ≤ L by omega)
  have d := Int.mul_le_mul (show F + 1 ≤ 1001 by have := h.f1; omega) h1 (by omega) (by omega)
  omega
theorem Onc.at {s : Scr} {x y F L : Int} (h : Onc s x y F L) (o G : Int) (h0 : 0 ≤ o) (h1 : o < L) (g : G = F ∨ G = F + 1) (w : World) : Calls Try.prog 10 #[s.val, .int .i64 (o + G * L)] w fun e w' => e = .returned (.tuple #[bmV (beamB s o).1 (beamB s o).2.1 (beamB s o).2.2, .int .i64 0]) ∧ Below w.heap.size w w' := by
  obtain ⟨hL, hP, hQ⟩ := h.len
  have hb : 0 ≤ o + G * L ∧ o + G * L ≤ 1099511627776 := by rcases g with rfl | rfl <;> omega
  have := at_yes w s (o + G * L) h.hm hb.1 hb.2
  rw [← h.hl, beam_frame, h.hl] at this
  exact this

set_option maxHeartbeats 8000000 in
theorem once_out (w : World) (s : Scr) (x y F o L : Int) (hk : Onc s x y F L) (hn : ¬ IsS s x y) (ho : -9223372036854775808 ≤ o ∧ o ≤ 9223372036854775807) :
    Calls Try.prog 5 #[s.val, .int .i64 x, .int .i64 y, .int .i64 F, .int .i64 o] w fun e w' => e = .returned (.bool true) ∧ Below w.heap.size w w' := by
  obtain ⟨hL, hP, hQ⟩ := hk.len
  have hCk := fun w => rcheck_yes s hk.hm w
  have hLn := fun w => rlen_any w s
  have hW := fun w => when_no s hk.hm x y hn w
  have hA := fun (q G : Int) a b c (w : World) => hk.at q G a b c w
  have hN : ∀ q d x2 y2, 0 ≤ q → q < L → beamB s q = (d, x2, y2) → ¬ (d = 1 ∧ x2 = x ∧ y2 = y) := fun q d x2 y2 a b c e => hn (by
    obtain ⟨rfl, rfl, rfl⟩ := e
    exact (when_of hk.hm a (by rw [hk.hl]; exact b) c (.inl rfl)).1)
  rw [hk.hl] at hLn
  have f0 := hk.f0
  have f1 := hk.f1
  obtain ⟨L0, L1⟩ := hL
  obtain ⟨P0, P1⟩ := hP
  obtain ⟨Q0, Q1⟩ := hQ
  have hne : ¬ L = 0 := by omega
  have hneb : (L == 0) = false := by simpa using hne
  have hNS := Lib.hid hn
  have HA := Lib.hid hA
  have HN := Lib.hid hN
  clear hn hA hN hk
  unfold Scr.val
  go_enter Try.func5, Try.ntmps5
  go_wp2_with fail
  refine (lives15_any _).mono ?_
  rintro e w1 ⟨rfl, hb⟩
  obtain ⟨hB1, hS1, hl1⟩ := SB.boxed hb
  clear hb
  obtain ⟨c0, c1, c2, c3, c4, c5, c6⟩ := hS1
  have hS1 : SB w1 w.heap.size s := ⟨c0, c1, c2, c3, c4, c5, c6⟩
  go_wp2_with fail
  refine (hCk _).mono ?_
  rintro e w2 ⟨rfl, hb⟩
  have hS2 := hS1.below hb hl1
  have hB2 := hB1.trans (hb.mono hB1.size)
  have hl2 : w.heap.size < w2.heap.size := by have := hb.size; omega
  clear hb hS1 c0 c1 c2 c3 c4 c5 c6
  obtain ⟨c0, c1, c2, c3, c4, c5, c6⟩ := hS2
  have hS2 : SB w2 w.heap.size s := ⟨c0, c1, c2, c3, c4, c5, c6⟩
  go_wp2_with fail
  refine (hLn _).mono ?_
  rintro e w3 ⟨rfl, hb⟩
  have hS3 := hS2.below hb hl2
  have hB3 := hB2.trans (hb.mono hB2.size)
  have hl3 : w.heap.size < w3.heap.size := by have := hb.size; omega
  clear hb hS2 c0 c1 c2 c3 c4 c5 c6
  obtain ⟨c0, c1, c2, c3, c4, c5, c6⟩ := hS3
  have hS3 : SB w3 w.heap.size s := ⟨c0, c1, c2, c3, c4, c5, c6⟩
  go_wp2_with fail
  refine (pick_any _ L w3 (by omega) (by omega)).mono ?_
  rintro e w3b ⟨⟨r, rfl, r0, r1⟩, rfl⟩
  go_wp2_with fail
  refine (hW _).mono ?_
  rintro e w4 ⟨rfl, hb⟩
  have hS4 := hS3.below hb hl3
  have hB4 := hB3.trans (hb.mono hB3.size)
  have hl4 : w.heap.size < w4.heap.size := by have := hb.size; omega
  clear hb hS3 c0 c1 c2 c3 c4 c5 c6
  obtain ⟨c0, c1, c2, c3, c4, c5, c6⟩ := hS4
  have hS4 : SB w4 w.heap.size s := ⟨c0, c1, c2, c3, c4, c5, c6⟩
  go_upto_region 8 with fail
  go_cut [67] from 48 to 67 (fun c wx => c = .bool false ∧ wx = w4)
  case first =>
    have hways : x < 0 ∨ (0 ≤ x ∧ s.wide ≤ x) ∨ (0 ≤ x ∧ x < s.wide ∧ y < 0) ∨ (0 ≤ x ∧ x < s.wide ∧ 0 ≤ y ∧ s.rows ≤ y) := by
      have := hNS.out
      unfold IsS at this
      omega
    rcases hways with h | ⟨h, h'⟩ | ⟨h, h', h2⟩ | ⟨h, h', h2, h3⟩
    all_goals
      go_wp2_with fail
      go_meet
      first
        | exact ⟨rfl, rfl⟩
        | exact ⟨by rw [decide_eq_false (by omega)], rfl⟩
  case rest =>
    obtain ⟨rfl, rfl⟩ := hcut
    have hAr := fun w => HA.out r F r0 r1 (.inl rfl) w
    have hAs := fun w => HA.out r (F + 1) r0 r1 (.inr rfl) w
    obtain ⟨⟨d, x2, y2⟩, hg⟩ : ∃ g, beamB s r = g := ⟨_, rfl⟩
    have hno := HN.out r d x2 y2 r0 r1 hg
    simp only [hg] at hAr hAs
    clear hg HN HA
    go_wp2_with fail
    refine (hAr _).mono ?_
    rintro e w5 ⟨rfl, hb⟩
    have hS5 := hS4.below hb hl4
    have hB5 := hB4.trans (hb.mono hB4.size)
    have hl5 : w.heap.size < w5.heap.size := by have := hb.size; omega
    clear hb hS4 c0 c1 c2 c3 c4 c5 c6
    obtain ⟨c0, c1, c2, c3, c4, c5, c6⟩ := hS5
    have hS5 : SB w5 w.heap.size s := ⟨c0, c1, c2, c3, c4, c5, c6⟩
    go_wp2_with fail
    refine (hAs _).mono ?_
    rintro e w6 ⟨rfl, hb⟩
    have hP6 := BW.laid d x2 y2 hb
    obtain ⟨hB6, hl56⟩ := behind hB5 hb
    have p0 := hP6.c0
    have p1 := hP6.c1
    have p2 := hP6.c2
    clear hb hS5 c0 c1 c2 c3 c4 c5 c6
    have hways : ¬ d = 1 ∨ (d = 1 ∧ ¬ x2 = x) ∨ (d = 1 ∧ x2 = x ∧ ¬ y2 = y) := by omega
    rcases hways with h | ⟨rfl, h⟩ | ⟨rfl, rfl, h⟩
    · have h' : (d != 1) = true := by simpa using h
      go_wp2_with fail
      go_ret
      exact ⟨rfl, hB6.alloc hB6.size _⟩
    · have h' : (x2 != x) = true := by simpa using h
      go_wp2_with fail
      go_ret
      exact ⟨rfl, hB6.alloc hB6.size _⟩
    · have h' : (y2 != y) = true := by simpa using h
      go_wp2_with fail
      go_ret
      exact ⟨rfl, hB6.alloc hB6.size _⟩
set_option maxHeartbeats 8000000 in
theorem once_in (w : World) (s : Scr) (x y F o L : Int) (hk : Onc s x y F L) (hn : IsS s x y) (ho : -9223372036854775808 ≤ o ∧ o ≤ 9223372036854775807) :
    Calls Try.prog 5 #[s.val, .int .i64 x, .int .i64 y, .int .i64 F, .int .i64 o] w fun e w' => e = .returned (.bool true) ∧ Below w.heap.size w w' := by
  obtain ⟨hL, hP, hQ⟩ := hk.len
  have hCk := fun w => rcheck_yes s hk.hm w
  have hLn := fun w => rlen_any w s
  have hW := fun w => when_yes s hk.hm x y hn w
  have hA := fun (q G : Int) a b c (w : World) => hk.at q G a b c w
  have hT := when_is hk.hm hn
  have hN : ∀ q d x2 y2, 0 ≤ q → q < L → beamB s q = (d, x2, y2) → (d = 1 ∨ d = 2) → x2 = x → y2 = y → q = whenT s x y + (d - 1) := fun q d x2 y2 a b c e f g => by
    subst f
    subst g
    exact (when_of hk.hm a (by rw [hk.hl]; exact b) c e).2
  rw [hk.hl] at hLn
  have f0 := hk.f0
  have f1 := hk.f1
  obtain ⟨L0, L1⟩ := hL
  obtain ⟨P0, P1⟩ := hP
  obtain ⟨Q0, Q1⟩ := hQ
  have hne : ¬ L = 0 := by omega
  have hneb : (L == 0) = false := by simpa using hne
  rw [hk.hl] at hT
  generalize whenT s x y = T at *
  obtain ⟨⟨T0, T1⟩, hT1, hT2⟩ := hT
  obtain ⟨⟨x0, x1⟩, y0, y1⟩ := hn
  have hA1 := fun w => hA T F T0 (by omega) (.inl rfl) w
  have hA2 := fun w => hA (T + 1) F (by omega) T1 (.inl rfl) w
  simp only [hT1] at hA1
  simp only [hT2] at hA2
  have HT1 := Lib.hid hT1
  have HT2 := Lib.hid hT2
  clear hT1 hT2
  have HA := Lib.hid hA
  have HN := Lib.hid hN
  clear hA hN hk
  unfold Scr.val
  go_enter Try.func5, Try.ntmps5
  go_wp2_with fail
  refine (lives15_any _).mono ?_
  rintro e w1 ⟨rfl, hb⟩
  obtain ⟨hB1, hS1, hl1⟩ := SB.boxed hb
  clear hb
  obtain ⟨c0, c1, c2, c3, c4, c5, c6⟩ := hS1
  have hS1 : SB w1 w.heap.size s := ⟨c0, c1, c2, c3, c4, c5, c6⟩
  go_wp2_with fail
  refine (hCk _).mono ?_
  rintro e w2 ⟨rfl, hb⟩
  have hS2 := hS1.below hb hl1
  have hB2 := hB1.trans (hb.mono hB1.size)
  have hl2 : w.heap.size < w2.heap.size := by have := hb.size; omega
  clear hb hS1 c0 c1 c2 c3 c4 c5 c6
  obtain ⟨c0, c1, c2, c3, c4, c5, c6⟩ := hS2
  have hS2 : SB w2 w.heap.size s := ⟨c0, c1, c2, c3, c4, c5, c6⟩
  go_wp2_with fail
  refine (hLn _).mono ?_
  rintro e w3 ⟨rfl, hb⟩
  have hS3 := hS2.below hb hl2
  have hB3 := hB2.trans (hb.mono hB2.size)
  have hl3 : w.heap.size < w3.heap.size := by have := hb.size; omega
  clear hb hS2 c0 c1 c2 c3 c4 c5 c6
  obtain ⟨c0, c1, c2, c3, c4, c5, c6⟩ := hS3
  have hS3 : SB w3 w.heap.size s := ⟨c0, c1, c2, c3, c4, c5, c6⟩
  go_wp2_with fail
  refine (pick_any _ L w3 (by omega) (by omega)).mono ?_
  rintro e w3b ⟨⟨r, rfl, r0, r1⟩, rfl⟩
  go_wp2_with fail
  refine (hW _).mono ?_
  rintro e w4 ⟨rfl, hb⟩
  have hS4 := hS3.below hb hl3
  have hB4 := hB3.trans (hb.mono hB3.size)
  have hl4 : w.heap.size < w4.heap.size := by have := hb.size; omega
  clear hb hS3 c0 c1 c2 c3 c4 c5 c6
  obtain ⟨c0, c1, c2, c3, c4, c5, c6⟩ := hS4
  have hS4 : SB w4 w.heap.size s := ⟨c0, c1, c2, c3, c4, c5, c6⟩
  have hAr := fun w => HA.out r F r0 r1 (.inl rfl) w
  have hAs := fun w => HA.out r (F + 1) r0 r1 (.inr rfl) w
  obtain ⟨⟨d, x2, y2⟩, hg⟩ : ∃ g, beamB s r = g := ⟨_, rfl⟩
  have hno := HN.out r d x2 y2 r0 r1 hg
  simp only [hg] at hAr hAs
  have hyes1 : r = T → d = 1 ∧ x2 = x ∧ y2 = y := fun e => by
    subst e
    have := hg.symm.trans HT1.out
    rw [Prod.mk.injEq, Prod.mk.injEq] at this
    exact this
  have hyes2 : r = T + 1 → d = 2 ∧ x2 = x ∧ y2 = y := fun e => by
    subst e
    have := hg.symm.trans HT2.out
    rw [Prod.mk.injEq, Prod.mk.injEq] at this
    exact this
  clear hg HN HA HT1 HT2
  have HY := Lib.hid (And.intro hno (And.intro hyes1 hyes2))
  clear hno hyes1 hyes2
  go_wp2_with fail
  refine (hAr _).mono ?_
  rintro e w5 ⟨rfl, hb⟩
  have hS5 := hS4.below hb hl4
  have hB5 := hB4.trans (hb.mono hB4.size)
  have hl5 : w.heap.size < w5.heap.size := by have := hb.size; omega
  clear hb hS4 c0 c1 c2 c3 c4 c5 c6
  obtain ⟨c0, c1, c2, c3, c4, c5, c6⟩ := hS5
  have hS5 : SB w5 w.heap.size s := ⟨c0, c1, c2, c3, c4, c5, c6⟩
  go_wp2_with fail
  refine (hAs _).mono ?_
  rintro e w6 ⟨rfl, hb⟩
  have hP6 := BW.laid d x2 y2 hb
  have hS6 := hS5.behind hl5 hb
  obtain ⟨hB6, hl56⟩ := behind hB5 hb
  have hl6 : w.heap.size < w6.heap.size := by omega
  have p0 := hP6.c0
  have p1 := hP6.c1
  have p2 := hP6.c2
  clear hb hS5 c0 c1 c2 c3 c4 c5 c6
  obtain ⟨c0, c1, c2, c3, c4, c5, c6⟩ := hS6
  have hS6 : SB w6 w.heap.size s := ⟨c0, c1, c2, c3, c4, c5, c6⟩
  go_wp2_with fail
  refine (hA1 _).mono ?_
  rintro e w7 ⟨rfl, hb⟩
  have hP7 := hP6.behind hb
  have hS7 := hS6.behind hl6 hb
  obtain ⟨hB7, hl67⟩ := behind hB6 hb
  have hl7 : w.heap.size < w7.heap.size := by omega
  clear hb hS6 c0 c1 c2 c3 c4 c5 c6 p0 p1 p2 hP6
  obtain ⟨c0, c1, c2, c3, c4, c5, c6⟩ := hS7
  go_wp2_with fail
  refine (hA2 _).mono ?_
  rintro e w8 ⟨rfl, hb⟩
  have hP8 := hP7.behind hb
  have hQ8 := BW.laid 1 x y hb
  obtain ⟨hB8, hl78⟩ := behind hB7 hb
  have hl58 : w5.heap.size < w8.heap.size := by omega
  clear hb c0 c1 c2 c3 c4 c5 c6 hP7
  have p0 := hP8.c0
  have p1 := hP8.c1
  have p2 := hP8.c2
  have q0 := hQ8.c0
  have q1 := hQ8.c1
  have q2 := hQ8.c2
  clear hA1 hA2 hAr hAs hCk hLn hW hP8 hQ8
  by_cases e1 : r = T
  · obtain ⟨rfl, rfl, rfl⟩ := HY.out.2.1 e1
    subst e1
    have hz : (r == r + 1) = false := by simp; omega
    go_wp2_with fail
    go_ret
    exact ⟨rfl, hB8.alloc hB8.size _⟩
  · by_cases e2 : r = T + 1
    · obtain ⟨rfl, rfl, rfl⟩ := HY.out.2.2 e2
      subst e2
      have hz : (T + 1 == T) = false := by simp; omega
      go_wp2_with fail
      go_ret
      exact ⟨rfl, hB8.alloc hB8.size _⟩
    · have z1 : (r == T) = false := by simpa using e1
      have z2 : (r == T + 1) = false := by simpa using e2
      have n1 : ¬ (d = 1 ∧ x2 = x ∧ y2 = y) := fun h => e1 (by have := HY.out.1 (.inl h.1) h.2.1 h.2.2; omega)
      have n2 : ¬ (d = 2 ∧ x2 = x ∧ y2 = y) := fun h => e2 (by have := HY.out.1 (.inr h.1) h.2.1 h.2.2; omega)
      clear HY
      have hways : (¬ d = 1 ∧ ¬ d = 2) ∨ (d = 1 ∧ ¬ x2 = x) ∨ (d = 1 ∧ x2 = x ∧ ¬ y2 = y) ∨ (d = 2 ∧ ¬ x2 = x) ∨ (d = 2 ∧ x2 = x ∧ ¬ y2 = y) := by omega
      clear n1 n2
      rcases hways with ⟨k1, k2⟩ | ⟨rfl, k1⟩ | ⟨rfl, rfl, k1⟩ | ⟨rfl, k1⟩ | ⟨rfl, rfl, k1⟩
      · have g1 : (d == 1) = false := by simpa using k1
        have g2 : (d == 2) = false := by simpa using k2
        go_wp2_with fail
        go_ret
        exact ⟨rfl, hB8.alloc hB8.size _⟩
      · have g1 : (x2 == x) = false := by simpa using k1
        go_wp2_with fail
        go_ret
        exact ⟨rfl, hB8.alloc hB8.size _⟩
      · have g1 : (y2 == y) = false := by simpa using k1
        go_wp2_with fail
        go_ret
        exact ⟨rfl, hB8.alloc hB8.size _⟩
      · have g1 : (x2 == x) = false := by simpa using k1
        go_wp2_with fail
        go_ret
        exact ⟨rfl, hB8.alloc hB8.size _⟩
      · have g1 : (y2 == y) = false := by simpa using k1
        go_wp2_with fail
        go_ret
        exact ⟨rfl, hB8.alloc hB8.size _⟩
end Go.Proofs.Ytlghfngomiiclaa
