
/- Package contend: Slow, Most, portWaits, portHappens, happens, Request; the reference's Check of requests. -/
import Derived.Test.YtljgpaiojeffcaaM3
namespace Go.Proofs.Ytljgpaiojeffcaa
open Go.RowKit
set_option linter.unusedSimpArgs false
set_option linter.unusedVariables false
set_option maxRecDepth 100000

set_option maxHeartbeats 1000000 in
theorem r11_1_t (a v ts : Int) (h : (ts != 4) = true) (w : World) : Calls Try.prog 13 #[.agg #[.int .i64 1, .int .u16 a, .int .u8 v, .int .i64 ts]] w fun e w' => e = .returned (.int .i64 2) ∧ Below w.heap.size w w' := by
  go_enter Try.func13, Try.ntmps13
  go_wp2_with fail
  go_ret
  exact ⟨by simp [], (Below.refl _ _).alloc (Nat.le_refl _) _⟩

set_option maxHeartbeats 1000000 in
theorem r11_1_v (a v : Int) (h : (v != 0) = true) (w : World) : Calls Try.prog 13 #[.agg #[.int .i64 1, .int .u16 a, .int .u8 v, .int .i64 4]] w fun e w' => e = .returned (.int .i64 2) ∧ Below w.heap.size w w' := by
  go_enter Try.func13, Try.ntmps13
  go_wp2_with fail
  go_ret
  exact ⟨by simp [], (Below.refl _ _).alloc (Nat.le_refl _) _⟩

set_option maxHeartbeats 1000000 in
theorem r11_1_y (a : Int) (w : World) : Calls Try.prog 13 #[.agg #[.int .i64 1, .int .u16 a, .int .u8 0, .int .i64 4]] w fun e w' => e = .returned (.int .i64 0) ∧ Below w.heap.size w w' := by
  go_enter Try.func13, Try.ntmps13
  go_wp2_with fail
  go_ret
  exact ⟨by simp [], (Below.refl _ _).alloc (Nat.le_refl _) _⟩

set_option maxHeartbeats 1000000 in
theorem r11_2_t (a v ts : Int) (h : (ts != 3) = true) (w : World) : Calls Try.prog 13 #[.agg #[.int .i64 2, .int .u16 a, .int .u8 v, .int .i64 ts]] w fun e w' => e = .returned (.int .i64 2) ∧ Below w.heap.size w w' := by
  go_enter Try.func13, Try.ntmps13
  go_wp2_with fail
  go_ret
  exact ⟨by simp [], (Below.refl _ _).alloc (Nat.le_refl _) _⟩

set_option maxHeartbeats 1000000 in
theorem r11_2_v (a v : Int) (h : (v != 0) = true) (w : World) : Calls Try.prog 13 #[.agg #[.int .i64 2, .int .u16 a, .int .u8 v, .int .i64 3]] w fun e w' => e = .returned (.int .i64 2) ∧ Below w.heap.size w w' := by
  go_enter Try.func13, Try.ntmps13
  go_wp2_with fail
  go_ret
  exact ⟨by simp [], (Below.refl _ _).alloc (Nat.le_refl _) _⟩

set_option maxHeartbeats 1000000 in
theorem r11_2_y (a : Int) (w : World) : Calls Try.prog 13 #[.agg #[.int .i64 2, .int .u16 a, .int .u8 0, .int .i64 3]] w fun e w' => e = .returned (.int .i64 0) ∧ Below w.heap.size w w' := by
  go_enter Try.func13, Try.ntmps13
  go_wp2_with fail
  go_ret
  exact ⟨by simp [], (Below.refl _ _).alloc (Nat.le_refl _) _⟩

set_option maxHeartbeats 1000000 in
theorem r11_3_t (a v ts : Int) (h : (ts != 3) = true) (w : World) : Calls Try.prog 13 #[.agg #[.int .i64 3, .int .u16 a, .int .u8 v, .int .i64 ts]] w fun e w' => e = .returned (.int .i64 2) ∧ Below w.heap.size w w' := by
  go_enter Try.func13, Try.ntmps13
  go_wp2_with fail
  go_ret
  exact ⟨by simp [], (Below.refl _ _).alloc (Nat.le_refl _) _⟩

set_option maxHeartbeats 1000000 in
theorem r11_3_y (a v : Int) (w : World) : Calls Try.prog 13 #[.agg #[.int .i64 3, .int .u16 a, .int .u8 v, .int .i64 3]] w fun e w' => e = .returned (.int .i64 0) ∧ Below w.heap.size w w' := by
  go_enter Try.func13, Try.ntmps13
  go_wp2_with fail
  go_ret
  exact ⟨by simp [], (Below.refl _ _).alloc (Nat.le_refl _) _⟩

set_option maxHeartbeats 1000000 in
theorem r11_4_t (a v ts : Int) (h : (ts != 4) = true) (w : World) : Calls Try.prog 13 #[.agg #[.int .i64 4, .int .u16 a, .int .u8 v, .int .i64 ts]] w fun e w' => e = .returned (.int .i64 2) ∧ Below w.heap.size w w' := by
  go_enter Try.func13, Try.ntmps13
  go_wp2_with fail
  go_ret
  exact ⟨by simp [], (Below.refl _ _).alloc (Nat.le_refl _) _⟩

set_option maxHeartbeats 1000000 in
theorem r11_4_v (a v : Int) (h : (v != 0) = true) (w : World) : Calls Try.prog 13 #[.agg #[.int .i64 4, .int .u16 a, .int .u8 v, .int .i64 4]] w fun e w' => e = .returned (.int .i64 2) ∧ Below w.heap.size w w' := by
  go_enter Try.func13, Try.ntmps13
  go_wp2_with fail
  go_ret
  exact ⟨by simp [], (Below.refl _ _).alloc (Nat.le_refl _) _⟩

set_option maxHeartbeats 1000000 in
theorem r11_4_y (a : Int) (w : World) : Calls Try.prog 13 #[.agg #[.int .i64 4, .int .u16 a, .int .u8 0, .int .i64 4]] w fun e w' => e = .returned (.int .i64 0) ∧ Below w.heap.size w w' := by
  go_enter Try.func13, Try.ntmps13
  go_wp2_with fail
  go_ret
  exact ⟨by simp [], (Below.refl _ _).alloc (Nat.le_refl _) _⟩

set_option maxHeartbeats 1000000 in
theorem r11_5_t (a v ts : Int) (h : (ts != 4) = true) (w : World) : Calls Try.prog 13 #[.agg #[.int .i64 5, .int .u16 a, .int .u8 v, .int .i64 ts]] w fun e w' => e = .returned (.int .i64 2) ∧ Below w.heap.size w w' := by
  go_enter Try.func13, Try.ntmps13
  go_wp2_with fail
  go_ret
  exact ⟨by simp [], (Below.refl _ _).alloc (Nat.le_refl _) _⟩

set_option maxHeartbeats 1000000 in
theorem r11_5_y (a v : Int) (w : World) : Calls Try.prog 13 #[.agg #[.int .i64 5, .int .u16 a, .int .u8 v, .int .i64 4]] w fun e w' => e = .returned (.int .i64 0) ∧ Below w.heap.size w w' := by
  go_enter Try.func13, Try.ntmps13
  go_wp2_with fail
  go_ret
  exact ⟨by simp [], (Below.refl _ _).alloc (Nat.le_refl _) _⟩

set_option maxHeartbeats 1000000 in
theorem r11_7_t (a v ts : Int) (h : (ts != 7) = true) (w : World) : Calls Try.prog 13 #[.agg #[.int .i64 7, .int .u16 a, .int .u8 v, .int .i64 ts]] w fun e w' => e = .returned (.int .i64 2) ∧ Below w.heap.size w w' := by
  go_enter Try.func13, Try.ntmps13
  go_wp2_with fail
  go_ret
  exact ⟨by simp [], (Below.refl _ _).alloc (Nat.le_refl _) _⟩

set_option maxHeartbeats 1000000 in
theorem r11_7_v (a v : Int) (h : (v != 0) = true) (w : World) : Calls Try.prog 13 #[.agg #[.int .i64 7, .int .u16 a, .int .u8 v, .int .i64 7]] w fun e w' => e = .returned (.int .i64 2) ∧ Below w.heap.size w w' := by
  go_enter Try.func13, Try.ntmps13
  go_wp2_with fail
  go_ret
  exact ⟨by simp [], (Below.refl _ _).alloc (Nat.le_refl _) _⟩

set_option maxHeartbeats 1000000 in
theorem r11_7_y (a : Int) (w : World) : Calls Try.prog 13 #[.agg #[.int .i64 7, .int .u16 a, .int .u8 0, .int .i64 7]] w fun e w' => e = .returned (.int .i64 0) ∧ Below w.heap.size w w' := by
  go_enter Try.func13, Try.ntmps13
  go_wp2_with fail
  go_ret
  exact ⟨by simp [], (Below.refl _ _).alloc (Nat.le_refl _) _⟩

set_option maxHeartbeats 1000000 in
theorem r11_6_l (a v ts : Int) (h : ts < 1) (w : World) : Calls Try.prog 13 #[.agg #[.int .i64 6, .int .u16 a, .int .u8 v, .int .i64 ts]] w fun e w' => e = .returned (.int .i64 2) ∧ Below w.heap.size w w' := by
  go_enter Try.func13, Try.ntmps13
  go_wp2_with fail
  go_ret
  exact ⟨by simp [], (Below.refl _ _).alloc (Nat.le_refl _) _⟩

set_option maxHeartbeats 1000000 in
theorem r11_6_g (a v ts : Int) (h0 : 1 ≤ ts) (h : 7 < ts) (w : World) : Calls Try.prog 13 #[.agg #[.int .i64 6, .int .u16 a, .int .u8 v, .int .i64 ts]] w fun e w' => e = .returned (.int .i64 2) ∧ Below w.heap.size w w' := by
  go_enter Try.func13, Try.ntmps13
  go_wp2_with fail
  go_ret
  exact ⟨by simp [], (Below.refl _ _).alloc (Nat.le_refl _) _⟩

set_option maxHeartbeats 1000000 in
theorem r11_6_v (a v ts : Int) (h0 : 1 ≤ ts) (h1 : ts ≤ 7) (h : (v != 0) = true) (w : World) : Calls Try.prog 13 #[.agg #[.int .i64 6, .int .u16 a, .int .u8 v, .int .i64 ts]] w fun e w' => e = .returned (.int .i64 2) ∧ Below w.heap.size w w' := by
  have hb : (ts == 0) = false := by simp; omega
  have hn : (ts != ts) = false := by simp
  go_enter Try.func13, Try.ntmps13
  go_wp2_with fail
  go_ret
  exact ⟨by simp [], (Below.refl _ _).alloc (Nat.le_refl _) _⟩

set_option maxHeartbeats 1000000 in
theorem r11_6_a (a ts : Int) (h0 : 1 ≤ ts) (h1 : ts ≤ 7) (h : (a != 0) = true) (w : World) : Calls Try.prog 13 #[.agg #[.int .i64 6, .int .u16 a, .int .u8 0, .int .i64 ts]] w fun e w' => e = .returned (.int .i64 2) ∧ Below w.heap.size w w' := by
  have hb : (ts == 0) = false := by simp; omega
  have hn : (ts != ts) = false := by simp
  go_enter Try.func13, Try.ntmps13
  go_wp2_with fail
  go_ret
  exact ⟨by simp [], (Below.refl _ _).alloc (Nat.le_refl _) _⟩

set_option maxHeartbeats 1000000 in
theorem r11_6_y (ts : Int) (h0 : 1 ≤ ts) (h1 : ts ≤ 7) (w : World) : Calls Try.prog 13 #[.agg #[.int .i64 6, .int .u16 0, .int .u8 0, .int .i64 ts]] w fun e w' => e = .returned (.int .i64 0) ∧ Below w.heap.size w w' := by
  have hb : (ts == 0) = false := by simp; omega
  have hn : (ts != ts) = false := by simp
  go_enter Try.func13, Try.ntmps13
  go_wp2_with fail
  go_ret
  exact ⟨by simp [], (Below.refl _ _).alloc (Nat.le_refl _) _⟩

set_option maxHeartbeats 1000000 in
theorem r11_no (k a v ts : Int) (k1 : ¬ k = 1) (k2 : ¬ k = 2) (k3 : ¬ k = 3) (k4 : ¬ k = 4) (k5 : ¬ k = 5) (k6 : ¬ k = 6) (k7 : ¬ k = 7) (w : World) : Calls Try.prog 13 #[.agg #[.int .i64 k, .int .u16 a, .int .u8 v, .int .i64 ts]] w fun e w' => e = .returned (.int .i64 2) ∧ Below w.heap.size w w' := by
  go_enter Try.func13, Try.ntmps13
  go_wp2_with fail
  go_ret
  exact ⟨by simp [], (Below.refl _ _).alloc (Nat.le_refl _) _⟩
theorem r11check_any (q : Rq) (w : World) : Calls Try.prog 13 #[q.val] w fun e w' => e = .returned (.int .i64 q.err) ∧ Below w.heap.size w w' := by
  obtain ⟨k, a, v, ts⟩ := q
  unfold Rq.val
  rcases kind_ways k with rfl | rfl | rfl | rfl | rfl | rfl | rfl | ⟨k1, k2, k3, k4, k5, k6, k7⟩
  · by_cases ht : ts = 4
    · subst ht
      by_cases hv : v = 0
      · subst hv
        rw [show Rq.err ⟨1, a, 0, 4⟩ = 0 from if_pos (by simp [Rq.May, lastsI])]
        exact r11_1_y a w
      · rw [show Rq.err ⟨1, a, v, 4⟩ = 2 from if_neg (by simp [Rq.May, hv])]
        exact r11_1_v a v (by simpa using hv) w
    · rw [show Rq.err ⟨1, a, v, ts⟩ = 2 from if_neg (by simp [Rq.May, lastsI, ht])]
      exact r11_1_t a v ts (by simpa using ht) w
  · by_cases ht : ts = 3
    · subst ht
      by_cases hv : v = 0
      · subst hv
        rw [show Rq.err ⟨2, a, 0, 3⟩ = 0 from if_pos (by simp [Rq.May, lastsI])]
        exact r11_2_y a w
      · rw [show Rq.err ⟨2, a, v, 3⟩ = 2 from if_neg (by simp [Rq.May, hv])]
        exact r11_2_v a v (by simpa using hv) w
    · rw [show Rq.err ⟨2, a, v, ts⟩ = 2 from if_neg (by simp [Rq.May, lastsI, ht])]
      exact r11_2_t a v ts (by simpa using ht) w
  · by_cases ht : ts = 3
    · subst ht
      rw [show Rq.err ⟨3, a, v, 3⟩ = 0 from if_pos (by simp [Rq.May, lastsI])]
      exact r11_3_y a v w
    · rw [show Rq.err ⟨3, a, v, ts⟩ = 2 from if_neg (by simp [Rq.May, lastsI, ht])]
      exact r11_3_t a v ts (by simpa using ht) w
  · by_cases ht : ts = 4
    · subst ht
      by_cases hv : v = 0
      · subst hv
        rw [show Rq.err ⟨4, a, 0, 4⟩ = 0 from if_pos (by simp [Rq.May, lastsI])]
        exact r11_4_y a w
      · rw [show Rq.err ⟨4, a, v, 4⟩ = 2 from if_neg (by simp [Rq.May, hv])]
        exact r11_4_v a v (by simpa using hv) w
    · rw [show Rq.err ⟨4, a, v, ts⟩ = 2 from if_neg (by simp [Rq.May, lastsI, ht])]
      exact r11_4_t a v ts (by simpa using ht) w
  · by_cases ht : ts = 4
    · subst ht
      rw [show Rq.err ⟨5, a, v, 4⟩ = 0 from if_pos (by simp [Rq.May, lastsI])]
      exact r11_5_y a v w
    · rw [show Rq.err ⟨5, a, v, ts⟩ = 2 from if_neg (by simp [Rq.May, lastsI, ht])]
      exact r11_5_t a v ts (by simpa using ht) w
  · rcases Int.lt_or_le ts 1 with h0 | h0
    · rw [show Rq.err ⟨6, a, v, ts⟩ = 2 from if_neg (fun h => by have := h.ts; simp only at this; omega)]
      exact r11_6_l a v ts h0 w
    · rcases Int.lt_or_le 7 ts with h1 | h1
      · rw [show Rq.err ⟨6, a, v, ts⟩ = 2 from if_neg (fun h => by have := h.ts; simp only at this; omega)]
        exact r11_6_g a v ts h0 h1 w
      · by_cases hv : v = 0
        · subst hv
          by_cases ha : a = 0
          · subst ha
            rw [show Rq.err ⟨6, 0, 0, ts⟩ = 0 from if_pos (by simp [Rq.May]; omega)]
            exact r11_6_y ts h0 h1 w
          · rw [show Rq.err ⟨6, a, 0, ts⟩ = 2 from if_neg (by simp [Rq.May, ha])]
            exact r11_6_a a ts h0 h1 (by simpa using ha) w
        · rw [show Rq.err ⟨6, a, v, ts⟩ = 2 from if_neg (by simp [Rq.May, hv])]
          exact r11_6_v a v ts h0 h1 (by simpa using hv) w
  · by_cases ht : ts = 7
    · subst ht
      by_cases hv : v = 0
      · subst hv
        rw [show Rq.err ⟨7, a, 0, 7⟩ = 0 from if_pos (by simp [Rq.May, lastsI])]
        exact r11_7_y a w
      · rw [show Rq.err ⟨7, a, v, 7⟩ = 2 from if_neg (by simp [Rq.May, hv])]
        exact r11_7_v a v (by simpa using hv) w
    · rw [show Rq.err ⟨7, a, v, ts⟩ = 2 from if_neg (by simp [Rq.May, lastsI, ht])]
      exact r11_7_t a v ts (by simpa using ht) w
  · rw [show Rq.err ⟨k, a, v, ts⟩ = 2 from if_neg (by simp [Rq.May, lastsI, k1, k2, k3, k4, k5, k6, k7]; try omega)]
    exact r11_no k a v ts k1 k2 k3 k4 k5 k6 k7 w

theorem most_any (s : Scr) (q : Rq) (w : World) : Calls Try.prog 11 #[s.val, q.val] w fun e w' => e = .returned (.int .i64 (mostI s q)) ∧ Below w.heap.size w w' := by
  have hB0 := fun (o o' : Obj) => ((Below.refl w.heap.size w).alloc (Nat.le_refl _) o).alloc (by simp) o'
  unfold mostI Rq.port
  obtain ⟨k, a, v, ts⟩ := q
  unfold Rq.val Scr.val
  simp only at *
  by_cases h : s.rows ≤ 0 ∨ s.wide ≤ 0
  · rw [if_pos h]
    rcases h with h | h
    · go_enter Try.func11, Try.ntmps11
      go_wp2
      go_ret
      exact ⟨rfl, hB0 _ _⟩
    · by_cases h2 : s.rows ≤ 0
      · go_enter Try.func11, Try.ntmps11
        go_wp2
        go_ret
        exact ⟨rfl, hB0 _ _⟩
      · go_enter Try.func11, Try.ntmps11
        go_wp2
        go_ret
        exact ⟨rfl, hB0 _ _⟩
  · rw [if_neg h]
    have h1 : ¬ s.rows ≤ 0 := by omega
    have h2 : ¬ s.wide ≤ 0 := by omega
    clear h
    rcases kind_ways k with rfl | rfl | rfl | rfl | rfl | rfl | rfl | ⟨k1, k2, k3, k4, k5, k6, k7⟩
    all_goals (
      go_enter Try.func11, Try.ntmps11
      go_wp2
      go_ret
      exact ⟨by simp [*], hB0 _ _⟩)

theorem portWaits_any (n : Nat) (hn : n < 4) (odd slow : Bool) (w : World) : Calls Try.prog 40 #[.int .i64 (n : Int), .bool odd, .bool slow] w fun e w' => e = .returned (.bool (waitsP n odd slow)) ∧ w = w' := by
  rcases (show n = 0 ∨ n = 1 ∨ n = 2 ∨ n = 3 by omega) with rfl | rfl | rfl | rfl
  all_goals cases odd
  all_goals cases slow
  all_goals (
    go_enter Try.func40, Try.ntmps40
    go_wp2
    go_ret
    exact ⟨rfl, rfl⟩)

set_option maxHeartbeats 2000000 in
theorem portHappens_any (w : World) (s : Scr) (odd slow : Bool) (t : Int) (hm : s.May) (h0 : 0 ≤ t) (h1 : t ≤ 1099511626776) : Calls Try.prog 35 #[s.val, .bool odd, .bool slow, .int .i64 t] w fun e w' => e = .returned (.tuple #[.int .i64 (portT s odd slow t 2 - 1), .int .i64 (portT s odd slow t 4)]) ∧ Below w.heap.size w w' := by
  have HW := Lib.hid (fun (n : Nat) (hn : n < 4) (w : World) => portWaits_any n hn odd slow w)
  have HG := Lib.hid (fun (u : Int) (a : 0 ≤ u) (b : u ≤ 1099511627776) (w : World) => behindWait_any w s u hm a b)
  have HT := Lib.hid (portT_le s odd slow t)
  have hs0 : ∀ n, portT s odd slow t (n + 1) = stF s (waitsP n odd slow) (portT s odd slow t n) + 1 := fun n => rfl
  have HS := Lib.hid hs0
  clear hs0
  have hz : portT s odd slow t 0 = t := rfl
  generalize portT s odd slow t = f at *
  unfold Scr.val at *
  go_enter Try.func35, Try.ntmps35
  go_wp2_with fail
  go_loopw [3, 8, 11] (fun v a i wr => ∃ k : Nat, k ≤ 4 ∧ i = .int .i64 k ∧ v = .int .i64 (f k) ∧ (∃ x, a = .int .i64 x ∧ (2 ≤ k → x = f 2 - 1)) ∧ SB wr w.heap.size s ∧ w.heap.size < wr.heap.size ∧ Below w.heap.size w wr) (fun _ _ i _ => 4 - (intOf i).toNat)
  case atStart =>
    exact ⟨0, by omega, rfl, by rw [hz], ⟨0, rfl, fun h => by omega⟩, SB.laid s (Below.refl _ _), by simp, (Below.refl _ _).alloc (Nat.le_refl _) _⟩
  case round =>
    obtain ⟨k, hk, rfl, rfl, ⟨x, rfl, hx⟩, hS, hlt, hB⟩ := hrel
    obtain ⟨b0, b1⟩ := HT.out k
    by_cases h4 : k < 4
    · have hs := HS.out k
      have hw := HW.out k h4
      have HX := Lib.hid hx
      obtain ⟨g, hg⟩ : ∃ g, f (k + 1) = g + 1 := ⟨f (k + 1) - 1, by omega⟩
      have hsw : stF s (waitsP k odd slow) (f k) = g := by omega
      obtain ⟨b2, b3⟩ := HT.out (k + 1)
      rw [hg] at b2 b3
      have HN := Lib.hid hg
      generalize waitsP k odd slow = p at *
      generalize f k = fk at *
      clear hs hx hg HS HW HT hz
      obtain ⟨c0, c1, c2, c3, c4, c5, c6⟩ := hS
      have hS : SB wr w.heap.size s := ⟨c0, c1, c2, c3, c4, c5, c6⟩
      have hrel : ∀ w2 : World, Below wr.heap.size wr w2 → SB w2 w.heap.size s ∧ w.heap.size < w2.heap.size ∧ Below w.heap.size w w2 := fun w2 hb => ⟨hS.below hb hlt, by have := hb.size; omega, hB.trans (hb.mono hB.size)⟩
      have HR := Lib.hid hrel
      clear hrel hS hB
      cases p with
      | true =>
        rw [stF_yes] at hsw
        have hg := HG.out fk (by omega) (by omega)
        rw [hsw] at hg
        clear hsw HG
        go_wp2_with fail
        refine (hw _).mono ?_
        rintro e w2 ⟨rfl, rfl⟩
        go_wp2_with fail
        refine (hg _).mono ?_
        rintro e w2 ⟨rfl, hb⟩
        have HB := Lib.hid (HR.out w2 hb)
        clear hb hg c0 c1 c2 c3 c4 c5 c6 hlt
        by_cases hk1 : k = 1
        · subst hk1
          go_wp2_with fail
          go_roundw
          case rel => exact ⟨2, by omega, rfl, by rw [HN.out], ⟨g, rfl, fun _ => by have := (show f 2 = g + 1 from HN.out); omega⟩, HB.out⟩
          case measure => simp [intOf]
        · have hkb : ((k : Int) == 1) = false := by simp; omega
          go_wp2_with fail
          go_roundw
          case rel => exact ⟨k + 1, by omega, by go_num, by rw [HN.out], ⟨x, rfl, fun _ => HX.out (by omega)⟩, HB.out⟩
          case measure => simp [intOf]; omega
      | false =>
        rw [stF_no] at hsw
        subst hsw
        clear HG
        go_wp2_with fail
        refine (hw _).mono ?_
        rintro e w2 ⟨rfl, rfl⟩
        have HB := Lib.hid (HR.out wr (Below.refl _ _))
        clear c0 c1 c2 c3 c4 c5 c6 hlt
        by_cases hk1 : k = 1
        · subst hk1
          go_wp2_with fail
          go_roundw
          case rel => exact ⟨2, by omega, rfl, by rw [HN.out], ⟨fk, rfl, fun _ => by have := (show f 2 = fk + 1 from HN.out); omega⟩, HB.out⟩
          case measure => simp [intOf]
        · have hkb : ((k : Int) == 1) = false := by simp; omega
          go_wp2_with fail
          go_roundw
          case rel => exact ⟨k + 1, by omega, by go_num, by rw [HN.out], ⟨x, rfl, fun _ => HX.out (by omega)⟩, HB.out⟩
          case measure => simp [intOf]; omega
    · obtain rfl : k = 4 := by omega
      have hx2 := hx (by omega)
      subst hx2
      clear hS HS HW HT HG hx
      go_wp2_with fail
      go_ret2
      exact ⟨rfl, hB⟩
end Go.Proofs.Ytljgpaiojeffcaa
