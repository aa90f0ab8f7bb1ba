
/- The reference's Bytes. -/
import Derived.Test.YtpkmphalhmmbkaaH7
import Derived.Test.YtpkmphalhmmbkaaG
import Derived.Test.YtpkmphalhmmbkaaD
namespace Go.Proofs.Ytpkmphalhmmbkaa
open Go.RowKit
set_option linter.unusedSimpArgs false
set_option linter.unusedVariables false
set_option maxRecDepth 100000

set_option maxHeartbeats 2000000 in
theorem rbytes_not (w : World) (s : Scr) (hm : ¬ s.May) : Calls Try.prog 18 #[s.val] w fun e w' => e = .returned (.tuple #[.slice none 0 0, .int .i64 2]) ∧ Below w.heap.size w w' := by
  have hB : Below w.heap.size w (w.alloc (scO s)) := (Below.refl _ _).alloc (Nat.le_refl _) _
  unfold Scr.val
  go_enter Try.func18, Try.ntmps18
  go_wp2_with fail
  refine (rcheck_no s hm _).mono ?_
  rintro e w2 ⟨rfl, hb⟩
  have hB := hB.trans (hb.mono (by simp))
  clear hb
  go_wp2_with fail
  go_ret2
  exact ⟨rfl, hB⟩

set_option maxHeartbeats 2000000 in
theorem rbytes_may (w : World) (s : Scr) (hm : s.May) : Calls Try.prog 18 #[s.val] w (BytesOk w.heap.size w (numsB s.nums)) := by
  have hB : Below w.heap.size w (w.alloc (scO s)) := (Below.refl _ _).alloc (Nat.le_refl _) _
  have hs := SB.now w s
  unfold Scr.val
  go_enter Try.func18, Try.ntmps18
  go_wp2_with fail
  refine (rcheck_yes s hm _).mono ?_
  rintro e w2 ⟨rfl, hb⟩
  have hlt : w.heap.size < w2.heap.size := by have := hb.size; simp at this; omega
  have hS := hs.below hb (by simp)
  have hB := hB.trans (hb.mono (by simp))
  clear hb hs
  obtain ⟨c0, c1, c2, c3, c4, c5, c6⟩ := hS
  go_wp2_with fail
  clear c0 c1 c2 c3 c4 c5 c6
  have hS3 : SB (w2.alloc (.cells #[.int .i64 s.lines, .int .i64 s.columns, .int .i64 s.top, .int .i64 s.rows, .int .i64 s.left, .int .i64 s.wide, .int .i64 s.pulse] 3)) w2.heap.size s := by
    constructor <;> (rw [World.cell?_alloc_at _ _ _ _ rfl]; rfl)
  have hB3 := hB.alloc hB.size (.cells #[.int .i64 s.lines, .int .i64 s.columns, .int .i64 s.top, .int .i64 s.rows, .int .i64 s.left, .int .i64 s.wide, .int .i64 s.pulse] 3)
  have hz3 : (w2.alloc (.cells #[.int .i64 s.lines, .int .i64 s.columns, .int .i64 s.top, .int .i64 s.rows, .int .i64 s.left, .int .i64 s.wide, .int .i64 s.pulse] 3)).heap.size = w2.heap.size + 1 := by simp
  generalize w2.alloc (.cells #[.int .i64 s.lines, .int .i64 s.columns, .int .i64 s.top, .int .i64 s.rows, .int .i64 s.left, .int .i64 s.wide, .int .i64 s.pulse] 3) = w3 at *
  generalize w2.heap.size = f at *
  have hz3 : f + 1 ≤ w3.heap.size := by omega
  go_loopw [5, 6] (fun v i wr => ∃ (k : Nat) (A : Option Addr) (c : Nat), k ≤ 7 ∧ i = .int .i64 k ∧ v = .slice A (numsB (s.nums.take k)).length c ∧ OB wr (f + 1) A c (numsB (s.nums.take k)) ∧ SB wr f s ∧ f + 1 ≤ wr.heap.size ∧ Below w.heap.size w wr) (fun _ i _ => 7 - (intOf i).toNat)
  case atStart => exact ⟨0, none, 0, by omega, rfl, rfl, OB.nil _ _, hS3, hz3, hB3⟩
  case round =>
    obtain ⟨k, A, c, hk, rfl, rfl, ho, hS, hfr, hB⟩ := hrel
    clear hS3 hB3
    by_cases hlt : k < 7
    · obtain ⟨hn0, hn1⟩ := Scr.may_num hm k hlt
      have hc := hS.nth k hlt
      have HT := Lib.hid (numsB_take s.nums k hlt)
      obtain ⟨v, hv⟩ : ∃ v : Nat, s.nums.getD k 0 = (v : Int) := ⟨(s.nums.getD k 0).toNat, by omega⟩
      rw [hv] at hn0 hn1 hc
      have hlb : (numsB (s.nums.take k)).length ≤ 63 := by
        have h1 := numsB_le (s.nums.take k)
        have h2 : (s.nums.take k).length ≤ 7 := by rw [List.length_take]; omega
        omega
      have HVN := Lib.hid hv
      clear hv
      go_wp2_with fail
      clear hc
      refine (refNumber_any A _ c (numsB (s.nums.take k)) v wr (f + 1) rfl ho hfr (by omega) (by omega)).mono ?_
      rintro e w9 ⟨A9, c9, rfl, ho9, hb9⟩
      have hB9 := hB.trans (hb9.mono (by omega))
      have hS9 := hS.below hb9 (by omega)
      have hf9 : f + 1 ≤ w9.heap.size := by have := hb9.size; omega
      clear hb9 ho hS
      go_wp2_with fail
      go_roundw
      case rel => exact ⟨k + 1, A9, c9, by omega, by go_num, by rw [HT.out, HVN.out, Int.toNat_natCast, List.length_append], by rw [HT.out, HVN.out, Int.toNat_natCast]; exact ho9, hS9, hf9, hB9⟩
      case measure => simp [intOf]; omega
    · go_wp2_with fail
      go_ret2
      have HT : s.nums.take k = s.nums := List.take_of_length_le (show s.nums.length ≤ k by show 7 ≤ k; omega)
      rw [HT] at ho
      exact ⟨A, c, by rw [HT]; rfl, ho.mono (by omega), hB⟩
end Go.Proofs.Ytpkmphalhmmbkaa
