
/- Registers: Pick; what is put is there, and nothing else is another: pure. -/
import Derived.Test.YtedlfcmlchjjlaaYK
namespace Go.Proofs.Ytedlfcmlchjjlaa
open Go.RowKit
set_option linter.unusedSimpArgs false
set_option linter.unusedVariables false
set_option maxRecDepth 100000

theorem pick_4 (n : Int) (w : World) (hn : (Lit.int .i64 n).wf = true) : Calls Try.prog 40 #[.int .i64 n, .int .i64 4] w fun e w' => e = .returned (.int .i64 (n % 4)) ∧ w = w' := by
  have hb := bounds_i64 hn
  by_cases h : 0 ≤ n
  · go_enter Try.func40, Try.ntmps40
    go_wp2
    go_ret
    exact ⟨rfl, rfl⟩
  · obtain ⟨h1, h2, h3⟩ : -4 < n.tmod 4 ∧ n.tmod 4 ≤ 0 ∧ (if n.tmod 4 < 0 then n.tmod 4 + 4 else n.tmod 4) = n % 4 := by
      have e : n.tmod 4 = -((-n) % 4) := by rw [← Int.tmod_eq_emod_of_nonneg (by omega : 0 ≤ -n), Int.neg_tmod, Int.neg_neg]
      refine ⟨?_, ?_, ?_⟩ <;> (try split) <;> omega
    by_cases h4 : n.tmod 4 < 0
    · rw [if_pos h4] at h3
      have H3 := Lib.hid h3
      clear h3
      go_enter Try.func40, Try.ntmps40
      go_wp2
      go_ret
      exact ⟨a5_ret64 H3.out, rfl⟩
    · rw [if_neg h4] at h3
      have H3 := Lib.hid h3
      clear h3
      go_enter Try.func40, Try.ntmps40
      go_wp2
      go_ret
      exact ⟨a5_ret64 H3.out, rfl⟩

theorem pick_8 (n : Int) (w : World) (hn : (Lit.int .i64 n).wf = true) : Calls Try.prog 40 #[.int .i64 n, .int .i64 8] w fun e w' => e = .returned (.int .i64 (n % 8)) ∧ w = w' := by
  have hb := bounds_i64 hn
  by_cases h : 0 ≤ n
  · go_enter Try.func40, Try.ntmps40
    go_wp2
    go_ret
    exact ⟨rfl, rfl⟩
  · obtain ⟨h1, h2, h3⟩ : -8 < n.tmod 8 ∧ n.tmod 8 ≤ 0 ∧ (if n.tmod 8 < 0 then n.tmod 8 + 8 else n.tmod 8) = n % 8 := by
      have e : n.tmod 8 = -((-n) % 8) := by rw [← Int.tmod_eq_emod_of_nonneg (by omega : 0 ≤ -n), Int.neg_tmod, Int.neg_neg]
      refine ⟨?_, ?_, ?_⟩ <;> (try split) <;> omega
    by_cases h4 : n.tmod 8 < 0
    · rw [if_pos h4] at h3
      have H3 := Lib.hid h3
      clear h3
      go_enter Try.func40, Try.ntmps40
      go_wp2
      go_ret
      exact ⟨a5_ret64 H3.out, rfl⟩
    · rw [if_neg h4] at h3
      have H3 := Lib.hid h3
      clear h3
      go_enter Try.func40, Try.ntmps40
      go_wp2
      go_ret
      exact ⟨a5_ret64 H3.out, rfl⟩

theorem pick_240 (n : Int) (w : World) (hn : (Lit.int .i64 n).wf = true) : Calls Try.prog 40 #[.int .i64 n, .int .i64 240] w fun e w' => e = .returned (.int .i64 (n % 240)) ∧ w = w' := by
  have hb := bounds_i64 hn
  by_cases h : 0 ≤ n
  · go_enter Try.func40, Try.ntmps40
    go_wp2
    go_ret
    exact ⟨rfl, rfl⟩
  · obtain ⟨h1, h2, h3⟩ : -240 < n.tmod 240 ∧ n.tmod 240 ≤ 0 ∧ (if n.tmod 240 < 0 then n.tmod 240 + 240 else n.tmod 240) = n % 240 := by
      have e : n.tmod 240 = -((-n) % 240) := by rw [← Int.tmod_eq_emod_of_nonneg (by omega : 0 ≤ -n), Int.neg_tmod, Int.neg_neg]
      refine ⟨?_, ?_, ?_⟩ <;> (try split) <;> omega
    by_cases h4 : n.tmod 240 < 0
    · rw [if_pos h4] at h3
      have H3 := Lib.hid h3
      clear h3
      go_enter Try.func40, Try.ntmps40
      go_wp2
      go_ret
      exact ⟨a5_ret64 H3.out, rfl⟩
    · rw [if_neg h4] at h3
      have H3 := Lib.hid h3
      clear h3
      go_enter Try.func40, Try.ntmps40
      go_wp2
      go_ret
      exact ⟨a5_ret64 H3.out, rfl⟩

theorem hl_set (r : Rg) (i x : Int) : hlR (setHl r i x) i = x := by
  have : i % 3 = 0 ∨ i % 3 = 1 ∨ i % 3 = 2 := by omega
  unfold hlR setHl
  rcases this with h | h | h <;> simp [h]
  omega
theorem hl_keeps (r q : Rg) (i : Int) (h1 : q.IX = r.IX) (h2 : q.IY = r.IY) (h3 : q.H = r.H) (h4 : q.L = r.L) : hlR q i = hlR r i := by unfold hlR; rw [h1, h2, h3, h4]
theorem get_mod (r : Rg) (i c : Int) : getR r i c = getR r i (c % 8) := by unfold getR; simp
theorem put_mod (r : Rg) (i c v : Int) : putR r i c v = putR r i (c % 8) v := by unfold putR; simp
theorem pair_mod (r : Rg) (i c : Int) (st : Bool) : pairR r i c st = pairR r i (c % 4) st := by unfold pairR; simp
theorem putpair_mod (r : Rg) (i c v : Int) (st : Bool) : putPairR r i c st v = putPairR r i (c % 4) st v := by unfold putPairR; simp
theorem seteq (r : Rg) (i x : Int) : (setHl r i x).A = r.A ∧ (setHl r i x).F = r.F ∧ (setHl r i x).B = r.B ∧ (setHl r i x).C = r.C ∧ (setHl r i x).D = r.D ∧ (setHl r i x).E = r.E ∧ (setHl r i x).SP = r.SP := by
  unfold setHl; repeat' split
  all_goals exact ⟨rfl, rfl, rfl, rfl, rfl, rfl, rfl⟩
theorem put_6 {r : Rg} {i c v : Int} (h : c % 8 = 6) : putR r i c v = r := by unfold putR; simp [h]
theorem get_put {r : Rg} {i c v : Int} (hv : isB v) (h : c % 8 ≠ 6) : getR (putR r i c v) i c = v := by
  unfold isB at hv
  have : c % 8 = 0 ∨ c % 8 = 1 ∨ c % 8 = 2 ∨ c % 8 = 3 ∨ c % 8 = 4 ∨ c % 8 = 5 ∨ c % 8 = 7 := by omega
  rw [get_mod, put_mod]
  rcases this with h | h | h | h | h | h | h <;> rw [h] <;> first
    | rfl
    | (show hlR (setHl r i _) i / 256 = v; rw [hl_set]; omega)
    | (show hlR (setHl r i _) i % 256 = v; rw [hl_set]; omega)
theorem get_other {r : Rg} (hr : r.Ok) {i c v k : Int} (hv : isB v) (k0 : 0 ≤ k) (k1 : k < 8) (hne : k ≠ c % 8) : getR (putR r i c v) i k = getR r i k := by
  have hh := hlR_in hr i
  unfold isB at hv
  unfold isW at hh
  obtain ⟨s1, s2, s3, s4, s5, s6, s7⟩ := seteq r i (v * 256 + hlR r i % 256)
  obtain ⟨z1, z2, z3, z4, z5, z6, z7⟩ := seteq r i (hlR r i / 256 * 256 + v)
  have hc : c % 8 = 0 ∨ c % 8 = 1 ∨ c % 8 = 2 ∨ c % 8 = 3 ∨ c % 8 = 4 ∨ c % 8 = 5 ∨ c % 8 = 6 ∨ c % 8 = 7 := by omega
  have hk : k = 0 ∨ k = 1 ∨ k = 2 ∨ k = 3 ∨ k = 4 ∨ k = 5 ∨ k = 6 ∨ k = 7 := by omega
  rw [put_mod]
  rcases hc with h | h | h | h | h | h | h | h <;> rw [h] at hne ⊢ <;> rcases hk with rfl | rfl | rfl | rfl | rfl | rfl | rfl | rfl <;> first
    | exact absurd rfl hne
    | rfl
    | (show hlR (setHl r i _) i / 256 = hlR r i / 256; rw [hl_set]; omega)
    | (show hlR (setHl r i _) i % 256 = hlR r i % 256; rw [hl_set]; omega)
    | exact s1
    | exact s3
    | exact s4
    | exact s5
    | exact s6
    | exact z1
    | exact z3
    | exact z4
    | exact z5
    | exact z6
theorem pair_put_same {r : Rg} {i c v : Int} {st : Bool} : pairR (putPairR r i c st v) i c st = v := by
  have : c % 4 = 0 ∨ c % 4 = 1 ∨ c % 4 = 2 ∨ c % 4 = 3 := by omega
  rw [pair_mod, putpair_mod]
  rcases this with h | h | h | h <;> rw [h]
  · show v / 256 * 256 + v % 256 = v; omega
  · show v / 256 * 256 + v % 256 = v; omega
  · exact hl_set r i v
  · cases st
    · rfl
    · show v / 256 * 256 + v % 256 = v; omega
theorem pair_other {r : Rg} {i c v k : Int} {st : Bool} (k0 : 0 ≤ k) (k1 : k < 4) (hne : k ≠ c % 4) : pairR (putPairR r i c st v) i k st = pairR r i k st := by
  obtain ⟨s1, s2, s3, s4, s5, s6, s7⟩ := seteq r i v
  have hc : c % 4 = 0 ∨ c % 4 = 1 ∨ c % 4 = 2 ∨ c % 4 = 3 := by omega
  have hk : k = 0 ∨ k = 1 ∨ k = 2 ∨ k = 3 := by omega
  rw [putpair_mod]
  rcases hc with h | h | h | h <;> rw [h] at hne ⊢ <;> rcases hk with rfl | rfl | rfl | rfl <;> first
    | exact absurd rfl hne
    | rfl
    | (show (setHl r i v).B * 256 + (setHl r i v).C = r.B * 256 + r.C; rw [s3, s4])
    | (show (setHl r i v).D * 256 + (setHl r i v).E = r.D * 256 + r.E; rw [s5, s6])
    | (cases st <;> rfl)
    | (cases st
       · exact s7
       · show (setHl r i v).A * 256 + (setHl r i v).F = r.A * 256 + r.F; rw [s1, s2])
theorem two_bytes {r : Rg} (hr : r.Ok) {i k : Int} {st : Bool} (k0 : 0 ≤ k) (k1 : k < 3) : getR r i (2 * k) * 256 + getR r i (2 * k + 1) = pairR r i k st := by
  have hk : k = 0 ∨ k = 1 ∨ k = 2 := by omega
  rcases hk with rfl | rfl | rfl
  · rfl
  · rfl
  · show hlR r i / 256 * 256 + hlR r i % 256 = hlR r i; omega
theorem getR_in {r : Rg} (hr : r.Ok) (i c : Int) : isB (getR r i c) := by
  have hh := hlR_in hr i
  unfold isW at hh
  unfold getR; repeat' split
  · exact hr.B
  · exact hr.C
  · exact hr.D
  · exact hr.E
  · unfold isB; omega
  · unfold isB; omega
  · exact hr.A
  · unfold isB; omega
end Go.Proofs.Ytedlfcmlchjjlaa
