
/- Package raster: Next. -/
import Derived.Test.YtlghfngomiiclaaV7
namespace Go.Proofs.Ytlghfngomiiclaa
open Go.RowKit
set_option linter.unusedSimpArgs false
set_option linter.unusedVariables false
set_option maxRecDepth 100000

theorem results_next {fn : Func} {p u v : Tmp} (h : fn.results = #[.tmp u, .cell p 27, .tmp v]) (tmps : Array Value) (w : World) (b : Nat) (d x y : Int) (e f : Value) (hp : tmps.getD p undef = .pointer (some ⟨b, 0, none⟩)) (hu : tmps.getD u undef = e) (hv : tmps.getD v undef = f) (hS : BW w b d x y) :
    (results fn tmps).run Try.prog w = .ok (.tuple #[e, bmV d x y, f]) w := by
  have hp' : tmps[p]?.getD undef = .pointer (some ⟨b, 0, none⟩) := by simpa using hp
  have hu' : tmps[u]?.getD undef = e := by simpa using hu
  have hv' : tmps[v]?.getD undef = f := by simpa using hv
  simp [results, h, hp', hu', hv', asAddr, run_loadVar_row w b _ 27 _ (0, 0) _ hS Try.underlying27 rfl infoBm]

set_option maxHeartbeats 2000000 in
theorem next_yes (w : World) (s : Scr) (hm : s.May) (t n : Int) (h0 : 0 ≤ t) (hn0 : t ≤ n) (hn1 : n ≤ 1099511627776) (hq : ∀ k, t ≤ k → k < n → (beamB s k).1 = 0) (hd : (beamB s n).1 ≠ 0) :
    Calls Try.prog 19 #[s.val, .int .i64 t] w fun e w' => e = .returned (.tuple #[.int .i64 n, bmV (beamB s n).1 (beamB s n).2.1 (beamB s n).2.2, .bool true]) ∧ Below w.heap.size w w' := by
  have hA := fun (k : Int) (a : 0 ≤ k) (b : k ≤ 1099511627776) (w : World) => at_yes w s k hm a b
  have hmax : max t 0 = t := by omega
  generalize hf : (fun k => beamB s k) = f at *
  have hfk : ∀ k, beamB s k = f k := fun k => by rw [← hf]
  simp only [hfk] at *
  clear hf hfk
  have HQ := Lib.hid hq
  have HD := Lib.hid hd
  have HA := Lib.hid hA
  clear hq hd hA
  unfold Scr.val
  go_enter Try.func19, Try.ntmps19
  go_wp2_with fail
  go_loopw [1] (fun v wr => ∃ k : Int, t ≤ k ∧ k ≤ n ∧ v = .int .i64 k ∧ SB wr w.heap.size s ∧ BW wr (w.heap.size + 1) 0 0 0 ∧ Below w.heap.size w wr) (fun v _ => (n - intOf v).toNat)
  case atStart =>
    obtain ⟨hB, hS, hP⟩ := at_new w s _ (Below.refl _ _)
    exact ⟨t, Int.le_refl _, hn0, rfl, hS, hP, hB⟩
  case round =>
    obtain ⟨k, hk0, hk1, rfl, hS, hP, hB⟩ := hrel
    have hlt := hP.lt
    have hlt2 : w.heap.size < wr.heap.size := by omega
    obtain ⟨c0, c1, c2, c3, c4, c5, c6⟩ := hS
    have hS : SB wr w.heap.size s := ⟨c0, c1, c2, c3, c4, c5, c6⟩
    go_wp2_with fail
    clear c0 c1 c2 c3 c4 c5 c6
    refine (HA.out k (by omega) (by omega) wr).mono ?_
    rintro e w2 ⟨rfl, hb⟩
    have hS := hS.below hb hlt2
    have hP := hP.below hb hlt
    have hB := hB.trans (hb.mono hB.size)
    have hs := hb.size
    have hl1 : w.heap.size + 1 < w2.heap.size := hP.lt
    have hl2 : w.heap.size < w2.heap.size := by omega
    have hk2 : 0 ≤ k := by omega
    clear hb hs
    rcases Int.lt_or_eq_of_le hk1 with hk | rfl
    · have hz := HQ.out k hk0 hk
      generalize hg : f k = g at *
      clear hg
      obtain ⟨d, x, y⟩ := g
      simp only at hz
      subst hz
      go_wp2_with fail
      go_roundw
      case rel =>
        exact ⟨k + 1, by omega, by omega, rfl, (hS.below ((Below.refl _ _).alloc (Nat.le_refl _) _) hl2), hP.alloc _, hB.alloc hB.size _⟩
      case measure => simp [intOf]; omega
    · have hz := HD.out
      clear hn0
      have d0 := hP.c0
      have d1 := hP.c1
      have d2 := hP.c2
      have g0 := hP.free 0
      have g1 := hP.free 1
      have g2 := hP.free 2
      obtain ⟨⟨d, x, y⟩, hg⟩ : ∃ g, f k = g := ⟨_, rfl⟩
      rw [hg] at hz
      rw [hg]
      have HG := Lib.hid hg
      clear hg HQ HA HD
      simp only at hz
      go_upto_region 7 with fail
      go_region
      all_goals (try go_wp2)
      all_goals (try simp only [Exit.inBlock, Exit.then])
      all_goals refine bodyPost_ret (v := .tuple #[.int .i64 k, bmV d x y, .bool true]) (results_next rfl _ _ _ _ _ _ _ _ rfl rfl rfl ((putBm_bw hP d x y).alloc _).drew) rfl ⟨by rw [HG.out], ((hB.trans (putBm_below _ _ d x y (by omega))).alloc (by have := hB.size; simp; omega) _).drew⟩
end Go.Proofs.Ytlghfngomiiclaa
