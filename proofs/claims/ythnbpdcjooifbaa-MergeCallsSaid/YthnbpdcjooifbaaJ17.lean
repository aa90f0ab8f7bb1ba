/-    -/
import Derived.Test.YthnbpdcjooifbaaJ14
import Derived.RangeFuncNested
import Derived.RangeFuncLeaves
import Derived.RangeFuncBox
import Derived.Shelf.Abstract
import Derived.WalkKit
import Derived.OwnWalkIn
import Derived.TacticsInMore
import Derived.LoopNIn
import Derived.LoopIn
namespace Go.Proofs.Ythnbpdcjooifbaa
open Go.RowKit
set_option linter.unusedSimpArgs false
set_option linter.unusedVariables false

set_option maxRecDepth 100000 in
theorem cut1_any (w : World) (y : Ev) (Bc : Nat) (chip : Int) (hc : w.cell? ⟨Bc, 0, none⟩ = some (.int .i64 chip)) (hB : Bc < w.heap.size) :
    Calls Try.prog 53 #[y.val, .pointer (some ⟨Bc, 0, none⟩)] w fun e w' => e = .returned (.bool (decide (y.time < chip))) ∧ Below w.heap.size w w' := by
  have hc2 : (w.alloc (evO y)).cell? ⟨Bc, 0, none⟩ = some (.int .i64 chip) := (((Below.refl w.heap.size w).alloc (Nat.le_refl _) _).cell hB).trans hc
  have he := EV.laid w y
  obtain ⟨c0, c1, c2, c3, c4, c5⟩ := he
  unfold evO at hc2 c0 c1 c2 c3 c4 c5
  unfold Ev.val
  go_enter Try.func53, Try.ntmps53
  go_wp2_with fail
  go_ret
  exact ⟨rfl, (Below.refl _ _).alloc (Nat.le_refl _) _⟩

set_option maxRecDepth 100000 in
theorem cut2_any (w : World) (y : Ev) (Bc : Nat) (chip : Int) (hc : w.cell? ⟨Bc, 0, none⟩ = some (.int .i64 chip)) (hB : Bc < w.heap.size) :
    Calls Try.prog 54 #[y.val, .pointer (some ⟨Bc, 0, none⟩)] w fun e w' => e = .returned (.bool (decide (chip ≤ y.time))) ∧ Below w.heap.size w w' := by
  have hc2 : (w.alloc (evO y)).cell? ⟨Bc, 0, none⟩ = some (.int .i64 chip) := (((Below.refl w.heap.size w).alloc (Nat.le_refl _) _).cell hB).trans hc
  have he := EV.laid w y
  obtain ⟨c0, c1, c2, c3, c4, c5⟩ := he
  unfold evO at hc2 c0 c1 c2 c3 c4 c5
  unfold Ev.val
  go_enter Try.func54, Try.ntmps54
  go_wp2_with fail
  go_ret
  exact ⟨rfl, (Below.refl _ _).alloc (Nat.le_refl _) _⟩

def aheadOf (t : Int) (y : Ev) : Bool := decide (y.time < t)
def behindOf (t : Int) (y : Ev) : Bool := decide (t ≤ y.time)
end Go.Proofs.Ythnbpdcjooifbaa
namespace Go.Proofs.Ythnbpdcjooifbaa
open Go.RowKit Go.Shelf
set_option linter.unusedSimpArgs false
set_option linter.unusedVariables false
attribute [local go_sem] Oper.semAt_some

set_option maxRecDepth 100000 in
set_option maxHeartbeats 4000000 in
theorem those1_cut1 (n : Nat) (hn : 1 ≤ n) (l n₀ Bs Bw Bc : Nat) (x : Ls) (chip : Int) (J Jx : List Ev → World → Prop)
    (hY : ∀ pre y W1, J pre W1 → pre.length < x.l.length → YieldAt Fence.wide (n - 1) Try.prog l #[y.val] W1 fun e W' => (e = .returned (.bool true) ∧ J (pre ++ [y]) W' ∧ Below n₀ W1 W') ∨ (e = .returned (.bool false) ∧ Jx (pre ++ [y]) W'))
    (W : World) (hW : n₀ ≤ W.heap.size) (hJ : AbidesFrom W.heap.size J) (hx : LsAt W n₀ x) (h1 : Bs < n₀) (h2 : Bw < n₀) (h3 : Bc < n₀)
    (c1 : W.cell? ⟨Bs, 0, none⟩ = some x.val) (c2 : W.cell? ⟨Bw, 0, none⟩ = some (.func (.func 53) #[] #[.pointer (some ⟨Bc, 0, none⟩)])) (c3 : W.cell? ⟨Bc, 0, none⟩ = some (.int .i64 chip)) (h0 : J [] W) :
    CallsIn Fence.wide n Try.prog 77 #[.func (.yield l) #[] #[], .pointer (some ⟨Bs, 0, none⟩), .pointer (some ⟨Bw, 0, none⟩)] W fun e W' => (∃ v, e = .returned v) ∧ ((∃ ys, ys = x.l.filter (aheadOf chip) ∧ J ys W') ∨ (∃ pre, True ∧ Jx pre W')) := by
  have hcap := hx.cap
  have hle := hx.le
  unfold maxLen at hcap
  unfold Ls.val at c1
  refine callsIn_of_wp Try.func77 rfl trivial ?_ rfl
  simp only [Try.ntmps77, List.size_toArray, List.length_cons, List.length_nil, Nat.reduceAdd, Nat.reduceSub, Array.replicate_succ, Array.replicate_zero, List.push_toArray, List.append_toArray, List.nil_append, List.cons_append]
  gi_wp2
  gi_loopw [8] (fun i wr => ∃ k : Nat, k ≤ x.l.length ∧ i = .int .i64 k ∧ J ((x.l.take k).filter (aheadOf chip)) wr ∧ Below n₀ W wr) (fun i _ => x.l.length - (intOf i).toNat)
  case atStart => exact ⟨0, Nat.zero_le _, rfl, h0, Below.refl _ _⟩
  case round =>
    obtain ⟨k, hk, rfl, hJs, hb⟩ := hrel
    have hlen : ((x.l.take k).filter (aheadOf chip)).length ≤ k := Nat.le_trans (List.length_filter_le _ _) (by simp; omega)
    by_cases hlt : k < x.l.length
    · have hft := filter_take (aheadOf chip) x.l k hlt
      obtain ⟨b, o, hA, hb1, hat⟩ := hx.at_ (by omega)
      have hu := (hat k hlt).keep (hb.block b hb1)
      obtain ⟨y, hy⟩ : ∃ y, x.l.getD k evZ = y := ⟨_, rfl⟩
      rw [hy] at hft
      rw [show x.l.getD k ⟨0, 0, 0, 0, 0, 0⟩ = y from hy] at hu
      obtain ⟨d0, d1, d2, d3, d4, d5⟩ := hu
      have hsz := hb.size
      have hB0 : Below wr.heap.size wr (wr.alloc (evO y)) := (Below.refl _ _).alloc (Nat.le_refl _) _
      have e2 : (wr.alloc (evO y)).cell? ⟨Bw, 0, none⟩ = some (.func (.func 53) #[] #[.pointer (some ⟨Bc, 0, none⟩)]) := (hB0.cell (p := ⟨Bw, 0, none⟩) (show Bw < wr.heap.size by omega)).trans ((hb.cell h2).trans c2)
      have e3 : (wr.alloc (evO y)).cell? ⟨Bc, 0, none⟩ = some (.int .i64 chip) := (hB0.cell (p := ⟨Bc, 0, none⟩) (show Bc < wr.heap.size by omega)).trans ((hb.cell h3).trans c3)
      obtain ⟨s0, s1, s2, s3, s4, s5⟩ := EV.laid wr y
      have hP := cut1_any (wr.alloc (evO y)) y Bc chip e3 (by simp; omega)
      obtain ⟨q, hq⟩ : ∃ q, decide (y.time < chip) = q := ⟨_, rfl⟩
      rw [hq] at hP
      have HP := Lib.hid hP
      have HQ := Lib.hid (show aheadOf chip y = q from hq)
      have HJ := Lib.hid hJ
      have HF := Lib.hid hft
      have HY := Lib.hid hY
      have HL := Lib.hid hlen
      have HS := Lib.hid (EV.laid wr y)
      clear hJ hft hy hY hat hlen e3 hP hq
      unfold evO at e2 s0 s1 s2 s3 s4 s5
      unfold Ev.val at HP
      rw [hA]
      cases q
      · gi_wp2_with (refine ⟨trivial, ?_⟩; gi_at_call 53; refine (callsIn_wide.2 HP.out).mono ?_; rintro e W2 ⟨rfl, hb2⟩)
        refine ⟨fun _ h => (by cases h), ?_⟩
        gi_wp2
        go_roundw
        case rel =>
          have hbw : Below wr.heap.size wr W2 := hB0.trans (hb2.mono (by simp))
          refine ⟨k + 1, by omega, by simp, ?_, hb.trans (hbw.mono (by omega))⟩
          rw [HF.out, if_neg (by rw [HQ.out]; decide), List.append_nil]
          exact HJ.out _ _ _ none hJs (below_grown hbw) (fun r e => by cases e)
        case measure => simp [intOf]; omega
      · gi_wp2_with (refine ⟨trivial, ?_⟩; gi_at_call 53; refine (callsIn_wide.2 HP.out).mono ?_; rintro e W2 ⟨rfl, hb2⟩; (obtain ⟨t0, t1, t2, t3, t4, t5⟩ := HS.out.below hb2 (by simp)); (have hbw : Below wr.heap.size wr W2 := hB0.trans (hb2.mono (by simp))); (obtain ⟨fn, tmps, assign, body, hy, hR⟩ := HY.out _ y W2 (HJ.out _ _ _ none hJs (below_grown hbw) (fun r e => by cases e)) (by have := HL.out; omega)); unfold Ev.val at hy; clear s0 s1 s2 s3 s4 s5)
        refine hR.mono ?_
        rintro e W3 (⟨rfl, hJ3, hk3⟩ | ⟨rfl, hJx3⟩)
        · gi_wp2
          go_roundw
          case rel =>
            refine ⟨k + 1, by omega, by simp, ?_, (hb.trans (hbw.mono (by omega))).trans hk3⟩
            rw [HF.out, if_pos HQ.out]
            exact hJ3
          case measure => simp [intOf]; omega
        · gi_wp2
          refine bodyPost_ret (results_none rfl _ _ _) rfl ?_
          exact ⟨⟨_, rfl⟩, .inr ⟨_, trivial, hJx3⟩⟩
    · obtain rfl : k = x.l.length := by omega
      gi_wp2
      go_end0
      exact ⟨⟨_, rfl⟩, .inl ⟨_, rfl, by rw [List.take_length] at hJs; exact hJs⟩⟩

/-- What those hands back, under Cut's question: the events of one chip, in order; or a beginning of them. -/
theorem stops_cut1 (n : Nat) (hn : 1 ≤ n) (n₀ Bs Bw Bc : Nat) (x : Ls) (chip : Int) (w : World) (hW : n₀ ≤ w.heap.size) (hx : LsAt w n₀ x) (h1 : Bs < n₀) (h2 : Bw < n₀) (h3 : Bc < n₀)
    (c1 : w.cell? ⟨Bs, 0, none⟩ = some x.val) (c2 : w.cell? ⟨Bw, 0, none⟩ = some (.func (.func 53) #[] #[.pointer (some ⟨Bc, 0, none⟩)])) (c3 : w.cell? ⟨Bc, 0, none⟩ = some (.int .i64 chip)) :
    SeqStopsK Fence.wide n Try.prog 77 #[.pointer (some ⟨Bs, 0, none⟩), .pointer (some ⟨Bw, 0, none⟩)] (fun y : Ev => #[y.val]) (Below n₀) (fun ys => ys = x.l.filter (aheadOf chip)) (fun _ => True) x.l.length w := fun l J Jx W hb hJ _ hY h0 =>
  those1_cut1 n hn l n₀ Bs Bw Bc x chip J Jx hY W (by have := hb.size; omega) hJ (hx.keep fun k hk => hb.block k (by omega)) h1 h2 h3
    ((hb.cell (p := ⟨Bs, 0, none⟩) (show Bs < w.heap.size by omega)).trans c1) ((hb.cell (p := ⟨Bw, 0, none⟩) (show Bw < w.heap.size by omega)).trans c2) ((hb.cell (p := ⟨Bc, 0, none⟩) (show Bc < w.heap.size by omega)).trans c3) h0

set_option maxRecDepth 100000 in
set_option maxHeartbeats 4000000 in
theorem those1_cut2 (n : Nat) (hn : 1 ≤ n) (l n₀ Bs Bw Bc : Nat) (x : Ls) (chip : Int) (J Jx : List Ev → World → Prop)
    (hY : ∀ pre y W1, J pre W1 → pre.length < x.l.length → YieldAt Fence.wide (n - 1) Try.prog l #[y.val] W1 fun e W' => (e = .returned (.bool true) ∧ J (pre ++ [y]) W' ∧ Below n₀ W1 W') ∨ (e = .returned (.bool false) ∧ Jx (pre ++ [y]) W'))
    (W : World) (hW : n₀ ≤ W.heap.size) (hJ : AbidesFrom W.heap.size J) (hx : LsAt W n₀ x) (h1 : Bs < n₀) (h2 : Bw < n₀) (h3 : Bc < n₀)
    (c1 : W.cell? ⟨Bs, 0, none⟩ = some x.val) (c2 : W.cell? ⟨Bw, 0, none⟩ = some (.func (.func 54) #[] #[.pointer (some ⟨Bc, 0, none⟩)])) (c3 : W.cell? ⟨Bc, 0, none⟩ = some (.int .i64 chip)) (h0 : J [] W) :
    CallsIn Fence.wide n Try.prog 77 #[.func (.yield l) #[] #[], .pointer (some ⟨Bs, 0, none⟩), .pointer (some ⟨Bw, 0, none⟩)] W fun e W' => (∃ v, e = .returned v) ∧ ((∃ ys, ys = x.l.filter (behindOf chip) ∧ J ys W') ∨ (∃ pre, True ∧ Jx pre W')) := by
  have hcap := hx.cap
  have hle := hx.le
  unfold maxLen at hcap
  unfold Ls.val at c1
  refine callsIn_of_wp Try.func77 rfl trivial ?_ rfl
  simp only [Try.ntmps77, List.size_toArray, List.length_cons, List.length_nil, Nat.reduceAdd, Nat.reduceSub, Array.replicate_succ, Array.replicate_zero, List.push_toArray, List.append_toArray, List.nil_append, List.cons_append]
  gi_wp2
  gi_loopw [8] (fun i wr => ∃ k : Nat, k ≤ x.l.length ∧ i = .int .i64 k ∧ J ((x.l.take k).filter (behindOf chip)) wr ∧ Below n₀ W wr) (fun i _ => x.l.length - (intOf i).toNat)
  case atStart => exact ⟨0, Nat.zero_le _, rfl, h0, Below.refl _ _⟩
  case round =>
    obtain ⟨k, hk, rfl, hJs, hb⟩ := hrel
    have hlen : ((x.l.take k).filter (behindOf chip)).length ≤ k := Nat.le_trans (List.length_filter_le _ _) (by simp; omega)
    by_cases hlt : k < x.l.length
    · have hft := filter_take (behindOf chip) x.l k hlt
      obtain ⟨b, o, hA, hb1, hat⟩ := hx.at_ (by omega)
      have hu := (hat k hlt).keep (hb.block b hb1)
      obtain ⟨y, hy⟩ : ∃ y, x.l.getD k evZ = y := ⟨_, rfl⟩
      rw [hy] at hft
      rw [show x.l.getD k ⟨0, 0, 0, 0, 0, 0⟩ = y from hy] at hu
      obtain ⟨d0, d1, d2, d3, d4, d5⟩ := hu
      have hsz := hb.size
      have hB0 : Below wr.heap.size wr (wr.alloc (evO y)) := (Below.refl _ _).alloc (Nat.le_refl _) _
      have e2 : (wr.alloc (evO y)).cell? ⟨Bw, 0, none⟩ = some (.func (.func 54) #[] #[.pointer (some ⟨Bc, 0, none⟩)]) := (hB0.cell (p := ⟨Bw, 0, none⟩) (show Bw < wr.heap.size by omega)).trans ((hb.cell h2).trans c2)
      have e3 : (wr.alloc (evO y)).cell? ⟨Bc, 0, none⟩ = some (.int .i64 chip) := (hB0.cell (p := ⟨Bc, 0, none⟩) (show Bc < wr.heap.size by omega)).trans ((hb.cell h3).trans c3)
      obtain ⟨s0, s1, s2, s3, s4, s5⟩ := EV.laid wr y
      have hP := cut2_any (wr.alloc (evO y)) y Bc chip e3 (by simp; omega)
      obtain ⟨q, hq⟩ : ∃ q, decide (chip ≤ y.time) = q := ⟨_, rfl⟩
      rw [hq] at hP
      have HP := Lib.hid hP
      have HQ := Lib.hid (show behindOf chip y = q from hq)
      have HJ := Lib.hid hJ
      have HF := Lib.hid hft
      have HY := Lib.hid hY
      have HL := Lib.hid hlen
      have HS := Lib.hid (EV.laid wr y)
      clear hJ hft hy hY hat hlen e3 hP hq
      unfold evO at e2 s0 s1 s2 s3 s4 s5
      unfold Ev.val at HP
      rw [hA]
      cases q
      · gi_wp2_with (refine ⟨trivial, ?_⟩; gi_at_call 54; refine (callsIn_wide.2 HP.out).mono ?_; rintro e W2 ⟨rfl, hb2⟩)
        refine ⟨fun _ h => (by cases h), ?_⟩
        gi_wp2
        go_roundw
        case rel =>
          have hbw : Below wr.heap.size wr W2 := hB0.trans (hb2.mono (by simp))
          refine ⟨k + 1, by omega, by simp, ?_, hb.trans (hbw.mono (by omega))⟩
          rw [HF.out, if_neg (by rw [HQ.out]; decide), List.append_nil]
          exact HJ.out _ _ _ none hJs (below_grown hbw) (fun r e => by cases e)
        case measure => simp [intOf]; omega
      · gi_wp2_with (refine ⟨trivial, ?_⟩; gi_at_call 54; refine (callsIn_wide.2 HP.out).mono ?_; rintro e W2 ⟨rfl, hb2⟩; (obtain ⟨t0, t1, t2, t3, t4, t5⟩ := HS.out.below hb2 (by simp)); (have hbw : Below wr.heap.size wr W2 := hB0.trans (hb2.mono (by simp))); (obtain ⟨fn, tmps, assign, body, hy, hR⟩ := HY.out _ y W2 (HJ.out _ _ _ none hJs (below_grown hbw) (fun r e => by cases e)) (by have := HL.out; omega)); unfold Ev.val at hy; clear s0 s1 s2 s3 s4 s5)
        refine hR.mono ?_
        rintro e W3 (⟨rfl, hJ3, hk3⟩ | ⟨rfl, hJx3⟩)
        · gi_wp2
          go_roundw
          case rel =>
            refine ⟨k + 1, by omega, by simp, ?_, (hb.trans (hbw.mono (by omega))).trans hk3⟩
            rw [HF.out, if_pos HQ.out]
            exact hJ3
          case measure => simp [intOf]; omega
        · gi_wp2
          refine bodyPost_ret (results_none rfl _ _ _) rfl ?_
          exact ⟨⟨_, rfl⟩, .inr ⟨_, trivial, hJx3⟩⟩
    · obtain rfl : k = x.l.length := by omega
      gi_wp2
      go_end0
      exact ⟨⟨_, rfl⟩, .inl ⟨_, rfl, by rw [List.take_length] at hJs; exact hJs⟩⟩

/-- What those hands back, under Cut's question: the events of one chip, in order; or a beginning of them. -/
theorem stops_cut2 (n : Nat) (hn : 1 ≤ n) (n₀ Bs Bw Bc : Nat) (x : Ls) (chip : Int) (w : World) (hW : n₀ ≤ w.heap.size) (hx : LsAt w n₀ x) (h1 : Bs < n₀) (h2 : Bw < n₀) (h3 : Bc < n₀)
    (c1 : w.cell? ⟨Bs, 0, none⟩ = some x.val) (c2 : w.cell? ⟨Bw, 0, none⟩ = some (.func (.func 54) #[] #[.pointer (some ⟨Bc, 0, none⟩)])) (c3 : w.cell? ⟨Bc, 0, none⟩ = some (.int .i64 chip)) :
    SeqStopsK Fence.wide n Try.prog 77 #[.pointer (some ⟨Bs, 0, none⟩), .pointer (some ⟨Bw, 0, none⟩)] (fun y : Ev => #[y.val]) (Below n₀) (fun ys => ys = x.l.filter (behindOf chip)) (fun _ => True) x.l.length w := fun l J Jx W hb hJ _ hY h0 =>
  those1_cut2 n hn l n₀ Bs Bw Bc x chip J Jx hY W (by have := hb.size; omega) hJ (hx.keep fun k hk => hb.block k (by omega)) h1 h2 h3
    ((hb.cell (p := ⟨Bs, 0, none⟩) (show Bs < w.heap.size by omega)).trans c1) ((hb.cell (p := ⟨Bw, 0, none⟩) (show Bw < w.heap.size by omega)).trans c2) ((hb.cell (p := ⟨Bc, 0, none⟩) (show Bc < w.heap.size by omega)).trans c3) h0
end Go.Proofs.Ythnbpdcjooifbaa
namespace Go.Proofs.Ythnbpdcjooifbaa
open Go.RowKit Go.Shelf
set_option linter.unusedSimpArgs false
set_option linter.unusedVariables false

theorem coll_cut1 (W : World) (x : Ls) (t : Int) (Bc : Nat) (h : LsAt W W.heap.size x) (hN : x.l.length ≤ 1048576) (hc : W.cell? ⟨Bc, 0, none⟩ = some (.int .i64 t)) (hB : Bc < W.heap.size) :
    Calls Try.prog 51 #[.func (.func 77) #[] #[.pointer (some ⟨W.heap.size, 0, none⟩), .pointer (some ⟨W.heap.size + 1, 0, none⟩)]]
      ((W.alloc (boxL x)).alloc (.cells #[.func (.func 53) #[] #[.pointer (some ⟨Bc, 0, none⟩)]] 72)) (ListTo W (x.l.filter (aheadOf t))) := by
  have hb2 : Below W.heap.size W ((W.alloc (boxL x)).alloc (.cells #[.func (.func 53) #[] #[.pointer (some ⟨Bc, 0, none⟩)]] 72)) := ((Below.refl W.heap.size W).alloc (Nat.le_refl _) (boxL x)).alloc (by simp) _
  have h1 : ((W.alloc (boxL x)).alloc (.cells #[.func (.func 53) #[] #[.pointer (some ⟨Bc, 0, none⟩)]] 72)).cell? ⟨W.heap.size, 0, none⟩ = some x.val := by
    have h1 : (W.alloc (boxL x)).cell? ⟨W.heap.size, 0, none⟩ = some x.val := by rw [World.cell?_alloc_at _ _ _ _ rfl]; rfl
    exact (((Below.refl (W.alloc (boxL x)).heap.size _).alloc (Nat.le_refl _) _).cell (p := ⟨W.heap.size, 0, none⟩) (by simp)).trans h1
  have h2 : ((W.alloc (boxL x)).alloc (.cells #[.func (.func 53) #[] #[.pointer (some ⟨Bc, 0, none⟩)]] 72)).cell? ⟨W.heap.size + 1, 0, none⟩ = some (.func (.func 53) #[] #[.pointer (some ⟨Bc, 0, none⟩)]) := by
    have e : W.heap.size + 1 = (W.alloc (boxL x)).heap.size := by simp
    rw [e, World.cell?_alloc_at _ _ _ _ rfl]; rfl
  have h3 := (hb2.cell (p := ⟨Bc, 0, none⟩) hB).trans hc
  have hx := (h.keep hb2.block).more (show W.heap.size ≤ ((W.alloc (boxL x)).alloc (.cells #[.func (.func 53) #[] #[.pointer (some ⟨Bc, 0, none⟩)]] 72)).heap.size by simp; omega)
  refine (callsIn_wide.1 (collect_in 5 (by decide) 77 _ (enters_of Try.func77 (by kernel_rfl) rfl) _ x.l.length hN _
    (stops_cut1 4 (by decide) _ W.heap.size (W.heap.size + 1) Bc x t _ (Nat.le_refl _) hx (by simp; omega) (by simp) (by simp; omega) h1 h2 h3))).mono ?_
  rintro e w' ⟨v, ys, rfl, rfl, hr, _, hb⟩
  obtain ⟨y, rfl, hy, hl⟩ := row_to_ls hr
  exact ⟨y, rfl, hy, hl, hb2.trans (hb.mono (by simp; omega))⟩

theorem coll_cut2 (W : World) (x : Ls) (t : Int) (Bc : Nat) (h : LsAt W W.heap.size x) (hN : x.l.length ≤ 1048576) (hc : W.cell? ⟨Bc, 0, none⟩ = some (.int .i64 t)) (hB : Bc < W.heap.size) :
    Calls Try.prog 51 #[.func (.func 77) #[] #[.pointer (some ⟨W.heap.size, 0, none⟩), .pointer (some ⟨W.heap.size + 1, 0, none⟩)]]
      ((W.alloc (boxL x)).alloc (.cells #[.func (.func 54) #[] #[.pointer (some ⟨Bc, 0, none⟩)]] 72)) (ListTo W (x.l.filter (behindOf t))) := by
  have hb2 : Below W.heap.size W ((W.alloc (boxL x)).alloc (.cells #[.func (.func 54) #[] #[.pointer (some ⟨Bc, 0, none⟩)]] 72)) := ((Below.refl W.heap.size W).alloc (Nat.le_refl _) (boxL x)).alloc (by simp) _
  have h1 : ((W.alloc (boxL x)).alloc (.cells #[.func (.func 54) #[] #[.pointer (some ⟨Bc, 0, none⟩)]] 72)).cell? ⟨W.heap.size, 0, none⟩ = some x.val := by
    have h1 : (W.alloc (boxL x)).cell? ⟨W.heap.size, 0, none⟩ = some x.val := by rw [World.cell?_alloc_at _ _ _ _ rfl]; rfl
    exact (((Below.refl (W.alloc (boxL x)).heap.size _).alloc (Nat.le_refl _) _).cell (p := ⟨W.heap.size, 0, none⟩) (by simp)).trans h1
  have h2 : ((W.alloc (boxL x)).alloc (.cells #[.func (.func 54) #[] #[.pointer (some ⟨Bc, 0, none⟩)]] 72)).cell? ⟨W.heap.size + 1, 0, none⟩ = some (.func (.func 54) #[] #[.pointer (some ⟨Bc, 0, none⟩)]) := by
    have e : W.heap.size + 1 = (W.alloc (boxL x)).heap.size := by simp
    rw [e, World.cell?_alloc_at _ _ _ _ rfl]; rfl
  have h3 := (hb2.cell (p := ⟨Bc, 0, none⟩) hB).trans hc
  have hx := (h.keep hb2.block).more (show W.heap.size ≤ ((W.alloc (boxL x)).alloc (.cells #[.func (.func 54) #[] #[.pointer (some ⟨Bc, 0, none⟩)]] 72)).heap.size by simp; omega)
  refine (callsIn_wide.1 (collect_in 5 (by decide) 77 _ (enters_of Try.func77 (by kernel_rfl) rfl) _ x.l.length hN _
    (stops_cut2 4 (by decide) _ W.heap.size (W.heap.size + 1) Bc x t _ (Nat.le_refl _) hx (by simp; omega) (by simp) (by simp; omega) h1 h2 h3))).mono ?_
  rintro e w' ⟨v, ys, rfl, rfl, hr, _, hb⟩
  obtain ⟨y, rfl, hy, hl⟩ := row_to_ls hr
  exact ⟨y, rfl, hy, hl, hb2.trans (hb.mono (by simp; omega))⟩

def CutTo (w : World) (l : List Ev) (t : Int) (e : Ending) (w' : World) : Prop := ∃ y z : Ls, e = .returned (.tuple #[y.val, z.val]) ∧ y.l = l.filter (aheadOf t) ∧ z.l = l.filter (behindOf t) ∧ LsAt w' w'.heap.size y ∧ LsAt w' w'.heap.size z ∧ Below w.heap.size w w' ∧ (y.A = none → y.c = 0) ∧ (z.A = none → z.c = 0)

set_option maxRecDepth 100000 in
set_option maxHeartbeats 2000000 in
theorem cut_any (w : World) (x : Ls) (t : Int) (h : LsAt w w.heap.size x) (hN : x.l.length ≤ 1048576) :
    Calls Try.prog 21 #[x.val, .int .i64 t] w (CutTo w x.l t) := by
  have HT := Lib.hid (fun (W : World) (g : Nat) (lb : Array Value) => those_any W x g lb)
  have hb1 : Below w.heap.size w (w.alloc (.cells #[.int .i64 t] 2)) := (Below.refl _ _).alloc (Nat.le_refl _) _
  have hc1 : (w.alloc (.cells #[.int .i64 t] 2)).cell? ⟨w.heap.size, 0, none⟩ = some (.int .i64 t) := by rw [World.cell?_alloc_at _ _ _ _ rfl]; rfl
  have hx1 := (h.keep hb1.block).more hb1.size
  have h1 := coll_cut1 (w.alloc (.cells #[.int .i64 t] 2)) x t w.heap.size hx1 hN hc1 (by simp)
  rw [World.size_alloc] at h1
  have H1 := Lib.hid h1
  have HB1 := Lib.hid hb1
  have HC1 := Lib.hid hc1
  have HX := Lib.hid h
  clear h1 hb1 hc1 hx1 h
  unfold Ls.val at HT ⊢
  go_enter Try.func21, Try.ntmps21
  go_wp2_with (go_at_call 52; (with_reducible refine (HT.out _ _ _).mono ?_); rintro e w' ⟨rfl, rfl⟩)
  refine H1.out.mono ?_
  rintro e w2 ⟨y, rfl, hy, hyl, hb2⟩
  have hbw : Below w.heap.size w w2 := HB1.out.trans (hb2.mono (by simp))
  have hs2 := hb2.size
  simp only [World.size_alloc] at hs2
  have hc2 : w2.cell? ⟨w.heap.size, 0, none⟩ = some (.int .i64 t) := (hb2.cell (p := ⟨w.heap.size, 0, none⟩) (by simp)).trans HC1.out
  have H2 := Lib.hid (coll_cut2 w2 x t w.heap.size ((HX.out.keep hbw.block).more hbw.size) hN hc2 (by omega))
  have HY := Lib.hid hy
  have HYL := Lib.hid hyl
  have HBW := Lib.hid hbw
  clear hy hyl hbw hc2 hb2
  unfold Ls.val
  go_wp2_with (go_at_call 52; (with_reducible refine (HT.out _ _ _).mono ?_); rintro e w' ⟨rfl, rfl⟩)
  refine H2.out.mono ?_
  rintro e w3 ⟨z, rfl, hz, hzl, hb3⟩
  have HF := Lib.hid (show CutTo w x.l t (.returned (.tuple #[y.val, z.val])) w3 from ⟨y, z, rfl, HY.out, hz, (HYL.out.1.keep hb3.block).more hb3.size, hzl.1, HBW.out.trans (hb3.mono HBW.out.size), HYL.out.2, hzl.2⟩)
  clear hz hzl hb3
  unfold Ls.val at HF ⊢
  go_wp2_with fail
  go_ret2
  exact HF.out
end Go.Proofs.Ythnbpdcjooifbaa
