
/- Ranges over a function: the list under Part's question. -/
import Derived.RangeFuncNested
import Derived.RangeFuncLeaves
import Derived.RangeFuncBox
import Derived.Shelf.Abstract
import Derived.WalkKit
import Derived.OwnWalkIn
import Derived.TacticsInMore
import Derived.LoopNIn
import Derived.LoopIn
import Derived.Test.YtileglkimbkkgaaK24
namespace Go.Proofs.Ytileglkimbkkgaa
open Go.RowKit Go.Shelf
set_option linter.unusedSimpArgs false
set_option linter.unusedVariables false
attribute [local go_sem] Oper.semAt_some

theorem below_grown {w w' : World} (h : Below w.heap.size w w') : w.grownBy w' none := ⟨h.os, h.tape, h.output, h.size, fun k hk _ => h.block k hk⟩
def onChip (chip : Int) (y : Ev) : Bool := y.chip == chip
theorem filter_take (q : Ev → Bool) (l : List Ev) (k : Nat) (hk : k < l.length) : (l.take (k + 1)).filter q = (l.take k).filter q ++ (if q (l.getD k evZ) = true then [l.getD k evZ] else []) := by
  rw [List.take_succ_eq_append_getElem hk, List.filter_append, List.getD_eq_getElem?_getD, List.getElem?_eq_getElem hk]
  simp only [Option.getD_some, List.filter_cons, List.filter_nil]

set_option maxRecDepth 100000 in
set_option maxHeartbeats 4000000 in
theorem those1_part (n : Nat) (hn : 1 ≤ n) (l n₀ Bs Bw Bc : Nat) (x : Ls) (chip : Int) (J Jx : List Ev → World → Prop)
    (hY : ∀ pre y W1, J pre W1 → pre.length < x.l.length → YieldAt Fence.wide (n - 1) Try.prog l #[y.val] W1 fun e W' => (e = .returned (.bool true) ∧ J (pre ++ [y]) W' ∧ Below n₀ W1 W') ∨ (e = .returned (.bool false) ∧ Jx (pre ++ [y]) W'))
    (W : World) (hW : n₀ ≤ W.heap.size) (hJ : AbidesFrom W.heap.size J) (hx : LsAt W n₀ x) (h1 : Bs < n₀) (h2 : Bw < n₀) (h3 : Bc < n₀)
    (c1 : W.cell? ⟨Bs, 0, none⟩ = some x.val) (c2 : W.cell? ⟨Bw, 0, none⟩ = some (.func (.func 63) #[] #[.pointer (some ⟨Bc, 0, none⟩)])) (c3 : W.cell? ⟨Bc, 0, none⟩ = some (.int .i64 chip)) (h0 : J [] W) :
    CallsIn Fence.wide n Try.prog 77 #[.func (.yield l) #[] #[], .pointer (some ⟨Bs, 0, none⟩), .pointer (some ⟨Bw, 0, none⟩)] W fun e W' => (∃ v, e = .returned v) ∧ ((∃ ys, ys = x.l.filter (onChip chip) ∧ J ys W') ∨ (∃ pre, True ∧ Jx pre W')) := by
  have hcap := hx.cap
  have hle := hx.le
  unfold maxLen at hcap
  unfold Ls.val at c1
  refine callsIn_of_wp Try.func77 rfl trivial ?_ rfl
  simp only [Try.ntmps77, List.size_toArray, List.length_cons, List.length_nil, Nat.reduceAdd, Nat.reduceSub, Array.replicate_succ, Array.replicate_zero, List.push_toArray, List.append_toArray, List.nil_append, List.cons_append]
  gi_wp2
  gi_loopw [8] (fun i wr => ∃ k : Nat, k ≤ x.l.length ∧ i = .int .i64 k ∧ J ((x.l.take k).filter (onChip chip)) wr ∧ Below n₀ W wr) (fun i _ => x.l.length - (intOf i).toNat)
  case atStart => exact ⟨0, Nat.zero_le _, rfl, h0, Below.refl _ _⟩
  case round =>
    obtain ⟨k, hk, rfl, hJs, hb⟩ := hrel
    have hlen : ((x.l.take k).filter (onChip chip)).length ≤ k := Nat.le_trans (List.length_filter_le _ _) (by simp; omega)
    by_cases hlt : k < x.l.length
    · have hft := filter_take (onChip chip) x.l k hlt
      obtain ⟨b, o, hA, hb1, hat⟩ := hx.at_ (by omega)
      have hu := (hat k hlt).keep (hb.block b hb1)
      obtain ⟨y, hy⟩ : ∃ y, x.l.getD k evZ = y := ⟨_, rfl⟩
      rw [hy] at hft
      rw [show x.l.getD k ⟨0, 0, 0, 0, 0, 0⟩ = y from hy] at hu
      obtain ⟨d0, d1, d2, d3, d4, d5⟩ := hu
      have hsz := hb.size
      have hB0 : Below wr.heap.size wr (wr.alloc (evO y)) := (Below.refl _ _).alloc (Nat.le_refl _) _
      have e2 : (wr.alloc (evO y)).cell? ⟨Bw, 0, none⟩ = some (.func (.func 63) #[] #[.pointer (some ⟨Bc, 0, none⟩)]) := (hB0.cell (p := ⟨Bw, 0, none⟩) (show Bw < wr.heap.size by omega)).trans ((hb.cell h2).trans c2)
      have e3 : (wr.alloc (evO y)).cell? ⟨Bc, 0, none⟩ = some (.int .i64 chip) := (hB0.cell (p := ⟨Bc, 0, none⟩) (show Bc < wr.heap.size by omega)).trans ((hb.cell h3).trans c3)
      obtain ⟨s0, s1, s2, s3, s4, s5⟩ := EV.laid wr y
      have hP := part1_any (wr.alloc (evO y)) y Bc chip e3 (by simp; omega)
      obtain ⟨q, hq⟩ : ∃ q, (y.chip == chip) = q := ⟨_, rfl⟩
      rw [hq] at hP
      have HP := Lib.hid hP
      have HQ := Lib.hid (show onChip chip y = q from hq)
      have HJ := Lib.hid hJ
      have HF := Lib.hid hft
      have HY := Lib.hid hY
      have HL := Lib.hid hlen
      have HS := Lib.hid (EV.laid wr y)
      clear hJ hft hy hY hat hlen e3 hP hq
      unfold evO at e2 s0 s1 s2 s3 s4 s5
      unfold Ev.val at HP
      rw [hA]
      cases q
      · gi_wp2_with (refine ⟨trivial, ?_⟩; gi_at_call 63; refine (callsIn_wide.2 HP.out).mono ?_; rintro e W2 ⟨rfl, hb2⟩)
        refine ⟨fun _ h => (by cases h), ?_⟩
        gi_wp2
        go_roundw
        case rel =>
          have hbw : Below wr.heap.size wr W2 := hB0.trans (hb2.mono (by simp))
          refine ⟨k + 1, by omega, by simp, ?_, hb.trans (hbw.mono (by omega))⟩
          rw [HF.out, if_neg (by rw [HQ.out]; decide), List.append_nil]
          exact HJ.out _ _ _ none hJs (below_grown hbw) (fun r e => by cases e)
        case measure => simp [intOf]; omega
      · gi_wp2_with (refine ⟨trivial, ?_⟩; gi_at_call 63; refine (callsIn_wide.2 HP.out).mono ?_; rintro e W2 ⟨rfl, hb2⟩; (obtain ⟨t0, t1, t2, t3, t4, t5⟩ := HS.out.below hb2 (by simp)); (have hbw : Below wr.heap.size wr W2 := hB0.trans (hb2.mono (by simp))); (obtain ⟨fn, tmps, assign, body, hy, hR⟩ := HY.out _ y W2 (HJ.out _ _ _ none hJs (below_grown hbw) (fun r e => by cases e)) (by have := HL.out; omega)); unfold Ev.val at hy; clear s0 s1 s2 s3 s4 s5)
        refine hR.mono ?_
        rintro e W3 (⟨rfl, hJ3, hk3⟩ | ⟨rfl, hJx3⟩)
        · gi_wp2
          go_roundw
          case rel =>
            refine ⟨k + 1, by omega, by simp, ?_, (hb.trans (hbw.mono (by omega))).trans hk3⟩
            rw [HF.out, if_pos HQ.out]
            exact hJ3
          case measure => simp [intOf]; omega
        · gi_wp2
          refine bodyPost_ret (results_none rfl _ _ _) rfl ?_
          exact ⟨⟨_, rfl⟩, .inr ⟨_, trivial, hJx3⟩⟩
    · obtain rfl : k = x.l.length := by omega
      gi_wp2
      go_end0
      exact ⟨⟨_, rfl⟩, .inl ⟨_, rfl, by rw [List.take_length] at hJs; exact hJs⟩⟩

/-- What those hands back, under Part's question: the events of one chip, in order; or a beginning of them. -/
theorem those_stops (n : Nat) (hn : 1 ≤ n) (n₀ Bs Bw Bc : Nat) (x : Ls) (chip : Int) (w : World) (hW : n₀ ≤ w.heap.size) (hx : LsAt w n₀ x) (h1 : Bs < n₀) (h2 : Bw < n₀) (h3 : Bc < n₀)
    (c1 : w.cell? ⟨Bs, 0, none⟩ = some x.val) (c2 : w.cell? ⟨Bw, 0, none⟩ = some (.func (.func 63) #[] #[.pointer (some ⟨Bc, 0, none⟩)])) (c3 : w.cell? ⟨Bc, 0, none⟩ = some (.int .i64 chip)) :
    SeqStopsK Fence.wide n Try.prog 77 #[.pointer (some ⟨Bs, 0, none⟩), .pointer (some ⟨Bw, 0, none⟩)] (fun y : Ev => #[y.val]) (Below n₀) (fun ys => ys = x.l.filter (onChip chip)) (fun _ => True) x.l.length w := fun l J Jx W hb hJ _ hY h0 =>
  those1_part n hn l n₀ Bs Bw Bc x chip J Jx hY W (by have := hb.size; omega) hJ (hx.keep fun k hk => hb.block k (by omega)) h1 h2 h3
    ((hb.cell (p := ⟨Bs, 0, none⟩) (show Bs < w.heap.size by omega)).trans c1) ((hb.cell (p := ⟨Bw, 0, none⟩) (show Bw < w.heap.size by omega)).trans c2) ((hb.cell (p := ⟨Bc, 0, none⟩) (show Bc < w.heap.size by omega)).trans c3) h0
end Go.Proofs.Ytileglkimbkkgaa
