/-      -/
import Derived.Test.YthnbpdcjooifbaaJ11
import Derived.RangeFuncNested
import Derived.RangeFuncLeaves
import Derived.RangeFuncBox
import Derived.Shelf.Abstract
import Derived.WalkKit
import Derived.OwnWalkIn
import Derived.TacticsInMore
import Derived.LoopNIn
import Derived.LoopIn
import Derived.Maps.AppendAt
import Derived.Test.YthnbpdcjooifbaaZK15
import Derived.Test.YthnbpdcjooifbaaJ12
import Derived.Test.YthnbpdcjooifbaaJ8
namespace Go.Proofs.Ythnbpdcjooifbaa
open Go.RowKit
set_option linter.unusedSimpArgs false
set_option linter.unusedVariables false

set_option maxRecDepth 100000 in
theorem part1_any (w : World) (y : Ev) (Bc : Nat) (chip : Int) (hc : w.cell? ⟨Bc, 0, none⟩ = some (.int .i64 chip)) (hB : Bc < w.heap.size) :
    Calls Try.prog 63 #[y.val, .pointer (some ⟨Bc, 0, none⟩)] w fun e w' => e = .returned (.bool (y.chip == chip)) ∧ Below w.heap.size w w' := by
  have hc2 : (w.alloc (evO y)).cell? ⟨Bc, 0, none⟩ = some (.int .i64 chip) := (((Below.refl w.heap.size w).alloc (Nat.le_refl _) _).cell hB).trans hc
  have he := EV.laid w y
  obtain ⟨c0, c1, c2, c3, c4, c5⟩ := he
  unfold evO at hc2 c0 c1 c2 c3 c4 c5
  unfold Ev.val
  go_enter Try.func63, Try.ntmps63
  go_wp2_with fail
  go_ret
  exact ⟨rfl, (Below.refl _ _).alloc (Nat.le_refl _) _⟩

abbrev boxL (x : Ls) : Obj := .cells #[x.val] 25
theorem those_any (w : World) (x : Ls) (g : Nat) (lb : Array Value) :
    Calls Try.prog 52 #[x.val, .func (.func g) #[] lb] w fun e w' => e = .returned (.func (.func 77) #[] #[.pointer (some ⟨w.heap.size, 0, none⟩), .pointer (some ⟨w.heap.size + 1, 0, none⟩)]) ∧
      w' = (w.alloc (boxL x)).alloc (.cells #[.func (.func g) #[] lb] 72) := by
  unfold boxL Ls.val
  go_enter Try.func52, Try.ntmps52
  go_wp2_with fail
  go_ret
  simp
end Go.Proofs.Ythnbpdcjooifbaa
namespace Go.Proofs.Ythnbpdcjooifbaa
open Go.RowKit Go.Shelf
set_option linter.unusedSimpArgs false
set_option linter.unusedVariables false
attribute [local go_sem] Oper.semAt_some

theorem below_grown {w w' : World} (h : Below w.heap.size w w') : w.grownBy w' none := ⟨h.os, h.tape, h.output, h.size, fun k hk _ => h.block k hk⟩
def onChip (chip : Int) (y : Ev) : Bool := y.chip == chip
theorem filter_take (q : Ev → Bool) (l : List Ev) (k : Nat) (hk : k < l.length) : (l.take (k + 1)).filter q = (l.take k).filter q ++ (if q (l.getD k evZ) = true then [l.getD k evZ] else []) := by
  rw [List.take_succ_eq_append_getElem hk, List.filter_append, List.getD_eq_getElem?_getD, List.getElem?_eq_getElem hk]
  simp only [Option.getD_some, List.filter_cons, List.filter_nil]

set_option maxRecDepth 100000 in
set_option maxHeartbeats 4000000 in
theorem those1_part (n : Nat) (hn : 1 ≤ n) (l n₀ Bs Bw Bc : Nat) (x : Ls) (chip : Int) (J Jx : List Ev → World → Prop)
    (hY : ∀ pre y W1, J pre W1 → pre.length < x.l.length → YieldAt Fence.wide (n - 1) Try.prog l #[y.val] W1 fun e W' => (e = .returned (.bool true) ∧ J (pre ++ [y]) W' ∧ Below n₀ W1 W') ∨ (e = .returned (.bool false) ∧ Jx (pre ++ [y]) W'))
    (W : World) (hW : n₀ ≤ W.heap.size) (hJ : AbidesFrom W.heap.size J) (hx : LsAt W n₀ x) (h1 : Bs < n₀) (h2 : Bw < n₀) (h3 : Bc < n₀)
    (c1 : W.cell? ⟨Bs, 0, none⟩ = some x.val) (c2 : W.cell? ⟨Bw, 0, none⟩ = some (.func (.func 63) #[] #[.pointer (some ⟨Bc, 0, none⟩)])) (c3 : W.cell? ⟨Bc, 0, none⟩ = some (.int .i64 chip)) (h0 : J [] W) :
    CallsIn Fence.wide n Try.prog 77 #[.func (.yield l) #[] #[], .pointer (some ⟨Bs, 0, none⟩), .pointer (some ⟨Bw, 0, none⟩)] W fun e W' => (∃ v, e = .returned v) ∧ ((∃ ys, ys = x.l.filter (onChip chip) ∧ J ys W') ∨ (∃ pre, True ∧ Jx pre W')) := by
  have hcap := hx.cap
  have hle := hx.le
  unfold maxLen at hcap
  unfold Ls.val at c1
  refine callsIn_of_wp Try.func77 rfl trivial ?_ rfl
  simp only [Try.ntmps77, List.size_toArray, List.length_cons, List.length_nil, Nat.reduceAdd, Nat.reduceSub, Array.replicate_succ, Array.replicate_zero, List.push_toArray, List.append_toArray, List.nil_append, List.cons_append]
  gi_wp2
  gi_loopw [8] (fun i wr => ∃ k : Nat, k ≤ x.l.length ∧ i = .int .i64 k ∧ J ((x.l.take k).filter (onChip chip)) wr ∧ Below n₀ W wr) (fun i _ => x.l.length - (intOf i).toNat)
  case atStart => exact ⟨0, Nat.zero_le _, rfl, h0, Below.refl _ _⟩
  case round =>
    obtain ⟨k, hk, rfl, hJs, hb⟩ := hrel
    have hlen : ((x.l.take k).filter (onChip chip)).length ≤ k := Nat.le_trans (List.length_filter_le _ _) (by simp; omega)
    by_cases hlt : k < x.l.length
    · have hft := filter_take (onChip chip) x.l k hlt
      obtain ⟨b, o, hA, hb1, hat⟩ := hx.at_ (by omega)
      have hu := (hat k hlt).keep (hb.block b hb1)
      obtain ⟨y, hy⟩ : ∃ y, x.l.getD k evZ = y := ⟨_, rfl⟩
      rw [hy] at hft
      rw [show x.l.getD k ⟨0, 0, 0, 0, 0, 0⟩ = y from hy] at hu
      obtain ⟨d0, d1, d2, d3, d4, d5⟩ := hu
      have hsz := hb.size
      have hB0 : Below wr.heap.size wr (wr.alloc (evO y)) := (Below.refl _ _).alloc (Nat.le_refl _) _
      have e2 : (wr.alloc (evO y)).cell? ⟨Bw, 0, none⟩ = some (.func (.func 63) #[] #[.pointer (some ⟨Bc, 0, none⟩)]) := (hB0.cell (p := ⟨Bw, 0, none⟩) (show Bw < wr.heap.size by omega)).trans ((hb.cell h2).trans c2)
      have e3 : (wr.alloc (evO y)).cell? ⟨Bc, 0, none⟩ = some (.int .i64 chip) := (hB0.cell (p := ⟨Bc, 0, none⟩) (show Bc < wr.heap.size by omega)).trans ((hb.cell h3).trans c3)
      obtain ⟨s0, s1, s2, s3, s4, s5⟩ := EV.laid wr y
      have hP := part1_any (wr.alloc (evO y)) y Bc chip e3 (by simp; omega)
      obtain ⟨q, hq⟩ : ∃ q, (y.chip == chip) = q := ⟨_, rfl⟩
      rw [hq] at hP
      have HP := Lib.hid hP
      have HQ := Lib.hid (show onChip chip y = q from hq)
      have HJ := Lib.hid hJ
      have HF := Lib.hid hft
      have HY := Lib.hid hY
      have HL := Lib.hid hlen
      have HS := Lib.hid (EV.laid wr y)
      clear hJ hft hy hY hat hlen e3 hP hq
      unfold evO at e2 s0 s1 s2 s3 s4 s5
      unfold Ev.val at HP
      rw [hA]
      cases q
      · gi_wp2_with (refine ⟨trivial, ?_⟩; gi_at_call 63; refine (callsIn_wide.2 HP.out).mono ?_; rintro e W2 ⟨rfl, hb2⟩)
        refine ⟨fun _ h => (by cases h), ?_⟩
        gi_wp2
        go_roundw
        case rel =>
          have hbw : Below wr.heap.size wr W2 := hB0.trans (hb2.mono (by simp))
          refine ⟨k + 1, by omega, by simp, ?_, hb.trans (hbw.mono (by omega))⟩
          rw [HF.out, if_neg (by rw [HQ.out]; decide), List.append_nil]
          exact HJ.out _ _ _ none hJs (below_grown hbw) (fun r e => by cases e)
        case measure => simp [intOf]; omega
      · gi_wp2_with (refine ⟨trivial, ?_⟩; gi_at_call 63; refine (callsIn_wide.2 HP.out).mono ?_; rintro e W2 ⟨rfl, hb2⟩; (obtain ⟨t0, t1, t2, t3, t4, t5⟩ := HS.out.below hb2 (by simp)); (have hbw : Below wr.heap.size wr W2 := hB0.trans (hb2.mono (by simp))); (obtain ⟨fn, tmps, assign, body, hy, hR⟩ := HY.out _ y W2 (HJ.out _ _ _ none hJs (below_grown hbw) (fun r e => by cases e)) (by have := HL.out; omega)); unfold Ev.val at hy; clear s0 s1 s2 s3 s4 s5)
        refine hR.mono ?_
        rintro e W3 (⟨rfl, hJ3, hk3⟩ | ⟨rfl, hJx3⟩)
        · gi_wp2
          go_roundw
          case rel =>
            refine ⟨k + 1, by omega, by simp, ?_, (hb.trans (hbw.mono (by omega))).trans hk3⟩
            rw [HF.out, if_pos HQ.out]
            exact hJ3
          case measure => simp [intOf]; omega
        · gi_wp2
          refine bodyPost_ret (results_none rfl _ _ _) rfl ?_
          exact ⟨⟨_, rfl⟩, .inr ⟨_, trivial, hJx3⟩⟩
    · obtain rfl : k = x.l.length := by omega
      gi_wp2
      go_end0
      exact ⟨⟨_, rfl⟩, .inl ⟨_, rfl, by rw [List.take_length] at hJs; exact hJs⟩⟩

/-- What those hands back, under Part's question: the events of one chip, in order; or a beginning of them. -/
theorem those_stops (n : Nat) (hn : 1 ≤ n) (n₀ Bs Bw Bc : Nat) (x : Ls) (chip : Int) (w : World) (hW : n₀ ≤ w.heap.size) (hx : LsAt w n₀ x) (h1 : Bs < n₀) (h2 : Bw < n₀) (h3 : Bc < n₀)
    (c1 : w.cell? ⟨Bs, 0, none⟩ = some x.val) (c2 : w.cell? ⟨Bw, 0, none⟩ = some (.func (.func 63) #[] #[.pointer (some ⟨Bc, 0, none⟩)])) (c3 : w.cell? ⟨Bc, 0, none⟩ = some (.int .i64 chip)) :
    SeqStopsK Fence.wide n Try.prog 77 #[.pointer (some ⟨Bs, 0, none⟩), .pointer (some ⟨Bw, 0, none⟩)] (fun y : Ev => #[y.val]) (Below n₀) (fun ys => ys = x.l.filter (onChip chip)) (fun _ => True) x.l.length w := fun l J Jx W hb hJ _ hY h0 =>
  those1_part n hn l n₀ Bs Bw Bc x chip J Jx hY W (by have := hb.size; omega) hJ (hx.keep fun k hk => hb.block k (by omega)) h1 h2 h3
    ((hb.cell (p := ⟨Bs, 0, none⟩) (show Bs < w.heap.size by omega)).trans c1) ((hb.cell (p := ⟨Bw, 0, none⟩) (show Bw < w.heap.size by omega)).trans c2) ((hb.cell (p := ⟨Bc, 0, none⟩) (show Bc < w.heap.size by omega)).trans c3) h0
end Go.Proofs.Ythnbpdcjooifbaa
namespace Go.Proofs.Ythnbpdcjooifbaa
open Go.RowKit Go.Shelf
set_option linter.unusedSimpArgs false
set_option linter.unusedVariables false
attribute [local go_sem] Oper.semAt_some

theorem ew_own (B : Nat) (y : Ev) : Own (fun (_ : Unit) W => EW W B y) := fun s X Y row hs hg hrow => by
  refine (hg.block B hs.lt (fun e => ?_)).trans hs
  obtain ⟨o, ho, hc⟩ := hrow B e.symm
  rw [show X.heap[B]? = _ from hs] at ho; cases ho; cases hc
theorem new_ev (W : World) (y : Ev) : ∀ j u, (y.cells)[j]? = some u → (W.alloc (.cells #[.int .i64 y.time, .int .i64 y.chip, .int .i64 y.seq, .int .i64 y.kind, .int .i64 y.a, .int .i64 y.b] 23)).cell? ((⟨W.heap.size, 0, none⟩ : Addr).add j) = some u := by
  intro j u hj
  have e : (⟨W.heap.size, 0, none⟩ : Addr).add j = ⟨W.heap.size, j, none⟩ := by
    unfold Addr.add
    by_cases h : j = 0
    · rw [if_pos h, h]
    · rw [if_neg h]; simp
  rw [e, World.cell?_alloc_at _ _ _ _ rfl]
  simpa [Ev.cells] using hj
theorem cells_one (y : Ev) : ∀ u ∈ y.cells, u.oneCell' = true := by
  intro u hu
  simp only [Ev.cells, List.mem_cons, List.not_mem_nil, or_false] at hu
  rcases hu with rfl | rfl | rfl | rfl | rfl | rfl <;> rfl

set_option maxRecDepth 100000 in
set_option maxHeartbeats 4000000 in
theorem collect_in (n : Nat) (hn : 3 ≤ n) (g : Nat) (lb : Array Value) (eg : ∀ args w, (callFunc g args).run Try.prog w = .ok (.enter g args) w) (S : List Ev → Prop) (N : Nat) (hN : N ≤ 1048576) (w : World)
    (hseq : SeqStopsK Fence.wide (n - 1) Try.prog g lb (fun y : Ev => #[y.val]) (Below w.heap.size) S (fun _ => True) N w) :
    CallsIn Fence.wide n Try.prog 51 #[.func (.func g) #[] lb] w fun e W' => ∃ v ys, e = .returned v ∧ S ys ∧ W'.ownsRow w.heap.size 23 6 v ys.length (rowV ys) ∧ (v = .slice none 0 0 ↔ ys = []) ∧ Below w.heap.size w W' := by
  have h1 : 1 ≤ n := by omega
  obtain ⟨i0, hi, hz0, hz1, hz2⟩ := info_parts info_ev
  refine callsIn_of_wp_marks Try.func51 rfl trivial ?_ rfl
  simp only [Try.ntmps51, List.size_toArray, List.length_cons, List.length_nil, Nat.reduceAdd, Nat.reduceSub, Array.replicate_succ, Array.replicate_zero, List.push_toArray, List.append_toArray, List.nil_append, List.cons_append]
  gi_wp2
  have bO := Boxed.new w 25 (.slice none 0 0)
  have hB0 : Below w.heap.size w (w.alloc (.cells #[.slice none 0 0] 25)) := (Below.refl _ w).alloc (Nat.le_refl _) _
  refine wpIn_rangeFunc_ownH rfl h1 (gf := g) (lb := lb) rfl trivial eg hseq belowK_t (belowK_b (by simp)) hB0 (fun _ => rfl)
    (fun pre W => (∃ v, Boxed W w.heap.size 25 v ∧ W.ownsRow w.heap.size 23 6 v pre.length (rowV pre) ∧ (v = .slice none 0 0 ↔ pre = [])) ∧ Below w.heap.size w W)
    (fun _ _ _ => False)
    (OwnFrom.and (Own.from (holdsRow_own w.heap.size w.heap.size 25 23 6 (fun pre : List Ev => pre.length) (fun pre => rowV pre) (fun pre v => v = .slice none 0 0 ↔ pre = [])) _) (ownFrom_below (Nat.le_refl _) (by simp)))
    (fun _ _ _ _ _ hs _ _ => hs)
    ⟨⟨_, bO, World.ownsRow_nil _ _ _ _, by simp⟩, hB0⟩
    (fun y a' W => ∃ Bx, w.heap.size < Bx ∧ EW W Bx y ∧ a' = { tmps := #[.func (.func g) #[] lb, undef, .slice none 0 0, .pointer (some ⟨w.heap.size, 0, none⟩), .pointer (some ⟨Bx, 0, none⟩), .func (.func g) #[] lb, y.val, undef, undef, undef, undef, undef], defers := [] })
    (fun y a' _ X Y row hs hg hr => by obtain ⟨Bx, h1, h2, h3⟩ := hs; exact ⟨Bx, h1, ew_own Bx y () X Y row h2 hg (fun r e => (hr r e).2), h3⟩)
    ?assign ?body ?done ?stop
  case assign =>
    rintro l pre y W K ⟨⟨v, hv, hrow, hnil⟩, hB⟩ hK
    unfold Ev.val at hK ⊢
    gi_wp2
    exact hK _ _ ((KeepsOthers.alloc _ _).from _) ((Below.refl _ W).alloc hB.size _) ⟨⟨v, hv.alloc _, hrow.alloc _, hnil⟩, hB.alloc hB.size _⟩ ⟨W.heap.size, hv.lt, EW.laid W y, rfl⟩
  case body =>
    rintro l pre y a' W hl ⟨r, hr⟩ ⟨⟨v, hv, hrow, hnil⟩, hB⟩ ⟨Bx, hBx, hE, rfl⟩ hlt
    obtain ⟨c0, c1, c2, c3, c4, c5⟩ := hE.ev
    have hc := hv.cell
    have hf := hv.frozen
    have hsz := hB.size
    unfold Ev.val
    gi_wp2_with (gi_at_builtin; refine wpListIn_append_own _ rfl _ _ 25 rfl w.heap.size 23 i0 _ 6 48 Try.underlying25 hi hz0 hz1 hz2 rfl (by decide) _ _ _ rfl (hrow.alloc _) ⟨W.heap.size, 0, none⟩ 1 1 y.cells rfl rfl (new_ev _ _) (cells_one _) (by unfold maxLen; omega) (by omega) (by simp; omega) ?_; intro v' w1 hown' hgrow _; obtain ⟨g', cap', rfl⟩ := ownsRow_succ hown'; obtain ⟨hv1, hv2, hr2, hk2, hb2⟩ := hv.appended (by decide) hrow hB.size (Nat.le_refl _) hown' hgrow; have hc1 := hv1.cell; have hf1 := hv1.frozen)
    exact ⟨hk2.from _, hb2, ⟨_, hv2, by rw [rowV_snoc]; simpa using hr2, by simp⟩, hB.trans hb2⟩
  case done =>
    rintro D ys W hD hS ⟨⟨v, hv, hrow, hnil⟩, hB⟩ hK
    have hc := hv.cell
    gi_wp2
    refine ⟨by simp, .inl ⟨_, _, rfl, run_takeDeferred hK, ?_⟩⟩
    exact ⟨_, results_tmp rfl _ _ _, v, ys, rfl, hS, ownsRow_putObj hrow _ hK rfl, hnil, hB.trans (belowK_b (w := w) (Nat.le_refl _) W D _ _ (by simp at hD; omega) hK rfl rfl)⟩
  case stop =>
    rintro D c pre W _ _ h _
    exact h.elim
end Go.Proofs.Ythnbpdcjooifbaa
namespace Go.Proofs.Ythnbpdcjooifbaa
open Go.RowKit Go.Shelf
set_option linter.unusedSimpArgs false
set_option linter.unusedVariables false

theorem row_to_ls {w : World} {base : Nat} {v : Value} {ys : List Ev} (h : w.ownsRow base 23 6 v ys.length (rowV ys)) : ∃ y : Ls, v = y.val ∧ y.l = ys ∧ LsAt w w.heap.size y ∧ (y.A = none → y.c = 0) := by
  rcases h.2 with ⟨h1, h2⟩ | ⟨g, cap, cur, e1, e2, e3, e4⟩
  · have : ys = [] := List.eq_nil_of_length_eq_zero h2
    subst this
    exact ⟨Ls.none, h1, rfl, ⟨Nat.le_refl _, by decide, fun h => absurd h (by decide)⟩, fun _ => rfl⟩
  · subst e1
    have h3 := own_ls h ys.length (Nat.le_refl _)
    rw [List.take_length] at h3
    exact ⟨⟨some ⟨g, 0, none⟩, cap, ys⟩, rfl, rfl, h3, fun h => by cases h⟩

/-- A list of the call's own: what it is, where it lies. -/
def ListTo (w : World) (ys : List Ev) (e : Ending) (w' : World) : Prop := ∃ y : Ls, e = .returned y.val ∧ y.l = ys ∧ (LsAt w' w'.heap.size y ∧ (y.A = none → y.c = 0)) ∧ Below w.heap.size w w'

set_option maxRecDepth 100000 in
set_option maxHeartbeats 2000000 in
theorem part_any (w : World) (x : Ls) (chip : Int) (h : LsAt w w.heap.size x) (hN : x.l.length ≤ 1048576) :
    Calls Try.prog 28 #[x.val, .int .i64 chip] w (ListTo w (x.l.filter (onChip chip))) := by
  have HT := Lib.hid (fun (W : World) (g : Nat) (lb : Array Value) => those_any W x g lb)
  have HX := Lib.hid h
  have HC := Lib.hid (fun (W : World) (hb : Below w.heap.size w W) (c3 : W.cell? ⟨w.heap.size, 0, none⟩ = some (.int .i64 chip)) (hsz : w.heap.size < W.heap.size) =>
    callsIn_wide.1 (collect_in 5 (by decide) 77 #[.pointer (some ⟨W.heap.size, 0, none⟩), .pointer (some ⟨W.heap.size + 1, 0, none⟩)] (enters_of Try.func77 (by kernel_rfl) rfl) _ x.l.length hN
      ((W.alloc (boxL x)).alloc (.cells #[.func (.func 63) #[] #[.pointer (some ⟨w.heap.size, 0, none⟩)]] 72))
      (those_stops 4 (by decide) ((W.alloc (boxL x)).alloc (.cells #[.func (.func 63) #[] #[.pointer (some ⟨w.heap.size, 0, none⟩)]] 72)).heap.size W.heap.size (W.heap.size + 1) w.heap.size x chip _ (Nat.le_refl _)
        ((h.keep fun k hk => by
          have h2 := (((hb.alloc hb.size (boxL x)).alloc (by have := hb.size; simp; omega) (.cells #[.func (.func 63) #[] #[.pointer (some ⟨w.heap.size, 0, none⟩)]] 72))).block k hk
          exact h2).more (by simp; omega))
        (by simp; omega) (by simp) (by simp; omega)
        (by
          have h1 : (W.alloc (boxL x)).cell? ⟨W.heap.size, 0, none⟩ = some x.val := by rw [World.cell?_alloc_at _ _ _ _ rfl]; rfl
          exact (((Below.refl (W.alloc (boxL x)).heap.size _).alloc (Nat.le_refl _) _).cell (p := ⟨W.heap.size, 0, none⟩) (by simp)).trans h1)
        (by
          have e : W.heap.size + 1 = (W.alloc (boxL x)).heap.size := by simp
          rw [e, World.cell?_alloc_at _ _ _ _ rfl]; rfl)
        (by
          have h1 := ((Below.refl W.heap.size W).alloc (Nat.le_refl _) (boxL x)).alloc (by simp) (.cells #[.func (.func 63) #[] #[.pointer (some ⟨w.heap.size, 0, none⟩)]] 72)
          exact (h1.cell (p := ⟨w.heap.size, 0, none⟩) hsz).trans c3))))
  unfold Ls.val at HT ⊢
  go_enter Try.func28, Try.ntmps28
  go_wp2_with (first
    | (go_at_call 52; (with_reducible refine (HT.out _ _ _).mono ?_); rintro e w' ⟨rfl, rfl⟩))
  have hcol := HC.out (w.alloc (.cells #[.int .i64 chip] 3)) ((Below.refl _ _).alloc (Nat.le_refl _) _) (by rw [World.cell?_alloc_at _ _ _ _ rfl]; rfl) (by simp)
  rw [World.size_alloc] at hcol
  refine hcol.mono ?_
  rintro e w' ⟨v, ys, rfl, rfl, hr, _, hb⟩
  obtain ⟨y, rfl, hy, hl⟩ := row_to_ls hr
  have hbw : Below w.heap.size w w' := ((((Below.refl w.heap.size w).alloc (Nat.le_refl _) (.cells #[.int .i64 chip] 3)).alloc (by simp) (boxL x)).alloc (by simp; omega) (.cells #[.func (.func 63) #[] #[.pointer (some ⟨w.heap.size, 0, none⟩)]] 72)).trans (hb.mono (by simp; omega))
  have HY := Lib.hid hy
  have HV := Lib.hid (show ListTo w (x.l.filter (onChip chip)) (.returned y.val) w' from ⟨y, rfl, hy, hl, hbw⟩)
  clear hcol hr hb hbw hl hy
  unfold Ls.val at HV ⊢
  go_wp2_with fail
  go_ret
  exact HV.out
end Go.Proofs.Ythnbpdcjooifbaa
namespace Go.Proofs.Ythnbpdcjooifbaa
open Go.RowKit
set_option linter.unusedSimpArgs false
set_option linter.unusedVariables false

theorem does_append_ls {o : Oper} {a : Act} {w : World} {K : Value → World → Prop} (s x : Operand) (t : TypeId)
    (hop : o.op = Op.call { callee := Callee.builtin Builtin.append, args := #[s, x], argTypes := #[t, t] }) (h1 : Try.prog.underlying t = some (.slice 23))
    (base : Nat) (v : Value) (M : List Ev) (hs : a.eval s = v) (hown : w.ownsRow base 23 6 v M.length (rowV M)) (B : Nat) (y : Ls) (hx : a.eval x = y.val) (hy : LsAt w B y) (hn : y.A = none → y.c = 0)
    (b1 : (M ++ y.l).length ≤ 2932031007402) (hbase : base ≤ w.heap.size)
    (hK : ∀ v' w', w'.ownsRow base 23 6 v' (M ++ y.l).length (rowV (M ++ y.l)) → w.grownBy w' v.ownBlock → K v' w') : Oper.does Try.prog o a w K := by
  obtain ⟨i0, hi, hz0, hz1, hz2⟩ := info_parts info_ev
  have hr : rowV (M ++ y.l) = rowV M ++ rowV y.l := by unfold rowV; rw [List.flatMap_append]
  rw [List.length_append] at b1
  cases hA : y.A with
  | none =>
    have hl : y.l = [] := by
      by_cases h0 : 0 < y.l.length
      · obtain ⟨b, o, e, _⟩ := hy.at_ h0
        rw [hA] at e; cases e
      · exact List.eq_nil_of_length_eq_zero (by omega)
    have hx2 : a.eval x = .slice none 0 0 := by rw [hx]; unfold Ls.val; rw [hA, hl, hn hA]; rfl
    have hrun := run_append_owned_none (P := Try.prog) (w := w) base t o.type 23 i0 6 h1 hi v M.length (rowV M) hown
    have hk := hK v w (by rw [hl, List.append_nil]; exact hown) (World.grownBy.refl _ _)
    unfold Oper.does
    simp [execOp, hop, resolve, invoke, builtin, hs, hx2, hrun, Result.andThen]
    exact hk
  | some ad =>
    have hx2 : a.eval x = .slice (some ad) y.l.length y.c := by rw [hx]; unfold Ls.val; rw [hA]
    obtain ⟨v', w', hrun, r1, r2, _⟩ := run_append_own (P := Try.prog) w base t o.type 23 i0 _ 6 48 h1 hi hz0 hz1 hz2 rfl (by decide) v M.length (rowV M) hown ad y.l.length y.c (rowV y.l) (cells_len _) (hy.cells hA) rowV_one (by unfold maxLen; omega) (by omega) hbase
    have hk := hK v' w' (by rw [hr, List.length_append]; exact r1) r2
    unfold Oper.does
    simp [execOp, hop, resolve, invoke, builtin, hs, hx2, hrun, Result.andThen]
    exact hk

/-- The rest of a list from the k-th on. -/
theorem LsAt.post {w : World} {B g c : Nat} {l : List Ev} (h : LsAt w B ⟨some ⟨g, 0, none⟩, c, l⟩) (k : Nat) (hk : k ≤ l.length) : LsAt w B ⟨(if c = k then some ⟨g, 0, none⟩ else some ⟨g, k * 6, none⟩), c - k, l.drop k⟩ := by
  have hle : l.length ≤ c := h.le
  have hcap : c ≤ maxLen := h.cap
  refine ⟨by show (l.drop k).length ≤ c - k; rw [List.length_drop]; omega, by show c - k ≤ maxLen; omega, fun h0 => ?_⟩
  have h0' : k < l.length := by
    have : 0 < (l.drop k).length := h0
    rw [List.length_drop] at this; omega
  obtain ⟨b, o, h1, h2, h3⟩ := h.at_ (by show 0 < l.length; omega)
  obtain ⟨rfl, rfl⟩ : g = b ∧ 0 = o := by simpa using h1
  refine ⟨g, k * 6, by show (if c = k then _ else _) = _; rw [if_neg (by omega)], h2, fun i hi => ?_⟩
  have hi' : k + i < l.length := by
    have : i < (l.drop k).length := hi
    rw [List.length_drop] at this; omega
  have e : (l.drop k).getD i ⟨0, 0, 0, 0, 0, 0⟩ = l.getD (k + i) ⟨0, 0, 0, 0, 0, 0⟩ := by
    simp only [List.getD_eq_getElem?_getD, List.getElem?_drop]
  show EvAt w g (k * 6 + i * 6) ((l.drop k).getD i ⟨0, 0, 0, 0, 0, 0⟩)
  rw [e, show k * 6 + i * 6 = 0 + (k + i) * 6 by omega]
  exact h3 (k + i) hi'
/-- A new block that is an event, as a list of one. -/
theorem one_ls (w : World) (y : Ev) : LsAt (w.alloc (evO y)) (w.heap.size + 1) ⟨some ⟨w.heap.size, 0, none⟩, 1, [y]⟩ := by
  refine ⟨Nat.le_refl _, by show 1 ≤ maxLen; decide, fun _ => ⟨w.heap.size, 0, rfl, by omega, fun i hi => ?_⟩⟩
  obtain rfl : i = 0 := by have : i < 1 := hi; omega
  obtain ⟨c0, c1, c2, c3, c4, c5⟩ := EV.laid w y
  exact ⟨c0, c1, c2, c3, c4, c5⟩
end Go.Proofs.Ythnbpdcjooifbaa
