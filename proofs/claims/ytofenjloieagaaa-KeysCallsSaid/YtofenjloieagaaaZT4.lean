/-  -/
import Derived.RangeFuncNested
import Derived.RangeFuncLeaves
import Derived.RangeFuncBox
import Derived.Shelf.Abstract
import Derived.WalkKit
import Derived.OwnWalkIn
import Derived.TacticsInMore
import Derived.LoopNIn
import Derived.LoopIn
import Derived.Test.YtofenjloieagaaaZT2
namespace Go.Proofs.Ytofenjloieagaaa
open Go.RowKit Go.Shelf
set_option linter.unusedSimpArgs false
set_option linter.unusedVariables false
set_option maxRecDepth 100000
attribute [local go_sem] Oper.semAt_some

theorem below_grown {w w' : World} (h : Below w.heap.size w w') : w.grownBy w' none := ⟨h.os, h.tape, h.output, h.size, fun k hk _ => h.block k hk⟩
/-- The ear's bit when all of a list is done. -/
def earB (l : List Tc) : Bool := l.foldl (fun b x => if x.what = 2 then x.on else b) false
theorem earB_more {l : List Tc} {k : Nat} (hk : k < l.length) : earB (l.take (k + 1)) = if (l.getD k tcZ).what = 2 then (l.getD k tcZ).on else earB (l.take k) := by
  unfold earB
  rw [tc_take_more hk, List.foldl_append]
  rfl
/-- What comes of a list from its end: the first k. -/
def bkL (l : List Tc) : Nat → List (Tc × Int)
  | 0 => []
  | k + 1 => bkL l k ++ [(l.getD (l.length - 1 - k) tcZ, ((l.length - 1 - k : Nat) : Int))]
theorem bkL_len (l : List Tc) : ∀ k, (bkL l k).length = k
  | 0 => rfl
  | k + 1 => by simp [bkL, bkL_len l k]
theorem ear_none (l : List Tc) : ∀ k, k ≤ l.length → (∀ y ∈ bkL l k, ¬ y.1.what = 2) → earB l = earB (l.take (l.length - k))
  | 0, _, _ => by simp
  | k + 1, hk, h => by
    rw [ear_none l k (by omega) (fun y hy => h y (by simp [bkL, hy]))]
    have h1 := h (l.getD (l.length - 1 - k) tcZ, ((l.length - 1 - k : Nat) : Int)) (by simp [bkL])
    have e : l.length - k = (l.length - 1 - k) + 1 := by omega
    rw [e, earB_more (by omega), if_neg h1, show l.length - (k + 1) = l.length - 1 - k by omega]
theorem ear_some (l : List Tc) (k : Nat) (hk : k < l.length) (h : ∀ y ∈ bkL l k, ¬ y.1.what = 2) (h2 : (l.getD (l.length - 1 - k) tcZ).what = 2) : earB l = (l.getD (l.length - 1 - k) tcZ).on := by
  rw [ear_none l k (by omega) h]
  have e : l.length - k = (l.length - 1 - k) + 1 := by omega
  rw [e, earB_more (by omega), if_pos h2]

/-- A block that is a touch. -/
def TW (w : World) (b : Nat) (x : Tc) : Prop := w.heap[b]? = some (.cells #[.int .i64 x.time, .int .i64 x.what, .int .i64 x.key, .bool x.on] 45 (0, 0))
theorem TW.tb {w : World} {b : Nat} {x : Tc} (h : TW w b x) : TB w b 0 x := by
  constructor <;> (rw [cell_of_row _ _ _ _ _ _ h]; rfl)
theorem TW.lt {w : World} {b : Nat} {x : Tc} (h : TW w b x) : b < w.heap.size := (Array.getElem?_eq_some_iff.1 h).1
theorem TW.laid (w : World) (x : Tc) : TW (w.alloc (tcO x)) w.heap.size x := heap_alloc_new _ _
theorem tw_own (B : Nat) (y : Tc) : Own (fun (_ : Unit) W => TW W B y) := fun s X Y row hs hg hrow => by
  refine (hg.block B hs.lt (fun e => ?_)).trans hs
  obtain ⟨o, ho, hc⟩ := hrow B e.symm
  rw [show X.heap[B]? = _ from hs] at ho; cases ho; cases hc

/-- No touch of the ear is among these; the last of these is the first. -/
def NoEar (pre : List (Tc × Int)) : Prop := ∀ y ∈ pre, ¬ y.1.what = 2
def Found (pre : List (Tc × Int)) (b : Bool) : Prop := ∃ pre' y, pre = pre' ++ [y] ∧ NoEar pre' ∧ y.1.what = 2 ∧ b = y.1.on
theorem found_last {l : List Tc} {k : Nat} (hk : k ≤ l.length) {b : Bool} (h : Found (bkL l k) b) : earB l = b := by
  obtain ⟨pre', y, h1, h2, h3, rfl⟩ := h
  cases k with
  | zero => simp [bkL] at h1
  | succ k =>
    simp only [bkL] at h1
    obtain ⟨e1, e2⟩ := List.append_inj' h1 rfl
    injection e2 with e2 _
    subst e1 e2
    exact ear_some l k (by omega) h2 h3
theorem ear_no {l : List Tc} (h : NoEar (bkL l l.length)) : earB l = false := by
  rw [ear_none l l.length (Nat.le_refl _) h]
  simp [earB]
theorem grown_size {W W' : World} {row : Option Nat} (h : W.grownBy W' row) : W.heap.size ≤ W'.heap.size := by
  obtain ⟨_, _, _, h, _⟩ := h
  exact h

def FoundTo (pre : List (Tc × Int)) (B : Nat) (W : World) : Prop := ∃ b, Found pre b ∧ Boxed W B 4 (.bool b)
abbrev encT (y : Tc × Int) : Array Value := #[.int .i64 y.2, y.1.val]

set_option maxHeartbeats 4000000 in
theorem back1_in (n : Nat) (hn : 1 ≤ n) (l₀ n₀ Bs : Nat) (A : Option Addr) (c : Nat) (l : List Tc) (J Jx : List (Tc × Int) → World → Prop)
    (hY : ∀ pre y W1, J pre W1 → pre.length < l.length → YieldAt Fence.wide (n - 1) Try.prog l₀ (encT y) W1 fun e W' => (e = .returned (.bool true) ∧ J (pre ++ [y]) W' ∧ Below n₀ W1 W') ∨ (e = .returned (.bool false) ∧ Jx (pre ++ [y]) W'))
    (W : World) (hW : n₀ ≤ W.heap.size) (hJ : AbidesFrom W.heap.size J) (hc : l.length ≤ 65536) (hx : TsAt W n₀ A l) (h1 : Bs < n₀)
    (c1 : W.cell? ⟨Bs, 0, none⟩ = some (.slice A l.length c)) (h0 : J [] W) :
    CallsIn Fence.wide n Try.prog 74 #[.func (.yield l₀) #[] #[], .pointer (some ⟨Bs, 0, none⟩)] W fun e W' => (∃ v, e = .returned v) ∧ ((∃ ys, ys = bkL l l.length ∧ J ys W') ∨ (∃ pre, (∃ k, k ≤ l.length ∧ pre = bkL l k) ∧ Jx pre W')) := by
  refine callsIn_of_wp Try.func74 rfl trivial ?_ rfl
  simp only [Try.ntmps74, List.size_toArray, List.length_cons, List.length_nil, Nat.reduceAdd, Nat.reduceSub, Array.replicate_succ, Array.replicate_zero, List.push_toArray, List.append_toArray, List.nil_append, List.cons_append]
  gi_wp2
  gi_loopw [3] (fun i wr => ∃ k : Nat, k ≤ l.length ∧ i = .int .i64 ((l.length : Int) - 1 - k) ∧ J (bkL l k) wr ∧ Below n₀ W wr) (fun i _ => (intOf i + 1).toNat)
  case atStart => exact ⟨0, Nat.zero_le _, by simp, h0, Below.refl _ _⟩
  case round =>
    rename World => wr
    obtain ⟨k, hk, rfl, hJs, hb⟩ := hrel
    have c2 := (hb.cell (p := ⟨Bs, 0, none⟩) h1).trans c1
    have HJ := Lib.hid hJs
    have HB := Lib.hid hb
    have HY := Lib.hid hY
    have HX := Lib.hid hx
    have HJA := Lib.hid hJ
    clear hJs hb hY hx hJ
    by_cases hlt : k < l.length
    · obtain ⟨b, o, hA, hb1, hat⟩ := HX.out.at_ (by omega)
      have hu := (hat (l.length - 1 - k) (by omega)).below HB.out hb1
      have HS := Lib.hid (show bkL l (k + 1) = bkL l k ++ [(l.getD (l.length - 1 - k) tcZ, ((l.length - 1 - k : Nat) : Int))] from rfl)
      obtain ⟨m, hm⟩ : ∃ m : Nat, l.length - 1 - k = m := ⟨_, rfl⟩
      rw [hm] at hu
      rw [hm] at HS
      have hmz : (l.length : Int) - 1 - k = m := by omega
      rw [hmz]
      clear hat
      have HLen := Lib.hid (bkL_len l k)
      obtain ⟨y, hy⟩ : ∃ y, l.getD m tcZ = y := ⟨_, rfl⟩
      rw [hy] at hu HS
      clear hy
      obtain ⟨fn, tmps, assign, body, hy, hR⟩ := HY.out _ (y, (m : Int)) wr HJ.out (by rw [HLen.out]; exact hlt)
      have HR := Lib.hid hR
      clear hR
      unfold encT Tc.val at hy
      simp only at hy
      obtain ⟨d0, d1, d2, d3⟩ := hu
      subst hA
      have hml : m < l.length := by omega
      gi_wp2
      refine HR.out.mono ?_
      rintro e W3 (⟨rfl, hJ3, hk3⟩ | ⟨rfl, hJx3⟩)
      · gi_wp2
        go_roundw
        case rel =>
          refine ⟨k + 1, by omega, ?idx, ?_, HB.out.trans hk3⟩
          case idx => exact congrArg (Value.int .i64) (by omega)
          rw [HS.out]
          exact hJ3
        case measure => simp [intOf] <;> omega
      · gi_wp2
        refine bodyPost_ret (results_none rfl _ _ _) rfl ?_
        exact ⟨⟨_, rfl⟩, .inr ⟨_, ⟨k + 1, by omega, HS.out.symm⟩, hJx3⟩⟩
    · obtain rfl : k = l.length := by omega
      rw [show (l.length : Int) - 1 - (l.length : Nat) = -1 by omega]
      gi_wp2
      go_end0
      exact ⟨⟨_, rfl⟩, .inl ⟨_, rfl, HJ.out⟩⟩

theorem back_stops (n : Nat) (hn : 1 ≤ n) (n₀ Bs : Nat) (A : Option Addr) (c : Nat) (l : List Tc) (w : World) (hW : n₀ ≤ w.heap.size) (hc : l.length ≤ 65536) (hx : TsAt w n₀ A l) (h1 : Bs < n₀)
    (c1 : w.cell? ⟨Bs, 0, none⟩ = some (.slice A l.length c)) :
    SeqStopsK Fence.wide n Try.prog 74 #[.pointer (some ⟨Bs, 0, none⟩)] encT (Below n₀) (fun ys => ys = bkL l l.length) (fun pre => ∃ k, k ≤ l.length ∧ pre = bkL l k) l.length w := fun l₀ J Jx W hb hJ _ hY h0 =>
  back1_in n hn l₀ n₀ Bs A c l J Jx hY W (by have := hb.size; omega) hJ hc (hx.below (hb.mono hW)) h1 ((hb.cell (p := ⟨Bs, 0, none⟩) (show Bs < w.heap.size by omega)).trans c1) h0

set_option maxHeartbeats 4000000 in
theorem ear_in (n : Nat) (hn : 3 ≤ n) (w : World) (B : Nat) (A : Option Addr) (c : Nat) (l : List Tc) (hB : B ≤ w.heap.size) (hl : TsAt w B A l) (hc : l.length ≤ 65536) :
    CallsIn Fence.wide n Try.prog 48 #[.slice A l.length c] w fun e w' => e = .returned (.bool (earB l)) ∧ Below w.heap.size w w' := by
  have h1 : 1 ≤ n := by omega
  have hl := hl.more hB
  have hcb : ∀ W, CallsIn Fence.wide (n - 1) Try.prog 64 #[.slice A l.length c] W fun e w' => e = .returned (.func (.func 74) #[] #[.pointer (some ⟨W.heap.size, 0, none⟩)]) ∧ w' = W.alloc (.cells #[.slice A l.length c] 22) := by
    intro W
    refine callsIn_of_wp Try.func64 rfl trivial ?_ rfl
    simp only [Try.ntmps64, List.size_toArray, List.length_cons, List.length_nil, Nat.reduceAdd, Nat.reduceSub, Array.replicate_succ, Array.replicate_zero, List.push_toArray, List.append_toArray, List.nil_append, List.cons_append]
    gi_wp2
    go_ret
    exact ⟨rfl, rfl⟩
  have HCB := Lib.hid hcb
  clear hcb
  refine callsIn_of_wp_marks Try.func48 rfl trivial ?_ rfl
  simp only [Try.ntmps48, List.size_toArray, List.length_cons, List.length_nil, Nat.reduceAdd, Nat.reduceSub, Array.replicate_succ, Array.replicate_zero, List.push_toArray, List.append_toArray, List.nil_append, List.cons_append]
  gi_wp2_with (refine ⟨trivial, ?_⟩; gi_at_call 64; refine (HCB.out _).mono ?_; rintro e w' ⟨rfl, rfl⟩)
  have bR := (Boxed.new w 4 (.bool false)).alloc (.cells #[.slice A l.length c] 22)
  have bS := Boxed.new (w.alloc (.cells #[.bool false] 4)) 22 (.slice A l.length c)
  have hB0 : Below w.heap.size w ((w.alloc (.cells #[.bool false] 4)).alloc (.cells #[.slice A l.length c] 22)) := ((Below.refl _ w).alloc (Nat.le_refl _) _).alloc (by simp) _
  have hs0 : ((w.alloc (.cells #[.bool false] 4)).alloc (.cells #[.slice A l.length c] 22)).heap.size = w.heap.size + 2 := by simp
  rw [World.size_alloc] at bS
  refine wpIn_rangeFunc_ownH rfl h1 (gf := 74) (lb := #[.pointer (some ⟨w.heap.size + 1, 0, none⟩)]) rfl trivial (enters_of Try.func74 (by kernel_rfl) rfl)
    (back_stops (n - 1) (by omega) (w.heap.size + 2) (w.heap.size + 1) A c l _ (by rw [hs0]; exact Nat.le_refl _) hc ((hl.below hB0).more (by omega)) (by omega) bS.cell) belowK_t (belowK_b (by rw [hs0]; exact Nat.le_refl _)) (Below.refl _ _) (fun _ => rfl)
    (fun pre W => ((NoEar pre ∧ Boxed W w.heap.size 4 (.bool false)) ∧ w.heap.size + 2 ≤ W.heap.size) ∧ Below w.heap.size w W)
    (fun co pre W => (co = .ret ∧ FoundTo pre w.heap.size W) ∧ Below w.heap.size w W)
    (OwnFrom.and (Own.from (fun s X Y row hs hg hr => ⟨⟨hs.1.1, boxed_own w.heap.size 4 (fun _ : Unit => .bool false) () X Y row hs.1.2 hg hr⟩, Nat.le_trans hs.2 (grown_size hg)⟩) _) (ownFrom_below (Nat.le_refl _) (by rw [hs0]; omega)))
    (fun co => OwnFrom.and (Own.from (fun s X Y row hs hg hr => by
      obtain ⟨h1, b, h2, h5⟩ := hs
      exact ⟨h1, b, h2, boxed_own w.heap.size 4 (fun _ : Unit => .bool b) () X Y row h5 hg hr⟩) _) (ownFrom_below (Nat.le_refl _) (by rw [hs0]; omega)))
    ⟨⟨⟨fun y h => (by cases h), bR⟩, by rw [hs0]; exact Nat.le_refl _⟩, hB0⟩
    (fun y a' W => ∃ Bx, w.heap.size + 2 ≤ Bx ∧ TW W Bx y.1 ∧ a' = { tmps := #[.slice A l.length c, undef, .pointer (some ⟨w.heap.size, 0, none⟩), undef, .pointer (some ⟨Bx, 0, none⟩), .slice A l.length c, .func (.func 74) #[] #[.pointer (some ⟨w.heap.size + 1, 0, none⟩)], .int .i64 y.2, y.1.val, undef, undef, undef, undef, undef], defers := [] })
    (fun y a' _ X Y row hs hg hr => by obtain ⟨Bx, h1, h2, h3⟩ := hs; exact ⟨Bx, h1, tw_own Bx y.1 () X Y row h2 hg (fun r e => (hr r e).2), h3⟩)
    ?assign ?body ?done ?stop
  case assign =>
    rintro l₀ pre ⟨y, i⟩ W K ⟨⟨⟨hp, hv⟩, hz⟩, hb⟩ hK
    unfold encT Tc.val at hK ⊢
    gi_wp2
    exact hK _ _ ((KeepsOthers.alloc _ _).from _) ((Below.refl _ W).alloc hz _) ⟨⟨⟨hp, hv.alloc _⟩, by simp; omega⟩, hb.alloc hb.size _⟩ ⟨W.heap.size, hz, TW.laid W y, rfl⟩
  case body =>
    rintro l₀ pre ⟨y, i⟩ a' W hl0 ⟨r, hr⟩ ⟨⟨⟨hp, hv⟩, hz⟩, hb⟩ ⟨Bx, hBx, hE, rfl⟩ hlt
    obtain ⟨d0, d1, d2, d3⟩ := hE.tb
    have hc := hv.cell
    have hf := hv.frozen
    obtain ⟨t, kd, ky, on⟩ := y
    simp only at d0 d1 d2 d3
    unfold Tc.val
    simp only
    have HV := Lib.hid hv
    have HB := Lib.hid hb
    have HP := Lib.hid hp
    clear hv hb hp
    by_cases h2 : kd = 2
    · subst h2
      gi_wp2
      exact ⟨(KeepsOthers.setCell _ _ _).from _, ⟨rfl, on, ⟨pre, _, rfl, HP.out, rfl, rfl⟩, HV.out.set _⟩, HB.out.setCell (p := ⟨w.heap.size, 0, none⟩) (Nat.le_refl _) _⟩
    · have hn : (kd == 2) = false := by simpa using h2
      gi_wp2
      exact ⟨KeepsFrom.refl _ _, Below.refl _ _, ⟨⟨fun z hz => by
        rcases List.mem_append.1 hz with h | h
        · exact HP.out z h
        · obtain rfl := List.mem_singleton.1 h
          exact h2, HV.out⟩, hz⟩, HB.out⟩
  case done =>
    rintro D ys W hD rfl ⟨⟨⟨hp, hv⟩, hz⟩, hb⟩ hK
    have hc := hv.cell
    have hf := hv.frozen
    have HV := Lib.hid hv
    have HB := Lib.hid hb
    have HE := Lib.hid (ear_no hp)
    clear hv hb hp
    gi_wp2
    have hK' := (KeepsOthers.setCell W ⟨w.heap.size, 0, none⟩ (.bool false)).same D _ hK rfl
    refine ⟨by simp, .inl ⟨_, _, rfl, run_takeDeferred hK', ?_⟩⟩
    have hc5 := cell_kept (World.cell?_setCell_same' W ⟨w.heap.size, 0, none⟩ (.bool false) (by rw [hc]; rfl)) (grownBy_putObj' _ D (.deferred none)) (fun r e => by cases e; exact ⟨_, hK', rfl⟩)
    have hD2 : w.heap.size ≤ D := by rw [hs0] at hD; omega
    refine ⟨.bool false, ?_, by rw [HE.out], (HB.out.setCell (p := ⟨w.heap.size, 0, none⟩) (Nat.le_refl _) _).trans (belowK_b (w := w) (Nat.le_refl _) _ D _ _ hD2 hK' rfl rfl)⟩
    simp [results, Try.f48, go_sem, hc5]
  case stop =>
    rintro D co pre W hD ⟨k, hk, rfl⟩ ⟨⟨rfl, b, h2, h5⟩, hb⟩ hK
    have HE := Lib.hid (found_last hk h2)
    have HB := Lib.hid hb
    have HV := Lib.hid h5
    clear h2 h5 hb
    gi_wp2
    refine ⟨by simp, .inl ⟨_, _, rfl, run_takeDeferred hK, ?_⟩⟩
    have hc5 := cell_kept HV.out.cell (grownBy_putObj' _ D (.deferred none)) (fun r e => by cases e; exact ⟨_, hK, rfl⟩)
    have hD2 : w.heap.size ≤ D := by rw [hs0] at hD; omega
    refine ⟨.bool b, ?_, by rw [HE.out], HB.out.trans (belowK_b (w := w) (Nat.le_refl _) _ D _ _ hD2 hK rfl rfl)⟩
    simp [results, Try.f48, go_sem, hc5]

theorem ear_any (w : World) (B : Nat) (A : Option Addr) (c : Nat) (l : List Tc) (hB : B ≤ w.heap.size) (hl : TsAt w B A l) (hc : l.length ≤ 65536) :
    Calls Try.prog 48 #[.slice A l.length c] w fun e w' => e = .returned (.bool (earB l)) ∧ Below w.heap.size w w' :=
  (callsIn_wide (n := 3)).1 (ear_in 3 (Nat.le_refl _) w B A c l hB hl hc)
end Go.Proofs.Ytofenjloieagaaa
