
/- The reference's reader: Count, Block, small. -/
import Derived.Test.YthmogabonfkmhaaGreatDoorH2
namespace Go.Proofs.YthmogabonfkmhaaGreatDoor
open Go.RowKit
set_option linter.unusedSimpArgs false
set_option linter.unusedVariables false
set_option maxRecDepth 100000

theorem numQ_err (r : List Int) (e : Int) (h : (numQ r e).2.2 ≠ 0) : (numQ r e).1 = 0 := by
  unfold numQ at *
  repeat' split at h
  all_goals first | exact absurd rfl h | simp_all
theorem numQ_le (r : List Int) (e : Int) : (numQ r e).2.1.length ≤ r.length := by
  unfold numQ
  repeat' split
  all_goals simp
/-- What Count gives. -/
def countQ (r : List Int) (e : Int) (most : Nat) : Nat × List Int × Int :=
  if (numQ r e).2.2 = 0 ∧ most < (numQ r e).1 then (0, (numQ r e).2.1, 3) else ((numQ r e).1, (numQ r e).2.1, (numQ r e).2.2)
/-- What Block gives. -/
def blockQ (r : List Int) (e : Int) : List Int × List Int × Int :=
  if (numQ r e).2.2 ≠ 0 then ([], (numQ r e).2.1, (numQ r e).2.2)
  else if 1048576 < (numQ r e).1 then ([], (numQ r e).2.1, 3)
  else if (numQ r e).2.1.length < (numQ r e).1 then ([], (numQ r e).2.1, 5)
  else ((numQ r e).2.1.take (numQ r e).1, (numQ r e).2.1.drop (numQ r e).1, 0)

set_option maxHeartbeats 800000 in
theorem qsmall_any (g : Nat) (A : Option Addr) (c : Nat) (r : List Int) (e : Int) (w : World) (h : QR w g A c r e) :
    Calls Tryz.prog 30 #[.pointer (some ⟨g, 0, none⟩)] w (QRead w g (numQ r e).2.1 (numQ r e).2.2 (.int .i64 ((min (numQ r e).1 2199023255552 : Nat) : Int))) := by
  have hn := qnum_any g A c r e w h
  generalize numQ r e = q at *
  obtain ⟨v, r2, x⟩ := q
  simp only at *
  have HN := Lib.hid hn
  clear hn h
  go_enter Tryz.func30, Tryz.ntmps30
  go_wp2_with fail
  refine HN.out.mono ?_
  rintro e' w1 ⟨rfl, hq, hg⟩
  have HQ := Lib.hid hq
  have HG := Lib.hid hg
  clear hq hg
  have hm : min (v : Int) 2199023255552 = ((min v 2199023255552 : Nat) : Int) := by omega
  go_wp2_with fail
  go_ret
  exact ⟨rfl, HQ.out, HG.out⟩

def QReadB (w : World) (g : Nat) (r : List Int) (x : Int) (m : List Int) (e : Ending) (w' : World) : Prop :=
  ∃ A' c', e = .returned (.slice A' m.length c') ∧ RB w' w'.heap.size A' c' m ∧ (∃ A c, QR w' g A c r x) ∧ w.grownBy w' (some g)

theorem qblock_end {w w1 w2 : World} {g c m' n' cc c' : Nat} {A A' A3 : Option Addr} {r2 M D : List Int} (HG : w.grownBy w1 (some g)) (hgl : g < w1.heap.size) (hob : OB w2 w1.heap.size A' c' M) (hq2 : QR w2 g A c r2 0) (hb : Below w1.heap.size w1 w2) (hr : RB w2 g A3 cc D) (hl : D.length ≤ r2.length) (hn : n' = D.length) (hm : m' = M.length) :
    QReadB w g D 0 M (.returned (.slice A' m' c')) (w2.setCell ⟨g, 0, none⟩ (.slice A3 n' cc)) := by
  subst hn hm
  refine ⟨A', c', rfl, (hob.grown (grown_setCell _ g 0 _) (fun k e => by obtain rfl := Option.some.inj e; exact hgl)).rb, ⟨_, _, hq2.move A3 cc _ hr hl⟩, ?_⟩
  exact grown_trans (grown_trans HG (grown_below hb _)) (grown_setCell _ _ _ _)

end Go.Proofs.YthmogabonfkmhaaGreatDoor
