
/- Maps in regions that draw their order. -/
import Derived.Test.YtflbedomkeophaaS3
import Derived.Test.YtflbedomkeophaaQ4
namespace Go.Proofs.Ytflbedomkeophaa
open Go.RowKit Go.Maps
set_option linter.unusedSimpArgs false
set_option linter.unusedVariables false

theorem M.regionS_ {P : Program} {ops : Array Oper} {id : Nat} {Q : Exit → Act → World → Prop} {a : Act} {w : World} (C0 C : World → Prop) (hc : M.Closed C) (hsub : ∀ w, C w → C0 w) (h0 : ∀ n, C { w with drawn := n }) (hm : P.follows .mixedOrders = true)
    (H : M.wpAnyM P .any ops C0 (fun a' C => ∀ w', C w' → Q .normal a' w') ops.size (Array.replicate ops.size false) a C) : (Code.region id ops true).wp P Q a w :=
  wp_region_any hm (M.wpAny_of_m (C0 := C0) (fun _ _ w' hw' hF => hF w' hw') _ _ _ _ _ (h0 _) hc hsub H)
abbrev ownM (w : World) (b n : Nat) (D : DataW Unit) : Prop := w.ownsMap Try.prog 3 (plainElem (H := Unit) Try.prog 5) b n D
theorem ownM_save {w w1 : World} {b n : Nat} {D : DataW Unit} (h : ownM w b n D) (hs : Save (fun _ => False) w w1) : ownM w1 b n D :=
  h.kept (row := none) ⟨hs.os, hs.tape, hs.output, hs.size, fun k hk _ => hs.block k hk (fun x => x)⟩ (by simp)
/-- All that was there is as it was, but the map of block b. -/
def MapC (wr : World) (b n : Nat) (D : DataW Unit) : World → Prop := fun w' => M.But wr b (fun _ => True) w' ∧ ownM w' b n D
theorem closed_mapC (wr : World) (b n : Nat) (D : DataW Unit) : M.Closed (MapC wr b n D) := fun w1 w2 h hs => ⟨M.closed_but _ _ _ _ _ h.1 hs, ownM_save h.2 hs⟩
theorem MapC.start {wr : World} {b n : Nat} {D : DataW Unit} (h : ownM wr b n D) (m : Nat) : MapC wr b n D { wr with drawn := m } := ⟨M.But.start h.lt trivial m, ownM_save h (Save.drawn _ _ m)⟩
theorem does_update {o : Oper} {a : Act} {w : World} {next : Value → World → Prop} (m x v : Operand) (hop : o.op = Op.mapUpdate 48 m x v) (b n : Nat) (D : DataW Unit) (hm : a.eval m = .map (some b)) (hown : ownM w b n D) (hn : n < maxLen)
    (key val : Int) (hx : a.eval x = .int .i64 key) (hv : a.eval v = .int .u8 val) (hk : (Lit.int .i64 key).wf = true) (hval : (Lit.int .u8 val).wf = true)
    (hK : ∀ w', ownM w' b (n + 1) (D.put (.int .i64 key) (.lit (.int .u8 val))) → w.grownBy w' (some b) → next undef w') : Oper.does Try.prog o a w next := by
  obtain ⟨w', hrun, r1, r2⟩ := hown.update keyedI Try.underlying48 hn (keyOf_int_mk Try.underlying3 hk) (plainElem_int Try.underlying5 hval)
  have := hK w' r1 r2
  unfold Oper.does
  simp [execOp, hop, hm, hx, hv, hrun, Result.andThen]
  exact this
theorem does_lookup {o : Oper} {a : Act} {w : World} {next : Value → World → Prop} (m x : Operand) (hop : o.op = Op.lookup 48 m x false) (b n : Nat) (D : DataW Unit) (hm : a.eval m = .map (some b)) (hown : ownM w b n D)
    (key : Int) (hx : a.eval x = .int .i64 key) (hk : (Lit.int .i64 key).wf = true) (c : Int) (hc : D.atKey (.int .i64 key) (.lit (.int .u8 0)) = .lit (.int .u8 c))
    (hK : next (.int .u8 c) w) : Oper.does Try.prog o a w next := by
  obtain ⟨c2, hrun, hat, hwc⟩ := hown.lookup_int keyedI Try.underlying48 Try.underlying5 (zero8 w) (keyOf_int_mk Try.underlying3 hk)
  obtain rfl : c2 = c := by
    rw [hc] at hat
    injection hat with h2
    injection h2 with _ h2
    exact h2.symm
  unfold Oper.does
  simp [execOp, hop, hm, hx, hrun, Result.andThen]
  exact hK
end Go.Proofs.Ytflbedomkeophaa
