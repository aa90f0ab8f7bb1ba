/-  -/
import Derived.Test.YtofenjloieagaaaZQ3
import Derived.Laws.Rows
namespace Go.Proofs.Ytofenjloieagaaa
open Go.RowKit
set_option linter.unusedVariables false
namespace M
section
variable {P : Program} {ops : Array Oper}
/-- THE REGION, in a class of worlds of one's own. -/
theorem regionC_ {id : Nat} {Q : Exit → Act → World → Prop} {a : Act} {w : World} (C0 : World → Prop) (hc : Closed C0) (h0 : ∀ n, C0 { w with drawn := n }) (hm : P.follows .mixedOrders = true)
    (H : wpAnyM P .any ops C0 (fun a' C => ∀ w', C w' → Q .normal a' w') ops.size (Array.replicate ops.size false) a C0) : (Code.region id ops true).wp P Q a w :=
  wp_region_any hm (wpAny_of_m (C0 := C0) (fun _ _ w' hw' hF => hF w' hw') _ _ _ _ _ (h0 _) hc (fun _ hw' => hw') H)
end
/-- All that was there is as it was, but block g, of which R tells. -/
def But (b : World) (g : Nat) (R : Option Obj → Prop) : World → Prop := fun w => g < b.heap.size ∧ Save (· = g) b w ∧ R w.heap[g]?
theorem closed_but (b : World) (g : Nat) (R : Option Obj → Prop) : Closed (But b g R) := fun w w1 h hs =>
  ⟨h.1, ⟨hs.os.trans h.2.1.os, hs.tape.trans h.2.1.tape, hs.output.trans h.2.1.output, Nat.le_trans h.2.1.size hs.size, fun k hk hn => (hs.block k (Nat.lt_of_lt_of_le hk h.2.1.size) (fun x => x)).trans (h.2.1.block k hk hn)⟩,
    by rw [hs.block g (Nat.lt_of_lt_of_le h.1 h.2.1.size) (fun x => x)]; exact h.2.2⟩
theorem But.start {b : World} {g : Nat} {R : Option Obj → Prop} (hg : g < b.heap.size) (hR : R b.heap[g]?) (n : Nat) : But b g R { b with drawn := n } := ⟨hg, Save.drawn _ b n, hR⟩
theorem But.refl {b : World} {g : Nat} {R : Option Obj → Prop} (hg : g < b.heap.size) (hR : R b.heap[g]?) : But b g R b := ⟨hg, Save.refl _ b, hR⟩
theorem But.weaken {b : World} {g : Nat} {R R' : Option Obj → Prop} (h : ∀ o, R o → R' o) (w : World) (hb : But b g R w) : But b g R' w := ⟨hb.1, hb.2.1, h _ hb.2.2⟩
theorem But.other {b w : World} {g : Nat} {R : Option Obj → Prop} (h : But b g R w) {k : Nat} (hk : k < b.heap.size) (hn : k ≠ g) : w.heap[k]? = b.heap[k]? := h.2.1.block k hk hn
theorem But.below {b w : World} {g B : Nat} {R : Option Obj → Prop} (h : But b g R w) (hB : B ≤ g) : Below B b w := h.2.1.below (Nat.le_trans hB (Nat.le_of_lt h.1)) (fun k hk => hk ▸ hB)
theorem But.step {b w w1 : World} {g : Nat} {R R' : Option Obj → Prop} (h : But b g R w) (hs : Save (· = g) w w1) (hR : R' w1.heap[g]?) : But b g R' w1 := ⟨h.1, h.2.1.trans hs, hR⟩
end M
theorem save_setCell (w : World) (g j : Nat) (v : Value) : Save (· = g) w (w.setCell ⟨g, j, none⟩ v) :=
  ⟨rfl, rfl, rfl, by simp [World.setCell], fun k _ hk => heap_setCell_other w ⟨g, j, none⟩ k v hk⟩
end Go.Proofs.Ytofenjloieagaaa
