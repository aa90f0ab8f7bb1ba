
/- An event in a block of the call's own. -/
import Derived.Test.YthmogabonfkmhaaGreatDoorF2
import Derived.Test.YthmogabonfkmhaaGreatDoorQ3
import Derived.Laws.ResultCell
namespace Go.Proofs.YthmogabonfkmhaaGreatDoor
open Go.RowKit
set_option linter.unusedSimpArgs false
set_option linter.unusedVariables false
set_option maxRecDepth 100000

/-- A block that is an event. -/
def EW (w : World) (b : Nat) (x : Ev) : Prop := w.heap[b]? = some (.cells #[.int .i64 x.time, .int .i64 x.chip, .int .i64 x.seq, .int .i64 x.kind, .int .i64 x.a, .int .i64 x.b] 23 (0, 0))
theorem EW.ev {w : World} {b : Nat} {x : Ev} (h : EW w b x) : EV w b x := by
  constructor <;> (rw [cell_of_row _ _ _ _ _ _ h]; rfl)
theorem EW.free {w : World} {b : Nat} {x : Ev} (h : EW w b x) (i : Nat) : w.frozen? ⟨b, i, none⟩ = false := frozen_of_row w b i _ _ h
theorem EW.lt {w : World} {b : Nat} {x : Ev} (h : EW w b x) : b < w.heap.size := (Array.getElem?_eq_some_iff.1 h).1
theorem EW.keep {w w' : World} {b : Nat} {x : Ev} (h : EW w b x) (hb : w'.heap[b]? = w.heap[b]?) : EW w' b x := hb.trans h
theorem EW.laid (w : World) (x : Ev) : EW (w.alloc (evO x)) w.heap.size x := heap_alloc_new _ _
theorem EW.below {w w' : World} {b B : Nat} {x : Ev} (h : EW w b x) (hb : Below B w w') (hB : b < B) : EW w' b x := h.keep (hb.block _ hB)
theorem EW.more {w : World} {b : Nat} {x : Ev} (h : EW w b x) (o : Obj) : EW (w.alloc o) b x := h.below ((Below.refl w.heap.size _).alloc (Nat.le_refl _) _) h.lt

def zeroE : Ev := ⟨0, 0, 0, 0, 0, 0⟩

/-- An event is stored. -/
abbrev putEv (w : World) (b : Nat) (x : Ev) : World := (((((w.setCell ⟨b, 0, none⟩ (.int .i64 x.time)).setCell ⟨b, 1, none⟩ (.int .i64 x.chip)).setCell ⟨b, 2, none⟩ (.int .i64 x.seq)).setCell ⟨b, 3, none⟩ (.int .i64 x.kind)).setCell ⟨b, 4, none⟩ (.int .i64 x.a)).setCell ⟨b, 5, none⟩ (.int .i64 x.b)
abbrev evC (a0 a1 a2 a3 a4 a5 : Int) : Option Obj := some (.cells #[.int .i64 a0, .int .i64 a1, .int .i64 a2, .int .i64 a3, .int .i64 a4, .int .i64 a5] 23 (0, 0))
theorem putEv_ew {w : World} {b : Nat} {y : Ev} (h : EW w b y) (x : Ev) : EW (putEv w b x) b x := by
  unfold EW at *
  have h0 : (w.setCell ⟨b, 0, none⟩ (.int .i64 x.time)).heap[b]? = evC x.time y.chip y.seq y.kind y.a y.b := by rw [heap_setCell_same _ b 0 _ _ _ h]; rfl
  have h1 : ((w.setCell ⟨b, 0, none⟩ (.int .i64 x.time)).setCell ⟨b, 1, none⟩ (.int .i64 x.chip)).heap[b]? = evC x.time x.chip y.seq y.kind y.a y.b := by rw [heap_setCell_same _ b 1 _ _ _ h0]; rfl
  have h2 : (((w.setCell ⟨b, 0, none⟩ (.int .i64 x.time)).setCell ⟨b, 1, none⟩ (.int .i64 x.chip)).setCell ⟨b, 2, none⟩ (.int .i64 x.seq)).heap[b]? = evC x.time x.chip x.seq y.kind y.a y.b := by rw [heap_setCell_same _ b 2 _ _ _ h1]; rfl
  have h3 : ((((w.setCell ⟨b, 0, none⟩ (.int .i64 x.time)).setCell ⟨b, 1, none⟩ (.int .i64 x.chip)).setCell ⟨b, 2, none⟩ (.int .i64 x.seq)).setCell ⟨b, 3, none⟩ (.int .i64 x.kind)).heap[b]? = evC x.time x.chip x.seq x.kind y.a y.b := by rw [heap_setCell_same _ b 3 _ _ _ h2]; rfl
  have h4 : (((((w.setCell ⟨b, 0, none⟩ (.int .i64 x.time)).setCell ⟨b, 1, none⟩ (.int .i64 x.chip)).setCell ⟨b, 2, none⟩ (.int .i64 x.seq)).setCell ⟨b, 3, none⟩ (.int .i64 x.kind)).setCell ⟨b, 4, none⟩ (.int .i64 x.a)).heap[b]? = evC x.time x.chip x.seq x.kind x.a y.b := by rw [heap_setCell_same _ b 4 _ _ _ h3]; rfl
  have h5 : ((((((w.setCell ⟨b, 0, none⟩ (.int .i64 x.time)).setCell ⟨b, 1, none⟩ (.int .i64 x.chip)).setCell ⟨b, 2, none⟩ (.int .i64 x.seq)).setCell ⟨b, 3, none⟩ (.int .i64 x.kind)).setCell ⟨b, 4, none⟩ (.int .i64 x.a)).setCell ⟨b, 5, none⟩ (.int .i64 x.b)).heap[b]? = evC x.time x.chip x.seq x.kind x.a x.b := by rw [heap_setCell_same _ b 5 _ _ _ h4]; rfl
  exact h5
theorem putEv_below (w : World) (b : Nat) (x : Ev) {B : Nat} (hB : B ≤ b) : Below B w (putEv w b x) :=
  ((((((Below.refl B w).setCell (p := ⟨b, 0, none⟩) hB _).setCell (p := ⟨b, 1, none⟩) hB _).setCell (p := ⟨b, 2, none⟩) hB _).setCell (p := ⟨b, 3, none⟩) hB _).setCell (p := ⟨b, 4, none⟩) hB _).setCell (p := ⟨b, 5, none⟩) hB _
theorem results_ev {fn : Func} {p u : Tmp} (h : fn.results = #[.cell p 23, .tmp u]) (tmps : Array Value) (w : World) (b : Nat) (x : Ev) (e : Value) (hp : tmps.getD p undef = .pointer (some ⟨b, 0, none⟩)) (hu : tmps.getD u undef = e) (hS : EW w b x) :
    (results fn tmps).run Tryz.prog w = .ok (.tuple #[x.val, e]) w := by
  rw [results_cell_tmp h, hp, hu]
  obtain ⟨c0, c1, c2, c3, c4, c5⟩ := hS.ev
  unfold Ev.val
  go_simp

theorem closed_ev (b : World) (n : Nat) (x : Ev) : M.Closed (fun w' => M.Base b w' ∧ EW w' n x) := fun w w1 h hs => ⟨M.closed_base b w w1 h.1 hs, h.2.keep (hs.all.block _ h.2.lt)⟩


/-- One number of it is stored. -/
theorem EW.put0 {w : World} {n : Nat} {x : Ev} (h : EW w n x) (v : Int) : EW (w.setCell ⟨n, 0, none⟩ (.int .i64 v)) n { x with time := v } := by
  unfold EW at *; rw [heap_setCell_same w n 0 _ _ _ h]; rfl
theorem EW.put1 {w : World} {n : Nat} {x : Ev} (h : EW w n x) (v : Int) : EW (w.setCell ⟨n, 1, none⟩ (.int .i64 v)) n { x with chip := v } := by
  unfold EW at *; rw [heap_setCell_same w n 1 _ _ _ h]; rfl
theorem EW.put2 {w : World} {n : Nat} {x : Ev} (h : EW w n x) (v : Int) : EW (w.setCell ⟨n, 2, none⟩ (.int .i64 v)) n { x with seq := v } := by
  unfold EW at *; rw [heap_setCell_same w n 2 _ _ _ h]; rfl
theorem EW.put3 {w : World} {n : Nat} {x : Ev} (h : EW w n x) (v : Int) : EW (w.setCell ⟨n, 3, none⟩ (.int .i64 v)) n { x with kind := v } := by
  unfold EW at *; rw [heap_setCell_same w n 3 _ _ _ h]; rfl
theorem EW.put4 {w : World} {n : Nat} {x : Ev} (h : EW w n x) (v : Int) : EW (w.setCell ⟨n, 4, none⟩ (.int .i64 v)) n { x with a := v } := by
  unfold EW at *; rw [heap_setCell_same w n 4 _ _ _ h]; rfl
theorem EW.put5 {w : World} {n : Nat} {x : Ev} (h : EW w n x) (v : Int) : EW (w.setCell ⟨n, 5, none⟩ (.int .i64 v)) n { x with b := v } := by
  unfold EW at *; rw [heap_setCell_same w n 5 _ _ _ h]; rfl
theorem EW.grown {w w' : World} {n g : Nat} {x : Ev} (h : EW w n x) (hg : w.grownBy w' (some g)) (hn : n ≠ g) : EW w' n x :=
  h.keep (hg.block n h.lt (fun e => by have := Option.some.inj e; omega))
end Go.Proofs.YthmogabonfkmhaaGreatDoor
