
/- Package bank: a memory as it lies (MC), turn. -/
import Derived.Test.YtflbedomkeophaaSD
import Derived.Test.YtflbedomkeophaaB
import Derived.Deep.RegionLaw
import Derived.Laws.OwnMore
namespace Go.Proofs.Ytflbedomkeophaa
open Go.RowKit
set_option linter.unusedSimpArgs false
set_option linter.unusedVariables false
set_option maxRecDepth 100000

theorem b_append {P : Program} {ops : Array Oper} {o : Oper} {a : Act} {w : World} {K : Act → World → Prop} {Q : Exit → Act → World → Prop} {E : Prop}
    (hg : o.guard = none) (s x : Operand) (t : TypeId) (hop : o.op = Op.call { callee := Callee.builtin Builtin.append, args := #[s, x], argTypes := #[t, t] })
    (base : Nat) (e : TypeId) (i : TypeInfo) (z : Value) (size bytes : Nat) (h1 : P.underlying t = some (.slice e)) (h2 : P.info? e = some i) (h3 : i.zero = some z) (h4 : i.size = size) (h5 : i.bytes = bytes) (h6 : z.cells.size = size) (h7 : 0 < size)
    (v : Value) (n : Nat) (xs : List Value) (hs : a.eval s = v) (hown : w.ownsRow base e size v n xs)
    (ad : Addr) (m c : Nat) (news : List Value) (hx : a.eval x = .slice (some ad) m c) (hn : news.length = m * size) (hc : ∀ j u, news[j]? = some u → w.cell? (ad.add j) = some u) (h1c : ∀ u ∈ news, u.oneCell' = true)
    (b1 : n + m ≤ maxLen) (b2 : (n + m) * bytes ≤ 140737488355328) (hbase : base ≤ w.heap.size)
    (hK : ∀ v' w', w'.ownsRow base e size v' (n + m) (xs ++ news) → w.grownBy w' v.ownBlock → K (a.put o.dst v') w') :
    if Region.wanted o (yielded ops a.tmps) = true then Oper.wp P o a w K Q else E := by
  have hw : Region.wanted o (yielded ops a.tmps) = true := by simp [Region.wanted, hg]
  rw [if_pos hw]
  subst hs
  obtain ⟨v', w', hrun, r1, r2, _⟩ := run_append_own (P := P) w base t o.type e i z size bytes h1 h2 h3 h4 h5 h6 h7 _ n xs hown ad m c news hn hc h1c b1 b2 hbase
  unfold Oper.wp
  simp [execOp, hop, resolve, invoke, builtin, hx, hrun, Result.andThen]
  exact hK v' w' r1 r2

theorem grown_twin {w w' w'' : World} {r : Option Nat} (h : w.grownBy w' r) (h1 : w''.heap = w'.heap) (h2 : w''.os = w'.os) (h3 : w''.tape = w'.tape) (h4 : w''.output = w'.output) : w.grownBy w'' r :=
  ⟨h2.trans h.os, h3.trans h.tape, h4.trans h.output, by rw [h1]; exact h.size, fun k hk hn => by rw [h1]; exact h.block k hk hn⟩
theorem grown_set (w : World) (g j : Nat) (v : Value) : w.grownBy (w.setCell ⟨g, j, none⟩ v) (some g) :=
  ⟨rfl, rfl, rfl, by simp [World.setCell], fun k _ hk => heap_setCell_other w ⟨g, j, none⟩ k v (fun e => hk (by rw [e]))⟩
theorem grown_row (w : World) (g : Nat) (cs : Array Value) : w.grownBy (w.setRow g cs) (some g) :=
  ⟨rfl, rfl, rfl, by simp [World.setRow], fun k _ hk => setRow_other w g k cs (fun e => hk (by rw [e]))⟩
theorem grown_alloc (w : World) (o : Obj) (r : Option Nat) : w.grownBy (w.alloc o) r :=
  ⟨rfl, rfl, rfl, by simp, fun k hk _ => heap_alloc_old w o hk⟩
theorem gw_below {w w' : World} (h : Below w.heap.size w w') (r : Option Nat) : w.grownBy w' r :=
  ⟨h.os, h.tape, h.output, h.size, fun k hk _ => h.block k hk⟩
theorem gw_trans {w w1 w2 : World} {r : Option Nat} (h : w.grownBy w1 r) (k : w1.grownBy w2 r) : w.grownBy w2 r :=
  ⟨k.os.trans h.os, k.tape.trans h.tape, k.output.trans h.output, Nat.le_trans h.size k.size, fun i hi hn => (k.block i (Nat.lt_of_lt_of_le hi h.size) hn).trans (h.block i hi hn)⟩
/-- What turns in a row that is newer than all that was. -/
theorem grown_new {w w1 w2 : World} {r q : Option Nat} (h : w.grownBy w1 r) (k : w1.grownBy w2 q) (hq : ∀ i, q = some i → w.heap.size ≤ i ∨ r = some i) : w.grownBy w2 r :=
  ⟨k.os.trans h.os, k.tape.trans h.tape, k.output.trans h.output, Nat.le_trans h.size k.size, fun i hi hn => (k.block i (Nat.lt_of_lt_of_le hi h.size) (fun e => by
    rcases hq i e.symm with h1 | h1
    · omega
    · exact hn h1.symm)).trans (h.block i hi hn)⟩

/-- Where a memory lies, and what stands in it. -/
structure Mo where
  m : Nat
  br : Nat
  cb : Nat
  gs : Nat → Nat
  A : Int
  B : Int
  L : Nat → List Int
abbrev selfC (x : Mo) (v : Value) : Option Obj := some (.cells #[.bool true, .int .u8 x.A, .int .u8 x.B, .slice (some ⟨x.br, 0, none⟩) 12 x.cb, v] 62 (0, 0))
abbrev bankC (l : List Int) : Option Obj := some (.cells (l.map (Value.int .u8)).toArray 65 (0, 0))
abbrev ptrV (g : Nat) : Value := .pointer (some ⟨g, 0, none⟩)
/-- A memory but for what its slots see. -/
structure MC (w : World) (P : Nat → Prop) (x : Mo) (v : Value) : Prop where
  self : w.heap[x.m]? = selfC x v
  bs : ∀ i, i < 12 → w.cell? ⟨x.br, i, none⟩ = some (ptrV (x.gs i))
  bk : ∀ i, i < 12 → w.heap[x.gs i]? = bankC (x.L i)
  len : ∀ i, i < 12 → (x.L i).length = 16384
  all : ∀ i, i < 12 → AllB (x.L i)
  inj : ∀ i j, i < 12 → j < 12 → x.gs i = x.gs j → i = j
  nm : ∀ i, i < 12 → x.gs i ≠ x.m
  nb : ∀ i, i < 12 → x.gs i ≠ x.br
  mb : x.m ≠ x.br
  pm : P x.m
  pb : P x.br
  pg : ∀ i, i < 12 → P (x.gs i)
  cb : 12 ≤ x.cb
  pA : 0 ≤ x.A ∧ x.A < 256
  pB : 0 ≤ x.B ∧ x.B < 256
theorem MC.lt {w : World} {P : Nat → Prop} {x : Mo} {v : Value} (h : MC w P x v) : x.m < w.heap.size := (Array.getElem?_eq_some_iff.1 h.self).1
theorem MC.lb {w : World} {P : Nat → Prop} {x : Mo} {v : Value} (h : MC w P x v) : x.br < w.heap.size := World.block_lt_of_cell? _ _ (h.bs 0 (by decide))
theorem MC.lg {w : World} {P : Nat → Prop} {x : Mo} {v : Value} (h : MC w P x v) (i : Nat) (hi : i < 12) : x.gs i < w.heap.size := (Array.getElem?_eq_some_iff.1 (h.bk i hi)).1
theorem MC.turned {w w' : World} {P : Nat → Prop} {x : Mo} {v : Value} (h : MC w P x v) (A B : Int) (v' : Value) (hA : 0 ≤ A ∧ A < 256) (hB : 0 ≤ B ∧ B < 256) (hs : w'.heap[x.m]? = selfC { x with A := A, B := B } v') (hg : w.grownBy w' (some x.m)) :
    MC w' P { x with A := A, B := B } v' :=
  ⟨hs, fun i hi => (World.cell?_of_block (hg.block x.br h.lb (fun e => h.mb (Option.some.inj e).symm))).trans (h.bs i hi),
    fun i hi => (hg.block _ (h.lg i hi) (fun e => h.nm i hi (Option.some.inj e))).trans (h.bk i hi), h.len, h.all, h.inj, h.nm, h.nb, h.mb, h.pm, h.pb, h.pg, h.cb, hA, hB⟩
theorem MC.other {w w' : World} {P : Nat → Prop} {x : Mo} {v : Value} (h : MC w P x v) {r : Option Nat} (hg : w.grownBy w' r) (hr : ∀ k, r = some k → k ≠ x.m ∧ k ≠ x.br ∧ ∀ i, i < 12 → k ≠ x.gs i) : MC w' P x v :=
  ⟨(hg.block _ h.lt (fun e => (hr _ e.symm).1 rfl)).trans h.self, fun i hi => (World.cell?_of_block (hg.block x.br h.lb (fun e => (hr _ e.symm).2.1 rfl))).trans (h.bs i hi),
    fun i hi => (hg.block _ (h.lg i hi) (fun e => (hr _ e.symm).2.2 i hi rfl)).trans (h.bk i hi), h.len, h.all, h.inj, h.nm, h.nb, h.mb, h.pm, h.pb, h.pg, h.cb, h.pA, h.pB⟩
theorem MC.page {w : World} {P : Nat → Prop} {x : Mo} {v : Value} (h : MC w P x v) : w.cell? ⟨x.m, 1, none⟩ = some (.int .u8 x.A) ∧ w.cell? ⟨x.m, 2, none⟩ = some (.int .u8 x.B) ∧ w.cell? ⟨x.m, 3, none⟩ = some (.slice (some ⟨x.br, 0, none⟩) 12 x.cb) ∧ w.cell? ⟨x.m, 4, none⟩ = some v ∧ w.cell? ⟨x.m, 0, none⟩ = some (.bool true) := by
  refine ⟨?_, ?_, ?_, ?_, ?_⟩ <;> (rw [cell_of_row _ _ _ _ _ _ h.self]; rfl)
theorem MC.free {w : World} {P : Nat → Prop} {x : Mo} {v : Value} (h : MC w P x v) (i : Nat) : w.frozen? ⟨x.m, i, none⟩ = false := frozen_of_row w x.m i _ _ h.self
theorem info_ptr : (Try.prog.info? 63).map (fun i => (i.zero, i.size, i.bytes)) = some (some (.pointer none), 1, 8) := by kernel_rfl

theorem slB_lt (A B : Int) (hA : 0 ≤ A ∧ A < 256) (hB : 0 ≤ B ∧ B < 256) (k : Nat) (hk : k < 4) : slB A B k < 12 := by
  unfold slB
  split
  · match k, hk with
    | 0, _ =>
      show 8 + (if bitP A 16 = true then 1 else 0) + (if bitP B 4 = true then 2 else 0) < 12
      split <;> split <;> omega
    | 1, _ => show 5 < 12; decide
    | 2, _ => show 2 < 12; decide
    | 3, _ => show (A % 8).toNat < 12; omega
  · have h : (B / 2 % 4).toNat = 0 ∨ (B / 2 % 4).toNat = 1 ∨ (B / 2 % 4).toNat = 2 ∨ (B / 2 % 4).toNat = 3 := by omega
    have h2 : k = 0 ∨ k = 1 ∨ k = 2 ∨ k = 3 := by omega
    rcases h with h | h | h | h <;> rw [h] <;> rcases h2 with rfl | rfl | rfl | rfl <;> decide

/-- What the seen banks' row is behind k of them. -/
def seenV (x : Mo) (A B : Int) (k : Nat) : List Value := (List.range k).map fun i => ptrV (x.gs (slB A B i))
theorem seenV_succ (x : Mo) (A B : Int) (k : Nat) : seenV x A B (k + 1) = seenV x A B k ++ [ptrV (x.gs (slB A B k))] := by
  unfold seenV; rw [List.range_succ, List.map_append]; rfl
/-- turn, while it goes. -/
structure Tn (w wr : World) (x : Mo) (A B : Int) (k : Nat) (v : Value) : Prop where
  self : wr.heap[x.m]? = selfC { x with A := A, B := B } v
  own : wr.ownsRow w.heap.size 63 1 v k (seenV x A B k)
  grown : w.grownBy wr (some x.m)
theorem own_new {w : World} {base n k : Nat} {e : TypeId} {v : Value} {xs : List Value} (h : w.ownsRow base e 1 v n xs) (hk : k < base) : ∀ i, v.ownBlock = some i → i ≠ k := fun i hi e => by have := (h.lt i hi).1; omega
theorem Tn.step {w wr W w1 : World} {P : Nat → Prop} {x : Mo} {A B : Int} {k : Nat} {v0 v v' : Value} (h : MC w P x v0) (t : Tn w wr x A B k v) (hW : Below wr.heap.size wr W)
    (ho : w1.ownsRow w.heap.size 63 1 v' (k + 1) (seenV x A B k ++ [ptrV (x.gs (slB A B k))])) (hg : W.grownBy w1 v.ownBlock) :
    w1.cell? ⟨x.m, 4, none⟩ = some v ∧ w1.frozen? ⟨x.m, 4, none⟩ = false ∧ Tn w (w1.setCell ⟨x.m, 4, none⟩ v') x A B (k + 1) v' := by
  have hlt := h.lt
  have hlr : x.m < wr.heap.size := (Array.getElem?_eq_some_iff.1 t.self).1
  have hs : w1.heap[x.m]? = selfC { x with A := A, B := B } v := by
    rw [hg.block x.m (Nat.lt_of_lt_of_le hlr hW.size) (fun e => own_new t.own hlt _ e.symm rfl), hW.block x.m hlr]
    exact t.self
  refine ⟨by rw [cell_of_row _ _ _ _ _ _ hs]; rfl, frozen_of_row _ _ _ _ _ hs, ⟨?_, ?_, ?_⟩⟩
  · rw [heap_setCell_same w1 x.m 4 _ _ _ hs]; rfl
  · rw [seenV_succ]
    refine ho.kept (grown_set w1 x.m 4 v') (.inr fun e => own_new ho hlt _ e rfl)
  · exact grown_new (grown_new (grown_new t.grown (gw_below hW none) (fun i e => by cases e)) hg (fun i e => .inl (t.own.lt i e).1)) (grown_set w1 x.m 4 v') (fun i e => .inr e)

/-- A memory whole: sr, cs: the row of what its slots see. -/
structure MB (w : World) (P : Nat → Prop) (x : Mo) (sr cs : Nat) : Prop extends MC w P x (.slice (some ⟨sr, 0, none⟩) 4 cs) where
  ss : ∀ k, k < 4 → w.cell? ⟨sr, k, none⟩ = some (ptrV (x.gs (slB x.A x.B k)))
  sp : P sr
  sm : sr ≠ x.m
  sg : ∀ i, i < 12 → sr ≠ x.gs i
def TurnTo (w : World) (P : Nat → Prop) (x : Mo) (A B : Int) (e : Ending) (w' : World) : Prop :=
  e = .returned (.tuple #[]) ∧ ∃ sr cs, MB w' P { x with A := A, B := B } sr cs ∧ w.grownBy w' (some x.m)
theorem Tn.whole {w wr : World} {P : Nat → Prop} {x : Mo} {v0 v : Value} {A B : Int} (h : MC w P x v0) (hP : ∀ k, w.heap.size ≤ k → P k) (hA : 0 ≤ A ∧ A < 256) (hB : 0 ≤ B ∧ B < 256) (t : Tn w wr x A B 4 v) : TurnTo w P x A B (.returned (.tuple #[])) wr := by
  obtain ⟨sr, cs, rfl, hb⟩ : ∃ sr cs, v = .slice (some ⟨sr, 0, none⟩) 4 cs ∧ w.heap.size ≤ sr := by
    rcases t.own.2 with ⟨_, h2⟩ | ⟨g, cap, cur, h1, hb, _⟩
    · cases h2
    · exact ⟨g, cap, h1, hb⟩
  have hlt := h.lt
  refine ⟨rfl, sr, cs, ⟨h.turned A B _ hA hB t.self t.grown, fun k hk => ?_, hP _ hb, by (show sr ≠ x.m; omega), fun i hi => by have := h.lg i hi; show sr ≠ x.gs i; omega⟩, t.grown⟩
  have hc := t.own.cellAt k (by omega)
  rw [hc]
  show (seenV x A B 4)[k]? = _
  unfold seenV
  rw [List.getElem?_map, List.getElem?_range hk]
  rfl
end Go.Proofs.Ytflbedomkeophaa
