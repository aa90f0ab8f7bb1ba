
/- Package bank: New's two states: banks are laid, patches are put in. -/
import Derived.Test.YtflbedomkeophaaSJ
namespace Go.Proofs.Ytflbedomkeophaa
open Go.RowKit
set_option linter.unusedSimpArgs false
set_option linter.unusedVariables false
set_option maxRecDepth 100000

abbrev selfN (v : Value) : Option Obj := some (.cells #[.bool true, .int .u8 0, .int .u8 0, v, .slice none 0 0] 62 (0, 0))
/-- New, while it lays banks: G: those that are laid. -/
structure Nb (w wr : World) (m : Nat) (v : Value) (G : List Nat) : Prop where
  self : wr.heap[m]? = selfN v
  own : wr.ownsRow w.heap.size 63 1 v G.length (G.map ptrV)
  bk : ∀ g ∈ G, wr.heap[g]? = bankC bkL ∧ m < g
  nd : G.Nodup
  ms : w.heap.size ≤ m
  bel : Below w.heap.size w wr
theorem types_ne {w : World} {k j : Nat} {a b : Array Value} {s t : TypeId} {f : Nat × Nat} (h1 : w.heap[k]? = some (.cells a s f)) (h2 : w.heap[j]? = some (.cells b t f)) (hn : s ≠ t) : k ≠ j := by
  rintro rfl
  rw [h1] at h2
  injection h2 with h2
  injection h2 with _ h2
  exact hn h2
theorem own_type {w : World} {B : Nat} {e : TypeId} {v : Value} {n : Nat} {xs : List Value} (h : w.ownsRow B e 1 v n xs) (k : Nat) {a : Array Value} {t : TypeId} (hk : w.heap[k]? = some (.cells a t (0, 0))) (hn : e ≠ t) : v.ownBlock ≠ some k := by
  rcases h.2 with ⟨h1, _⟩ | ⟨g, cap, cur, h1, hb, hg, _⟩
  · subst h1; intro e; cases e
  · subst h1
    intro e2
    injection e2 with e2
    exact types_ne hg hk hn e2
theorem Nb.step {w wr W w1 : World} {m : Nat} {v v' : Value} {G : List Nat} (t : Nb w wr m v G) (hW : W = (wr.alloc (.cells bk0 65)).alloc (.cells #[ptrV wr.heap.size] 63))
    (ho : w1.ownsRow w.heap.size 63 1 v' (G.length + 1) (G.map ptrV ++ [ptrV wr.heap.size])) (hg : W.grownBy w1 v.ownBlock) :
    w1.cell? ⟨m, 3, none⟩ = some v ∧ w1.frozen? ⟨m, 3, none⟩ = false ∧ Nb w (w1.setCell ⟨m, 3, none⟩ v') m v' (G ++ [wr.heap.size]) := by
  have hbW : Below wr.heap.size wr W := by rw [hW]; exact ((Below.refl _ _).alloc (Nat.le_refl _) _).alloc (by simp) _
  have hml : m < wr.heap.size := (Array.getElem?_eq_some_iff.1 t.self).1
  have hself : w1.heap[m]? = selfN v := by
    rw [hg.block m (Nat.lt_of_lt_of_le hml hbW.size) (fun e => own_type t.own m t.self (by decide) e.symm), hbW.block m hml]
    exact t.self
  have hnew : w1.heap[wr.heap.size]? = bankC bkL := by
    have h1 : W.heap[wr.heap.size]? = bankC bkL := by
      rw [hW, heap_alloc_old _ _ (by simp), heap_alloc_new, bk0_eq]
    rw [hg.block wr.heap.size (by rw [hW]; simp; omega) (fun e => by have := (t.own.lt _ e.symm).2; omega)]
    exact h1
  have hold : ∀ g ∈ G, w1.heap[g]? = bankC bkL := fun g hgG => by
    have hb := (t.bk g hgG).1
    have hl : g < wr.heap.size := (Array.getElem?_eq_some_iff.1 hb).1
    rw [hg.block g (Nat.lt_of_lt_of_le hl hbW.size) (fun e => own_type t.own g hb (by decide) e.symm), hbW.block g hl]
    exact hb
  refine ⟨by rw [cell_of_row _ _ _ _ _ _ hself]; rfl, frozen_of_row _ _ _ _ _ hself, ⟨?_, ?_, ?_, ?_, t.ms, ?_⟩⟩
  · rw [heap_setCell_same w1 m 3 _ _ _ hself]; rfl
  · rw [List.length_append, List.map_append]
    exact ho.kept (grown_set w1 m 3 v') (.inr (own_type ho m hself (by decide)))
  · intro g hgG
    have hmg : m < g := by
      rcases List.mem_append.1 hgG with h1 | h1
      · exact (t.bk g h1).2
      · obtain rfl := List.mem_singleton.1 h1; exact hml
    refine ⟨?_, hmg⟩
    rw [heap_setCell_other _ _ _ _ (by simp; omega)]
    rcases List.mem_append.1 hgG with h1 | h1
    · exact hold g h1
    · obtain rfl := List.mem_singleton.1 h1; exact hnew
  · refine List.nodup_append.2 ⟨t.nd, (by simp), fun a ha b hb e => ?_⟩
    obtain rfl := List.mem_singleton.1 hb
    have hl : a < wr.heap.size := (Array.getElem?_eq_some_iff.1 (t.bk a ha).1).1
    omega
  · have h1 : Below w.heap.size w W := t.bel.trans (hbW.mono t.bel.size)
    exact (h1.grown hg h1.size (fun k e => (t.own.lt k e).1)).setCell (p := ⟨m, 3, none⟩) t.ms _
theorem Nb.twin {w wr wt : World} {m : Nat} {v : Value} {G : List Nat} (t : Nb w wr m v G) (h1 : wt.heap = wr.heap) (h2 : wt.os = wr.os) (h3 : wt.tape = wr.tape) (h4 : wt.output = wr.output) : Nb w wt m v G := by
  refine ⟨by rw [h1]; exact t.self, ?_, fun g hg => by rw [h1]; exact t.bk g hg, t.nd, t.ms, ⟨h2.trans t.bel.os, h3.trans t.bel.tape, h4.trans t.bel.output, by rw [h1]; exact t.bel.size, fun k hk => by rw [h1]; exact t.bel.block k hk⟩⟩
  have := t.own
  unfold World.ownsRow at this ⊢
  rw [h1]
  exact this
/-- Banks that are laid, as a memory. -/
theorem Nb.whole {w wr : World} {m : Nat} {v : Value} {G : List Nat} (t : Nb w wr m v G) (hl : G.length = 12) : ∃ br cb gs, MC wr (fun k => w.heap.size ≤ k) ⟨m, br, cb, gs, 0, 0, fun _ => bkL⟩ (.slice none 0 0) := by
  obtain ⟨br, cb, hv, hb, hcap, hbr⟩ : ∃ br cb, v = .slice (some ⟨br, 0, none⟩) 12 cb ∧ w.heap.size ≤ br ∧ 12 ≤ cb ∧ ∃ cur, wr.heap[br]? = some (.cells cur 63 (0, 0)) := by
    rcases t.own.2 with ⟨_, h2⟩ | ⟨g, cap, cur, h1, hb, hg, hc, _⟩
    · omega
    · exact ⟨g, cap, by rw [h1, hl], hb, by omega, cur, hg⟩
  obtain ⟨cur, hbr⟩ := hbr
  subst hv
  have hm : ∀ i, i < 12 → G.getD i 0 ∈ G := fun i hi => by
    rw [List.getD_eq_getElem?_getD, List.getElem?_eq_getElem (by omega)]
    exact List.getElem_mem _
  refine ⟨br, cb, (fun i => G.getD i 0), ⟨t.self, fun i hi => ?_, fun i hi => (t.bk _ (hm i hi)).1, fun _ _ => bkL_len, fun _ _ => bkL_all, fun i j hi hj e => ?_, fun i hi => ?_, fun i hi => ?_, ?_, t.ms, hb, fun i hi => ?_, hcap, (show (0 : Int) ≤ 0 ∧ (0 : Int) < 256 by decide), (show (0 : Int) ≤ 0 ∧ (0 : Int) < 256 by decide)⟩⟩
  · have ho := t.own
    rw [hl] at ho
    rw [ho.cellAt i (by omega), List.getElem?_map, List.getElem?_eq_getElem (by omega)]
    show _ = some (ptrV (G.getD i 0))
    rw [List.getD_eq_getElem?_getD, List.getElem?_eq_getElem (by omega)]
    rfl
  · have e2 : G.getD i 0 = G.getD j 0 := e
    rw [List.getD_eq_getElem?_getD, List.getElem?_eq_getElem (by omega), List.getD_eq_getElem?_getD, List.getElem?_eq_getElem (by omega)] at e2
    have e3 : G[i]'(by omega) = G[j]'(by omega) := e2
    have hp := List.pairwise_iff_getElem.1 t.nd
    rcases Nat.lt_trichotomy i j with h1 | h1 | h1
    · exact absurd e3 (hp i j (by omega) (by omega) h1)
    · exact h1
    · exact absurd e3.symm (hp j i (by omega) (by omega) h1)
  · have := (t.bk _ (hm i hi)).2
    show G.getD i 0 ≠ m
    omega
  · exact types_ne (t.bk _ (hm i hi)).1 hbr (by decide)
  · exact types_ne t.self hbr (by decide)
  · have := (t.bk _ (hm i hi)).2
    have := t.ms
    show w.heap.size ≤ G.getD i 0
    omega

theorem rb_src {w : World} {B c : Nat} {A : Option Addr} {l : List Int} (h : RB w B A c l) (h0 : 0 < (l.map (Value.int .u8)).length) : ∃ ad, A = some ad ∧ ∀ j v, (l.map (Value.int .u8))[j]? = some v → w.cell? (ad.add j) = some v := by
  cases A with
  | none => rw [h.none_nil.2] at h0; exact absurd h0 (by simp)
  | some a => exact ⟨a, rfl, h.cells⟩
theorem grown_undrew {w w' : World} {r : Option Nat} (h : w.drew.grownBy w' r) : w.grownBy w' r := ⟨h.os, h.tape, h.output, h.size, h.block⟩
/-- A patch put in. -/
def patchL (L : Nat → List Int) (x : Pt) : Nat → List Int := fun i => if i = x.b.toNat then splice (L i) x.p.toNat x.l else L i
def newL (ps : List Pt) : Nat → List Int := ps.foldl patchL (fun _ => bkL)
theorem newL_take (ps : List Pt) (k : Nat) (h : k < ps.length) : newL (ps.take (k + 1)) = patchL (newL (ps.take k)) (ps.getD k ptZ) := by
  unfold newL
  rw [List.take_succ_eq_append_getElem h, List.foldl_append, getD_pt ps k h]; rfl
/-- A patch that may be. -/
def Pt.may (x : Pt) : Prop := 0 ≤ x.b ∧ x.b < 12 ∧ 0 ≤ x.p ∧ x.p + x.l.length ≤ 16384
theorem may_of (x : Pt) : chkP x.b x.p x.l.length = 0 ↔ x.may := by
  unfold chkP isBankP Pt.may
  constructor
  · intro h
    split at h
    · cases h
    · rename_i h1
      split at h
      · cases h
      · simp at h1; omega
  · rintro ⟨h1, h2, h3, h4⟩
    rw [if_neg (by simp; omega), if_neg (by omega)]
theorem not_may_of (x : Pt) (h : ¬ x.may) : chkP x.b x.p x.l.length = 2 := by
  have h2 := mt (may_of x).1 h
  unfold chkP at h2 ⊢
  split
  · rfl
  · rename_i h1
    rw [if_neg h1] at h2
    split
    · rfl
    · rename_i h3
      rw [if_neg h3] at h2
      exact absurd rfl h2
theorem MC.patched {w w' : World} {P : Nat → Prop} {x : Mo} {v : Value} (h : MC w P x v) (y : Pt) (hy : y.may) (hb : AllB y.l)
    (hw : w'.heap[x.gs y.b.toNat]? = some (.cells (splice ((x.L y.b.toNat).map (Value.int .u8)) y.p.toNat (y.l.map (Value.int .u8))).toArray 65 (0, 0))) (hg : w.grownBy w' (some (x.gs y.b.toNat))) :
    MC w' P { x with L := patchL x.L y } v := by
  obtain ⟨h1, h2, h3, h4⟩ := hy
  have hbk : y.b.toNat < 12 := by omega
  have hsp : (splice ((x.L y.b.toNat).map (Value.int .u8)) y.p.toNat (y.l.map (Value.int .u8))) = (splice (x.L y.b.toNat) y.p.toNat y.l).map (Value.int .u8) := by
    unfold splice
    rw [List.map_append, List.map_append, List.map_take, List.map_drop, List.length_map]
  rw [hsp] at hw
  refine ⟨(hg.block _ h.lt (fun e => h.nm _ hbk (Option.some.inj e).symm)).trans h.self, fun i hi => (World.cell?_of_block (hg.block x.br h.lb (fun e => h.nb _ hbk (Option.some.inj e).symm))).trans (h.bs i hi), fun i hi => ?_, fun i hi => ?_, fun i hi => ?_, h.inj, h.nm, h.nb, h.mb, h.pm, h.pb, h.pg, h.cb, h.pA, h.pB⟩
  · show w'.heap[x.gs i]? = bankC (patchL x.L y i)
    unfold patchL
    split
    · rename_i e
      subst e
      exact hw
    · rename_i e
      exact (hg.block _ (h.lg i hi) (fun e2 => e (h.inj i _ hi hbk (Option.some.inj e2)))).trans (h.bk i hi)
  · show (patchL x.L y i).length = 16384
    unfold patchL
    split
    · rw [length_splice _ _ _ (by rw [h.len i hi]; omega), h.len i hi]
    · exact h.len i hi
  · show AllB (patchL x.L y i)
    unfold patchL
    split
    · unfold splice
      exact ((h.all i hi).take _).append (hb.append ((h.all i hi).drop _))
    · exact h.all i hi
/-- What New answers. -/
def NewTo (w : World) (ps : List Pt) (e : Ending) (w' : World) : Prop :=
  ((∀ x ∈ ps, x.may) → ∃ x sr cs, e = .returned (.tuple #[ptrV x.m, .int .i64 0]) ∧ MB w' (fun k => w.heap.size ≤ k) x sr cs ∧ x.A = 0 ∧ x.B = 0 ∧ x.L = newL ps) ∧
  ((¬ ∀ x ∈ ps, x.may) → e = .returned (.tuple #[.pointer none, .int .i64 2])) ∧ Below w.heap.size w w'
end Go.Proofs.Ytflbedomkeophaa
