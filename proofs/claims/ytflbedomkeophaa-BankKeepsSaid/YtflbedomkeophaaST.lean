
/- Package bank: taken, walked. -/
import Derived.Test.YtflbedomkeophaaSS
import Derived.Deep.DeepCutAuto
namespace Go.Proofs.Ytflbedomkeophaa
open Go.RowKit
set_option linter.unusedSimpArgs false
set_option linter.unusedVariables false
set_option maxRecDepth 100000

theorem s_results_row_tmp2 {P : Program} {fn : Func} {p u v : Tmp} {ty : TypeId} (h : fn.results = #[.cell p ty, .tmp u, .tmp v]) (tmps : Array Value) (w : World) (g : Nat) (t : TypeId) (cs : Array Value) (fr : Nat × Nat) (d : TypeDesc) (e f : Value)
    (hp : tmps.getD p undef = .pointer (some ⟨g, 0, none⟩)) (he : tmps.getD u undef = e) (hf : tmps.getD v undef = f) (hg : w.heap[g]? = some (.cells cs t fr))
    (hu : P.underlying ty = some d) (hd : (match d with | .struct _ | .array _ _ => true | _ => false) = true) (hi : (P.info? ty).map (·.size) = some cs.size) :
    (results fn tmps).run P w = .ok (.tuple #[.agg cs, e, f]) w := by
  subst he hf
  have hp' : tmps[p]?.getD undef = .pointer (some ⟨g, 0, none⟩) := by simpa using hp
  simp [results, h, hp', asAddr, run_loadVar_row w g t ty cs fr d hg hu hd hi, Sem.run_bind, Result.andThen]

/-- taken, while it goes: page block q, reader g. -/
structure Tk (w wr : World) (q g : Nat) (X : Option Addr) (c : Nat) (l : List Int) (a b p : Nat) (e : Int) (v : Value) (ps : List Pt) : Prop where
  pg : wr.heap[q]? = some (.cells #[.int .u8 a, .int .u8 b] 34 (0, 0))
  rdr : Rdr wr g X c l p e
  ops : OPs wr (g + 1) v ps
  bel : Below w.heap.size w wr
  q_ : w.heap.size ≤ q
  g_ : q < g
  X_ : ∀ a, X = some a → q < a.block
theorem Tk.go {w wr w' : World} {q g : Nat} {X : Option Addr} {c a b p p' : Nat} {l : List Int} {e e' : Int} {v : Value} {ps : List Pt} (t : Tk w wr q g X c l a b p e v ps) (hr : Rdr w' g X c l p' e') (hg : wr.grownBy w' (some g)) : Tk w w' q g X c l a b p' e' v ps := by
  have hq := (Array.getElem?_eq_some_iff.1 t.pg).1
  exact ⟨(hg.block q hq (fun e => by have := t.g_; have := Option.some.inj e; omega)).trans t.pg, hr, t.ops.low hg (fun k e => by obtain rfl := Option.some.inj e; omega), t.bel.grown hg t.bel.size (fun k e => by obtain rfl := Option.some.inj e; have := t.q_; have := t.g_; omega), t.q_, t.g_, t.X_⟩
/-- A patch is appended. -/
theorem Tk.push {w wr w' : World} {q g : Nat} {X : Option Addr} {c a b p : Nat} {l : List Int} {e : Int} {v v' : Value} {ps : List Pt} (t : Tk w wr q g X c l a b p e v ps) (y : Pt) (hy : OB wr (g + 1) y.A y.c y.l)
    (ho : w'.ownsRow (g + 1) 29 3 v' (ps.length + 1) (cellsP ps ++ y.cells)) (hg : (wr.alloc y.obj).grownBy w' v.ownBlock) : Tk w w' q g X c l a b p e v' (ps ++ [y]) := by
  have hq := (Array.getElem?_eq_some_iff.1 t.pg).1
  have hbW : Below wr.heap.size wr (wr.alloc y.obj) := (Below.refl _ _).alloc (Nat.le_refl _) _
  have hn : ∀ k, v.ownBlock = some k → g + 1 ≤ k := fun k e => (t.ops.row.lt k e).1
  have hop := t.ops.below hbW
  have hbel := t.bel.alloc t.bel.size y.obj
  refine ⟨?_, (t.rdr.below hbW t.rdr.lt).kept hg (fun k e => by have := hn k e; omega), hop.pushed (qs := [y]) (fun x hx => by obtain rfl := List.mem_singleton.1 hx; exact hy.below hbW (Nat.le_refl _)) ?_ hg, hbel.grown hg hbel.size (fun k e => by have := hn k e; have := t.q_; have := t.g_; omega), t.q_, t.g_, t.X_⟩
  · rw [hg.block q (by simp; omega) (fun e => by have := hn q e.symm; have := t.g_; omega), hbW.block q hq]
    exact t.pg
  · have : cellsP [y] = y.cells := rfl
    rw [this]
    exact ho
theorem Tk.twin {w wr wt : World} {q g : Nat} {X : Option Addr} {c a b p : Nat} {l : List Int} {e : Int} {v : Value} {ps : List Pt} (t : Tk w wr q g X c l a b p e v ps) (h1 : wt.heap = wr.heap) (h2 : wt.os = wr.os) (h3 : wt.tape = wr.tape) (h4 : wt.output = wr.output) : Tk w wt q g X c l a b p e v ps := by
  refine ⟨by rw [h1]; exact t.pg, t.rdr.same h1, ⟨?_, fun x hx => ⟨?_, (t.ops.own x hx).bytes⟩⟩, ⟨h2.trans t.bel.os, h3.trans t.bel.tape, h4.trans t.bel.output, by rw [h1]; exact t.bel.size, fun k hk => by rw [h1]; exact t.bel.block k hk⟩, t.q_, t.g_, t.X_⟩
  · have := t.ops.row
    unfold World.ownsRow at this ⊢
    rw [h1]; exact this
  · have := (t.ops.own x hx).own
    unfold World.ownsRow at this ⊢
    rw [h1]; exact this
/-- A number of the page is put. -/
theorem Tk.page0 {w wr : World} {q g : Nat} {X : Option Addr} {c a b p : Nat} {l : List Int} {e : Int} (t : Tk w wr q g X c l a b p e (.slice none 0 0) []) (n : Nat) : Tk w (wr.setCell ⟨q, 0, none⟩ (.int .u8 n)) q g X c l n b p e (.slice none 0 0) [] :=
  ⟨by rw [heap_setCell_same wr q 0 _ _ _ t.pg]; rfl, t.rdr.other (grown_set _ _ _ _) (by have := t.g_; omega) (fun a ha => by have := t.X_ a ha; omega), OPs.nil _ _, t.bel.setCell (p := ⟨q, 0, none⟩) t.q_ _, t.q_, t.g_, t.X_⟩
theorem Tk.page1 {w wr : World} {q g : Nat} {X : Option Addr} {c a b p : Nat} {l : List Int} {e : Int} (t : Tk w wr q g X c l a b p e (.slice none 0 0) []) (n : Nat) : Tk w (wr.setCell ⟨q, 1, none⟩ (.int .u8 n)) q g X c l a n p e (.slice none 0 0) [] :=
  ⟨by rw [heap_setCell_same wr q 1 _ _ _ t.pg]; rfl, t.rdr.other (grown_set _ _ _ _) (by have := t.g_; omega) (fun a ha => by have := t.X_ a ha; omega), OPs.nil _ _, t.bel.setCell (p := ⟨q, 1, none⟩) t.q_ _, t.q_, t.g_, t.X_⟩
theorem Tk.cells {w wr : World} {q g : Nat} {X : Option Addr} {c a b p : Nat} {l : List Int} {e : Int} {v : Value} {ps : List Pt} (t : Tk w wr q g X c l a b p e v ps) :
    wr.cell? ⟨q, 0, none⟩ = some (.int .u8 a) ∧ wr.cell? ⟨q, 1, none⟩ = some (.int .u8 b) ∧ wr.frozen? ⟨q, 0, none⟩ = false ∧ wr.frozen? ⟨q, 1, none⟩ = false := by
  refine ⟨?_, ?_, frozen_of_row _ _ _ _ _ t.pg, frozen_of_row _ _ _ _ _ t.pg⟩ <;> (rw [cell_of_row _ _ _ _ _ _ t.pg]; rfl)
/-- What taken answers. -/
def TakenTo (w : World) (l : List Int) (e : Ending) (w' : World) : Prop :=
  ∃ v ps, e = .returned (.tuple #[.agg #[.int .u8 (takenSt l).1, .int .u8 (takenSt l).2.1], v, .int .i64 (takenSt l).2.2.2]) ∧ OPs w' w.heap.size v ps ∧ ps.map Pt.pp = (takenSt l).2.2.1 ∧
    (∀ x ∈ ps, 0 ≤ x.b ∧ x.b < 1000000 ∧ 0 ≤ x.p ∧ x.p < 1000000 ∧ x.l.length ≤ 140737488355328) ∧ Below w.heap.size w w'

theorem Tk.done {w w9 : World} {q g : Nat} {X : Option Addr} {c a b p : Nat} {l : List Int} {e : Int} {v : Value} {ps : List Pt} (t : Tk w w9 q g X c l a b p e v ps) :
    ((w9.setCell ⟨q, 0, none⟩ (.int .u8 a)).setCell ⟨q, 1, none⟩ (.int .u8 b)).heap[q]? = some (.cells #[.int .u8 a, .int .u8 b] 34 (0, 0)) ∧ OPs ((w9.setCell ⟨q, 0, none⟩ (.int .u8 a)).setCell ⟨q, 1, none⟩ (.int .u8 b)) w.heap.size v ps ∧ Below w.heap.size w ((w9.setCell ⟨q, 0, none⟩ (.int .u8 a)).setCell ⟨q, 1, none⟩ (.int .u8 b)) := by
  have e0 : (w9.setCell ⟨q, 0, none⟩ (.int .u8 a)).heap[q]? = some (.cells #[.int .u8 a, .int .u8 b] 34 (0, 0)) := by rw [heap_setCell_same w9 q 0 _ _ _ t.pg]; rfl
  have hq := t.q_
  have hg := t.g_
  have gr : w9.grownBy ((w9.setCell ⟨q, 0, none⟩ (.int .u8 a)).setCell ⟨q, 1, none⟩ (.int .u8 b)) (some q) := gw_trans (grown_set _ _ _ _) (grown_set _ _ _ _)
  exact ⟨by rw [heap_setCell_same _ q 1 _ _ _ e0]; rfl, (t.ops.low gr (fun k e => by obtain rfl := Option.some.inj e; omega)).mono (by omega), t.bel.grown gr t.bel.size (fun k e => by obtain rfl := Option.some.inj e; exact hq)⟩
theorem taken_done {w W : World} {l : List Int} {a b p : Nat} {e : Int} {v : Value} {ps : List Pt} {R : List PP × Nat × Int} (hT : takenSt l = (a, b, R.1, endSt l R.2.1 R.2.2)) (hR : (ps.map Pt.pp, p, e) = R) (ho : OPs W w.heap.size v ps)
    (hg : ∀ x ∈ ps, 0 ≤ x.b ∧ x.b < 1000000 ∧ 0 ≤ x.p ∧ x.p < 1000000 ∧ x.l.length ≤ 140737488355328) (hb : Below w.heap.size w W) : TakenTo w l (.returned (.tuple #[.agg #[.int .u8 a, .int .u8 b], v, .int .i64 (endSt l p e)])) W := by
  subst hR
  refine ⟨v, ps, ?_, ho, ?_, hg, hb⟩
  · rw [hT]
  · rw [hT]
theorem own_mono {w : World} {B B' : Nat} {A : Option Addr} {c : Nat} {l : List Int} (h : OB w B A c l) (hB : B' ≤ B) : OB w B' A c l := h.mono hB
theorem new_pt (w : World) (y : Pt) : ∀ j u, y.cells[j]? = some u → (w.alloc y.obj).cell? ((⟨w.heap.size, 0, none⟩ : Addr).add j) = some u := by
  intro j u hu
  have hadd : (⟨w.heap.size, 0, none⟩ : Addr).add j = ⟨w.heap.size, j, none⟩ := by unfold Addr.add; split <;> simp_all
  rw [hadd, cell_of_row _ _ _ _ _ (0, 0) (heap_alloc_new _ _), ← hu]
  simp [Pt.cells]
set_option maxHeartbeats 4000000 in
theorem taken_any (w : World) (A : Option Addr) (c n : Nat) (l : List Int) (hn : n = l.length) (h : RB w w.heap.size A c l) (hl : l.length ≤ 1099511627776) :
    Calls Try.prog 27 #[.slice A n c] w (TakenTo w l) := by
  subst hn
  have HR := Lib.hid h
  clear h
  go_enter Try.func27, Try.ntmps27
  go_upto_region 2 with (go_at_call 37; (with_reducible refine (new_any A c _ l _ w.heap.size rfl (HR.out.alloc (Nat.le_refl _) _) (by simp) hl).mono ?_); rintro e w1 ⟨g, X, cx, rfl, hr, hb, hg, hX⟩)
  have hT : Tk w w1 w.heap.size g X cx l 0 0 0 0 (.slice none 0 0) [] := by
    refine ⟨(hb.block _ (by simp)).trans (heap_alloc_new _ _), hr, OPs.nil _ _, ((Below.refl _ _).alloc (Nat.le_refl _) _).trans (hb.mono (by simp)), Nat.le_refl _, by simp at hg; omega, fun a ha => by have := hX a ha; simp at this; omega⟩
  clear hr hb hg hX
  obtain ⟨a1, ha1⟩ : ∃ a1, countSt l 0 0 255 = a1 := ⟨_, rfl⟩
  obtain ⟨a2, ha2⟩ : ∃ a2, countSt l a1.2.1 a1.2.2 255 = a2 := ⟨_, rfl⟩
  obtain ⟨a3, ha3⟩ : ∃ a3, countSt l a2.2.1 a2.2.2 98304 = a3 := ⟨_, rfl⟩
  have l1 : ((a1.1 : Nat) : Int) ≤ 255 := ha1 ▸ countSt_le l 0 0 255 (by decide)
  have l2 : ((a2.1 : Nat) : Int) ≤ 255 := ha2 ▸ countSt_le l _ _ 255 (by decide)
  have l3 : ((a3.1 : Nat) : Int) ≤ 98304 := ha3 ▸ countSt_le l _ _ 98304 (by decide)
  have HK1 := Lib.hid fun w h => rcount_any g X cx l 0 0 255 w h (by decide)
  have HK2 := Lib.hid fun w h => rcount_any g X cx l a1.2.1 a1.2.2 255 w h (by decide)
  have HK3 := Lib.hid fun w h => rcount_any g X cx l a2.2.1 a2.2.2 98304 w h (by decide)
  rw [ha1] at HK1
  rw [ha2] at HK2
  rw [ha3] at HK3
  have HT := Lib.hid hT
  obtain ⟨z0, z1, z2, z3⟩ := hT.cells
  have HA1 := Lib.hid ha1
  have HA2 := Lib.hid ha2
  have HA3 := Lib.hid ha3
  clear hT ha1 ha2 ha3
  go_upto_region 3 with (go_at_call 38; (with_reducible refine (HK1.out _ HT.out.rdr).mono ?_); rintro e w2 ⟨rfl, hr2, hg2⟩; replace HT := Lib.hid (HT.out.go hr2 hg2); clear hr2 hg2 z0 z1 z2 z3; obtain ⟨z0, z1, z2, z3⟩ := HT.out.cells)
  replace HT := Lib.hid (HT.out.page0 a1.1)
  obtain ⟨W2, hW2⟩ : ∃ W, w2.setCell ⟨w.heap.size, 0, none⟩ (.int .u8 (a1.1 : Nat)) = W := ⟨_, rfl⟩
  rw [hW2] at HT ⊢
  clear hW2 z0 z1 z2 z3
  obtain ⟨z0, z1, z2, z3⟩ := HT.out.cells
  go_upto_region 4 with (go_at_call 38; (with_reducible refine (HK2.out _ HT.out.rdr).mono ?_); rintro e w3 ⟨rfl, hr2, hg2⟩; replace HT := Lib.hid (HT.out.go hr2 hg2); clear hr2 hg2 z0 z1 z2 z3; obtain ⟨z0, z1, z2, z3⟩ := HT.out.cells)
  replace HT := Lib.hid (HT.out.page1 a2.1)
  obtain ⟨W3, hW3⟩ : ∃ W, w3.setCell ⟨w.heap.size, 1, none⟩ (.int .u8 (a2.1 : Nat)) = W := ⟨_, rfl⟩
  rw [hW3] at HT ⊢
  clear hW3 z0 z1 z2 z3
  go_wp2_with (go_at_call 38; (with_reducible refine (HK3.out _ HT.out.rdr).mono ?_); rintro e w4 ⟨rfl, hr2, hg2⟩; replace HT := Lib.hid (HT.out.go hr2 hg2); clear hr2 hg2)
  have HTK : Hid (takenSt l = (a1.1, a2.1, (tkL l a3.1 a3.2.1 a3.2.2 []).1, endSt l (tkL l a3.1 a3.2.1 a3.2.2 []).2.1 (tkL l a3.1 a3.2.1 a3.2.2 []).2.2)) := by
    have e1 := HA1.out; have e2 := HA2.out; have e3 := HA3.out
    show takenSt l = _
    unfold takenSt
    simp only [e1, e2, e3]
  clear HK1 HK2 HK3
  have hgood : Hid (∀ x ∈ ([] : List Pt), 0 ≤ x.b ∧ x.b < 1000000 ∧ 0 ≤ x.p ∧ x.p < 1000000 ∧ x.l.length ≤ 140737488355328) := fun x hx => by cases hx
  go_loopw [3, 20] (fun v i wr => ∃ (k p : Nat) (e : Int) (ps : List Pt), i = .int .i64 k ∧ k ≤ a3.1 ∧ Hid (Tk w wr w.heap.size g X cx l a1.1 a2.1 p e v ps) ∧ Hid (tkL l (a3.1 - k) p e (ps.map Pt.pp) = tkL l a3.1 a3.2.1 a3.2.2 []) ∧ Hid (∀ x ∈ ps, 0 ≤ x.b ∧ x.b < 1000000 ∧ 0 ≤ x.p ∧ x.p < 1000000 ∧ x.l.length ≤ 140737488355328) ∧ ps.length ≤ k) (fun _ i _ => a3.1 - (intOf i).toNat)
  case atStart => exact ⟨0, a3.2.1, a3.2.2, [], rfl, by omega, HT, Lib.hid rfl, hgood, by decide⟩
  case round =>
    rename World => wr
    obtain ⟨k, p, e, ps, rfl, hk, HT2, HE, HG, hps⟩ := hrel
    by_cases hlt : k < a3.1
    · obtain ⟨c1, hc1⟩ : ∃ c1, countSt l p e 11 = c1 := ⟨_, rfl⟩
      obtain ⟨c2, hc2⟩ : ∃ c2, countSt l c1.2.1 c1.2.2 16383 = c2 := ⟨_, rfl⟩
      obtain ⟨bb, hbb⟩ : ∃ bb, blockSt l c2.2.1 c2.2.2 = bb := ⟨_, rfl⟩
      have m1 : ((c1.1 : Nat) : Int) ≤ 11 := hc1 ▸ countSt_le l p e 11 (by decide)
      have m2 : ((c2.1 : Nat) : Int) ≤ 16383 := hc2 ▸ countSt_le l _ _ 16383 (by decide)
      have m3 : bb.1.length ≤ 1048576 := hbb ▸ (blockSt_all l _ _ HR.out.bytes).2
      have HK1 := Lib.hid fun w h => rcount_any g X cx l p e 11 w h (by decide)
      have HK2 := Lib.hid fun w h => rcount_any g X cx l c1.2.1 c1.2.2 16383 w h (by decide)
      have HK3 := Lib.hid fun w h => rblock_any g X cx l c2.2.1 c2.2.2 w h
      rw [hc1] at HK1
      rw [hc2] at HK2
      rw [hbb] at HK3
      have hk1 : a3.1 - k = (a3.1 - (k + 1)) + 1 := by omega
      rw [hk1, tkL_step hc1 hc2 hbb] at HE
      clear hk1 hc1 hc2 hbb
      obtain ⟨i0, hi, hz0, hz1, hz2⟩ := info_parts info_patch
      have HI := Lib.hid (And.intro hi (And.intro hz0 (And.intro hz1 hz2)))
      clear hi hz0 hz1 hz2 HT
      go_upto_region 8 with (go_at_call 38; first
        | ((with_reducible refine (HK1.out _ HT2.out.rdr).mono ?_); rintro e w5 ⟨rfl, hr2, hg2⟩; replace HT2 := Lib.hid (HT2.out.go hr2 hg2); clear hr2 hg2)
        | ((with_reducible refine (HK2.out _ HT2.out.rdr).mono ?_); rintro e w6 ⟨rfl, hr2, hg2⟩; replace HT2 := Lib.hid (HT2.out.go hr2 hg2); clear hr2 hg2))
      go_wp2_with fail
      refine (HK3.out _ HT2.out.rdr).mono ?_
      rintro e w7 ⟨A7, c7, rfl, ho7, hr2, hg2⟩
      have hgs := HT2.out.rdr.lt
      replace HT2 := Lib.hid (HT2.out.go hr2 hg2)
      have hy7 : OB w7 (g + 1) A7 c7 bb.1 := ho7.mono hgs
      have hlt7 := HT2.out.rdr.lt
      have HY7 := Lib.hid hy7
      have HO := Lib.hid (HT2.out.ops.row.alloc (Pt.obj ⟨c1.1, c2.1, A7, c7, bb.1⟩))
      have HNP := Lib.hid (new_pt w7 ⟨c1.1, c2.1, A7, c7, bb.1⟩)
      have HC1 := Lib.hid (cellsP_one [⟨c1.1, c2.1, A7, c7, bb.1⟩])
      clear ho7 hy7 hgs hr2 hg2
      unfold Pt.obj at HO HNP
      unfold Pt.cells at HNP
      have hgood2 : Hid (∀ x ∈ ps ++ [⟨c1.1, c2.1, A7, c7, bb.1⟩], 0 ≤ x.b ∧ x.b < 1000000 ∧ 0 ≤ x.p ∧ x.p < 1000000 ∧ x.l.length ≤ 140737488355328) := fun x hx => by
        rcases List.mem_append.1 hx with h1 | h1
        · exact HG.out x h1
        · obtain rfl := List.mem_singleton.1 h1
          exact ⟨show (0 : Int) ≤ (c1.1 : Nat) by omega, show ((c1.1 : Nat) : Int) < 1000000 by omega, show (0 : Int) ≤ (c2.1 : Nat) by omega, show ((c2.1 : Nat) : Int) < 1000000 by omega, show bb.1.length ≤ 140737488355328 by omega⟩
      have hmap : (ps ++ [(⟨c1.1, c2.1, A7, c7, bb.1⟩ : Pt)]).map Pt.pp = ps.map Pt.pp ++ [(c1.1, c2.1, bb.1)] := by rw [List.map_append]; rfl
      have HMap := Lib.hid hmap
      clear hmap
      by_cases hz : bb.2.2 = 0
      · replace HE := Lib.hid ((if_neg (fun h => h hz)).symm.trans HE.out)
        go_wp2_with (first
          | (at_builtin; refine w_append rfl (.tmp 26) (.tmp 32) 30 rfl (g + 1) 29 i0 _ 3 40 Try.underlying30 HI.out.1 HI.out.2.1 HI.out.2.2.1 HI.out.2.2.2 rfl (by decide) _ ps.length (cellsP ps) rfl HO.out ⟨w7.heap.size, 0, none⟩ 1 1 [.int .i64 (c1.1 : Nat), .int .i64 (c2.1 : Nat), .slice A7 bb.1.length c7] rfl rfl HNP.out HC1.out (by unfold maxLen; omega) (by omega) (by simp; omega) ?_; intro v' w8 hown' hgrow; have HT3 := Lib.hid (HT2.out.push ⟨c1.1, c2.1, A7, c7, bb.1⟩ HY7.out hown' hgrow); clear hown' hgrow; have r0 := HT3.out.rdr.c0; have r3 := HT3.out.rdr.c3)
          | (go_at_call 40; (with_reducible refine (err_any g _ _ r0 r3).mono ?_); rintro e w' ⟨rfl, rfl⟩))
        exact ⟨⟨k + 1, _, _, _, by go_num, by omega, HT3, Lib.hid (by rw [HMap.out]; exact HE.out), hgood2, by rw [List.length_append]; simp; omega⟩, by simp [intOf]; omega⟩
      · replace HE := Lib.hid ((if_pos hz).symm.trans HE.out)
        go_wp2_with (first
          | (fail)
          | (at_builtin; refine w_append rfl (.tmp 26) (.tmp 32) 30 rfl (g + 1) 29 i0 _ 3 40 Try.underlying30 HI.out.1 HI.out.2.1 HI.out.2.2.1 HI.out.2.2.2 rfl (by decide) _ ps.length (cellsP ps) rfl HO.out ⟨w7.heap.size, 0, none⟩ 1 1 [.int .i64 (c1.1 : Nat), .int .i64 (c2.1 : Nat), .slice A7 bb.1.length c7] rfl rfl HNP.out HC1.out (by unfold maxLen; omega) (by omega) (by simp; omega) ?_; intro v' w8 hown' hgrow; have HT3 := Lib.hid (HT2.out.push ⟨c1.1, c2.1, A7, c7, bb.1⟩ HY7.out hown' hgrow); clear hown' hgrow; have r0 := HT3.out.rdr.c0; have r3 := HT3.out.rdr.c3)
          | (go_at_call 40; (with_reducible refine (err_any g _ _ r0 r3).mono ?_); rintro e w' ⟨rfl, rfl⟩))
        have HEf : Hid (((ps ++ [(⟨c1.1, c2.1, A7, c7, bb.1⟩ : Pt)]).map Pt.pp, bb.2.1, bb.2.2) = tkL l a3.1 a3.2.1 a3.2.2 []) := Lib.hid (by rw [HMap.out]; exact HE.out)
        have HKE := Lib.hid fun w h => rend_any g X cx l bb.2.1 bb.2.2 w h
        obtain ⟨z0, z1, z2, z3⟩ := HT3.out.cells
        go_upto_region 11 with fail
        go_region_law (go_simp; go_at_call 41; (with_reducible refine (HKE.out (World.drew _) (HT3.out.rdr.same rfl)).mono ?_); rintro e9 w9 ⟨rfl, hr9, hg9⟩; have HT9 := Lib.hid (HT3.out.go hr9 (grown_undrew hg9)); obtain ⟨y0, y1, y2, y3⟩ := HT9.out.cells)
        all_goals
          go_wp2_with fail
          (try simp only [Exit.inBlock, Exit.then])
          obtain ⟨f1, f2, f3⟩ := HT9.out.done
          exact bodyPost_ret (s_results_row_tmp2 rfl _ _ _ _ _ (0, 0) _ v' (.int .i64 (endSt l bb.2.1 bb.2.2)) rfl rfl rfl f1 Try.underlying34 rfl infoPg) rfl (taken_done HTK.out HEf.out f2 hgood2.out f3)
    · obtain rfl : k = a3.1 := by omega
      rw [Nat.sub_self] at HE
      have HEf : Hid ((ps.map Pt.pp, p, e) = tkL l a3.1 a3.2.1 a3.2.2 []) := HE
      have HKE := Lib.hid fun w h => rend_any g X cx l p e w h
      obtain ⟨z0, z1, z2, z3⟩ := HT2.out.cells
      go_upto_region 11 with fail
      go_region_law (go_simp; go_at_call 41; (with_reducible refine (HKE.out (World.drew _) (HT2.out.rdr.same rfl)).mono ?_); rintro e9 w9 ⟨rfl, hr9, hg9⟩; have HT9 := Lib.hid (HT2.out.go hr9 (grown_undrew hg9)); obtain ⟨y0, y1, y2, y3⟩ := HT9.out.cells)
      all_goals
        go_wp2_with fail
        (try simp only [Exit.inBlock, Exit.then])
        obtain ⟨f1, f2, f3⟩ := HT9.out.done
        exact bodyPost_ret (s_results_row_tmp2 rfl _ _ _ _ _ (0, 0) _ u3 (.int .i64 (endSt l p e)) rfl rfl rfl f1 Try.underlying34 rfl infoPg) rfl (taken_done HTK.out HEf.out f2 HG.out f3)
end Go.Proofs.Ytflbedomkeophaa
