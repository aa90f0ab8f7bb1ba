/-    -/
import Derived.Test.YthnbpdcjooifbaaJ12
import Derived.Test.YthnbpdcjooifbaaJ14
import Derived.Test.YthnbpdcjooifbaaJ11
namespace Go.Proofs.Ythnbpdcjooifbaa
open Go.RowKit Go.ChangeShapes Go.WideShapes Go.ChangeAt Go.Deep
set_option maxRecDepth 100000
set_option linter.unusedSimpArgs false
set_option linter.unusedVariables false

theorem list_any {α : Type} (z : α) {p : Nat → α → Prop} : ∀ n : Nat, (∀ i, i < n → ∃ s, p i s) → ∃ l : List α, l.length = n ∧ ∀ i, i < n → p i (l.getD i z)
  | 0, _ => ⟨[], rfl, fun i h => by omega⟩
  | n + 1, h => by
    obtain ⟨l, hl, hp⟩ := list_any z n fun i hi => h i (by omega)
    obtain ⟨s, hs⟩ := h n (by omega)
    refine ⟨l ++ [s], by simp [hl], fun i hi => ?_⟩
    by_cases e : i = n
    · subst e
      have : (l ++ [s]).getD i z = s := by simp [List.getD_eq_getElem?_getD, ← hl]
      rw [this]; exact hs
    · have : (l ++ [s]).getD i z = l.getD i z := by
        simp only [List.getD_eq_getElem?_getD]
        rw [List.getElem?_append_left (by omega)]
      rw [this]
      exact hp i (by omega)

theorem evs_of_cells {H : Type} {enc : TypeId × Value → H} {W : World} {n : Nat} {cs : List Value} {y : DataW H × List MemPlace} {sp : Nat → Bool}
    (h : DataW.trod enc Try.prog W 0 sp true n 25 cs = some y) : ∃ x : Ls, cs = [x.val] ∧ LsAt W W.heap.size x ∧ (∀ e ∈ x.l, e.wf) ∧ (x.A = none → x.c = 0) := by
  have hC : Try.prog.cellsOf 23 = 6 := by kernel_rfl
  rcases open_slice Try.underlying25 h with ⟨hcs, _⟩ | ⟨x, len, cap, m, n, D, Pl, hcs, _, hl, hm, hmm, _, hi⟩
  · exact ⟨Ls.none, hcs, ⟨Nat.le_refl _, Nat.zero_le _, fun h => absurd h (by simp [Ls.none])⟩, (fun _ h => by cases h), fun _ => rfl⟩
  · have key : ∀ i, i < len → ∃ s : Ev, (x.add (i * 6)).spot = none ∧ EvAt W (x.add (i * 6)).block (x.add (i * 6)).off s ∧ s.wf := fun i hil => by
      have him : i < m := by
        have := hmm
        split at this <;> omega
      obtain ⟨cs', hc, ht⟩ := hi i him
      rw [hC] at hc
      obtain ⟨_, hcl, hat⟩ := World.cells?_some hc
      obtain ⟨s, rfl, hw⟩ := ev_of_cells hcl ht
      obtain ⟨q1, q2⟩ := ev_at_cells hat
      exact ⟨s, q1, q2, hw⟩
    obtain ⟨l, hll, hp⟩ := list_of len key
    refine ⟨⟨some x, cap, l⟩, by rw [hcs]; unfold Ls.val; rw [hll], ⟨by rw [hll]; exact hl, hm, fun h0 => ?_⟩, ?_, fun h => by cases h⟩
    · have h00 := hp 0 (by rw [← hll]; exact h0)
      have hx0 : x.add (0 * 6) = x := by simp [Addr.add]
      rw [hx0] at h00
      obtain ⟨b, o, sp⟩ := x
      obtain rfl : sp = none := h00.1
      refine ⟨b, o, rfl, World.block_lt_of_cell? _ _ h00.2.1.c0, fun i hil => ?_⟩
      have := (hp i (by rw [← hll]; exact hil)).2.1
      rwa [show (⟨b, o, none⟩ : Addr).add (i * 6) = ⟨b, o + i * 6, none⟩ by unfold Addr.add; split <;> simp_all] at this
    · intro e he
      obtain ⟨i, hil, rfl⟩ := List.mem_iff_getElem.1 he
      have := (hp i (by rw [← hll]; exact hil)).2.2
      rwa [getD_at l i hil] at this

theorem open_evss {H : Type} {enc : TypeId × Value → H} {W : World} {a : Option Addr} {len cap : Nat} {d : DataW H} {p : List MemPlace}
    (h : DataW.Trod enc Try.prog W 0 (fun _ => true) true 32 (.slice a len cap) d p) : ∃ L : List Ls, len = L.length ∧ LL W W.heap.size a cap L ∧ (∀ x ∈ L, (∀ e ∈ x.l, e.wf) ∧ (x.A = none → x.c = 0)) := by
  obtain ⟨fuel, hf⟩ := h
  have hC : Try.prog.cellsOf 25 = 1 := by kernel_rfl
  rcases open_slice Try.underlying32 hf with ⟨hcs, _⟩ | ⟨x, l, c, m, n, D, Pl, hcs, _, hl, hm, hmm, _, hi⟩
  · simp [Value.cells] at hcs
    obtain ⟨rfl, rfl, rfl⟩ := hcs
    exact ⟨[], rfl, ⟨Nat.le_refl _, Nat.zero_le _, fun h => absurd h (by simp), fun _ h => by cases h⟩, fun _ h => by cases h⟩
  · simp [Value.cells] at hcs
    obtain ⟨rfl, rfl, rfl⟩ := hcs
    simp at hmm
    subst hmm
    have key : ∀ i, i < len → ∃ s : Ls, W.cell? (x.add i) = some s.val ∧ LsAt W W.heap.size s ∧ (∀ e ∈ s.l, e.wf) ∧ (s.A = none → s.c = 0) := fun i hil => by
      obtain ⟨cs', hc, ht⟩ := hi i (by omega)
      rw [hC, Nat.mul_one] at hc
      obtain ⟨_, hcl, hat⟩ := World.cells?_some hc
      obtain ⟨s, rfl, hw⟩ := evs_of_cells ht
      have := hat 0 (by decide)
      exact ⟨s, by simpa [Addr.add] using this, hw⟩
    obtain ⟨L, hll, hp⟩ := list_any Ls.none len key
    refine ⟨L, hll.symm, ⟨by rw [hll]; exact hl, hm, fun h0 => ?_, ?_⟩, ?_⟩
    · rw [hll] at h0
      have h00 := (hp 0 h0).1
      have hx0 : x.add 0 = x := by simp [Addr.add]
      rw [hx0] at h00
      have hspot : x.spot = none := by simpa [Addr.add] using World.cell?_spot h00
      obtain ⟨b, o, sp⟩ := x
      obtain rfl : sp = none := hspot
      refine ⟨b, o, rfl, World.block_lt_of_cell? _ _ h00, fun i hil => ?_⟩
      have := (hp i (by rw [← hll]; exact hil)).1
      rwa [show (⟨b, o, none⟩ : Addr).add i = ⟨b, o + i, none⟩ by unfold Addr.add; split <;> simp_all] at this
    · intro y hy
      obtain ⟨i, hil, rfl⟩ := List.mem_iff_getElem.1 hy
      have := (hp i (by rw [← hll]; exact hil)).2.1
      rwa [List.getD_eq_getElem?_getD, List.getElem?_eq_getElem hil] at this
    · intro y hy
      obtain ⟨i, hil, rfl⟩ := List.mem_iff_getElem.1 hy
      have := (hp i (by rw [← hll]; exact hil)).2.2
      rwa [List.getD_eq_getElem?_getD, List.getElem?_eq_getElem hil] at this
end Go.Proofs.Ythnbpdcjooifbaa
namespace Go.Proofs.Ythnbpdcjooifbaa
open Go.RowKit
set_option linter.unusedSimpArgs false
set_option linter.unusedVariables false

theorem rows_apart {w : World} {b1 b2 e1 e2 s1 s2 n1 n2 : Nat} {v1 v2 : Value} {xs1 xs2 : List Value} (h1 : w.ownsRow b1 e1 s1 v1 n1 xs1) (h2 : w.ownsRow b2 e2 s2 v2 n2 xs2) (he : e1 ≠ e2) : v1.ownBlock = none ∨ v1.ownBlock ≠ v2.ownBlock := by
  rcases h1.2 with ⟨rfl, _⟩ | ⟨g, cap, cur, rfl, _, hg, _⟩
  · exact .inl rfl
  · rcases h2.2 with ⟨rfl, _⟩ | ⟨g2, cap2, cur2, rfl, _, hg2, _⟩
    · exact .inr (by simp [Value.ownBlock])
    · refine .inr fun e => he ?_
      obtain rfl : g = g2 := by simpa [Value.ownBlock] using e
      rw [hg] at hg2
      simp at hg2
      exact hg2.2
theorem row_fresh {w : World} {b e s n : Nat} {v : Value} {xs : List Value} (h : w.ownsRow b e s v n xs) (k : Nat) (hk : w.heap.size ≤ k) : v.ownBlock = none ∨ v.ownBlock ≠ some k := by
  cases hv : v.ownBlock with
  | none => exact .inl rfl
  | some g => exact .inr fun e => by have := (h.lt g hv).2; have := Option.some.inj e; omega
theorem one_new (w : World) (v : Value) (t : TypeId) : ∀ j u, [v][j]? = some u → (w.alloc (.cells #[v] t)).cell? ((⟨w.heap.size, 0, none⟩ : Addr).add j) = some u := by
  intro j u hu
  cases j with
  | zero =>
    obtain rfl : v = u := by simpa using hu
    show (w.alloc (.cells #[v] t)).cell? ⟨w.heap.size, 0, none⟩ = some v
    rw [World.cell?_alloc_at _ _ _ _ rfl]; rfl
  | succ j => simp at hu

/-- A row of lists, each in a row of the call's own. -/
structure Rows2 (w : World) (base : Nat) (vo : Value) (L : List Ls) : Prop where
  out : w.ownsRow base 25 1 vo L.length (L.map Ls.val)
  rows : ∀ y ∈ L, w.ownsRow base 23 6 y.val y.l.length (rowV y.l)

theorem Rows2.ll {w : World} {base : Nat} {vo : Value} {L : List Ls} (h : Rows2 w base vo L) : ∃ A c, vo = .slice A L.length c ∧ LL w w.heap.size A c L := by
  have hrows : ∀ y ∈ L, LsAt w w.heap.size y := fun y hy => by
    obtain ⟨z, h1, h2, h3⟩ := row_to_ls (h.rows y hy)
    have : z = y := by
      obtain ⟨A, c, l⟩ := y
      obtain ⟨A2, c2, l2⟩ := z
      unfold Ls.val at h1
      simp at h1 h2
      simp [h1, h2]
    rw [← this]; exact h3.1
  rcases h.out.2 with ⟨h1, h2⟩ | ⟨g, cap, cur, e1, e2, e3, e4, e5, e6, e7⟩
  · have : L = [] := List.eq_nil_of_length_eq_zero h2
    subst this
    exact ⟨none, 0, h1, Nat.le_refl _, Nat.zero_le _, fun h => absurd h (by simp), fun _ h => by cases h⟩
  · subst e1
    have hlt := (h.out.lt g rfl).2
    refine ⟨some ⟨g, 0, none⟩, cap, rfl, e4, e5, fun h0 => ⟨g, 0, rfl, hlt, fun i hi => ?_⟩, hrows⟩
    rw [Nat.zero_add, h.out.cellAt i (by omega), List.getElem?_map, List.getElem?_eq_getElem hi, List.getD_eq_getElem?_getD, List.getElem?_eq_getElem hi]
    rfl

theorem Rows2.snoc {wr wa wb : World} {base : Nat} {vo vo' : Value} {L : List Ls} {y : Ls} {o : Obj} (hb : base ≤ wr.heap.size) (h : Rows2 wr base vo L) (hg1 : (wr.alloc (.cells #[] 23)).grownBy wa (some wr.heap.size))
    (hy : wa.ownsRow base 23 6 y.val y.l.length (rowV y.l)) (hg2 : (wa.alloc o).grownBy wb vo.ownBlock) (ho : wb.ownsRow base 25 1 vo' (L.length + 1) (L.map Ls.val ++ [y.val])) : Rows2 wb base vo' (L ++ [y]) := by
  have hva : wa.ownsRow base 25 1 vo L.length (L.map Ls.val) := (h.out.alloc _).kept hg1 (row_fresh h.out _ (Nat.le_refl _))
  refine ⟨by simpa using ho, fun z hz => ?_⟩
  rcases List.mem_append.1 hz with h1 | h1
  · have hz1 := h.rows z h1
    have hz2 := (hz1.alloc (.cells #[] 23)).kept hg1 (row_fresh hz1 _ (Nat.le_refl _))
    exact (hz2.alloc o).kept hg2 (rows_apart hz2 hva (by decide))
  · obtain rfl := List.mem_singleton.1 h1
    exact (hy.alloc o).kept hg2 (rows_apart hy hva (by decide))

def CopRel (w : World) (L : List Ls) (k : Nat) (vo : Value) (wr : World) : Prop :=
  ∃ L' : List Ls, Rows2 wr w.heap.size vo L' ∧ L'.length = k ∧ L'.map Ls.l = (L.take k).map Ls.l ∧ Below w.heap.size w wr
def CopTo (w : World) (L : List Ls) (e : Ending) (w' : World) : Prop :=
  ∃ A c L', e = .returned (.slice A L'.length c) ∧ LL w' w'.heap.size A c L' ∧ L'.map Ls.l = L.map Ls.l ∧ Below w.heap.size w w'

set_option maxRecDepth 100000 in
set_option maxHeartbeats 4000000 in
theorem copies_any (w : World) (c : Nat) (O : Option Addr) (L : List Ls) (h : LL w w.heap.size O c L) (hn : ∀ x ∈ L, x.A = none → x.c = 0) (h10 : L.length ≤ 10) (hall : ∀ x ∈ L, x.l.length ≤ 1048576) :
    Calls Try.prog 15 #[.slice O L.length c] w (CopTo w L) := by
  have hc := h.le
  have hm := h.cap
  unfold maxLen at hm
  obtain ⟨i1, hi, hz0, hz1, hz2⟩ := info_parts info_list
  go_enter Try.func15, Try.ntmps15
  go_wp2_with fail
  go_loopw [3, 4] (fun vo i wr => ∃ (k : Nat), k ≤ L.length ∧ i = .int .i64 k ∧ CopRel w L k vo wr) (fun _ i _ => L.length - (intOf i).toNat)
  case atStart => exact ⟨0, Nat.zero_le _, rfl, [], ⟨World.ownsRow_nil _ _ _ _, fun _ h => by cases h⟩, rfl, rfl, Below.refl _ _⟩
  case round =>
    obtain ⟨k, hk, rfl, L', hR, hL', hml, hb⟩ := hrel
    by_cases hlt : k < L.length
    · obtain ⟨b, o, rfl, hb1, hc1⟩ := h.at_ (by omega)
      have hcell := (World.cell?_of_block (hb.block b hb1)).trans (hc1 k hlt)
      have hmem : L.getD k Ls.none ∈ L := by rw [List.getD_eq_getElem?_getD, List.getElem?_eq_getElem hlt]; exact List.getElem_mem hlt
      have htake : L.take (k + 1) = L.take k ++ [L.getD k Ls.none] := by
        rw [List.take_succ_eq_append_getElem hlt, List.getD_eq_getElem?_getD, List.getElem?_eq_getElem hlt]; rfl
      have hrow := (h.rows _ hmem).keep (w' := wr) (fun k hk => hb.block k (by omega))
      have hnx := hn _ hmem
      have hax := hall _ hmem
      generalize L.getD k Ls.none = x at *
      have hsz := hb.size
      have hcell2 : (wr.alloc (.cells #[] 23)).cell? ⟨b, o + k, none⟩ = some x.val := (((Below.refl wr.heap.size wr).alloc (Nat.le_refl _) _).cell (p := ⟨b, o + k, none⟩) (show b < wr.heap.size by omega)).trans hcell
      have hrow2 : LsAt (wr.alloc (.cells #[] 23)) w.heap.size x := hrow.keep fun k hk => ((Below.refl wr.heap.size wr).alloc (Nat.le_refl _) _).block k (by omega)
      have how : (wr.alloc (.cells #[] 23)).ownsRow w.heap.size 23 6 (.slice (some ⟨wr.heap.size, 0, none⟩) 0 0) 0 [] := World.ownsRow_made wr #[] 0 hsz (by decide) rfl
      have HT := Lib.hid htake
      have HR := Lib.hid hR
      have HM := Lib.hid hml
      have HRW := Lib.hid hrow2
      have HOW := Lib.hid how
      have HNX := Lib.hid hnx
      have HL := Lib.hid hL'
      unfold Ls.val at hcell2
      clear htake hR hml hrow hrow2 how hnx hc1 hcell hmem hL'
      go_wp2_with (first
        | (at_builtin; refine wpList_append_ls rfl (.tmp 12) (.tmp 16) 25 rfl Try.underlying25 w.heap.size _ [] rfl HOW.out w.heap.size x rfl HRW.out HNX.out (by simp only [List.length_append, List.length_nil]; omega) (by simp; omega) ?_; intro v1 wa hown1 hg1; obtain ⟨y, rfl, hy, hyl⟩ := row_to_ls hown1; have hsa := hg1.size; have HO1 := Lib.hid hown1; have HG1 := Lib.hid hg1; have HY := Lib.hid hy; clear hown1 hg1 hy hyl; unfold Ls.val)
        | (at_builtin; refine wpList_append_own _ rfl (.tmp 11) (.tmp 18) 32 rfl w.heap.size 25 i1 (.slice none 0 0) 1 24 Try.underlying32 hi hz0 hz1 hz2 rfl (by decide) _ L'.length (L'.map Ls.val) rfl ((((HR.out.out.alloc _).kept HG1.out (row_fresh HR.out.out _ (Nat.le_refl _)))).alloc _) ⟨wa.heap.size, 0, none⟩ 1 1 [y.val] rfl rfl (one_new wa y.val 25) (fun u hu => by obtain rfl := List.mem_singleton.1 hu; rfl) (by have := HL.out; unfold maxLen; omega) (by have := HL.out; omega) (by simp at hsa ⊢; omega) ?_; intro vo' wb hown2 hg2 _; have HO2 := Lib.hid hown2; have HG2 := Lib.hid hg2; clear hown2 hg2))
      have hll : L'.length = k := HL.out
      have hyl : y.l = x.l := by rw [HY.out]; simp
      have hO1 : wa.ownsRow w.heap.size 23 6 y.val y.l.length (rowV y.l) := by
        have := HO1.out
        rw [← HY.out] at this
        exact this
      have hR2 := HR.out.snoc hsz HG1.out hO1 HG2.out HO2.out
      have hba : Below w.heap.size w wa := (hb.alloc hsz _).grown HG1.out (by simp; omega) (fun k hk => by obtain rfl := Option.some.inj hk; exact hsz)
      have hbb : Below w.heap.size w wb := (hba.alloc hba.size _).grown HG2.out (by have := hba.size; simp; omega) (fun k hk => (HR.out.out.lt k hk).1)
      refine ⟨⟨k + 1, by omega, by go_num, L' ++ [y], hR2, by simp [hll], ?_, hbb⟩, by simp [intOf]; omega⟩
      rw [HT.out, List.map_append, List.map_append, HM.out]
      simp [hyl]
    · obtain rfl : k = L.length := by omega
      rw [List.take_length] at hml
      obtain ⟨A, c', rfl, hll⟩ := hR.ll
      have HF := Lib.hid (show CopTo w L (.returned (.slice A L'.length c')) wr from ⟨A, c', L', rfl, hll, hml, hb⟩)
      clear hR hll hml
      go_wp2_with fail
      go_ret
      exact HF.out
end Go.Proofs.Ythnbpdcjooifbaa
namespace Go.Proofs.Ythnbpdcjooifbaa
open Go.RowKit
set_option linter.unusedSimpArgs false
set_option linter.unusedVariables false

/-- Thirteen numbers, as cells. -/
def ctA (f : Nat → Int) : Array Value := #[.int .i64 (f 0), .int .i64 (f 1), .int .i64 (f 2), .int .i64 (f 3), .int .i64 (f 4), .int .i64 (f 5), .int .i64 (f 6), .int .i64 (f 7), .int .i64 (f 8), .int .i64 (f 9), .int .i64 (f 10), .int .i64 (f 11), .int .i64 (f 12)]
def ctV (f : Nat → Int) : Value := .agg (ctA f)
def CT (w : World) (b : Nat) (f : Nat → Int) : Prop := w.heap[b]? = some (.cells (ctA f) 45 (0, 0))
theorem CT.at_ {w : World} {b : Nat} {f : Nat → Int} (h : CT w b f) (i : Nat) (hi : i < 13) : w.cell? ⟨b, i, none⟩ = some (.int .i64 (f i)) := by
  rw [cell_of_row _ _ _ _ _ _ h]
  match i, hi with
  | 0, _ | 1, _ | 2, _ | 3, _ | 4, _ | 5, _ | 6, _ | 7, _ | 8, _ | 9, _ | 10, _ | 11, _ | 12, _ => rfl
theorem CT.free {w : World} {b : Nat} {f : Nat → Int} (h : CT w b f) (i : Nat) : w.frozen? ⟨b, i, none⟩ = false := frozen_of_row w b i _ _ h
theorem CT.lt {w : World} {b : Nat} {f : Nat → Int} (h : CT w b f) : b < w.heap.size := (Array.getElem?_eq_some_iff.1 h).1
theorem CT.keep {w w' : World} {b : Nat} {f : Nat → Int} (h : CT w b f) (hb : w'.heap[b]? = w.heap[b]?) : CT w' b f := hb.trans h
theorem CT.below {w w' : World} {b B : Nat} {f : Nat → Int} (h : CT w b f) (hb : Below B w w') (hB : b < B) : CT w' b f := h.keep (hb.block _ hB)
theorem CT.laid (w : World) (f : Nat → Int) : CT (w.alloc (.cells (ctA f) 45)) w.heap.size f := heap_alloc_new _ _
theorem CT.more {w : World} {b : Nat} {f : Nat → Int} (h : CT w b f) (o : Obj) : CT (w.alloc o) b f := h.below ((Below.refl w.heap.size _).alloc (Nat.le_refl _) _) h.lt
def upF (f : Nat → Int) (i : Nat) (v : Int) : Nat → Int := fun j => if j = i then v else f j
theorem CT.put {w : World} {b : Nat} {f : Nat → Int} (h : CT w b f) (i : Nat) (hi : i < 13) (v : Int) : CT (w.setCell ⟨b, i, none⟩ (.int .i64 v)) b (upF f i v) := by
  unfold CT at *
  rw [heap_setCell_same w b i _ _ _ h]
  match i, hi with
  | 0, _ | 1, _ | 2, _ | 3, _ | 4, _ | 5, _ | 6, _ | 7, _ | 8, _ | 9, _ | 10, _ | 11, _ | 12, _ => rfl
theorem CT.other {w : World} {b c : Nat} {f : Nat → Int} (h : CT w b f) (hc : c ≠ b) (i : Nat) (v : Value) : CT (w.setCell ⟨c, i, none⟩ v) b f := h.keep (Below.heap_setCell _ _ _ _ (fun e => hc e.symm))
theorem ct_ext {f g : Nat → Int} (h : ∀ i, i < 13 → f i = g i) : ctA f = ctA g := by
  unfold ctA
  rw [h 0 (by decide), h 1 (by decide), h 2 (by decide), h 3 (by decide), h 4 (by decide), h 5 (by decide), h 6 (by decide), h 7 (by decide), h 8 (by decide), h 9 (by decide), h 10 (by decide), h 11 (by decide), h 12 (by decide)]
theorem CT.ext {w : World} {b : Nat} {f g : Nat → Int} (h : CT w b f) (e : ∀ i, i < 13 → f i = g i) : CT w b g := by
  unfold CT at *
  rw [h, ct_ext e]

/-- How many events of a kind there are. -/
def isK (i : Nat) (y : Ev) : Bool := decide (y.kind = i) && (chipOf y.kind != 0)
def cntF (M : List Ev) (i : Nat) : Int := (M.countP (isK i) : Nat)
theorem cntF_le (M : List Ev) (i : Nat) : 0 ≤ cntF M i ∧ cntF M i ≤ M.length := ⟨by unfold cntF; omega, by unfold cntF; have := List.countP_le_length (p := isK i) (l := M); omega⟩
theorem cntF_take (M : List Ev) (k i : Nat) (hk : k < M.length) : cntF (M.take (k + 1)) i = cntF (M.take k) i + (if isK i (M.getD k evZ) = true then 1 else 0) := by
  unfold cntF
  rw [List.take_succ_eq_append_getElem hk, List.countP_append, List.getD_eq_getElem?_getD, List.getElem?_eq_getElem hk]
  simp only [Option.getD_some, List.countP_cons, List.countP_nil]
  split <;> simp

set_option maxRecDepth 100000 in
theorem results_ct {fn : Func} {p : Tmp} (h : fn.results = #[.cell p 45]) (tmps : Array Value) (w : World) (b : Nat) (f : Nat → Int) (hp : tmps.getD p undef = .pointer (some ⟨b, 0, none⟩)) (hS : CT w b f) :
    (results fn tmps).run Try.prog w = .ok (ctV f) w := by
  have c0 := hS.at_ 0 (by decide)
  have c1 := hS.at_ 1 (by decide)
  have c2 := hS.at_ 2 (by decide)
  have c3 := hS.at_ 3 (by decide)
  have c4 := hS.at_ 4 (by decide)
  have c5 := hS.at_ 5 (by decide)
  have c6 := hS.at_ 6 (by decide)
  have c7 := hS.at_ 7 (by decide)
  have c8 := hS.at_ 8 (by decide)
  have c9 := hS.at_ 9 (by decide)
  have c10 := hS.at_ 10 (by decide)
  have c11 := hS.at_ 11 (by decide)
  have c12 := hS.at_ 12 (by decide)
  rw [results_cell1 h, hp]
  unfold ctV ctA
  go_simp

set_option maxRecDepth 100000 in
set_option maxHeartbeats 2000000 in
theorem count_any (w : World) (x : Ls) (h : LsAt w w.heap.size x) (hN : x.l.length ≤ 1048576) :
    Calls Try.prog 31 #[x.val] w fun e w' => e = .returned (ctV (cntF x.l)) ∧ Below w.heap.size w w' := by
  have hcap := h.cap
  have hle := h.le
  unfold maxLen at hcap
  unfold Ls.val
  go_enter Try.func31, Try.ntmps31
  go_wp2_with fail
  have hz0 : CT ((w.alloc (.cells (ctA fun _ => 0) 45)).alloc (.cells (ctA fun _ => 0) 45)) w.heap.size (fun _ => 0) := (CT.laid w _).more _
  have hz1 : CT ((w.alloc (.cells (ctA fun _ => 0) 45)).alloc (.cells (ctA fun _ => 0) 45)) (w.heap.size + 1) (fun _ => 0) := by have := CT.laid (w.alloc (.cells (ctA fun _ => 0) 45)) (fun _ => 0); rwa [World.size_alloc] at this
  have hbz : Below w.heap.size w ((w.alloc (.cells (ctA fun _ => 0) 45)).alloc (.cells (ctA fun _ => 0) 45)) := ((Below.refl _ w).alloc (Nat.le_refl _) _).alloc (by simp) _
  unfold ctA at hz0 hz1 hbz
  have HZ0 := Lib.hid hz0
  have HZ1 := Lib.hid hz1
  have HBZ := Lib.hid hbz
  clear hz0 hz1 hbz
  go_loopw [8] (fun i wr => ∃ k : Nat, k ≤ x.l.length ∧ i = .int .i64 k ∧ CT wr w.heap.size (fun _ => 0) ∧ CT wr (w.heap.size + 1) (cntF (x.l.take k)) ∧ Below w.heap.size w wr) (fun i _ => x.l.length - (intOf i).toNat)
  case atStart => exact ⟨0, Nat.zero_le _, rfl, HZ0.out, HZ1.out.ext (fun i hi => rfl), HBZ.out⟩
  case round =>
    clear HZ0 HZ1 HBZ
    obtain ⟨k, hk, rfl, hz, hc, hb⟩ := hrel
    by_cases hlt : k < x.l.length
    · have hft := fun i => cntF_take x.l k i hlt
      obtain ⟨b, o, hA, hb1, hat⟩ := h.at_ (by omega)
      have hu := (hat k hlt).keep (hb.block b hb1)
      obtain ⟨y, hy⟩ : ∃ y, x.l.getD k evZ = y := ⟨_, rfl⟩
      rw [show x.l.getD k ⟨0, 0, 0, 0, 0, 0⟩ = y from hy] at hu
      simp only [hy] at hft
      obtain ⟨d0, d1, d2, d3, d4, d5⟩ := hu
      have hle2 := cntF_le (x.l.take k)
      have hlen : (x.l.take k).length ≤ k := by simp; omega
      have HF := Lib.hid hft
      have HZ := Lib.hid hz
      have HC := Lib.hid hc
      clear hft hy hat
      rw [hA]
      by_cases hk0 : chipOf y.kind = 0
      · have hne : (chipOf y.kind != 0) = false := by simp [hk0]
        have HK := Lib.hid hne
        clear hk0 hz hc hle2
        go_wp2_with (go_at_call 64; refine (chip_any _ _).mono ?_; rintro e w' ⟨rfl, rfl⟩)
        go_roundw
        case rel =>
          refine ⟨k + 1, by omega, by go_num, HZ.out.more _, (HC.out.more _).ext fun i hi => ?_, hb.alloc hb.size _⟩
          rw [HF.out, if_neg (by simp [isK, HK.out]), Int.add_zero]
        case measure => simp [intOf]; omega
      · have hne : (chipOf y.kind != 0) = true := by simp [hk0]
        obtain ⟨m, hm, hm13⟩ : ∃ m : Nat, y.kind = m ∧ m < 13 := by
          have : 1 ≤ y.kind ∧ y.kind ≤ 12 := by unfold chipOf at hk0; (repeat' split at hk0) <;> omega
          exact ⟨y.kind.toNat, by omega, by omega⟩
        have HM := Lib.hid hm
        have hce := (hc.more (evO y)).at_ m hm13
        have hfr := (hc.more (evO y)).free m
        have hv := hle2 m
        rw [hm] at d3 hne
        unfold evO at hce hfr
        rw [hm] at hce hfr
        have HK := Lib.hid hne
        have hml := hm13
        obtain ⟨v, hvd⟩ : ∃ v, cntF (x.l.take k) m = v := ⟨_, rfl⟩
        rw [hvd] at hce hv
        have HV := Lib.hid hvd
        clear hk0 hz hc hle2 hm hvd
        go_wp2_with (go_at_call 64; refine (chip_any _ _).mono ?_; rintro e w' ⟨rfl, rfl⟩)
        refine ⟨⟨k + 1, by omega, by go_num, (HZ.out.more _).other (by omega) m _, ?_, (hb.alloc hb.size _).setCell (p := ⟨w.heap.size + 1, m, none⟩) (by simp) _⟩, by simp [intOf]; omega⟩
        refine ((HC.out.more _).put m hml (v + 1)).ext fun i hi => ?_
        rw [HF.out]
        unfold upF
        by_cases e : i = m
        · subst e
          rw [if_pos rfl, HV.out, if_pos (by simp [isK, HM.out, HK.out])]
        · rw [if_neg e, if_neg (by simp [isK, HM.out]; intro h1; omega), Int.add_zero]
    · obtain rfl : k = x.l.length := by omega
      rw [List.take_length] at hc
      have HC := Lib.hid hc
      have hlen := cntF_le x.l
      obtain ⟨f, hf⟩ : ∃ f, cntF x.l = f := ⟨_, rfl⟩
      rw [hf] at hc HC
      have c0 := hc.at_ 0 (by decide)
      have c1 := hc.at_ 1 (by decide)
      have c2 := hc.at_ 2 (by decide)
      have c3 := hc.at_ 3 (by decide)
      have c4 := hc.at_ 4 (by decide)
      have c5 := hc.at_ 5 (by decide)
      have c6 := hc.at_ 6 (by decide)
      have c7 := hc.at_ 7 (by decide)
      have c8 := hc.at_ 8 (by decide)
      have c9 := hc.at_ 9 (by decide)
      have c10 := hc.at_ 10 (by decide)
      have c11 := hc.at_ 11 (by decide)
      have c12 := hc.at_ 12 (by decide)
      have z0 := hz.free 0
      have z1 := hz.free 1
      have z2 := hz.free 2
      have z3 := hz.free 3
      have z4 := hz.free 4
      have z5 := hz.free 5
      have z6 := hz.free 6
      have z7 := hz.free 7
      have z8 := hz.free 8
      have z9 := hz.free 9
      have z10 := hz.free 10
      have z11 := hz.free 11
      have z12 := hz.free 12
      have y0 := hz.at_ 0 (by decide)
      have y1 := hz.at_ 1 (by decide)
      have y2 := hz.at_ 2 (by decide)
      have y3 := hz.at_ 3 (by decide)
      have y4 := hz.at_ 4 (by decide)
      have y5 := hz.at_ 5 (by decide)
      have y6 := hz.at_ 6 (by decide)
      have y7 := hz.at_ 7 (by decide)
      have y8 := hz.at_ 8 (by decide)
      have y9 := hz.at_ 9 (by decide)
      have y10 := hz.at_ 10 (by decide)
      have y11 := hz.at_ 11 (by decide)
      have y12 := hz.at_ 12 (by decide)
      have HZ := Lib.hid hz
      have HFF := Lib.hid hf
      clear hc hz hf hlen
      have HCT := Lib.hid ((((((((((((((HZ.out.put 0 (by decide) (f 0)).put 1 (by decide) (f 1)).put 2 (by decide) (f 2)).put 3 (by decide) (f 3)).put 4 (by decide) (f 4)).put 5 (by decide) (f 5)).put 6 (by decide) (f 6)).put 7 (by decide) (f 7)).put 8 (by decide) (f 8)).put 9 (by decide) (f 9)).put 10 (by decide) (f 10)).put 11 (by decide) (f 11)).put 12 (by decide) (f 12)).ext (g := f) fun i hi => match i, hi with | 0, _ | 1, _ | 2, _ | 3, _ | 4, _ | 5, _ | 6, _ | 7, _ | 8, _ | 9, _ | 10, _ | 11, _ | 12, _ => rfl)
      have HBB := Lib.hid ((((((((((((((hb.setCell (p := ⟨w.heap.size, 0, none⟩) (Nat.le_refl _) (.int .i64 (f 0))).setCell (p := ⟨w.heap.size, 1, none⟩) (Nat.le_refl _) (.int .i64 (f 1))).setCell (p := ⟨w.heap.size, 2, none⟩) (Nat.le_refl _) (.int .i64 (f 2))).setCell (p := ⟨w.heap.size, 3, none⟩) (Nat.le_refl _) (.int .i64 (f 3))).setCell (p := ⟨w.heap.size, 4, none⟩) (Nat.le_refl _) (.int .i64 (f 4))).setCell (p := ⟨w.heap.size, 5, none⟩) (Nat.le_refl _) (.int .i64 (f 5))).setCell (p := ⟨w.heap.size, 6, none⟩) (Nat.le_refl _) (.int .i64 (f 6))).setCell (p := ⟨w.heap.size, 7, none⟩) (Nat.le_refl _) (.int .i64 (f 7))).setCell (p := ⟨w.heap.size, 8, none⟩) (Nat.le_refl _) (.int .i64 (f 8))).setCell (p := ⟨w.heap.size, 9, none⟩) (Nat.le_refl _) (.int .i64 (f 9))).setCell (p := ⟨w.heap.size, 10, none⟩) (Nat.le_refl _) (.int .i64 (f 10))).setCell (p := ⟨w.heap.size, 11, none⟩) (Nat.le_refl _) (.int .i64 (f 11))).setCell (p := ⟨w.heap.size, 12, none⟩) (Nat.le_refl _) (.int .i64 (f 12))))
      go_wp2_with fail
      refine bodyPost_ret (results_ct rfl _ _ w.heap.size f rfl HCT.out) rfl ?_
      rw [HFF.out]
      exact ⟨rfl, HBB.out⟩
end Go.Proofs.Ythnbpdcjooifbaa
