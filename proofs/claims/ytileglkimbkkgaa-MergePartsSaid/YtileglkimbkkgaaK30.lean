
/- copies: lists in memory of their own. -/
import Derived.Test.YtileglkimbkkgaaK29
import Derived.Test.YtileglkimbkkgaaK27
import Derived.Test.YtileglkimbkkgaaK21
namespace Go.Proofs.Ytileglkimbkkgaa
open Go.RowKit
set_option linter.unusedSimpArgs false
set_option linter.unusedVariables false

theorem rows_apart {w : World} {b1 b2 e1 e2 s1 s2 n1 n2 : Nat} {v1 v2 : Value} {xs1 xs2 : List Value} (h1 : w.ownsRow b1 e1 s1 v1 n1 xs1) (h2 : w.ownsRow b2 e2 s2 v2 n2 xs2) (he : e1 ≠ e2) : v1.ownBlock = none ∨ v1.ownBlock ≠ v2.ownBlock := by
  rcases h1.2 with ⟨rfl, _⟩ | ⟨g, cap, cur, rfl, _, hg, _⟩
  · exact .inl rfl
  · rcases h2.2 with ⟨rfl, _⟩ | ⟨g2, cap2, cur2, rfl, _, hg2, _⟩
    · exact .inr (by simp [Value.ownBlock])
    · refine .inr fun e => he ?_
      obtain rfl : g = g2 := by simpa [Value.ownBlock] using e
      rw [hg] at hg2
      simp at hg2
      exact hg2.2
theorem row_fresh {w : World} {b e s n : Nat} {v : Value} {xs : List Value} (h : w.ownsRow b e s v n xs) (k : Nat) (hk : w.heap.size ≤ k) : v.ownBlock = none ∨ v.ownBlock ≠ some k := by
  cases hv : v.ownBlock with
  | none => exact .inl rfl
  | some g => exact .inr fun e => by have := (h.lt g hv).2; have := Option.some.inj e; omega
theorem one_new (w : World) (v : Value) (t : TypeId) : ∀ j u, [v][j]? = some u → (w.alloc (.cells #[v] t)).cell? ((⟨w.heap.size, 0, none⟩ : Addr).add j) = some u := by
  intro j u hu
  cases j with
  | zero =>
    obtain rfl : v = u := by simpa using hu
    show (w.alloc (.cells #[v] t)).cell? ⟨w.heap.size, 0, none⟩ = some v
    rw [World.cell?_alloc_at _ _ _ _ rfl]; rfl
  | succ j => simp at hu

/-- A row of lists, each in a row of the call's own. -/
structure Rows2 (w : World) (base : Nat) (vo : Value) (L : List Ls) : Prop where
  out : w.ownsRow base 25 1 vo L.length (L.map Ls.val)
  rows : ∀ y ∈ L, w.ownsRow base 23 6 y.val y.l.length (rowV y.l)

theorem Rows2.ll {w : World} {base : Nat} {vo : Value} {L : List Ls} (h : Rows2 w base vo L) : ∃ A c, vo = .slice A L.length c ∧ LL w w.heap.size A c L := by
  have hrows : ∀ y ∈ L, LsAt w w.heap.size y := fun y hy => by
    obtain ⟨z, h1, h2, h3⟩ := row_to_ls (h.rows y hy)
    have : z = y := by
      obtain ⟨A, c, l⟩ := y
      obtain ⟨A2, c2, l2⟩ := z
      unfold Ls.val at h1
      simp at h1 h2
      simp [h1, h2]
    rw [← this]; exact h3.1
  rcases h.out.2 with ⟨h1, h2⟩ | ⟨g, cap, cur, e1, e2, e3, e4, e5, e6, e7⟩
  · have : L = [] := List.eq_nil_of_length_eq_zero h2
    subst this
    exact ⟨none, 0, h1, Nat.le_refl _, Nat.zero_le _, fun h => absurd h (by simp), fun _ h => by cases h⟩
  · subst e1
    have hlt := (h.out.lt g rfl).2
    refine ⟨some ⟨g, 0, none⟩, cap, rfl, e4, e5, fun h0 => ⟨g, 0, rfl, hlt, fun i hi => ?_⟩, hrows⟩
    rw [Nat.zero_add, h.out.cellAt i (by omega), List.getElem?_map, List.getElem?_eq_getElem hi, List.getD_eq_getElem?_getD, List.getElem?_eq_getElem hi]
    rfl

theorem Rows2.snoc {wr wa wb : World} {base : Nat} {vo vo' : Value} {L : List Ls} {y : Ls} {o : Obj} (hb : base ≤ wr.heap.size) (h : Rows2 wr base vo L) (hg1 : (wr.alloc (.cells #[] 23)).grownBy wa (some wr.heap.size))
    (hy : wa.ownsRow base 23 6 y.val y.l.length (rowV y.l)) (hg2 : (wa.alloc o).grownBy wb vo.ownBlock) (ho : wb.ownsRow base 25 1 vo' (L.length + 1) (L.map Ls.val ++ [y.val])) : Rows2 wb base vo' (L ++ [y]) := by
  have hva : wa.ownsRow base 25 1 vo L.length (L.map Ls.val) := (h.out.alloc _).kept hg1 (row_fresh h.out _ (Nat.le_refl _))
  refine ⟨by simpa using ho, fun z hz => ?_⟩
  rcases List.mem_append.1 hz with h1 | h1
  · have hz1 := h.rows z h1
    have hz2 := (hz1.alloc (.cells #[] 23)).kept hg1 (row_fresh hz1 _ (Nat.le_refl _))
    exact (hz2.alloc o).kept hg2 (rows_apart hz2 hva (by decide))
  · obtain rfl := List.mem_singleton.1 h1
    exact (hy.alloc o).kept hg2 (rows_apart hy hva (by decide))

def CopRel (w : World) (L : List Ls) (k : Nat) (vo : Value) (wr : World) : Prop :=
  ∃ L' : List Ls, Rows2 wr w.heap.size vo L' ∧ L'.length = k ∧ L'.map Ls.l = (L.take k).map Ls.l ∧ Below w.heap.size w wr
def CopTo (w : World) (L : List Ls) (e : Ending) (w' : World) : Prop :=
  ∃ A c L', e = .returned (.slice A L'.length c) ∧ LL w' w'.heap.size A c L' ∧ L'.map Ls.l = L.map Ls.l ∧ Below w.heap.size w w'

set_option maxRecDepth 100000 in
set_option maxHeartbeats 4000000 in
theorem copies_any (w : World) (c : Nat) (O : Option Addr) (L : List Ls) (h : LL w w.heap.size O c L) (hn : ∀ x ∈ L, x.A = none → x.c = 0) (h10 : L.length ≤ 10) (hall : ∀ x ∈ L, x.l.length ≤ 1048576) :
    Calls Try.prog 15 #[.slice O L.length c] w (CopTo w L) := by
  have hc := h.le
  have hm := h.cap
  unfold maxLen at hm
  obtain ⟨i1, hi, hz0, hz1, hz2⟩ := info_parts info_list
  go_enter Try.func15, Try.ntmps15
  go_wp2_with fail
  go_loopw [3, 4] (fun vo i wr => ∃ (k : Nat), k ≤ L.length ∧ i = .int .i64 k ∧ CopRel w L k vo wr) (fun _ i _ => L.length - (intOf i).toNat)
  case atStart => exact ⟨0, Nat.zero_le _, rfl, [], ⟨World.ownsRow_nil _ _ _ _, fun _ h => by cases h⟩, rfl, rfl, Below.refl _ _⟩
  case round =>
    obtain ⟨k, hk, rfl, L', hR, hL', hml, hb⟩ := hrel
    by_cases hlt : k < L.length
    · obtain ⟨b, o, rfl, hb1, hc1⟩ := h.at_ (by omega)
      have hcell := (World.cell?_of_block (hb.block b hb1)).trans (hc1 k hlt)
      have hmem : L.getD k Ls.none ∈ L := by rw [List.getD_eq_getElem?_getD, List.getElem?_eq_getElem hlt]; exact List.getElem_mem hlt
      have htake : L.take (k + 1) = L.take k ++ [L.getD k Ls.none] := by
        rw [List.take_succ_eq_append_getElem hlt, List.getD_eq_getElem?_getD, List.getElem?_eq_getElem hlt]; rfl
      have hrow := (h.rows _ hmem).keep (w' := wr) (fun k hk => hb.block k (by omega))
      have hnx := hn _ hmem
      have hax := hall _ hmem
      generalize L.getD k Ls.none = x at *
      have hsz := hb.size
      have hcell2 : (wr.alloc (.cells #[] 23)).cell? ⟨b, o + k, none⟩ = some x.val := (((Below.refl wr.heap.size wr).alloc (Nat.le_refl _) _).cell (p := ⟨b, o + k, none⟩) (show b < wr.heap.size by omega)).trans hcell
      have hrow2 : LsAt (wr.alloc (.cells #[] 23)) w.heap.size x := hrow.keep fun k hk => ((Below.refl wr.heap.size wr).alloc (Nat.le_refl _) _).block k (by omega)
      have how : (wr.alloc (.cells #[] 23)).ownsRow w.heap.size 23 6 (.slice (some ⟨wr.heap.size, 0, none⟩) 0 0) 0 [] := World.ownsRow_made wr #[] 0 hsz (by decide) rfl
      have HT := Lib.hid htake
      have HR := Lib.hid hR
      have HM := Lib.hid hml
      have HRW := Lib.hid hrow2
      have HOW := Lib.hid how
      have HNX := Lib.hid hnx
      have HL := Lib.hid hL'
      unfold Ls.val at hcell2
      clear htake hR hml hrow hrow2 how hnx hc1 hcell hmem hL'
      go_wp2_with (first
        | (at_builtin; refine wpList_append_ls rfl (.tmp 12) (.tmp 16) 25 rfl Try.underlying25 w.heap.size _ [] rfl HOW.out w.heap.size x rfl HRW.out HNX.out (by simp only [List.length_append, List.length_nil]; omega) (by simp; omega) ?_; intro v1 wa hown1 hg1; obtain ⟨y, rfl, hy, hyl⟩ := row_to_ls hown1; have hsa := hg1.size; have HO1 := Lib.hid hown1; have HG1 := Lib.hid hg1; have HY := Lib.hid hy; clear hown1 hg1 hy hyl; unfold Ls.val)
        | (at_builtin; refine wpList_append_own _ rfl (.tmp 11) (.tmp 18) 32 rfl w.heap.size 25 i1 (.slice none 0 0) 1 24 Try.underlying32 hi hz0 hz1 hz2 rfl (by decide) _ L'.length (L'.map Ls.val) rfl ((((HR.out.out.alloc _).kept HG1.out (row_fresh HR.out.out _ (Nat.le_refl _)))).alloc _) ⟨wa.heap.size, 0, none⟩ 1 1 [y.val] rfl rfl (one_new wa y.val 25) (fun u hu => by obtain rfl := List.mem_singleton.1 hu; rfl) (by have := HL.out; unfold maxLen; omega) (by have := HL.out; omega) (by simp at hsa ⊢; omega) ?_; intro vo' wb hown2 hg2 _; have HO2 := Lib.hid hown2; have HG2 := Lib.hid hg2; clear hown2 hg2))
      have hll : L'.length = k := HL.out
      have hyl : y.l = x.l := by rw [HY.out]; simp
      have hO1 : wa.ownsRow w.heap.size 23 6 y.val y.l.length (rowV y.l) := by
        have := HO1.out
        rw [← HY.out] at this
        exact this
      have hR2 := HR.out.snoc hsz HG1.out hO1 HG2.out HO2.out
      have hba : Below w.heap.size w wa := (hb.alloc hsz _).grown HG1.out (by simp; omega) (fun k hk => by obtain rfl := Option.some.inj hk; exact hsz)
      have hbb : Below w.heap.size w wb := (hba.alloc hba.size _).grown HG2.out (by have := hba.size; simp; omega) (fun k hk => (HR.out.out.lt k hk).1)
      refine ⟨⟨k + 1, by omega, by go_num, L' ++ [y], hR2, by simp [hll], ?_, hbb⟩, by simp [intOf]; omega⟩
      rw [HT.out, List.map_append, List.map_append, HM.out]
      simp [hyl]
    · obtain rfl : k = L.length := by omega
      rw [List.take_length] at hml
      obtain ⟨A, c', rfl, hll⟩ := hR.ll
      have HF := Lib.hid (show CopTo w L (.returned (.slice A L'.length c')) wr from ⟨A, c', L', rfl, hll, hml, hb⟩)
      clear hR hll hml
      go_wp2_with fail
      go_ret
      exact HF.out
end Go.Proofs.Ytileglkimbkkgaa
