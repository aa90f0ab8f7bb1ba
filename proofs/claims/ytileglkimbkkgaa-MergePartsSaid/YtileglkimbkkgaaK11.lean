
/- Merging heads: what the heap's rows and the list that comes out have to do with each other. -/
import Derived.Test.YtileglkimbkkgaaK10
namespace Go.Proofs.Ytileglkimbkkgaa
open Go.RowKit
set_option linter.unusedSimpArgs false
set_option linter.unusedVariables false

def ole (x y : Ev) : Prop := ordE x y ≤ 0
theorem ole_refl (x : Ev) : ole x x := by unfold ole; rw [(ord_zero _ _).2 rfl]; exact Int.le_refl _
theorem ole_trans (x y z : Ev) (h : ole x y) (k : ole y z) : ole x z := (ord_trans _ _ _ h k).1
theorem ole_anti (x y : Ev) (h : ole x y) (k : ole y x) : x = y := by
  unfold ole at *
  rw [ord_turn] at k
  exact (ord_zero x y).1 (by omega)
theorem ord_lt {x y : Ev} (h : ordE x y < 0) : Hp.lt' ole x y := ⟨Int.le_of_lt h, fun e => by rw [(ord_zero x y).2 e] at h; omega⟩
theorem lt_ord {x y : Ev} (h : Hp.lt' ole x y) : ordE x y < 0 := by
  have h1 := h.1
  unfold ole at h1
  have h2 : ordE x y ≠ 0 := fun e => h.2 ((ord_zero x y).1 e)
  omega

theorem getD_at (l : List Ev) (i : Nat) (h : i < l.length) : l.getD i evZ = l[i] := by simp [List.getD_eq_getElem?_getD, h]

theorem good_sorted {l : List Ev} (h : Good l) : l.Pairwise (Hp.lt' ole) := by
  have key : ∀ d i, i + d + 1 < l.length → ordE (l.getD i evZ) (l.getD (i + d + 1) evZ) < 0 := by
    intro d
    induction d with
    | zero =>
      intro i hi
      have := h.2 (i + 1) (by omega) hi
      rwa [Nat.add_sub_cancel] at this
    | succ d ih =>
      intro i hi
      have h1 := ih i (by omega)
      have h2 := h.2 (i + d + 1 + 1) (by omega) (by omega)
      rw [Nat.add_sub_cancel] at h2
      have h3 := ord_trans _ _ _ (Int.le_of_lt h1) (Int.le_of_lt h2)
      have h4 : ordE (l.getD i evZ) (l.getD (i + d + 1 + 1) evZ) ≠ 0 := fun e => by have := (h3.2 e).1; omega
      have h5 : i + (d + 1) + 1 = i + d + 1 + 1 := by omega
      rw [h5]
      have := h3.1
      omega
  rw [List.pairwise_iff_getElem]
  intro i j hi hj hij
  have := key (j - i - 1) i (by omega)
  rw [show i + (j - i - 1) + 1 = j by omega, getD_at l i hi, getD_at l j hj] at this
  exact ord_lt this
theorem sorted_good {l : List Ev} (hm : ∀ e ∈ l, e.May) (h : l.Pairwise (Hp.lt' ole)) : Good l := by
  refine ⟨fun i hi => by rw [getD_at l i hi]; exact hm _ (List.getElem_mem hi), fun i i0 hi => ?_⟩
  rw [getD_at l i hi, getD_at l (i - 1) (by omega)]
  exact lt_ord ((List.pairwise_iff_getElem.1 h) (i - 1) i (by omega) hi (by omega))
theorem good_may {l : List Ev} (h : Good l) : ∀ e ∈ l, e.May := by
  intro e he
  obtain ⟨i, hi, rfl⟩ := List.mem_iff_getElem.1 he
  have := h.1 i hi
  rwa [getD_at l i hi] at this

theorem map_getD (H : List Hd) (i : Nat) : (H.map Hd.l).getD i [] = (H.getD i Hd.none).l := by
  simp only [List.getD_eq_getElem?_getD, List.getElem?_map]
  cases H[i]? <;> rfl
theorem headD_hd (x : Hd) : x.l.headD evZ = x.hd := by
  unfold Hd.hd
  cases x.l <;> rfl
theorem heap_map {H : List Hd} {n : Nat} (h : Hp.Heap Hd.none hle H n) : Hp.Heap [] (Hp.hdle evZ ole) (H.map Hd.l) n := by
  intro i i0 hi
  have := h i i0 hi
  unfold Hp.hdle
  rw [map_getD, map_getD, headD_hd, headD_hd]
  exact this

def allOf (L : List Ls) : List Ev := (L.map Ls.l).flatten
abbrev Mg (L : List Ls) (H : List Hd) (M : List Ev) : Prop := Hp.Merging evZ ole (allOf L) (H.map Hd.l) M

theorem mg_start {wr : World} {B p : Nat} {L : List Ls} {A : Option Addr} {c : Nat} {H : List Hd} (hg : ∀ x ∈ L, Good x.l) (hm : HM wr B p A c H) (hh : Hp.Heap Hd.none hle H H.length)
    (hp : ((H.map Hd.l).flatten).Perm (allOf L)) (hx : ∀ x ∈ H, ∃ y ∈ L, x.l = y.l) : Mg L H [] := by
  refine ⟨?_, ?_, by rw [List.length_map]; exact heap_map hh, List.Pairwise.nil, (fun m h => by cases h), by simpa using hp⟩
  · intro l hl
    obtain ⟨x, hx1, rfl⟩ := List.mem_map.1 hl
    exact List.ne_nil_of_length_pos (hm.rows x hx1).pos
  · intro l hl
    obtain ⟨x, hx1, rfl⟩ := List.mem_map.1 hl
    obtain ⟨y, hy, e⟩ := hx x hx1
    rw [e]; exact good_sorted (hg y hy)

theorem mg_head {L : List Ls} {H : List Hd} {M : List Ev} (h : Mg L H M) (h0 : 0 < H.length) : (H.getD 0 Hd.none).hd ∈ (H.map Hd.l).flatten ∧ ∀ x ∈ (H.map Hd.l).flatten, ole (H.getD 0 Hd.none).hd x := by
  constructor
  · have hmem : (H.getD 0 Hd.none).l ∈ H.map Hd.l := by
      rw [List.getD_eq_getElem?_getD, List.getElem?_eq_getElem h0]
      exact List.mem_map_of_mem (List.getElem_mem h0)
    have hne := h.some_ _ hmem
    refine List.mem_flatten.2 ⟨_, hmem, ?_⟩
    rw [← headD_hd]
    generalize (H.getD 0 Hd.none).l = l at hne
    cases l with
    | nil => exact absurd rfl hne
    | cons a t => exact List.mem_cons_self
  · intro x hx
    have := h.least ole_refl ole_trans x hx
    rwa [map_getD, headD_hd] at this

theorem mg_next {wr : World} {B p : Nat} {A : Option Addr} {c : Nat} {L : List Ls} {H H' : List Hd} {M : List Ev} (h : Mg L H M) (h0 : 0 < H.length) (hne : (H.getD 0 Hd.none).hd ∉ M) (hm : HM wr B p A c H') (hh : Hp.Heap Hd.none hle H' H'.length)
    (hp : ((H.getD 0 Hd.none).hd :: (H'.map Hd.l).flatten).Perm (H.map Hd.l).flatten) (hx : ∀ y ∈ H', ∃ z ∈ H, y.blk = z.blk ∧ (y.l = z.l ∨ y.l = z.l.tail)) : Mg L H' (M ++ [(H.getD 0 Hd.none).hd]) := by
  obtain ⟨h1, h2⟩ := mg_head h h0
  refine h.next hne h2 h1 ?_ ?_ (by rw [List.length_map]; exact heap_map hh) hp
  · intro l hl
    obtain ⟨x, hx1, rfl⟩ := List.mem_map.1 hl
    exact List.ne_nil_of_length_pos (hm.rows x hx1).pos
  · intro l hl
    obtain ⟨x, hx1, rfl⟩ := List.mem_map.1 hl
    obtain ⟨z, hz, _, e⟩ := hx x hx1
    have hz2 := h.rows z.l (List.mem_map_of_mem hz)
    rcases e with e | e
    · rw [e]; exact hz2
    · rw [e]; exact hz2.tail

theorem mg_last {L : List Ls} {H : List Hd} {M : List Ev} (h : Mg L H M) (h0 : 0 < H.length) (hlast : M.getLast? ≠ some (H.getD 0 Hd.none).hd) : (H.getD 0 Hd.none).hd ∉ M :=
  fun hm => hlast (Hp.last_of ole_anti h.out (fun m hmm => h.behind m hmm _ (mg_head h h0).1) hm)
theorem mg_twice {L : List Ls} {H : List Hd} {M : List Ev} (h : Mg L H M) (h0 : 0 < H.length) (hlast : (H.getD 0 Hd.none).hd ∈ M) : ¬ (allOf L).Nodup := h.twice (mg_head h h0).1 hlast
theorem mg_done {L : List Ls} {M : List Ev} (h : Mg L [] M) : M.Pairwise (Hp.lt' ole) ∧ M.Perm (allOf L) ∧ (allOf L).Nodup := by
  have h1 : M.Perm (allOf L) := by simpa using h.all
  exact ⟨h.out, h1, h1.nodup (Hp.sorted_nodup h.out)⟩
theorem mg_len {L : List Ls} {H : List Hd} {M : List Ev} (h : Mg L H M) (h0 : 0 < H.length) : M.length < (allOf L).length := by
  have := h.all.length_eq
  rw [List.length_append] at this
  have h2 := List.length_pos_of_mem (mg_head h h0).1
  omega
end Go.Proofs.Ytileglkimbkkgaa
