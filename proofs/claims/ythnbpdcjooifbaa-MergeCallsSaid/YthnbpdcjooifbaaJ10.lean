/-   -/
import Derived.Test.YthnbpdcjooifbaaJ9
namespace Go.Proofs.Ythnbpdcjooifbaa
open Go.RowKit
set_option linter.unusedSimpArgs false
set_option linter.unusedVariables false

/-- Events that may be, each behind the one ahead. -/
def GoodTo (l : List Ev) (k : Nat) : Prop := (∀ i, i < k → (l.getD i evZ).May) ∧ ∀ i, 0 < i → i < k → ordE (l.getD (i - 1) evZ) (l.getD i evZ) < 0
def Good (l : List Ev) : Prop := GoodTo l l.length
def CheckTo (l : List Ev) (B : Nat) (w : World) (e : Ending) (w' : World) : Prop :=
  ((4194304 < l.length ∧ e = .returned (.int .i64 3)) ∨ (l.length ≤ 4194304 ∧ Good l ∧ e = .returned (.int .i64 0)) ∨ (l.length ≤ 4194304 ∧ ¬ Good l ∧ e = .returned (.int .i64 2))) ∧ Below B w w'

theorem GoodTo.zero (l : List Ev) : GoodTo l 0 := ⟨fun i h => by omega, fun i _ h => by omega⟩

set_option maxRecDepth 100000 in
set_option maxHeartbeats 2000000 in
theorem mcheck_any (w : World) (x : Ls) (h : LsAt w w.heap.size x) : Calls Try.prog 25 #[x.val] w (CheckTo x.l w.heap.size w) := by
  have hcap := h.cap
  have hle := h.le
  unfold maxLen at hcap
  unfold Ls.val
  by_cases hlong : 4194304 < x.l.length
  · go_enter Try.func25, Try.ntmps25
    go_wp2_with fail
    go_ret
    exact ⟨.inl ⟨hlong, rfl⟩, Below.refl _ _⟩
  · go_enter Try.func25, Try.ntmps25
    go_wp2_with fail
    go_loopw [10] (fun i wr => ∃ k : Nat, k ≤ x.l.length ∧ i = .int .i64 k ∧ GoodTo x.l k ∧ Below w.heap.size w wr) (fun i _ => x.l.length - (intOf i).toNat)
    case atStart => exact ⟨0, Nat.zero_le _, rfl, GoodTo.zero _, Below.refl _ _⟩
    case round =>
      obtain ⟨k, hk, rfl, hg, hb⟩ := hrel
      have HG := Lib.hid hg
      clear hg
      by_cases hlt : k < x.l.length
      · obtain ⟨b, o, hA, hb1, hat⟩ := h.at_ (by omega)
        have hev := (hat k hlt).keep (hb.block b hb1)
        obtain ⟨y, hy⟩ : ∃ y, x.l.getD k ⟨0, 0, 0, 0, 0, 0⟩ = y := ⟨_, rfl⟩
        rw [hy] at hev
        have HY := Lib.hid (show x.l.getD k evZ = y from hy)
        have HA := Lib.hid hA
        clear hy
        obtain ⟨c0, c1, c2, c3, c4, c5⟩ := hev
        have HC := Lib.hid (fun (W : World) => echeck_any W y)
        unfold Ev.val at HC
        rw [hA]
        go_wp2_with fail
        refine (HC.out _).mono ?_
        rintro e w1 ⟨hc, hbc⟩
        have hbw : Below w.heap.size w w1 := (hb.alloc hb.size _).trans (hbc.mono (by have := hb.size; simp; omega))
        have hey : EV w1 wr.heap.size y := (EV.laid wr y).below hbc (by simp)
        have hsz : wr.heap.size < w1.heap.size := by have := hbc.size; simp at this; omega
        rcases hc with ⟨rfl, hmay⟩ | ⟨rfl, hmay⟩
        · have HMY := Lib.hid hmay
          clear hmay
          rcases Nat.eq_zero_or_pos k with rfl | hk0
          · clear hbc hat
            go_upto_region 8 with fail
            go_quiet (fail)
            go_wp2_with fail
            go_roundw
            case rel =>
              refine ⟨1, by omega, rfl, ⟨fun i hi => ?_, fun i i0 hi => absurd hi (by omega)⟩, hbw.trans ?_⟩
              · obtain rfl : i = 0 := by omega
                rw [HY.out]; exact HMY.out
              · exact ⟨rfl, rfl, rfl, Nat.le_refl _, fun _ _ => rfl⟩
            case measure => simp [intOf]; omega
          · obtain ⟨m, rfl⟩ : ∃ m, k = m + 1 := ⟨k - 1, by omega⟩
            have hez := (hat m (by omega)).keep (hbw.block b hb1)
            obtain ⟨z, hz⟩ : ∃ z, x.l.getD m ⟨0, 0, 0, 0, 0, 0⟩ = z := ⟨_, rfl⟩
            rw [hz] at hez
            have HZ := Lib.hid (show x.l.getD m evZ = z from hz)
            clear hz hat hbc hk0
            obtain ⟨d0, d1, d2, d3, d4, d5⟩ := hez
            obtain ⟨f0, f1, f2, f3, f4, f5⟩ := hey
            have hgt : (decide ((0 : Int) < (m : Int) + 1)) = true := decide_eq_true (by omega)
            have hm1 : m + 1 ≤ x.l.length := by omega
            have d0' := fun p : Later (fun _ => False) w1 => p.cell d0 (fun h => h)
            have d1' := fun p : Later (fun _ => False) w1 => p.cell d1 (fun h => h)
            have d2' := fun p : Later (fun _ => False) w1 => p.cell d2 (fun h => h)
            have d3' := fun p : Later (fun _ => False) w1 => p.cell d3 (fun h => h)
            have d4' := fun p : Later (fun _ => False) w1 => p.cell d4 (fun h => h)
            have d5' := fun p : Later (fun _ => False) w1 => p.cell d5 (fun h => h)
            have f0' := fun p : Later (fun _ => False) w1 => p.cell f0 (fun h => h)
            have f1' := fun p : Later (fun _ => False) w1 => p.cell f1 (fun h => h)
            have f2' := fun p : Later (fun _ => False) w1 => p.cell f2 (fun h => h)
            have f3' := fun p : Later (fun _ => False) w1 => p.cell f3 (fun h => h)
            have f4' := fun p : Later (fun _ => False) w1 => p.cell f4 (fun h => h)
            have f5' := fun p : Later (fun _ => False) w1 => p.cell f5 (fun h => h)
            clear d0 d1 d2 d3 d4 d5 f0 f1 f2 f3 f4 f5
            have HO := Lib.hid (fun (W : World) => order_any W z y)
            unfold Ev.val at HO
            go_upto_region 8 with fail
            refine L.region_ (fun _ => False) (by kernel_rfl) ?_
            refine L.seg_ [0, 1, 2, 3, 4, 5, 6, 7, 8] 3 _ (by kernel_rfl) (by kernel_rfl) (by kernel_rfl) (by simp only [pickOps, mask, plain, List.getElem?_toArray, List.getElem?_cons_zero, List.getElem?_cons_succ, if_true]; rfl) ?_
            repeat (go_big_quiet_step (fail))
            refine wpQuiet_nil ?_
            clear d0' d1' d2' d3' d4' d5' f0' f1' f2' f3' f4' f5'
            refine L.call_ (i := 9) rfl (by kernel_rfl) (by kernel_rfl) ?_
            intro wa sa
            unfold Oper.does
            go_simp
            refine (HO.out wa).mono ?_
            rintro e w' ⟨he, hb'⟩
            refine ⟨_, he, same_ sa (Save.of_below hb') ?_⟩
            have hB : Below w.heap.size w w' := (hbw.trans (sa.all.mono hbw.size)).trans (hb'.mono (by have := hbw.size; have := sa.size; omega))
            clear he sa hb'
            refine L.seg_ [10, 11] 0 _ (by kernel_rfl) (by kernel_rfl) (by kernel_rfl) (by simp only [pickOps, mask, plain, List.getElem?_toArray, List.getElem?_cons_zero, List.getElem?_cons_succ, if_true]; rfl) ?_
            repeat (go_big_quiet_step (fail))
            refine wpQuiet_nil ?_
            refine L.end_ (by kernel_rfl) ?_
            intro wc sc
            have hBc := hB.trans (sc.all.mono hB.size)
            by_cases hlt0 : ordE z y < 0
            · have H0 := Lib.hid hlt0
              go_wp2_with fail
              refine ⟨⟨m + 2, by omega, by go_num, ⟨fun i hi => ?_, fun i i0 hi => ?_⟩, hBc⟩, by simp [intOf]; omega⟩
              · by_cases e : i = m + 1
                · subst e; rw [HY.out]; exact HMY.out
                · exact HG.out.1 i (by omega)
              · by_cases e : i = m + 1
                · subst e; rw [HY.out, Nat.add_sub_cancel, HZ.out]; exact H0.out
                · exact HG.out.2 i i0 (by omega)
            · have H0 := Lib.hid hlt0
              have hge : 0 ≤ ordE z y := by omega
              clear hlt0
              go_wp2_with fail
              go_ret
              refine ⟨.inr (.inr ⟨by omega, fun hG => ?_, rfl⟩), hBc⟩
              have := hG.2 (m + 1) (by omega) hlt
              rw [HY.out, Nat.add_sub_cancel, HZ.out] at this
              have h3 := H0.out
              omega
        · have HMY := Lib.hid hmay
          clear hmay hey
          go_wp2_with fail
          go_ret
          exact ⟨.inr (.inr ⟨by omega, fun hG => HMY.out (HY.out ▸ hG.1 k hlt), rfl⟩), hbw⟩
      · obtain rfl : k = x.l.length := by omega
        go_wp2_with fail
        go_ret
        exact ⟨.inr (.inl ⟨by omega, HG.out, rfl⟩), hb⟩
end Go.Proofs.Ythnbpdcjooifbaa
namespace Go.Proofs.Ythnbpdcjooifbaa
open Go.RowKit
set_option linter.unusedSimpArgs false
set_option linter.unusedVariables false

def ole (x y : Ev) : Prop := ordE x y ≤ 0
theorem ole_refl (x : Ev) : ole x x := by unfold ole; rw [(ord_zero _ _).2 rfl]; exact Int.le_refl _
theorem ole_trans (x y z : Ev) (h : ole x y) (k : ole y z) : ole x z := (ord_trans _ _ _ h k).1
theorem ole_anti (x y : Ev) (h : ole x y) (k : ole y x) : x = y := by
  unfold ole at *
  rw [ord_turn] at k
  exact (ord_zero x y).1 (by omega)
theorem ord_lt {x y : Ev} (h : ordE x y < 0) : Hp.lt' ole x y := ⟨Int.le_of_lt h, fun e => by rw [(ord_zero x y).2 e] at h; omega⟩
theorem lt_ord {x y : Ev} (h : Hp.lt' ole x y) : ordE x y < 0 := by
  have h1 := h.1
  unfold ole at h1
  have h2 : ordE x y ≠ 0 := fun e => h.2 ((ord_zero x y).1 e)
  omega

theorem getD_at (l : List Ev) (i : Nat) (h : i < l.length) : l.getD i evZ = l[i] := by simp [List.getD_eq_getElem?_getD, h]

theorem good_sorted {l : List Ev} (h : Good l) : l.Pairwise (Hp.lt' ole) := by
  have key : ∀ d i, i + d + 1 < l.length → ordE (l.getD i evZ) (l.getD (i + d + 1) evZ) < 0 := by
    intro d
    induction d with
    | zero =>
      intro i hi
      have := h.2 (i + 1) (by omega) hi
      rwa [Nat.add_sub_cancel] at this
    | succ d ih =>
      intro i hi
      have h1 := ih i (by omega)
      have h2 := h.2 (i + d + 1 + 1) (by omega) (by omega)
      rw [Nat.add_sub_cancel] at h2
      have h3 := ord_trans _ _ _ (Int.le_of_lt h1) (Int.le_of_lt h2)
      have h4 : ordE (l.getD i evZ) (l.getD (i + d + 1 + 1) evZ) ≠ 0 := fun e => by have := (h3.2 e).1; omega
      have h5 : i + (d + 1) + 1 = i + d + 1 + 1 := by omega
      rw [h5]
      have := h3.1
      omega
  rw [List.pairwise_iff_getElem]
  intro i j hi hj hij
  have := key (j - i - 1) i (by omega)
  rw [show i + (j - i - 1) + 1 = j by omega, getD_at l i hi, getD_at l j hj] at this
  exact ord_lt this
theorem sorted_good {l : List Ev} (hm : ∀ e ∈ l, e.May) (h : l.Pairwise (Hp.lt' ole)) : Good l := by
  refine ⟨fun i hi => by rw [getD_at l i hi]; exact hm _ (List.getElem_mem hi), fun i i0 hi => ?_⟩
  rw [getD_at l i hi, getD_at l (i - 1) (by omega)]
  exact lt_ord ((List.pairwise_iff_getElem.1 h) (i - 1) i (by omega) hi (by omega))
theorem good_may {l : List Ev} (h : Good l) : ∀ e ∈ l, e.May := by
  intro e he
  obtain ⟨i, hi, rfl⟩ := List.mem_iff_getElem.1 he
  have := h.1 i hi
  rwa [getD_at l i hi] at this

theorem map_getD (H : List Hd) (i : Nat) : (H.map Hd.l).getD i [] = (H.getD i Hd.none).l := by
  simp only [List.getD_eq_getElem?_getD, List.getElem?_map]
  cases H[i]? <;> rfl
theorem headD_hd (x : Hd) : x.l.headD evZ = x.hd := by
  unfold Hd.hd
  cases x.l <;> rfl
theorem heap_map {H : List Hd} {n : Nat} (h : Hp.Heap Hd.none hle H n) : Hp.Heap [] (Hp.hdle evZ ole) (H.map Hd.l) n := by
  intro i i0 hi
  have := h i i0 hi
  unfold Hp.hdle
  rw [map_getD, map_getD, headD_hd, headD_hd]
  exact this

def allOf (L : List Ls) : List Ev := (L.map Ls.l).flatten
abbrev Mg (L : List Ls) (H : List Hd) (M : List Ev) : Prop := Hp.Merging evZ ole (allOf L) (H.map Hd.l) M

theorem mg_start {wr : World} {B p : Nat} {L : List Ls} {A : Option Addr} {c : Nat} {H : List Hd} (hg : ∀ x ∈ L, Good x.l) (hm : HM wr B p A c H) (hh : Hp.Heap Hd.none hle H H.length)
    (hp : ((H.map Hd.l).flatten).Perm (allOf L)) (hx : ∀ x ∈ H, ∃ y ∈ L, x.l = y.l) : Mg L H [] := by
  refine ⟨?_, ?_, by rw [List.length_map]; exact heap_map hh, List.Pairwise.nil, (fun m h => by cases h), by simpa using hp⟩
  · intro l hl
    obtain ⟨x, hx1, rfl⟩ := List.mem_map.1 hl
    exact List.ne_nil_of_length_pos (hm.rows x hx1).pos
  · intro l hl
    obtain ⟨x, hx1, rfl⟩ := List.mem_map.1 hl
    obtain ⟨y, hy, e⟩ := hx x hx1
    rw [e]; exact good_sorted (hg y hy)

theorem mg_head {L : List Ls} {H : List Hd} {M : List Ev} (h : Mg L H M) (h0 : 0 < H.length) : (H.getD 0 Hd.none).hd ∈ (H.map Hd.l).flatten ∧ ∀ x ∈ (H.map Hd.l).flatten, ole (H.getD 0 Hd.none).hd x := by
  constructor
  · have hmem : (H.getD 0 Hd.none).l ∈ H.map Hd.l := by
      rw [List.getD_eq_getElem?_getD, List.getElem?_eq_getElem h0]
      exact List.mem_map_of_mem (List.getElem_mem h0)
    have hne := h.some_ _ hmem
    refine List.mem_flatten.2 ⟨_, hmem, ?_⟩
    rw [← headD_hd]
    generalize (H.getD 0 Hd.none).l = l at hne
    cases l with
    | nil => exact absurd rfl hne
    | cons a t => exact List.mem_cons_self
  · intro x hx
    have := h.least ole_refl ole_trans x hx
    rwa [map_getD, headD_hd] at this

theorem mg_next {wr : World} {B p : Nat} {A : Option Addr} {c : Nat} {L : List Ls} {H H' : List Hd} {M : List Ev} (h : Mg L H M) (h0 : 0 < H.length) (hne : (H.getD 0 Hd.none).hd ∉ M) (hm : HM wr B p A c H') (hh : Hp.Heap Hd.none hle H' H'.length)
    (hp : ((H.getD 0 Hd.none).hd :: (H'.map Hd.l).flatten).Perm (H.map Hd.l).flatten) (hx : ∀ y ∈ H', ∃ z ∈ H, y.blk = z.blk ∧ (y.l = z.l ∨ y.l = z.l.tail)) : Mg L H' (M ++ [(H.getD 0 Hd.none).hd]) := by
  obtain ⟨h1, h2⟩ := mg_head h h0
  refine h.next hne h2 h1 ?_ ?_ (by rw [List.length_map]; exact heap_map hh) hp
  · intro l hl
    obtain ⟨x, hx1, rfl⟩ := List.mem_map.1 hl
    exact List.ne_nil_of_length_pos (hm.rows x hx1).pos
  · intro l hl
    obtain ⟨x, hx1, rfl⟩ := List.mem_map.1 hl
    obtain ⟨z, hz, _, e⟩ := hx x hx1
    have hz2 := h.rows z.l (List.mem_map_of_mem hz)
    rcases e with e | e
    · rw [e]; exact hz2
    · rw [e]; exact hz2.tail

theorem mg_last {L : List Ls} {H : List Hd} {M : List Ev} (h : Mg L H M) (h0 : 0 < H.length) (hlast : M.getLast? ≠ some (H.getD 0 Hd.none).hd) : (H.getD 0 Hd.none).hd ∉ M :=
  fun hm => hlast (Hp.last_of ole_anti h.out (fun m hmm => h.behind m hmm _ (mg_head h h0).1) hm)
theorem mg_twice {L : List Ls} {H : List Hd} {M : List Ev} (h : Mg L H M) (h0 : 0 < H.length) (hlast : (H.getD 0 Hd.none).hd ∈ M) : ¬ (allOf L).Nodup := h.twice (mg_head h h0).1 hlast
theorem mg_done {L : List Ls} {M : List Ev} (h : Mg L [] M) : M.Pairwise (Hp.lt' ole) ∧ M.Perm (allOf L) ∧ (allOf L).Nodup := by
  have h1 : M.Perm (allOf L) := by simpa using h.all
  exact ⟨h.out, h1, h1.nodup (Hp.sorted_nodup h.out)⟩
theorem mg_len {L : List Ls} {H : List Hd} {M : List Ev} (h : Mg L H M) (h0 : 0 < H.length) : M.length < (allOf L).length := by
  have := h.all.length_eq
  rw [List.length_append] at this
  have h2 := List.length_pos_of_mem (mg_head h h0).1
  omega
end Go.Proofs.Ythnbpdcjooifbaa
