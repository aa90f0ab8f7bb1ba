/-  -/
import Derived.Test.YthnbpdcjooifbaaJ10
import Derived.Laws.StructEq
namespace Go.Proofs.Ythnbpdcjooifbaa
open Go.RowKit
set_option linter.unusedSimpArgs false
set_option linter.unusedVariables false

instance (l : List Ev) : Decidable (Good l) :=
  decidable_of_iff ((∀ i, i < l.length → (l.getD i evZ).May) ∧ ∀ i, i < l.length → 0 < i → ordE (l.getD (i - 1) evZ) (l.getD i evZ) < 0)
    ⟨fun h => ⟨h.1, fun i a b => h.2 i b a⟩, fun h => ⟨h.1, fun i a b => h.2 i b a⟩⟩
def sliceLen : Value → Nat
  | .slice _ n _ => n
  | _ => 0
/-- What Check answers. -/
def chk (l : List Ev) : Int := if 4194304 < l.length then 3 else if Good l then 0 else 2
theorem CheckTo.chk {l : List Ev} {B : Nat} {w w' : World} {e : Ending} (h : CheckTo l B w e w') : e = .returned (.int .i64 (chk l)) ∧ Below B w w' := by
  refine ⟨?_, h.2⟩
  unfold Proofs.Ythnbpdcjooifbaa.chk
  rcases h.1 with ⟨h1, h2⟩ | ⟨h1, h2, h3⟩ | ⟨h1, h2, h3⟩
  · rw [if_pos h1]; exact h2
  · rw [if_neg (by omega), if_pos h2]; exact h3
  · rw [if_neg (by omega), if_neg h2]; exact h3
theorem chk_good {l : List Ev} (h : chk l = 0) : Good l ∧ l.length ≤ 4194304 := by
  unfold chk at h
  split at h
  · omega
  · split at h
    · exact ⟨by assumption, by omega⟩
    · omega

/-- The first error of some lists. -/
def errs : List Ls → Int
  | [] => 0
  | x :: t => if chk x.l = 0 then errs t else chk x.l
theorem errs_none : ∀ L : List Ls, (∀ i, i < L.length → chk (L.getD i Ls.none).l = 0) → errs L = 0
  | [], _ => rfl
  | x :: t, h => by
    have h0 := h 0 (by simp)
    simp at h0
    unfold errs
    rw [if_pos h0]
    exact errs_none t fun i hi => by have := h (i + 1) (by simpa using hi); simpa using this
theorem errs_at : ∀ (L : List Ls) (k : Nat), k < L.length → (∀ i, i < k → chk (L.getD i Ls.none).l = 0) → chk (L.getD k Ls.none).l ≠ 0 → errs L = chk (L.getD k Ls.none).l
  | [], k, hk, _, _ => by simp at hk
  | x :: t, 0, _, _, h => by
    simp at h
    unfold errs
    rw [if_neg h]; rfl
  | x :: t, k + 1, hk, hl, h => by
    have h0 := hl 0 (by omega)
    simp at h0
    unfold errs
    rw [if_pos h0]
    have := errs_at t k (by simpa using hk) (fun i hi => by have := hl (i + 1) (by omega); simpa using this) (by simpa using h)
    simpa using this

theorem all_take {L : List Ls} {k : Nat} (hk : k < L.length) : (allOf (L.take (k + 1))).length = (allOf (L.take k)).length + (L.getD k Ls.none).l.length := by
  have : L.take (k + 1) = L.take k ++ [L.getD k Ls.none] := by
    rw [List.take_succ_eq_append_getElem hk, List.getD_eq_getElem?_getD, List.getElem?_eq_getElem hk]; rfl
  unfold allOf
  rw [this, List.map_append, List.flatten_append, List.length_append]
  simp

def Ev.cells (x : Ev) : List Value := [.int .i64 x.time, .int .i64 x.chip, .int .i64 x.seq, .int .i64 x.kind, .int .i64 x.a, .int .i64 x.b]
def rowV (M : List Ev) : List Value := M.flatMap Ev.cells

def nilE (z : Int) : Ending := .returned (.tuple #[.slice none 0 0, .int .i64 z])
def MergeTo (w : World) (L : List Ls) (e : Ending) (w' : World) : Prop :=
  Below w.heap.size w w' ∧
  ((errs L ≠ 0 ∧ e = nilE (errs L)) ∨ (errs L = 0 ∧ 4194304 < (allOf L).length ∧ e = nilE 3) ∨ (errs L = 0 ∧ (allOf L).length ≤ 4194304 ∧ ¬ (allOf L).Nodup ∧ e = nilE 2) ∨
   (errs L = 0 ∧ (allOf L).length ≤ 4194304 ∧ (allOf L).Nodup ∧ ∃ (M : List Ev) (g c : Nat), M.Pairwise (Hp.lt' ole) ∧ M.Perm (allOf L) ∧ e = .returned (.tuple #[.slice (some ⟨g, 0, none⟩) M.length c, .int .i64 0]) ∧
      w'.ownsRow w.heap.size 23 6 (.slice (some ⟨g, 0, none⟩) M.length c) M.length (rowV M)))

def Checked (w : World) (L : List Ls) (k : Nat) (t : Int) (wr : World) : Prop :=
  t = (allOf (L.take k)).length ∧ (∀ i, i < k → chk (L.getD i Ls.none).l = 0) ∧ (allOf (L.take k)).length ≤ k * 4194304 ∧ Below w.heap.size w wr

theorem info_ev : (Try.prog.info? 23).map (fun i => (i.zero, i.size, i.bytes)) = some (some (.agg #[.int .i64 0, .int .i64 0, .int .i64 0, .int .i64 0, .int .i64 0, .int .i64 0]), 6, 48) := by kernel_rfl

theorem row_block {w w' : World} {base : Nat} {e : TypeId} {s n cap m : Nat} {xs : List Value} (h : w.ownsRow base e s (.slice (some ⟨m, 0, none⟩) n cap) n xs) (hb : w'.heap[m]? = w.heap[m]?) :
    w'.ownsRow base e s (.slice (some ⟨m, 0, none⟩) n cap) n xs := by
  refine ⟨h.1, ?_⟩
  rcases h.2 with ⟨h1, h2⟩ | ⟨g, cap', cur, e1, e2, e3, e4⟩
  · exact .inl ⟨h1, h2⟩
  · refine .inr ⟨g, cap', cur, e1, e2, ?_, e4⟩
    injection e1 with k1
    injection k1 with k1
    injection k1 with k1
    rw [← k1, hb, k1]; exact e3
theorem row_mono {w : World} {base base' : Nat} {e : TypeId} {s n : Nat} {v : Value} {xs : List Value} (h : w.ownsRow base e s v n xs) (hb : base' ≤ base) : w.ownsRow base' e s v n xs := by
  refine ⟨h.1, ?_⟩
  rcases h.2 with h1 | ⟨g, cap', cur, e1, e2, e3⟩
  · exact .inl h1
  · exact .inr ⟨g, cap', cur, e1, by omega, e3⟩

theorem mg_hlen {w : World} {B p c : Nat} {A : Option Addr} {L : List Ls} {H : List Hd} {M : List Ev} (h : Mg L H M) (hm : HM w B p A c H) : M.length + H.length ≤ (allOf L).length := by
  have h1 := h.all.length_eq
  rw [List.length_append] at h1
  have h2 : ∀ G : List Hd, (∀ x ∈ G, 0 < x.l.length) → G.length ≤ ((G.map Hd.l).flatten).length := by
    intro G
    induction G with
    | nil => intro _; simp
    | cons x t ih =>
      intro hx
      have h3 := ih fun y hy => hx y (List.mem_cons_of_mem _ hy)
      have h4 := hx x List.mem_cons_self
      simp only [List.map_cons, List.flatten_cons, List.length_append, List.length_cons]
      omega
  have := h2 H fun x hx => (hm.rows x hx).pos
  omega

theorem take_any (w : World) (B p c : Nat) (A : Option Addr) (H : List Hd) (h : HM w B p A c H) (hn : H.length ≤ 4611686018427387902) (h0 : 0 < H.length) (hh : Hp.Heap Hd.none hle H H.length) :
    Calls Try.prog 40 #[.pointer (some ⟨p, 0, none⟩)] w (TakeTo w B p c A H) := by
  have := (h.hd h0).pos
  by_cases h1 : (H.getD 0 Hd.none).l.length = 1
  · exact take1_any w B p c A H h hn h0 hh h1
  · exact take2_any w B p c A H h hn h0 hh (by omega)

theorem cells_len (M : List Ev) : (rowV M).length = M.length * 6 := by
  induction M with
  | nil => rfl
  | cons x t ih => simp only [rowV, List.flatMap_cons, List.length_append, List.length_cons] at *; rw [ih]; simp [Ev.cells]; omega
/-- The last event of a row of the call's own. -/
theorem row_last {w : World} {base cap m : Nat} {M : List Ev} {z : Ev} (h : w.ownsRow base 23 6 (.slice (some ⟨m, 0, none⟩) (M ++ [z]).length cap) (M ++ [z]).length (rowV (M ++ [z]))) : EvAt w m (M.length * 6) z := by
  have hl : (M ++ [z]).length = M.length + 1 := by simp
  have e : ∀ j, j < 6 → w.cell? ⟨m, M.length * 6 + j, none⟩ = z.cells[j]? := fun j hj => by
    rw [h.cellAt _ (by rw [hl]; omega)]
    unfold rowV
    rw [List.flatMap_append, List.getElem?_append_right (by have := cells_len M; unfold rowV at this; omega)]
    have := cells_len M
    unfold rowV at this
    rw [this]
    simp
  exact ⟨e 0 (by decide), e 1 (by decide), e 2 (by decide), e 3 (by decide), e 4 (by decide), e 5 (by decide)⟩

theorem HM.grown {w w' : World} {B p c m : Nat} {A : Option Addr} {H : List Hd} (h : HM w B p A c H) (hg : w.grownBy w' (some m)) (hmp : m ≠ p) (hmA : ∀ a, A = some a → a.block ≠ m) (hmr : ∀ x ∈ H, x.blk ≠ m) : HM w' B p A c H := by
  obtain ⟨h1, h2, h3, h4, h5⟩ := h
  have hp : p < w.heap.size := (Array.getElem?_eq_some_iff.1 h1).1
  refine ⟨(hg.block p hp (fun e => hmp (Option.some.inj e).symm)).trans h1, h2.kept hg ?_, h3, h4, fun x hx => ?_⟩
  · cases A with
    | none => exact .inl rfl
    | some a => exact .inr fun e => hmA a rfl (Option.some.inj e)
  · have hx5 := h5 x hx
    exact ⟨hx5.lt, hx5.pos, hx5.le, hx5.cap, fun i hi => (hx5.at_ i hi).keep (hg.block x.blk (World.block_lt_of_cell? _ _ (hx5.at_ i hi).c0) (fun e => hmr x hx (Option.some.inj e)))⟩

set_option maxRecDepth 100000 in
theorem eql_same (y : Ev) (w : World) : (binOp .eql 23 y.val y.val).run Try.prog w = .ok (.bool true) w := by
  unfold Ev.val
  go_simp
set_option maxRecDepth 100000 in
theorem eql_other (z y : Ev) (h : z ≠ y) (w : World) : (binOp .eql 23 z.val y.val).run Try.prog w = .ok (.bool false) w := by
  unfold Ev.val
  go_simp
  obtain ⟨z0, z1, z2, z3, z4, z5⟩ := z
  obtain ⟨y0, y1, y2, y3, y4, y5⟩ := y
  simp only [ne_eq, Ev.mk.injEq, not_and] at h
  exact h
theorem new_six0 (w : World) (y : Ev) : ∀ j u, y.cells[j]? = some u → ((w.alloc (evO y)).cell? ((⟨w.heap.size, 0, none⟩ : Addr).add j)) = some u := by
  intro j u hu
  have hj : j < 6 := by
    have := (List.getElem?_eq_some_iff.1 hu).1
    simpa [Ev.cells] using this
  have hadd : (⟨w.heap.size, 0, none⟩ : Addr).add j = ⟨w.heap.size, j, none⟩ := by unfold Addr.add; split <;> simp_all
  rw [hadd, World.cell?_alloc_at _ _ _ _ (by simp)]
  rw [← hu]
  unfold Ev.cells
  match j, hj with
  | 0, _ | 1, _ | 2, _ | 3, _ | 4, _ | 5, _ => rfl
theorem new_six (w : World) (n : Nat) (y : Ev) : ∀ j u, y.cells[j]? = some u → ((((w.alloc (evO y)).drewN n).alloc (evO y)).cell? ((⟨w.heap.size + 1, 0, none⟩ : Addr).add j)) = some u := by
  intro j u hu
  have hj : j < 6 := by
    have := (List.getElem?_eq_some_iff.1 hu).1
    simpa [Ev.cells] using this
  have hadd : (⟨w.heap.size + 1, 0, none⟩ : Addr).add j = ⟨w.heap.size + 1, j, none⟩ := by unfold Addr.add; split <;> simp_all
  rw [hadd, World.cell?_alloc_at _ _ _ _ (by simp)]
  rw [← hu]
  unfold Ev.cells
  match j, hj with
  | 0, _ | 1, _ | 2, _ | 3, _ | 4, _ | 5, _ => rfl
theorem ev_cases (M : List Ev) : M = [] ∨ ∃ M0 z, M = M0 ++ [z] := by
  rcases List.eq_nil_or_concat M with h | ⟨M0, z, h⟩
  · exact .inl h
  · exact .inr ⟨M0, z, by rw [h, List.concat_eq_append]⟩
theorem rowV_snoc (M : List Ev) (y : Ev) : rowV (M ++ [y]) = rowV M ++ y.cells := by unfold rowV; rw [List.flatMap_append]; simp

def MRel (w : World) (L : List Ls) (b0 B p m t : Nat) (A : Option Addr) (ca : Nat) (M : List Ev) (wx : World) : Prop :=
  ∃ H : List Hd, HM wx B p A ca H ∧ (∀ x ∈ H, x.blk < w.heap.size) ∧ Hp.Heap Hd.none hle H H.length ∧ Mg L H M ∧ wx.ownsRow b0 23 6 (.slice (some ⟨m, 0, none⟩) M.length t) M.length (rowV M) ∧ Below w.heap.size w wx

set_option maxRecDepth 100000 in
set_option maxHeartbeats 4000000 in
theorem merge_any (w : World) (c : Nat) (O : Option Addr) (L : List Ls) (h : LL w w.heap.size O c L) (hn : L.length ≤ 1099511627776) :
    Calls Try.prog 10 #[.slice O L.length c] w (MergeTo w L) := by
  have HL := Lib.hid h
  clear h
  obtain ⟨i0, hi, hz0, hz1, hz2⟩ := info_parts info_ev
  go_enter Try.func10, Try.ntmps10
  go_wp2_with fail
  go_loopw [4, 14] (fun t i wr => ∃ (k : Nat) (T : Int), k ≤ L.length ∧ i = .int .i64 k ∧ t = .int .i64 T ∧ Checked w L k T wr) (fun _ i _ => L.length - (intOf i).toNat)
  case atStart => exact ⟨0, 0, Nat.zero_le _, rfl, rfl, rfl, fun i hi => by omega, Nat.le_refl _, Below.refl _ _⟩
  case round =>
    obtain ⟨k, T, hk, rfl, rfl, rfl, hc, hlen, hb⟩ := hrel
    have HC := Lib.hid hc
    clear hc
    by_cases hlt : k < L.length
    · obtain ⟨b, o, rfl, hb1, hc1⟩ := HL.out.at_ (by omega)
      have hcell : wr.cell? ⟨b, o + k, Option.none⟩ = some (L.getD k Ls.none).val := (World.cell?_of_block (hb.block b hb1)).trans (hc1 k hlt)
      have hmem : L.getD k Ls.none ∈ L := by rw [List.getD_eq_getElem?_getD, List.getElem?_eq_getElem hlt]; exact List.getElem_mem hlt
      have hrow := ((HL.out.rows _ hmem).keep (w' := wr) hb.block).more hb.size
      have htake := all_take hlt
      have hcr := mcheck_any wr _ hrow
      obtain ⟨x, hx⟩ : ∃ x, L.getD k Ls.none = x := ⟨_, rfl⟩
      rw [hx] at hcell hrow htake hcr
      have HX := Lib.hid hx
      have HT := Lib.hid htake
      have HCR := Lib.hid hcr
      unfold Ls.val at hcell HCR
      have hxl := hrow.le
      have hxc := hrow.cap
      unfold maxLen at hxc
      clear htake hcr hx hmem hc1
      generalize hgt : (allOf (L.take k)).length = t at *
      have HG := Lib.hid hgt
      clear hgt
      go_wp2_with fail
      refine HCR.out.mono ?_
      rintro e w1 hcc
      obtain ⟨rfl, hb2⟩ := hcc.chk
      have hb3 : Below w.heap.size w w1 := hb.trans (hb2.mono hb.size)
      clear hcc hb2
      by_cases h0 : chk x.l = 0
      · obtain ⟨_, hxl2⟩ := chk_good h0
        have H0 := Lib.hid h0
        rw [h0]
        clear h0
        go_wp2_with fail
        refine ⟨⟨k + 1, _, by omega, by go_num, rfl, ?_, fun i hi => ?_, ?_, hb3⟩, by simp [intOf]; omega⟩
        · rw [HT.out]; omega
        · by_cases e : i = k
          · subst e; rw [HX.out]; exact H0.out
          · exact HC.out i (by omega)
        · rw [HT.out]; omega
      · have hne : (chk x.l != 0) = true := by simpa using h0
        have hne2 : (chk x.l == 0) = false := by simpa using h0
        have H0 := Lib.hid h0
        clear h0
        go_wp2_with fail
        go_ret2
        have := errs_at L k hlt HC.out (by rw [HX.out]; exact H0.out)
        rw [HX.out] at this
        exact ⟨hb3, .inl ⟨by rw [this]; exact H0.out, by rw [this]; rfl⟩⟩
    · obtain rfl : k = L.length := by omega
      have he : errs L = 0 := errs_none L HC.out
      rw [List.take_length] at hlen ⊢
      have HE := Lib.hid he
      clear he hlt hk
      by_cases hlong : 4194304 < (allOf L).length
      · go_wp2_with fail
        go_ret2
        exact ⟨hb, .inr (.inl ⟨HE.out, hlong, rfl⟩)⟩
      · have hT : (allOf L).length ≤ 4194304 := by omega
        clear hlong hlen
        obtain ⟨t, ht⟩ : ∃ t, (allOf L).length = t := ⟨_, rfl⟩
        rw [ht] at hT ⊢
        have HT := Lib.hid ht
        clear ht
        obtain ⟨wq, hwq⟩ : ∃ wq : World, wq = wr := ⟨_, rfl⟩
        subst hwq
        go_wp2_with (at_make; refine wpList_make_own _ rfl _ _ 25 rfl wq.heap.size 23 i0 (.agg #[.int .i64 0, .int .i64 0, .int .i64 0, .int .i64 0, .int .i64 0, .int .i64 0]) 6 Try.underlying25 hi hz0 hz1 .i64 .i64 _ t rfl rfl rfl (by rw [hz2]; omega) (by unfold maxLen; omega) (Nat.le_refl _) ?_; intro w0 hown hgr)
        have hLL : LL w0 w.heap.size O c L := HL.out.keep fun k hk => (hgr.block k (by have := hb.size; omega) (by simp)).trans (hb.block k hk)
        have hm0 := (hown.lt wq.heap.size rfl).2
        have hbw0 : Below w.heap.size w w0 := hb.grown hgr hb.size (fun k hk => by cases hk)
        refine (headsOf_any w0 c O L w.heap.size hLL (by have := hgr.size; have := hb.size; omega) hn).mono ?_
        rintro e w1 ⟨p, rfl, A, ca, H0, hm1, hh1, hp1, hx1, _, hb1⟩
        have hstart := mg_start (fun x hx => by
          obtain ⟨i, hi, rfl⟩ := List.mem_iff_getElem.1 hx
          have := HC.out i hi
          rw [List.getD_eq_getElem?_getD, List.getElem?_eq_getElem hi] at this
          exact (chk_good this).1) hm1 hh1 (by rw [List.take_length] at hp1; exact hp1) (fun x hx => (hx1 x hx).2)
        have hr1 : MRel w L wq.heap.size w0.heap.size p wq.heap.size t A ca [] w1 := ⟨H0, hm1, fun x hx => (hx1 x hx).1, hh1, hstart, row_block hown (hb1.block _ hm0), hbw0.trans (hb1.mono hbw0.size)⟩
        have HR1 := Lib.hid hr1
        clear hr1 hstart hx1 hp1 hh1 hm1 hLL hown
        go_wp2_with fail
        go_loopw [8] (fun s wx => ∃ M : List Ev, s = .slice (some ⟨wq.heap.size, 0, none⟩) M.length t ∧ MRel w L wq.heap.size w0.heap.size p wq.heap.size t A ca M wx) (fun s _ => t - sliceLen s)
        case atStart => exact ⟨[], rfl, HR1.out⟩
        case round =>
          obtain ⟨M, rfl, H, hm, hbk, hh, hg, hrow, hbx⟩ := hrel
          have HBK := Lib.hid hbk
          clear hbk
          have hc0 := hm.c0
          have hlen := mg_hlen hg hm
          rw [HT.out] at hlen
          have hHm : H.length ≤ 4611686018427387902 := by omega
          have HH := Lib.hid hh
          have HG := Lib.hid hg
          have HRW := Lib.hid hrow
          clear hh hg hrow
          rcases Nat.eq_zero_or_pos H.length with h0 | h0
          · have hnil : H = [] := List.eq_nil_of_length_eq_zero h0
            rw [h0] at hc0
            have HN := Lib.hid hnil
            clear hnil h0
            go_wp2_with (go_at_call 39; (with_reducible refine (len_heads _ _ _ _).mono ?_); rintro e w' ⟨rfl, rfl⟩)
            go_ret2
            have hd := HG.out
            rw [HN.out] at hd
            obtain ⟨q1, q2, q3⟩ := mg_done hd
            exact ⟨hbx, .inr (.inr (.inr ⟨HE.out, by rw [HT.out]; exact hT, q3, M, wq.heap.size, t, q1, q2, rfl, row_mono HRW.out hb.size⟩))⟩
          · have htk := take_any _ _ _ _ _ _ hm hHm h0 HH.out
            unfold TakeTo at htk
            obtain ⟨y, hy⟩ : ∃ y, (H.getD 0 Hd.none).hd = y := ⟨_, rfl⟩
            rw [hy] at htk
            have HY := Lib.hid hy
            have HTK := Lib.hid htk
            unfold Ev.val at HTK
            clear hy htk
            go_wp2_with (first
              | (go_at_call 39; (with_reducible refine (len_heads _ _ _ _).mono ?_); rintro e w' ⟨rfl, rfl⟩)
              | (go_at_call 40; (with_reducible refine HTK.out.mono ?_); rintro e w2 ⟨H2, rfl, hm2, hh2, hp2, hx2, hs2⟩))
            have hgeA : ∀ a, A = some a → w0.heap.size ≤ a.block := fun a ha => (hm.own.lt a.block (by rw [ha]; rfl)).1
            have hpB := hm.ge
            have hmlt := (HRW.out.lt wq.heap.size rfl).2
            have hrow2 := row_block HRW.out (hs2.block wq.heap.size hmlt (by
              rintro (h1 | ⟨a, ha, h1⟩)
              · omega
              · have := hgeA a ha; omega))
            have hb2 : Below w.heap.size w w2 := hbx.trans ⟨hs2.os, hs2.tape, hs2.output, hs2.size, fun k hk => hs2.block k (by have := hbx.size; omega) (by
              rintro (h1 | ⟨a, ha, h1⟩)
              · have := hb.size; omega
              · have := hgeA a ha; have := hb.size; omega)⟩
            have hrow3 := hrow2.alloc (evO y)
            have hm3 := hm2.kept ((Below.refl _ _).alloc (Nat.le_refl _) (evO y))
            have hb3 := hb2.alloc hb2.size (evO y)
            have hey := EV.laid w2 y
            have HP2 := Lib.hid hp2
            have HX2 := Lib.hid hx2
            have HH2 := Lib.hid hh2
            have HR3 := Lib.hid hrow3
            have HM3 := Lib.hid hm3
            have HB3 := Lib.hid hb3
            clear hs2 hrow2 hb2 hrow3 hm3 hb3 hp2 hx2 hh2 hm2 hm hbx
            obtain ⟨f0, f1, f2, f3, f4, f5⟩ := hey
            have HNW := Lib.hid (fun n => new_six w2 n y)
            have HOW := Lib.hid (fun n => World.ownsRow.alloc (w := (w2.alloc (evO y)).drewN n) HR3.out (evO y))
            have HMW := Lib.hid (fun n => (HM3.out.twin (w' := (w2.alloc (evO y)).drewN n) ⟨rfl, rfl, rfl, rfl⟩).kept ((Below.refl _ _).alloc (Nat.le_refl _) (evO y)))
            have HBW := Lib.hid (fun n => (show Below w.heap.size w ((w2.alloc (evO y)).drewN n) from ⟨HB3.out.os, HB3.out.tape, HB3.out.output, HB3.out.size, HB3.out.block⟩).alloc HB3.out.size (evO y))
            have HON := Lib.hid (show ∀ u ∈ y.cells, u.oneCell' = true by intro u hu; simp only [Ev.cells, List.mem_cons, List.mem_nil_iff, or_false] at hu; rcases hu with rfl | rfl | rfl | rfl | rfl | rfl <;> rfl)
            have HGA := Lib.hid (show ∀ a, A = some a → a.block ≠ wq.heap.size from fun a ha => by have := hgeA a ha; omega)
            clear hgeA
            have hMt : M.length < t := by omega
            rcases ev_cases M with rfl | ⟨M0, z, rfl⟩
            · go_quiet (fail)
              go_wp2_with (at_builtin; refine wpList_append_fits _ rfl (.tmp 54) (.tmp 56) 25 rfl wq.heap.size 23 i0 6 Try.underlying25 hi hz1 wq.heap.size 0 t (rowV ([] : List Ev)) rfl (HOW.out _) ⟨w2.heap.size + 1, 0, none⟩ 1 1 y.cells rfl rfl (HNW.out _) (HON.out) (by omega) ?_; intro w4 hown4 hgr4)
              have hm4 : HM w4 w0.heap.size p A ca H2 := (HMW.out _).grown hgr4 (by omega) HGA.out (fun x hx => by
                obtain ⟨q, hq, e, _⟩ := HX2.out x hx
                have := HBK.out q hq
                have := hb.size
                omega)
              refine ⟨⟨([] : List Ev) ++ [y], by simp, H2, hm4, fun x hx => ?_, HH2.out, ?_, ?_, ?_⟩, by simp [sliceLen]; omega⟩
              · obtain ⟨q, hq, e, _⟩ := HX2.out x hx
                rw [e]; exact HBK.out q hq
              · have := mg_next HG.out h0 (by simp) hm4 HH2.out (by rw [HY.out]; exact HP2.out) HX2.out
                rw [HY.out] at this
                exact this
              · have h5 := rowV_snoc (([] : List Ev)) y
                rw [h5, show (([] : List Ev) ++ [y]).length = 0 + 1 by simp]
                exact hown4
              · exact (HBW.out _).grown hgr4 (by have := (HBW.out 0).size; simp at this ⊢; omega) (fun k hk => by obtain rfl := Option.some.inj hk; exact hb.size)
            · have hez := row_last HR3.out
              obtain ⟨q, hq⟩ : ∃ q, M0.length = q := ⟨_, rfl⟩
              obtain ⟨n, hn1⟩ : ∃ n, (M0 ++ [z]).length = n := ⟨_, rfl⟩
              have hqn : n = q + 1 := by rw [← hn1, ← hq]; simp
              rw [hq] at hez
              obtain ⟨d0, d1, d2, d3, d4, d5⟩ := hez
              rw [hn1] at hlen hMt HOW ⊢
              have hi1 : (n : Int) - 1 = (q : Int) := by omega
              rw [hi1]
              have hqt : q < n := by omega
              have hnt : n ≤ 4194304 := by omega
              have HQ := Lib.hid hq
              have HN1 := Lib.hid hn1
              have HQN := Lib.hid hqn
              clear hi1 hq hn1 hqn
              have d0' := fun p : Later (fun _ => False) (w2.alloc (evO y)) => p.cell d0 (fun h => h)
              have d1' := fun p : Later (fun _ => False) (w2.alloc (evO y)) => p.cell d1 (fun h => h)
              have d2' := fun p : Later (fun _ => False) (w2.alloc (evO y)) => p.cell d2 (fun h => h)
              have d3' := fun p : Later (fun _ => False) (w2.alloc (evO y)) => p.cell d3 (fun h => h)
              have d4' := fun p : Later (fun _ => False) (w2.alloc (evO y)) => p.cell d4 (fun h => h)
              have d5' := fun p : Later (fun _ => False) (w2.alloc (evO y)) => p.cell d5 (fun h => h)
              have f0' := fun p : Later (fun _ => False) (w2.alloc (evO y)) => p.cell f0 (fun h => h)
              have f1' := fun p : Later (fun _ => False) (w2.alloc (evO y)) => p.cell f1 (fun h => h)
              have f2' := fun p : Later (fun _ => False) (w2.alloc (evO y)) => p.cell f2 (fun h => h)
              have f3' := fun p : Later (fun _ => False) (w2.alloc (evO y)) => p.cell f3 (fun h => h)
              have f4' := fun p : Later (fun _ => False) (w2.alloc (evO y)) => p.cell f4 (fun h => h)
              have f5' := fun p : Later (fun _ => False) (w2.alloc (evO y)) => p.cell f5 (fun h => h)
              clear d0 d1 d2 d3 d4 d5 f0 f1 f2 f3 f4 f5
              simp only [evO] at d0' d1' d2' d3' d4' d5' f0' f1' f2' f3' f4' f5'
              have HRN := Lib.hid (show (w2.alloc (evO y)).ownsRow wq.heap.size 23 6 (.slice (some ⟨wq.heap.size, 0, none⟩) n t) n (rowV (M0 ++ [z])) by rw [← HN1.out]; exact HR3.out)
              by_cases hzy : z = y
              · subst hzy
                have hq := fun w => eql_same z w
                unfold Ev.val at hq
                refine Proofs.Ythnbpdcjooifbaa.L.region_ (fun _ => False) (by kernel_rfl) ?_
                refine Proofs.Ythnbpdcjooifbaa.L.seg_ [0, 1, 2, 3, 4, 5, 6, 7, 8, 9] 0 _ (by kernel_rfl) (by kernel_rfl) (by kernel_rfl) (by simp only [pickOps, mask, plain, List.getElem?_toArray, List.getElem?_cons_zero, List.getElem?_cons_succ, if_true]; rfl) ?_
                repeat (go_big_quiet_step (fail))
                refine wpQuiet_nil ?_
                clear d0' d1' d2' d3' d4' d5' f0' f1' f2' f3' f4' f5' hq
                refine Proofs.Ythnbpdcjooifbaa.L.end_ (by kernel_rfl) ?_
                intro wc sc
                have hBc : Below w.heap.size w wc := HB3.out.trans (sc.all.mono HB3.out.size)

                go_wp2_with fail
                go_ret2
                refine ⟨hBc, .inr (.inr (.inl ⟨HE.out, by rw [HT.out]; exact hT, mg_twice HG.out h0 ?_, rfl⟩))⟩
                rw [HY.out]
                exact List.mem_append_right _ List.mem_cons_self
              · have HZY := Lib.hid hzy
                have hq := fun w => eql_other z y hzy w
                unfold Ev.val at hq
                clear hzy
                refine Proofs.Ythnbpdcjooifbaa.L.region_ (fun _ => False) (by kernel_rfl) ?_
                refine Proofs.Ythnbpdcjooifbaa.L.seg_ [0, 1, 2, 3, 4, 5, 6, 7, 8, 9] 0 _ (by kernel_rfl) (by kernel_rfl) (by kernel_rfl) (by simp only [pickOps, mask, plain, List.getElem?_toArray, List.getElem?_cons_zero, List.getElem?_cons_succ, if_true]; rfl) ?_
                repeat (go_big_quiet_step (fail))
                refine wpQuiet_nil ?_
                clear d0' d1' d2' d3' d4' d5' f0' f1' f2' f3' f4' f5' hq
                refine Proofs.Ythnbpdcjooifbaa.L.end_ (by kernel_rfl) ?_
                intro wc sc
                have hBc : Below w.heap.size w wc := HB3.out.trans (sc.all.mono HB3.out.size)

                have HOC := Lib.hid ((row_block HRN.out (sc.all.block wq.heap.size (HRN.out.lt wq.heap.size rfl).2)).alloc (evO y))
                have HMC := Lib.hid ((HM3.out.kept sc.all).kept ((Below.refl _ _).alloc (Nat.le_refl _) (evO y)))
                have HBC := Lib.hid (hBc.alloc hBc.size (evO y))
                have hlast : ((M0 ++ [z]).getLast? : Option Ev) ≠ some (H.getD 0 Hd.none).hd := by
                  rw [HY.out, List.getLast?_concat]
                  exact fun e => HZY.out (Option.some.inj e)
                have HLA := Lib.hid hlast
                obtain ⟨g0, g1, g2, g3, g4, g5⟩ := (EV.laid w2 y).below sc.all (by simp)
                clear hlast sc
                go_wp2_with (at_builtin; refine wpList_append_fits _ rfl (.tmp 54) (.tmp 56) 25 rfl wq.heap.size 23 i0 6 Try.underlying25 hi hz1 wq.heap.size n t (rowV (M0 ++ [z])) rfl HOC.out ⟨wc.heap.size, 0, none⟩ 1 1 y.cells rfl rfl (new_six0 wc y) (HON.out) (by omega) ?_; intro w4 hown4 hgr4)
                have hm4 : HM w4 w0.heap.size p A ca H2 := HMC.out.grown hgr4 (by omega) HGA.out (fun x hx => by
                  obtain ⟨q2, hq2, e, _⟩ := HX2.out x hx
                  have := HBK.out q2 hq2
                  have := hb.size
                  omega)
                have hsn : (M0 ++ [z] ++ [y]).length = n + 1 := by rw [List.length_append, HN1.out]; rfl
                refine ⟨⟨M0 ++ [z] ++ [y], by rw [hsn], H2, hm4, fun x hx => ?_, HH2.out, ?_, ?_, ?_⟩, by have h5 := HQN.out; have h6 := HQ.out; simp [sliceLen]; omega⟩
                · obtain ⟨q2, hq2, e, _⟩ := HX2.out x hx
                  rw [e]; exact HBK.out q2 hq2
                · have := mg_next HG.out h0 (mg_last HG.out h0 HLA.out) hm4 HH2.out (by rw [HY.out]; exact HP2.out) HX2.out
                  rw [HY.out] at this
                  exact this
                · rw [hsn, rowV_snoc (M0 ++ [z]) y]
                  exact hown4
                · exact HBC.out.grown hgr4 (by have := HBC.out.size; simp at this ⊢; omega) (fun k hk => by obtain rfl := Option.some.inj hk; exact hb.size)
end Go.Proofs.Ythnbpdcjooifbaa
