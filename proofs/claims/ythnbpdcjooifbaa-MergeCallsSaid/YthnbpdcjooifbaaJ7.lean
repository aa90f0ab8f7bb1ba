/-   -/
import Derived.Test.YthnbpdcjooifbaaJ5
import Derived.Test.YthnbpdcjooifbaaJ6
import Derived.Laws.OwnMore
import Derived.BigRegion
import Derived.RegionTactic
namespace Go.Proofs.Ythnbpdcjooifbaa
open Go.RowKit
set_option linter.unusedSimpArgs false
set_option linter.unusedVariables false

/-- An event in memory, from the cell o of block b on. -/
structure EvAt (w : World) (b o : Nat) (x : Ev) : Prop where
  c0 : w.cell? ⟨b, o, none⟩ = some (.int .i64 x.time)
  c1 : w.cell? ⟨b, o + 1, none⟩ = some (.int .i64 x.chip)
  c2 : w.cell? ⟨b, o + 2, none⟩ = some (.int .i64 x.seq)
  c3 : w.cell? ⟨b, o + 3, none⟩ = some (.int .i64 x.kind)
  c4 : w.cell? ⟨b, o + 4, none⟩ = some (.int .i64 x.a)
  c5 : w.cell? ⟨b, o + 5, none⟩ = some (.int .i64 x.b)
theorem EvAt.keep {w w' : World} {b o : Nat} {x : Ev} (h : EvAt w b o x) (hk : w'.heap[b]? = w.heap[b]?) : EvAt w' b o x := by
  have e : ∀ i, w'.cell? ⟨b, i, none⟩ = w.cell? ⟨b, i, none⟩ := fun i => World.cell?_of_block hk
  exact ⟨(e _).trans h.c0, (e _).trans h.c1, (e _).trans h.c2, (e _).trans h.c3, (e _).trans h.c4, (e _).trans h.c5⟩

/-- A list of events, not empty, that stands in block blk from off on. -/
structure Hd where
  blk : Nat
  off : Nat
  cap : Nat
  l : List Ev
def Hd.val (x : Hd) : Value := .slice (some ⟨x.blk, x.off, none⟩) x.l.length x.cap
def Hd.none : Hd := ⟨0, 0, 0, []⟩
structure HdAt (w : World) (B : Nat) (x : Hd) : Prop where
  lt : x.blk < B
  pos : 0 < x.l.length
  le : x.l.length ≤ x.cap
  cap : x.cap ≤ maxLen
  at_ : ∀ i, i < x.l.length → EvAt w x.blk (x.off + i * 6) (x.l.getD i ⟨0, 0, 0, 0, 0, 0⟩)

theorem Later.cell {S : Nat → Prop} {w : World} (p : Later S w) {b o : Nat} {v : Value} (h : w.cell? ⟨b, o, none⟩ = some v) (hS : ¬ S b) : p.w.cell? ⟨b, o, none⟩ = some v :=
  (World.cell?_of_block (p.ok.block b (World.block_lt_of_cell? _ _ h) hS)).trans h

def evZ : Ev := ⟨0, 0, 0, 0, 0, 0⟩
def Hd.hd (x : Hd) : Ev := x.l.getD 0 evZ

set_option maxHeartbeats 400000 in
theorem less_any (w : World) (B : Nat) (g c n i j : Nat) (x y : Hd) (hi : i < n) (hj : j < n) (hn : n ≤ 4611686018427387904)
    (ci : w.cell? ⟨g, i, none⟩ = some x.val) (cj : w.cell? ⟨g, j, none⟩ = some y.val) (hx : HdAt w B x) (hy : HdAt w B y) :
    Calls Try.prog 109 #[.slice (some ⟨g, 0, none⟩) n c, .int .i64 i, .int .i64 j] w fun e w' =>
      e = .returned (.bool (decide (ordE x.hd y.hd < 0))) ∧ Below w.heap.size w w' := by
  have p1 := hx.pos
  have p2 := hy.pos
  have x0 : EvAt w x.blk x.off x.hd := by have := hx.at_ 0 hx.pos; rw [Nat.zero_mul] at this; exact this
  have y0 : EvAt w y.blk y.off y.hd := by have := hy.at_ 0 hy.pos; rw [Nat.zero_mul] at this; exact this
  unfold Hd.val at ci cj
  generalize x.hd = u at *
  generalize y.hd = v at *
  obtain ⟨a0, a1, a2, a3, a4, a5⟩ := x0
  obtain ⟨b0, b1, b2, b3, b4, b5⟩ := y0

  have ci' := fun p : Later (fun _ => False) w => p.cell ci (fun h => h)
  have cj' := fun p : Later (fun _ => False) w => p.cell cj (fun h => h)
  have a0' := fun p : Later (fun _ => False) w => p.cell a0 (fun h => h)
  have a1' := fun p : Later (fun _ => False) w => p.cell a1 (fun h => h)
  have a2' := fun p : Later (fun _ => False) w => p.cell a2 (fun h => h)
  have a3' := fun p : Later (fun _ => False) w => p.cell a3 (fun h => h)
  have a4' := fun p : Later (fun _ => False) w => p.cell a4 (fun h => h)
  have a5' := fun p : Later (fun _ => False) w => p.cell a5 (fun h => h)
  have b0' := fun p : Later (fun _ => False) w => p.cell b0 (fun h => h)
  have b1' := fun p : Later (fun _ => False) w => p.cell b1 (fun h => h)
  have b2' := fun p : Later (fun _ => False) w => p.cell b2 (fun h => h)
  have b3' := fun p : Later (fun _ => False) w => p.cell b3 (fun h => h)
  have b4' := fun p : Later (fun _ => False) w => p.cell b4 (fun h => h)
  have b5' := fun p : Later (fun _ => False) w => p.cell b5 (fun h => h)
  clear ci cj a0 a1 a2 a3 a4 a5 b0 b1 b2 b3 b4 b5 hx hy
  go_enter Try.func109, Try.ntmps109
  go_upto_region 1 with fail
  refine L.region_ (fun _ => False) (by kernel_rfl) ?_
  refine L.seg_ [0, 1, 2, 3, 4, 5, 6, 7, 8, 9, 10, 11] 3 _ (by kernel_rfl) (by kernel_rfl) (by kernel_rfl) (by simp only [pickOps, mask, plain, List.getElem?_toArray, List.getElem?_cons_zero, List.getElem?_cons_succ, if_true]; rfl) ?_
  repeat (go_big_quiet_step (fail))
  refine wpQuiet_nil ?_
  clear ci' cj' a0' a1' a2' a3' a4' a5' b0' b1' b2' b3' b4' b5'
  refine L.call_ (i := 12) rfl (by kernel_rfl) (by kernel_rfl) ?_
  intro wa sa
  unfold Oper.does
  go_simp
  refine (order_any wa u v).mono ?_
  rintro e w' ⟨he, hb⟩
  refine ⟨_, he, same_ sa (Save.of_below hb) ?_⟩
  have hB : Below w.heap.size w w' := sa.all.trans (hb.mono sa.size)
  clear he sa hb
  refine L.seg_ [13, 14] 0 _ (by kernel_rfl) (by kernel_rfl) (by kernel_rfl) (by simp only [pickOps, mask, plain, List.getElem?_toArray, List.getElem?_cons_zero, List.getElem?_cons_succ, if_true]; rfl) ?_
  repeat (go_big_quiet_step (fail))
  refine wpQuiet_nil ?_
  refine L.end_ (by kernel_rfl) ?_
  intro wc sc
  have hBc := hB.trans (sc.all.mono hB.size)
  go_wp2
  go_ret
  exact ⟨rfl, hBc⟩

/-- The heap: a cell that holds a slice of lists; the row is the call's own. -/
structure HM (w : World) (B p : Nat) (A : Option Addr) (c : Nat) (H : List Hd) : Prop where
  cell : w.heap[p]? = some (.cells #[.slice A H.length c] 81 (0, 0))
  own : w.ownsRow B 25 1 (.slice A H.length c) H.length (H.map Hd.val)
  ne : (Value.slice A H.length c).ownBlock ≠ some p
  ge : B ≤ p
  rows : ∀ x ∈ H, HdAt w B x

/-- The same memory, whatever was drawn. -/
structure Twin (w' w : World) : Prop where
  heap : w'.heap = w.heap
  os : w'.os = w.os
  tape : w'.tape = w.tape
  output : w'.output = w.output

theorem cell_kept {w : World} {p q : Addr} {x v : Value} (h : w.cell? q = some v) : ∃ v', (w.setCell p x).cell? q = some v' := by
  by_cases e : p = q
  · subst e; exact ⟨x, World.cell?_setCell_same w p x h⟩
  · exact ⟨v, (World.cell?_setCell_other w p q x e).trans h⟩

set_option maxHeartbeats 400000 in
theorem swap_ne (w : World) (g c n i j : Nat) (a b : Option Addr) (n1 c1 n2 c2 : Nat) (hi : i < n) (hj : j < n) (hn : n ≤ 4611686018427387904)
    (ci : w.cell? ⟨g, i, none⟩ = some (.slice a n1 c1)) (cj : w.cell? ⟨g, j, none⟩ = some (.slice b n2 c2)) (fi : w.frozen? ⟨g, i, none⟩ = false) (fj : w.frozen? ⟨g, j, none⟩ = false) :
    Calls Try.prog 112 #[.slice (some ⟨g, 0, none⟩) n c, .int .i64 i, .int .i64 j] w fun e w' =>
      e = .returned (.tuple #[]) ∧ Twin w' ((w.setCell ⟨g, i, none⟩ (.slice b n2 c2)).setCell ⟨g, j, none⟩ (.slice a n1 c1)) := by
  obtain ⟨v', hy'⟩ := cell_kept (w := w) (p := ⟨g, i, none⟩) (x := .slice b n2 c2) (q := ⟨g, j, none⟩) cj
  go_enter Try.func112, Try.ntmps112
  go_region
  all_goals (go_end0; exact ⟨rfl, ⟨rfl, rfl, rfl, rfl⟩⟩)

def OB2 (A : Option Addr) : Nat → Prop := fun k => ∃ a, A = some a ∧ a.block = k

theorem HdAt.keep {w w' : World} {B : Nat} {x : Hd} (h : HdAt w B x) (hk : ∀ k, k < B → w'.heap[k]? = w.heap[k]?) : HdAt w' B x :=
  ⟨h.lt, h.pos, h.le, h.cap, fun i hi => (h.at_ i hi).keep (hk _ h.lt)⟩

theorem HM.row {w : World} {B p c : Nat} {A : Option Addr} {H : List Hd} (h : HM w B p A c H) (h0 : 0 < H.length) : ∃ g, A = some ⟨g, 0, none⟩ ∧ B ≤ g ∧ g ≠ p ∧ g < w.heap.size := by
  have hlt := h.own.lt
  have hne := h.ne
  rcases h.own.2 with ⟨_, h2⟩ | ⟨g, cap, cur, h1, hb, _⟩
  · omega
  · injection h1 with h3 h4 h5
    subst h3
    exact ⟨g, rfl, hb, fun e => hne (by rw [e]; rfl), (hlt g rfl).2⟩
theorem HM.at_ {w : World} {B p c g : Nat} {H : List Hd} (h : HM w B p (some ⟨g, 0, none⟩) c H) {i : Nat} (hi : i < H.length) : w.cell? ⟨g, i, none⟩ = some (H.getD i Hd.none).val := by
  rw [h.own.cellAt i (by omega), List.getElem?_map, List.getElem?_eq_getElem hi, List.getD_eq_getElem?_getD, List.getElem?_eq_getElem hi]
  rfl
theorem HM.bound {w : World} {B p c : Nat} {A : Option Addr} {H : List Hd} (h : HM w B p A c H) : H.length ≤ c ∧ c ≤ maxLen := by
  rcases h.own.2 with ⟨h1, h2⟩ | ⟨g, cap, cur, h1, hb, hg, hn, hm, _⟩
  · injection h1 with h3 h4 h5
    unfold maxLen; omega
  · injection h1 with h3 h4 h5
    omega

theorem HM.twin {w w' : World} {B p c : Nat} {A : Option Addr} {H : List Hd} (h : HM w B p A c H) (ht : Twin w' w) : HM w' B p A c H := by
  obtain ⟨h1, h2, h3, h4, h5⟩ := h
  refine ⟨by rw [ht.heap]; exact h1, ?_, h3, h4, fun x hx => (h5 x hx).keep fun k _ => by rw [ht.heap]⟩
  refine ⟨h2.1, ?_⟩
  rcases h2.2 with h6 | ⟨g, cap, cur, e1, e2, e3, e4⟩
  · exact .inl h6
  · exact .inr ⟨g, cap, cur, e1, e2, by rw [ht.heap]; exact e3, e4⟩

/-- A store into the row. -/
theorem HM.store {w : World} {B p c g : Nat} {H : List Hd} (h : HM w B p (some ⟨g, 0, none⟩) c H) (i : Nat) (x : Hd) (hx : HdAt w B x) :
    HM (w.setCell ⟨g, i, none⟩ x.val) B p (some ⟨g, 0, none⟩) c (H.set i x) ∧ Save (OB2 (some ⟨g, 0, none⟩)) w (w.setCell ⟨g, i, none⟩ x.val) := by
  obtain ⟨h1, h2, h3, h4, h5⟩ := h
  obtain ⟨k1, k2⟩ := h2.stored i x.val
  have hB := (h2.lt g rfl).1
  have hg : g ≠ p := fun e => h3 (by rw [e]; rfl)
  have hlow : ∀ k, k < B → (w.setCell ⟨g, i, none⟩ x.val).heap[k]? = w.heap[k]? := fun k hk => heap_setCell_other w _ k _ (by simp; omega)
  refine ⟨⟨?_, ?_, ?_, h4, ?_⟩, Save.of_grown k2 ⟨_, rfl, rfl⟩⟩
  · rw [heap_setCell_other w _ p _ (by simp; omega), List.length_set]; exact h1
  · rw [List.length_set, List.map_set]; exact k1
  · exact h3
  · intro y hy
    rcases List.mem_or_eq_of_mem_set hy with h6 | rfl
    · exact (h5 y h6).keep hlow
    · exact hx.keep hlow

theorem HM.hd {w : World} {B p c : Nat} {A : Option Addr} {H : List Hd} (h : HM w B p A c H) {i : Nat} (hi : i < H.length) : HdAt w B (H.getD i Hd.none) := by
  rw [List.getD_eq_getElem?_getD, List.getElem?_eq_getElem hi]
  exact h.rows _ (List.getElem_mem hi)

theorem swap_any (w : World) (B p c i j : Nat) (A : Option Addr) (H : List Hd) (h : HM w B p A c H) (hn : H.length ≤ 4611686018427387904) (hi : i < H.length) (hj : j < H.length) :
    Calls Try.prog 112 #[.slice A H.length c, .int .i64 i, .int .i64 j] w fun e w' =>
      e = .returned (.tuple #[]) ∧ HM w' B p A c (Hp.swp Hd.none H i j) ∧ Save (OB2 A) w w' := by
  obtain ⟨g, rfl, hBg, hgp, hgs⟩ := h.row (by omega)
  have hb := h.bound
  unfold maxLen at hb
  have hi' := h.hd hi
  have hj' := h.hd hj
  obtain ⟨h1, s1⟩ := h.store i _ hj'
  obtain ⟨h2, s2⟩ := h1.store j _ (hi'.keep fun k hk => heap_setCell_other w _ k _ (by simp; omega))
  refine (swap_ne w g c H.length i j _ _ _ _ _ _ hi hj (by omega) (h.at_ hi) (h.at_ hj) (h.own.frozenAt i) (h.own.frozenAt j)).mono ?_
  rintro e w' ⟨he, ht⟩
  refine ⟨he, h2.twin ht, ?_⟩
  have s3 := s1.trans s2
  exact ⟨ht.os.trans s3.os, ht.tape.trans s3.tape, ht.output.trans s3.output, by rw [ht.heap]; exact s3.size, fun k hk hs => by rw [ht.heap]; exact s3.block k hk hs⟩
end Go.Proofs.Ythnbpdcjooifbaa
namespace Go.Proofs.Ythnbpdcjooifbaa
open Go.RowKit
set_option linter.unusedSimpArgs false
set_option linter.unusedVariables false

theorem HM.kept {w w' : World} {B p c : Nat} {A : Option Addr} {H : List Hd} (h : HM w B p A c H) (hb : Below w.heap.size w w') : HM w' B p A c H := by
  obtain ⟨h1, h2, h3, h4, h5⟩ := h
  have hp : p < w.heap.size := (Array.getElem?_eq_some_iff.1 h1).1
  refine ⟨(hb.block p hp).trans h1, ?_, h3, h4, fun x hx => (h5 x hx).keep fun k hk => hb.block k (by omega)⟩
  exact h2.kept (row := none) ⟨hb.os, hb.tape, hb.output, hb.size, fun k hk _ => hb.block k hk⟩ (by cases (Value.slice A H.length c).ownBlock <;> simp)

def hpV (p : Nat) : Value := .iface 54 (.pointer (some ⟨p, 0, none⟩))

theorem method_less (p : Nat) (w : World) : (method 228 54 (.pointer (some ⟨p, 0, none⟩)) "Less").run Try.prog w = ((do pure (109, ← loadVar 81 ⟨p, 0, none⟩)) : Sem (FuncId × Value)).run Try.prog w := by
  kernel_rfl
theorem meth_less {p : Nat} {w : World} {A : Option Addr} {n c : Nat} (h : w.cell? ⟨p, 0, none⟩ = some (.slice A n c)) : (method 228 54 (.pointer (some ⟨p, 0, none⟩)) "Less").run Try.prog w = .ok (109, .slice A n c) w := by
  rw [method_less]
  go_simp
theorem method_swap (p : Nat) (w : World) : (method 228 54 (.pointer (some ⟨p, 0, none⟩)) "Swap").run Try.prog w = ((do pure (112, ← loadVar 81 ⟨p, 0, none⟩)) : Sem (FuncId × Value)).run Try.prog w := by
  kernel_rfl
theorem meth_swap {p : Nat} {w : World} {A : Option Addr} {n c : Nat} (h : w.cell? ⟨p, 0, none⟩ = some (.slice A n c)) : (method 228 54 (.pointer (some ⟨p, 0, none⟩)) "Swap").run Try.prog w = .ok (112, .slice A n c) w := by
  rw [method_swap]
  go_simp
theorem method_len (p : Nat) (w : World) : (method 228 54 (.pointer (some ⟨p, 0, none⟩)) "Len").run Try.prog w = ((do pure (39, ← loadVar 81 ⟨p, 0, none⟩)) : Sem (FuncId × Value)).run Try.prog w := by
  kernel_rfl
theorem meth_len {p : Nat} {w : World} {A : Option Addr} {n c : Nat} (h : w.cell? ⟨p, 0, none⟩ = some (.slice A n c)) : (method 228 54 (.pointer (some ⟨p, 0, none⟩)) "Len").run Try.prog w = .ok (39, .slice A n c) w := by
  rw [method_len]
  go_simp

theorem HM.c0 {w : World} {B p c : Nat} {A : Option Addr} {H : List Hd} (h : HM w B p A c H) : w.cell? ⟨p, 0, none⟩ = some (.slice A H.length c) := by
  rw [cell_of_row w p 0 _ _ _ h.cell]; rfl

/-- The heads' order. -/
def hle (x y : Hd) : Prop := ordE x.hd y.hd ≤ 0
theorem hle_refl (x : Hd) : hle x x := by unfold hle; rw [(ord_zero _ _).2 rfl]; exact Int.le_refl _
theorem hle_trans (x y z : Hd) (h : hle x y) (k : hle y z) : hle x z := (ord_trans _ _ _ h k).1
theorem hle_not {x y : Hd} (h : ¬ ordE x.hd y.hd < 0) : hle y x := by unfold hle; rw [ord_turn]; omega

theorem less_hm (w : World) (B p c : Nat) (A : Option Addr) (H : List Hd) (h : HM w B p A c H) (hn : H.length ≤ 4611686018427387904) (i j : Nat) (I J : Int) (hI : I = i) (hJ : J = j) (hi : i < H.length) (hj : j < H.length)
    (b : Bool) (hb : decide (ordE (H.getD i Hd.none).hd (H.getD j Hd.none).hd < 0) = b) :
    Calls Try.prog 109 #[.slice A H.length c, .int .i64 I, .int .i64 J] w fun e w' => e = .returned (.bool b) ∧ HM w' B p A c H ∧ Below w.heap.size w w' := by
  obtain ⟨g, rfl, _⟩ := h.row (by omega)
  subst hI hJ hb
  exact (less_any w B g c H.length i j _ _ hi hj hn (h.at_ hi) (h.at_ hj) (h.hd hi) (h.hd hj)).mono fun e w' ⟨he, hw⟩ => ⟨he, h.kept hw, hw⟩

theorem swap_hm (w : World) (B p c : Nat) (A : Option Addr) (H : List Hd) (h : HM w B p A c H) (hn : H.length ≤ 4611686018427387904) (i j : Nat) (I J : Int) (hI : I = i) (hJ : J = j) (hi : i < H.length) (hj : j < H.length) :
    Calls Try.prog 112 #[.slice A H.length c, .int .i64 I, .int .i64 J] w fun e w' =>
      e = .returned (.tuple #[]) ∧ HM w' B p A c (Hp.swp Hd.none H i j) ∧ Save (OB2 A) w w' := by
  subst hI hJ
  exact swap_any w B p c i j A H h hn hi hj

def HeapTo (w : World) (B p c : Nat) (A : Option Addr) (H : List Hd) (wr : World) : Prop :=
  ∃ H' : List Hd, HM wr B p A c H' ∧ H'.Perm H ∧ Hp.Heap Hd.none hle H' H'.length ∧ Save (OB2 A) w wr
def UpRel (w : World) (B p c : Nat) (A : Option Addr) (H : List Hd) (k : Nat) (wr : World) : Prop :=
  ∃ H' : List Hd, HM wr B p A c H' ∧ k < H'.length ∧ Hp.UpI Hd.none hle H' H'.length k ∧ H'.Perm H ∧ Save (OB2 A) w wr

set_option maxRecDepth 100000 in
theorem up_any (w : World) (B p c j : Nat) (J : Int) (hJ : J = j) (A : Option Addr) (H : List Hd) (h : HM w B p A c H) (hn : H.length ≤ 4611686018427387904) (hj : j < H.length) (hu : Hp.UpI Hd.none hle H H.length j) :
    Calls Try.prog 86 #[hpV p, .int .i64 J] w fun e w' => e = .returned (.tuple #[]) ∧ HeapTo w B p c A H w' := by
  subst hJ
  unfold hpV
  have HN := Lib.hid hn
  clear hn
  go_enter Try.func86, Try.ntmps86
  go_wp2_with fail
  go_loopw [1] (fun i wr => ∃ k : Nat, i = .int .i64 k ∧ UpRel w B p c A H k wr) (fun i _ => (intOf i).toNat)
  case atStart => exact ⟨j, rfl, H, h, hj, hu, .refl _, Save.refl _ _⟩
  case round =>
    obtain ⟨k, rfl, H', hm, hk, hu', hp, hs⟩ := hrel
    have hn' : H'.length ≤ 4611686018427387904 := by rw [hp.length_eq]; exact HN.out
    have HP := Lib.hid hp
    clear hp hu hj h
    have HU := Lib.hid hu'
    clear hu'
    by_cases h0 : k = 0
    · subst h0
      go_wp2_with fail
      go_end0
      exact ⟨rfl, H', hm, HP.out, HU.out.done (.inl rfl), hs⟩
    · obtain ⟨m, rfl⟩ : ∃ m, k = m + 1 := ⟨k - 1, by omega⟩
      clear h0
      have hm1 : m < 4611686018427387904 := by omega
      have hneq : ((m : Int) / 2 == (m : Int) + 1) = false := by simp; omega
      have c1 := meth_less hm.c0
      by_cases hlt : ordE (H'.getD (m + 1) Hd.none).hd (H'.getD (m / 2) Hd.none).hd < 0
      · have HL := Lib.hid hlt
        clear hlt
        go_wp2_with fail
        refine (less_hm wr B p c A H' hm hn' (m + 1) (m / 2) _ _ (by omega) (by omega) hk (by omega) true (decide_eq_true HL.out)).mono ?_
        rintro e w1 ⟨rfl, hm1', hb1⟩
        clear c1
        have c2 := meth_swap hm1'.c0
        go_wp2_with fail
        refine (swap_hm w1 B p c A H' hm1' hn' (m / 2) (m + 1) _ _ (by omega) (by omega) (by omega) hk).mono ?_
        rintro e w2 ⟨rfl, hm2, hs2⟩
        clear c2
        go_wp2_with fail
        go_roundw
        case rel =>
          refine ⟨m / 2, by go_num, _, hm2, by rw [Hp.swp_length]; omega, ?_, (Hp.swp_perm _ _ _ _ (by omega) hk).trans HP.out, (hs.trans (Save.of_below hb1)).trans hs2⟩
          rw [Hp.swp_length]
          have := HU.out.step hle_trans (Nat.le_refl _) hk (Nat.succ_pos _) (by have := HL.out; unfold hle; show ordE (H'.getD (m + 1) Hd.none).hd (H'.getD (m / 2) Hd.none).hd ≤ 0; omega)
          exact this
        case measure => simp [intOf]; omega
      · have HL := Lib.hid hlt
        clear hlt
        go_wp2_with fail
        refine (less_hm wr B p c A H' hm hn' (m + 1) (m / 2) _ _ (by omega) (by omega) hk (by omega) false (decide_eq_false (Int.not_lt.2 HL.out))).mono ?_
        rintro e w1 ⟨rfl, hm1', hb1⟩
        clear c1
        go_wp2_with fail
        go_end0
        exact ⟨rfl, H', hm1', HP.out, HU.out.done (.inr (hle_not (Int.not_lt.2 HL.out))), hs.trans (Save.of_below hb1)⟩
end Go.Proofs.Ythnbpdcjooifbaa
