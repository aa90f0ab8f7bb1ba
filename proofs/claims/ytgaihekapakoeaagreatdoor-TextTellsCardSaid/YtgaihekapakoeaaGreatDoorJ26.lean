/-       -/
import Derived.Test.YtgaihekapakoeaaGreatDoorJ9
import Derived.Laws.AppendOwn
import Derived.OwnWalk
import Derived.Laws.OwnMore
import Derived.Test.YtgaihekapakoeaaGreatDoorJ19
import Derived.Lib.SmallJoins
namespace Go.Proofs.YtgaihekapakoeaaGreatDoor
open Go.RowKit
set_option linter.unusedSimpArgs false
set_option linter.unusedVariables false
set_option maxRecDepth 100000

def allF : Nat → List Int → List In × Nat
 | 0, _ => ([], 0)
 | f + 1, l => match ofI l with
  | none => ([], 0)
  | some y => (y :: (allF f (l.drop y.n.toNat)).1, y.n.toNat + (allF f (l.drop y.n.toNat)).2)
def allI (l : List Int) : List In × Nat := allF (l.length + 1) l

theorem allF_more : ∀ (f g : Nat) (l : List Int), AllB l → l.length < f → l.length < g → allF f l = allF g l := by
 intro f
 induction f with
 | zero => intro g l _ h; omega
 | succ f ih =>
  intro g l hb h1 h2
  cases g with
  | zero => omega
  | succ g =>
   unfold allF
   cases h : ofI l with
   | none => rfl
   | some y =>
    have hg := of_got hb h
    have hn : 1 ≤ y.n.toNat := by have := hg.low; omega
    have hl := hg.len
    simp only
    rw [ih g (l.drop y.n.toNat) (hb.drop _) (by rw [List.length_drop]; omega) (by rw [List.length_drop]; omega)]
theorem allI_none {l : List Int} (h : ofI l = none) : allI l = ([], 0) := by
 unfold allI allF
 rw [h]
theorem allI_some {l : List Int} (hb : AllB l) {y : In} (h : ofI l = some y) : allI l = (y :: (allI (l.drop y.n.toNat)).1, y.n.toNat + (allI (l.drop y.n.toNat)).2) := by
 have hg := of_got hb h
 have hn : 1 ≤ y.n.toNat := by have := hg.low; omega
 have hl := hg.len
 have e : allF l.length (l.drop y.n.toNat) = allI (l.drop y.n.toNat) := allF_more _ _ _ (hb.drop _) (by rw [List.length_drop]; omega) (by omega)
 conv => lhs; unfold allI allF
 rw [h]
 simp only
 rw [e]
theorem ofI_short {l : List Int} (hb : AllB l) (h : ofI l = none) : l.length ≤ 3 := by
 by_cases h4 : l.length ≤ 3
 ·exact h4
 ·exfalso
  obtain ⟨a0, a1⟩ := hb.getD 0
  obtain ⟨b0, b1⟩ := hb.getD 1
  obtain ⟨d0, d1⟩ := hb.getD 3
  have hk : (headL (l.getD 0 0) (l.getD 1 0)).at_ ≤ 3 ∧ isOneI (headL (l.getD 0 0) (l.getD 1 0)).s (headL (l.getD 0 0) (l.getD 1 0)).x (l.getD (headL (l.getD 0 0) (l.getD 1 0)).at_ 0) = true := by
   generalize hA : l.getD 0 0 = a at *
   generalize hB : l.getD 1 0 = b at *
   generalize hD : l.getD 3 0 = d at *
   unfold headL
   by_cases c1 : a = 203
   ·rw [if_pos c1]
    refine ⟨by decide, ?_⟩
    show isOneI 1 0 (l.getD 1 0) = true
    rw [hB]; unfold isOneI; rw [isB b0 b1]; rfl
   ·rw [if_neg c1]
    by_cases c3 : a = 237
    ·rw [if_pos c3]
     refine ⟨by decide, ?_⟩
     show isOneI 2 0 (l.getD 1 0) = true
     rw [hB]; unfold isOneI; rw [isB b0 b1]; rfl
    ·rw [if_neg c3]
     by_cases c5 : idxB a = 0 ∨ loneB b = true
     ·rw [if_pos c5]
      refine ⟨by decide, ?_⟩
      show isOneI 0 0 (l.getD 0 0) = true
      rw [hA]; unfold isOneI; rw [isB a0 a1]; simp [c1, c3]
     ·rw [if_neg c5]
      have c6 : ¬ idxB a = 0 := fun h => c5 (.inl h)
      have c7 : loneB b = false := by cases hl : loneB b; rfl; exact absurd (.inr hl) c5
      have hx : idxB a = 1 ∨ idxB a = 2 := by rcases idx_cases c6 with ⟨_, hx⟩ | ⟨_, hx⟩ <;> omega
      generalize idxB a = x at *
      by_cases c8 : b = 203
      ·rw [if_pos c8]
       refine ⟨Nat.le_refl 3, ?_⟩
       show isOneI 3 x (l.getD 3 0) = true
       rw [hD]; exact (nd3 hx d0 d1).1
      ·rw [if_neg c8]
       refine ⟨show 1 ≤ 3 by decide, ?_⟩
       show isOneI 0 x (l.getD 1 0) = true
       rw [hB]; unfold isOneI
       rw [isB b0 b1, if_pos rfl, if_pos hx, c7]
       simp [c8]
  obtain ⟨h1, h2⟩ := hk
  have h3 := lenI_four h2
  have e : (of0 l).len = lenI (headL (l.getD 0 0) (l.getD 1 0)).s (headL (l.getD 0 0) (l.getD 1 0)).x (l.getD (headL (l.getD 0 0) (l.getD 1 0)).at_ 0) := rfl
  rw [← e] at h3
  unfold ofI at h
  rw [if_neg (by omega), if_neg (by omega)] at h
  cases h
theorem allI_left : ∀ (k : Nat) (l : List Int), l.length ≤ k → AllB l → (allI l).2 ≤ l.length ∧ l.length - (allI l).2 ≤ 3 ∧ (allI l).1.length ≤ l.length := by
 intro k
 induction k with
 | zero =>
  intro l hl hb
  have : l = [] := List.eq_nil_of_length_eq_zero (by omega)
  subst this
  decide
 | succ k ih =>
  intro l hl hb
  cases h : ofI l with
  | none => rw [allI_none h]; have := ofI_short hb h; simp; omega
  | some y =>
   have hg := of_got hb h
   have hn : 1 ≤ y.n.toNat := by have := hg.low; omega
   have hll := hg.len
   rw [allI_some hb h]
   have := ih (l.drop y.n.toNat) (by rw [List.length_drop]; omega) (hb.drop _)
   rw [List.length_drop] at this
   simp only [List.length_cons]
   omega

def inC (i : In) : List Value := [.int .i64 i.s, .int .i64 i.x, .int .i64 i.o, .int .i64 i.d, .int .i64 i.m, .int .i64 i.n]
def rowI (M : List In) : List Value := M.flatMap inC
theorem rowI_len (M : List In) : (rowI M).length = M.length * 6 := by
 induction M with
 | nil => rfl
 | cons x t ih => simp only [rowI, List.flatMap_cons, List.length_append, List.length_cons] at *; rw [ih]; simp [inC]; omega
theorem rowI_one {M : List In} : ∀ u ∈ rowI M, u.oneCell' = true := by
 intro u hu
 obtain ⟨x, _, hx⟩ := List.mem_flatMap.1 hu
 simp only [inC, List.mem_cons, List.mem_nil_iff, or_false] at hx
 rcases hx with rfl | rfl | rfl | rfl | rfl | rfl <;> rfl
theorem rowI_get : ∀ (l : List In) (i j : Nat), i < l.length → j < 6 → (rowI l)[i * 6 + j]? = (inC (l.getD i zeroI))[j]? := by
 intro l
 induction l with
 | nil => intro i j h _; simp at h
 | cons x t ih =>
  intro i j h hj
  have hc : (inC x).length = 6 := rfl
  unfold rowI at ih ⊢
  rw [List.flatMap_cons]
  cases i with
  | zero => rw [List.getElem?_append_left (by rw [hc]; omega)]; simp
  | succ i =>
   rw [List.getElem?_append_right (by rw [hc]; omega), hc, show (i + 1) * 6 + j - 6 = i * 6 + j by omega, ih i j (by simpa using h) hj]
   simp
theorem info_ins : (Tryz.prog.info? 23).map (fun i => (i.zero, i.size, i.bytes)) = some (some (.agg #[.int .i64 0, .int .i64 0, .int .i64 0, .int .i64 0, .int .i64 0, .int .i64 0]), 6, 48) := by kernel_rfl

structure InAt (w : World) (b o : Nat) (i : In) : Prop where
 c0 : w.cell? ⟨b, o, none⟩ = some (.int .i64 i.s)
 c1 : w.cell? ⟨b, o + 1, none⟩ = some (.int .i64 i.x)
 c2 : w.cell? ⟨b, o + 2, none⟩ = some (.int .i64 i.o)
 c3 : w.cell? ⟨b, o + 3, none⟩ = some (.int .i64 i.d)
 c4 : w.cell? ⟨b, o + 4, none⟩ = some (.int .i64 i.m)
 c5 : w.cell? ⟨b, o + 5, none⟩ = some (.int .i64 i.n)
theorem InAt.keep {w w' : World} {b o : Nat} {x : In} (h : InAt w b o x) (hk : w'.heap[b]? = w.heap[b]?) : InAt w' b o x := by
 have e : ∀ i, w'.cell? ⟨b, i, none⟩ = w.cell? ⟨b, i, none⟩ := fun i => World.cell?_of_block hk
 exact ⟨(e _).trans h.c0, (e _).trans h.c1, (e _).trans h.c2, (e _).trans h.c3, (e _).trans h.c4, (e _).trans h.c5⟩
structure IL (w : World) (B : Nat) (A : Option Addr) (c : Nat) (M : List In) : Prop where
 le : M.length ≤ c
 cap : c ≤ maxLen
 at_ : 0 < M.length → ∃ b o, A = some ⟨b, o, Option.none⟩ ∧ b < B ∧ ∀ i, i < M.length → InAt w b (o + i * 6) (M.getD i zeroI)
theorem IL.keep {w w' : World} {B : Nat} {A : Option Addr} {c : Nat} {M : List In} (h : IL w B A c M) (hk : ∀ k, k < B → w'.heap[k]? = w.heap[k]?) : IL w' B A c M :=
 ⟨h.le, h.cap, fun h0 => by
  obtain ⟨b, o, h1, h2, h3⟩ := h.at_ h0
  exact ⟨b, o, h1, h2, fun i hi => (h3 i hi).keep (hk _ h2)⟩⟩
theorem IL.below {w w' : World} {B : Nat} {A : Option Addr} {c : Nat} {M : List In} (h : IL w B A c M) (hb : Below B w w') : IL w' B A c M := h.keep fun k hk => hb.block k hk
theorem IL.more {w : World} {B B' : Nat} {A : Option Addr} {c : Nat} {M : List In} (h : IL w B A c M) (hB : B ≤ B') : IL w B' A c M :=
 ⟨h.le, h.cap, fun h0 => by
  obtain ⟨b, o, h1, h2, h3⟩ := h.at_ h0
  exact ⟨b, o, h1, by omega, h3⟩⟩
theorem IL.own {w : World} {base c : Nat} {A : Option Addr} {M : List In} (h : w.ownsRow base 23 6 (.slice A M.length c) M.length (rowI M)) : IL w w.heap.size A c M := by
 rcases h.2 with ⟨h1, h2⟩ | ⟨g, cap, cur, h1, hb, hg, hn, hm, hs⟩
 ·injection h1 with h3 h4 h5
  exact ⟨by omega, by subst h5; unfold maxLen; omega, fun h0 => absurd h0 (by omega)⟩
 ·injection h1 with h3 h4 h5
  subst h3
  have hlt := (h.lt g rfl).2
  refine ⟨by omega, by omega, fun h0 => ⟨g, 0, rfl, hlt, fun i hi => ?_⟩⟩
  have e : ∀ j, j < 6 → w.cell? ⟨g, 0 + i * 6 + j, none⟩ = (inC (M.getD i zeroI))[j]? := fun j hj => by
   rw [h.cellAt _ (by omega), Nat.zero_add, rowI_get M i j hi hj]
  exact ⟨e 0 (by decide), e 1 (by decide), e 2 (by decide), e 3 (by decide), e 4 (by decide), e 5 (by decide)⟩
theorem wpList_append_ins {w : World} {ops : Array Oper} {rest : List Oper} {o : Oper} {a : Act} {Q : Exit → Act → World → Prop} (hg : o.guard = none) (s x : Operand) (t : TypeId)
  (hop : o.op = Op.call { callee := Callee.builtin Builtin.append, args := #[s, x], argTypes := #[t, t] }) (h1 : Tryz.prog.underlying t = some (.slice 23))
  (base : Nat) (v : Value) (M : List In) (hs : a.eval s = v) (hown : w.ownsRow base 23 6 v M.length (rowI M)) (g : Nat) (y : In) (hx : a.eval x = .slice (some ⟨g, 0, none⟩) 1 1) (hy : InW w g y)
  (b1 : M.length ≤ 1000000) (hbase : base ≤ w.heap.size)
  (hK : ∀ v' w', w'.ownsRow base 23 6 v' (M ++ [y]).length (rowI (M ++ [y])) → w.grownBy w' v.ownBlock → wpList Tryz.prog ops Q rest (a.put o.dst v') w') :
  wpList Tryz.prog ops Q (o :: rest) a w := by
 obtain ⟨i0, hi, hz0, hz1, hz2⟩ := info_parts info_ins
 have hr : rowI (M ++ [y]) = rowI M ++ rowI [y] := by unfold rowI; rw [List.flatMap_append]
 have hc : ∀ j u, (rowI [y])[j]? = some u → w.cell? ((⟨g, 0, none⟩ : Addr).add j) = some u := by
  intro j u hu
  have hj : j < 6 := by
   have := (List.getElem?_eq_some_iff.1 hu).1
   rwa [rowI_len] at this
  have hadd : (⟨g, 0, none⟩ : Addr).add j = ⟨g, j, none⟩ := by unfold Addr.add; split <;> simp_all
  rw [hadd]
  have hu2 : y.cells[j]? = some u := by
   have : (rowI [y])[j]? = y.cells[j]? := by unfold rowI In.cells; simp [inC]
   rw [← this]; exact hu
  exact InW.at_ hy j u hu2
 refine wpList_append_own w hg s x t hop base 23 i0 _ 6 48 h1 hi hz0 hz1 hz2 rfl (by decide) v M.length (rowI M) hs hown ⟨g, 0, none⟩ 1 1 (rowI [y]) hx (rowI_len _) hc rowI_one (by unfold maxLen; omega) (by omega) hbase ?_
 intro v' w' q1 q2 _
 refine hK v' w' ?_ q2
 rw [hr, List.length_append]
 exact q1
end Go.Proofs.YtgaihekapakoeaaGreatDoor
namespace Go.Proofs.YtgaihekapakoeaaGreatDoor
open Go.RowKit
set_option linter.unusedSimpArgs false
set_option linter.unusedVariables false
set_option maxRecDepth 100000

theorem RB.tail {w : World} {B b off c : Nat} {l : List Int} (h : RB w B (some ⟨b, off, none⟩) c l) (p : Nat) (hp : p ≤ l.length) :
  RB w B (if l.length = p then some ⟨b, off, none⟩ else some ⟨b, off + p, none⟩) (l.length - p) (l.drop p) := by
 have hcap := h.cap
 have hle := h.le
 have hlen : (l.drop p).length = l.length - p := List.length_drop
 by_cases he : l.length = p
 ·rw [if_pos he]
  have : l.drop p = [] := List.eq_nil_of_length_eq_zero (by omega)
  rw [this]
  exact RB.empty w B ⟨b, off, none⟩ _ (by omega)
 ·rw [if_neg he]
  have := h.sub p (l.length - p) (by omega)
  rw [List.take_of_length_le (by omega)] at this
  refine ⟨by omega, by omega, this.bytes, ?_⟩
  rcases this.at_ with ⟨h1, _⟩ | h1
  ·cases h1
  ·exact .inr h1
theorem own_shape {w : World} {base : Nat} {v : Value} {M : List In} (h : w.ownsRow base 23 6 v M.length (rowI M)) : ∃ A c, v = .slice A M.length c := by
 rcases h.2 with ⟨h1, h2⟩ | ⟨g, cap, cur, h1, _⟩
 ·exact ⟨none, 0, by rw [h1, h2]⟩
 ·exact ⟨_, _, h1⟩
theorem OB.addr {w : World} {B c : Nat} {A : Option Addr} {l : List Int} (h : OB w B A c l) : (A = none ∧ c = 0 ∧ l = []) ∨ ∃ g, A = some ⟨g, 0, none⟩ := by
 rcases h.own.2 with ⟨h1, h2⟩ | ⟨g, cap, cur, h1, _⟩
 ·injection h1 with h3 h4 h5
  exact .inl ⟨h3, h5, List.eq_nil_of_length_eq_zero h2⟩
 ·injection h1 with h3 h4 h5
  exact .inr ⟨g, h3⟩

def AllTo (w : World) (l : List Int) (e : Ending) (w' : World) : Prop :=
 (∃ A c, e = .returned (.tuple #[.slice A (allI l).1.length c, .int .i64 ((allI l).2 : Nat)]) ∧ w'.ownsRow w.heap.size 23 6 (.slice A (allI l).1.length c) (allI l).1.length (rowI (allI l).1)) ∧ Below w.heap.size w w'

set_option maxHeartbeats 8000000 in
theorem c9_all_nil (w : World) : Calls Tryz.prog 40 #[.slice none 0 0] w (AllTo w []) := by
 have hO := fun (w : World) => c9_of none 0 0 [] w rfl (RB.nil _ _)
 rw [show ofV [] = zeroI from by decide +kernel, show ofE [] = 5 from by decide +kernel] at hO
 rw [in_val] at hO
 have HO := Lib.hid hO
 clear hO
 unfold AllTo
 rw [show allI [] = ([], 0) from by decide +kernel]
 go_enter Tryz.func40, Tryz.ntmps40
 go_wp2_with fail
 go_loopw [2, 3] (fun v n wr => v = .slice none 0 0 ∧ n = .int .i64 0 ∧ Below w.heap.size w wr) (fun _ _ _ => 0)
 case atStart => exact ⟨rfl, rfl, Below.refl _ _⟩
 case round =>
  obtain ⟨rfl, rfl, hb⟩ := hrel
  go_wp2_with fail
  refine (HO.out _).mono ?_
  rintro e w2 ⟨rfl, hb2⟩
  have hB := hb.trans (hb2.mono hb.size)
  clear hb hb2
  go_wp2_with fail
  go_ret2
  exact ⟨⟨none, 0, rfl, World.ownsRow_nil _ _ _ _⟩, hB.alloc hB.size _⟩

set_option maxHeartbeats 16000000 in
theorem c9_all (b off c n : Nat) (l : List Int) (w : World) (hn : n = l.length) (h : RB w w.heap.size (some ⟨b, off, none⟩) c l) (hl : l.length ≤ 500) : Calls Tryz.prog 40 #[.slice (some ⟨b, off, none⟩) n c] w (AllTo w l) := by
 subst hn
 have hby := h.bytes
 have hcap := h.cap
 have hle := h.le
 unfold maxLen at hcap
 have HH := Lib.hid h
 unfold AllTo
 obtain ⟨R, hR⟩ : ∃ R, allI l = R := ⟨_, rfl⟩
 rw [hR]
 have HR := Lib.hid hR
 clear hR h
 go_enter Tryz.func40, Tryz.ntmps40
 go_wp2_with fail
 go_loopw [2, 3] (fun v n wr => ∃ (M : List In) (p : Nat), n = .int .i64 p ∧ wr.ownsRow w.heap.size 23 6 v M.length (rowI M) ∧ p ≤ l.length ∧ M.length ≤ p ∧ R = (M ++ (allI (l.drop p)).1, p + (allI (l.drop p)).2) ∧ Below w.heap.size w wr) (fun _ n _ => l.length - (intOf n).toNat)
 case atStart => exact ⟨[], 0, rfl, World.ownsRow_nil _ _ _ _, by omega, by simp, by rw [List.drop_zero, HR.out]; simp, Below.refl _ _⟩
 case round =>
  obtain ⟨M, p, rfl, ho, hp, hMp, hRp, hb⟩ := hrel
  obtain ⟨A0, c0, rfl⟩ := own_shape ho
  have HO := Lib.hid ho
  by_cases he : l.length = p
  ·subst he
   have h0 : l.drop l.length = [] := List.drop_length
   rw [h0, show allI [] = ([], 0) from by decide +kernel] at hRp
   have hq := c9_of (some ⟨b, off, none⟩) 0 0 [] wr rfl (RB.empty wr _ _ 0 (Nat.zero_le _))
   rw [show ofV [] = zeroI from by decide +kernel, show ofE [] = 5 from by decide +kernel] at hq
   rw [in_val] at hq
   have HQ := Lib.hid hq
   have HRp := Lib.hid hRp
   clear hq hRp ho h0
   go_wp2_with fail
   refine HQ.out.mono ?_
   rintro e w2 ⟨rfl, hb2⟩
   have ho2 := HO.out.kept (w' := w2) (row := none) ⟨hb2.os, hb2.tape, hb2.output, hb2.size, fun i hi _ => hb2.block i hi⟩ (by cases hv : (Value.slice A0 M.length c0).ownBlock <;> simp)
   have hB2 := hb.trans (hb2.mono hb.size)
   clear hb hb2 HQ HO
   have HO2 := Lib.hid (ho2.alloc (inO zeroI))
   clear ho2
   go_wp2_with fail
   go_ret2
   rw [HRp.out]
   simp only [List.append_nil, Nat.add_zero]
   exact ⟨⟨A0, c0, rfl, HO2.out⟩, hB2.alloc hB2.size _⟩
  ·have ht := (HH.out.below hb).tail p hp
   rw [if_neg he] at ht
   have hlm : (l.drop p).length = l.length - p := List.length_drop
   have HRp := Lib.hid hRp
   have hq := c9_of (some ⟨b, off + p, none⟩) (l.length - p) (l.length - p) (l.drop p) wr hlm.symm (ht.more hb.size)
   have hbd := hby.drop p
   have HC := Lib.hid (ofE_cases (l.drop p))
   have HG := Lib.hid (fun (y : In) (hy : ofI (l.drop p) = some y) => of_got hbd hy)
   have HS := Lib.hid (fun (y : In) (hy : ofI (l.drop p) = some y) => allI_some hbd hy)
   have HNo := Lib.hid (fun (hy : ofI (l.drop p) = none) => allI_none hy)
   obtain ⟨X, hX⟩ : ∃ X, ofV (l.drop p) = X := ⟨_, rfl⟩
   obtain ⟨E, hE⟩ : ∃ E, ofE (l.drop p) = E := ⟨_, rfl⟩
   rw [hX, hE] at HC hq
   rw [in_val] at hq
   have HQ := Lib.hid hq
   have HLm := Lib.hid hlm
   clear hq ht hRp hX hE hbd hlm ho
   go_wp2_with fail
   refine HQ.out.mono ?_
   rintro e w2 ⟨rfl, hb2⟩
   have ho2 := HO.out.kept (w' := w2) (row := none) ⟨hb2.os, hb2.tape, hb2.output, hb2.size, fun i hi _ => hb2.block i hi⟩ (by cases hv : (Value.slice A0 M.length c0).ownBlock <;> simp)
   have hB2 := hb.trans (hb2.mono hb.size)
   clear hb hb2 HQ HO
   obtain ⟨w3, hw3⟩ : ∃ w3, w2.alloc (inO X) = w3 := ⟨_, rfl⟩
   obtain ⟨N, hN⟩ : ∃ N, w2.heap.size = N := ⟨_, rfl⟩
   have hX3 : InW w3 N X := by rw [← hw3, ← hN]; exact InW.laid w2 X
   have ho3 : w3.ownsRow w.heap.size 23 6 (.slice A0 M.length c0) M.length (rowI M) := hw3 ▸ ho2.alloc (inO X)
   have hB3 : Below w.heap.size w w3 := hw3 ▸ hB2.alloc hB2.size _
   have hnb : some N ≠ (Value.slice A0 M.length c0).ownBlock := fun e => absurd (ho2.lt _ e.symm).2 (by omega)
   have hNw : w.heap.size ≤ N := hN ▸ hB2.size
   unfold inO at hw3
   clear ho2 hB2
   have HO3 := Lib.hid ho3
   have HNB := Lib.hid hnb
   clear ho3 hnb
   rcases HC.out with ⟨y, hy, rfl, rfl⟩ | ⟨hy, rfl⟩
   ·have hS := HS.out _ hy
    have hg := HG.out _ hy
    obtain ⟨k, hk, k1, k2, k3, -⟩ := hg.nat
    rw [HLm.out] at k3
    have hR2 : R = ((M ++ [X]) ++ (allI (l.drop (p + k))).1, (p + k) + (allI (l.drop (p + k))).2) := by
     rw [HRp.out, hS, hk, Int.toNat_natCast, List.drop_drop]
     simp [Nat.add_assoc, Nat.add_comm k p]
    have HR2 := Lib.hid hR2
    have HK := Lib.hid hk
    clear hS hg hk hR2 HC HG HS HNo hy
    have g0 := hX3.gs
    have g1 := hX3.gx
    have g2 := hX3.go
    have g3 := hX3.gd
    have g4 := hX3.gm
    have g5 := hX3.gn
    have hX4 := Lib.hid (InW.laid w3 X)
    have HX3 := Lib.hid hX3
    clear hX3
    go_wp2_with (at_builtin; refine wpList_append_ins rfl _ _ 44 rfl Tryz.underlying44 w.heap.size _ M rfl (HO3.out.alloc _) w3.heap.size X rfl hX4.out (by omega) (by simp; have := hB3.size; omega) ?_; intro v5 w5 ho5 hg5; have h55 := (World.cell?_of_block (a := ⟨N, 5, none⟩) (hg5.block N (by have := HX3.out.lt; simp; omega) HNB.out)).trans ((((Below.refl w3.heap.size w3).alloc (Nat.le_refl _) (inO X)).cell (p := ⟨N, 5, none⟩) HX3.out.lt).trans g5); rw [HK.out] at h55)
    have hB5 := (hB3.alloc hB3.size (inO X)).grown hg5 (by have := hB3.size; simp; omega) (fun q hq => (HO3.out.lt q hq).1)
    clear g0 g1 g2 g3 g4 g5
    go_roundw
    case rel => exact ⟨M ++ [X], p + k, by go_num, ho5, by omega, by simp; omega, HR2.out, hB5⟩
    case measure => simp [intOf]; omega
   ·have hS := HNo.out hy
    have hR2 : R = (M, p) := by rw [HRp.out, hS]; simp
    clear hS HC HG HS HNo hy HRp
    go_wp2_with fail
    go_ret2
    rw [hR2]
    exact ⟨⟨A0, c0, rfl, HO3.out⟩, hB3⟩
end Go.Proofs.YtgaihekapakoeaaGreatDoor
namespace Go.Proofs.YtgaihekapakoeaaGreatDoor
open Go.RowKit
set_option linter.unusedVariables false
set_option linter.unusedSimpArgs false
set_option maxRecDepth 100000

def rowT (ws : List (List UInt8)) : List Value := ws.map fun l => Value.string ⟨l.toArray⟩
theorem info_text : (Tryz.prog.info? 9).map (fun i => (i.zero, i.size, i.bytes)) = some (some (.string ⟨#[]⟩), 1, 16) := by kernel_rfl
theorem new_text (w : World) (v : Value) (t : TypeId) : ∀ j u, [v][j]? = some u → (w.alloc (.cells #[v] t)).cell? ((⟨w.heap.size, 0, none⟩ : Addr).add j) = some u := by
 intro j u hu
 cases j with
 | zero =>
  obtain rfl : v = u := by simpa using hu
  show (w.alloc (.cells #[v] t)).cell? ⟨w.heap.size, 0, none⟩ = some v
  rw [World.cell?_alloc_at _ _ _ _ rfl]
  first | done | rfl
 | succ j => simp at hu
theorem take_next {Z : List In} {j : Nat} (hj : j < Z.length) : Z.take (j + 1) = Z.take j ++ [Z.getD j zeroI] := by
 rw [List.take_succ_eq_append_getElem hj]
 simp [List.getD_eq_getElem?_getD, hj]

theorem allI_wf : ∀ (k : Nat) (l : List Int), l.length ≤ k → AllB l → ∀ y ∈ (allI l).1, y.Wf ∧ y.may = true := by
 intro k
 induction k with
 | zero =>
  intro l hl hb y hy
  have : l = [] := List.eq_nil_of_length_eq_zero (by omega)
  subst this
  rw [show allI [] = ([], 0) from by decide +kernel] at hy
  cases hy
 | succ k ih =>
  intro l hl hb y hy
  cases h : ofI l with
  | none => rw [allI_none h] at hy; cases hy
  | some z =>
   have hg := of_got hb h
   have hn : 1 ≤ z.n.toNat := by have := hg.low; omega
   have hll := hg.len
   rw [allI_some hb h] at hy
   rcases List.mem_cons.1 hy with rfl | hy
   ·exact ⟨hg.wf, hg.may⟩
   ·exact ih _ (by rw [List.length_drop]; omega) (hb.drop _) y hy

def ListT (w : World) (l : List Int) (e : Ending) (w' : World) : Prop :=
 (∃ v, e = .returned (.tuple #[v, .int .i64 ((allI l).2 : Nat)]) ∧ w'.ownsRow w.heap.size 9 1 v (allI l).1.length (rowT ((allI l).1.map ofTx))) ∧ Below w.heap.size w w'

set_option maxHeartbeats 8000000 in
theorem list_any (l : List Int) (A : Option Addr) (c n : Nat) (w : World) (hby : AllB l) (hl : l.length ≤ 500) (hV : VT w w.heap.size)
  (hA : Calls Tryz.prog 40 #[.slice A n c] w (AllTo w l)) : Calls Tryz.prog 15 #[.slice A n c] w (ListT w l) := by
 obtain ⟨i1, hi, hz0, hz1, hz2⟩ := info_parts info_text
 have hwf := allI_wf _ l (Nat.le_refl _) hby
 obtain ⟨q1, q2, q3⟩ := allI_left _ l (Nat.le_refl _) hby
 unfold ListT
 unfold AllTo at hA
 generalize (allI l).1 = Z at *
 generalize (allI l).2 = q at *
 have HA := Lib.hid hA
 have HV := Lib.hid hV
 clear hA hV
 go_enter Tryz.func15, Tryz.ntmps15
 go_wp2_with fail
 refine (HA.out).mono ?_
 rintro e w3 ⟨⟨A3, c3, rfl, ho3⟩, hB3⟩
 have hIL := IL.own ho3
 have hV3 := HV.out.below hB3
 have HB3 := Lib.hid hB3
 have HIL := Lib.hid hIL
 have HV3 := Lib.hid (hV3.mono hB3.size)
 have HW := Lib.hid hwf
 clear hV3 hB3 hIL ho3 hwf HA
 have hz : Z.length ≤ 500 := by omega
 have hW3 := HB3.out.size
 go_wp2_with fail
 go_loopw [2, 16] (fun v i wr => ∃ j : Nat, i = .int .i64 j ∧ j ≤ Z.length ∧ wr.ownsRow w3.heap.size 9 1 v j (rowT ((Z.take j).map ofTx)) ∧ Below w3.heap.size w3 wr) (fun _ i _ => Z.length - (intOf i).toNat)
 case atStart => exact ⟨0, rfl, by omega, World.ownsRow_nil _ _ _ _, Below.refl _ _⟩
 case round =>
  obtain ⟨j, rfl, hjl, ho, hb⟩ := hrel
  by_cases hj : j < Z.length
  ·obtain ⟨y, hy⟩ : ∃ y, Z.getD j zeroI = y := ⟨_, rfl⟩
   have hn := take_next hj
   rw [hy] at hn
   have hyw : y.Wf := (HW.out y (by rw [← hy, List.getD_eq_getElem?_getD, List.getElem?_eq_getElem hj]; exact List.getElem_mem hj)).1
   obtain ⟨b3, o3, rfl, hb3, hat⟩ := HIL.out.at_ (by omega)
   have hu := (hat j hj).keep (hb.block b3 hb3)
   rw [hy] at hu
   obtain ⟨d0, d1, d2, d3, d4, d5⟩ := hu
   have hVr := (HV3.out.below hb).mono hb.size
   have hO := fun w' hv => of_any y hyw w' hv
   rw [in_val] at hO
   have HO := Lib.hid hO
   clear hO
   have HN := Lib.hid hn
   have HR := Lib.hid ho
   have HB := Lib.hid hb
   have HVr := Lib.hid hVr
   clear hn hy hat hyw ho hb hVr
   go_wp2_with fail
   obtain ⟨wa, hwa⟩ : ∃ wa, wr.alloc (.cells #[.int .i64 y.s, .int .i64 y.x, .int .i64 y.o, .int .i64 y.d, .int .i64 y.m, .int .i64 y.n] 23) = wa := ⟨_, rfl⟩
   have hba : Below wr.heap.size wr wa := hwa ▸ (Below.refl _ _).alloc (Nat.le_refl _) _
   have hVa : VT wa wa.heap.size := (HVr.out.below hba).mono hba.size
   have hoa : wa.ownsRow w3.heap.size 9 1 u2 j (rowT ((Z.take j).map ofTx)) := hwa ▸ HR.out.alloc _
   have hBa : Below w3.heap.size w3 wa := HB.out.trans (hba.mono HB.out.size)
   rw [hwa]
   refine (HO.out wa hVa).mono ?_
   rintro e w5 ⟨rfl, hb5⟩
   have ho5 := hoa.kept (w' := w5) (row := none) ⟨hb5.os, hb5.tape, hb5.output, hb5.size, fun i hi _ => hb5.block i hi⟩ (by cases hv : u2.ownBlock <;> simp)
   have hB5 := hBa.trans (hb5.mono hBa.size)
   have hS5 := hB5.size
   have HO5 := Lib.hid ho5
   have HB5 := Lib.hid hB5
   obtain ⟨T, hT⟩ : ∃ T, ofTx y = T := ⟨_, rfl⟩
   rw [hT]
   have HT := Lib.hid hT
   clear hT hb5 ho5 hB5 hoa hBa hVa hba hwa d0 d1 d2 d3 d4 d5
   go_wp2_with (at_builtin; refine wpList_append_own _ rfl (.tmp 25) (.tmp 27) 30 rfl w3.heap.size 9 i1 (.string ⟨#[]⟩) 1 16 Tryz.underlying30 hi hz0 hz1 hz2 rfl (by decide) _ j (rowT ((Z.take j).map ofTx)) rfl (HO5.out.alloc _) ⟨w5.heap.size, 0, none⟩ 1 1 [.string ⟨T.toArray⟩] rfl rfl (new_text w5 _ _) (fun u hu => by obtain rfl := List.mem_singleton.1 hu; rfl) (by unfold maxLen; omega) (by omega) (by simp; omega) ?_; intro v' w' hown hg _; have HO2 := Lib.hid hown; have HG2 := Lib.hid hg; clear hown hg)
   refine ⟨⟨j + 1, by go_num, by omega, ?_, ?_⟩, by simp [intOf]; omega⟩
   ·rw [HN.out, List.map_append, show rowT ((Z.take j).map ofTx ++ [y].map ofTx) = rowT ((Z.take j).map ofTx) ++ [.string ⟨T.toArray⟩] by rw [← HT.out]; simp [rowT]]
    exact HO2.out
   ·exact (HB5.out.alloc (by omega) _).grown HG2.out (by simp; omega) (fun k hk => (HO5.out.lt k hk).1)
  ·have hje : j = Z.length := by omega
   subst hje
   have HR := Lib.hid ho
   have HB := Lib.hid hb
   clear ho hb
   go_wp2_with fail
   go_ret2
   have hr := HR.out
   rw [List.take_length] at hr
   exact ⟨⟨_, rfl, Joins.ownsRow_le hr HB3.out.size⟩, HB3.out.trans (HB.out.mono HB3.out.size)⟩
end Go.Proofs.YtgaihekapakoeaaGreatDoor
namespace Go.Proofs.YtgaihekapakoeaaGreatDoor
open Go.RowKit
set_option linter.unusedVariables false
set_option linter.unusedSimpArgs false
set_option maxRecDepth 100000

structure IsT (s : ByteArray) (x : In) : Prop where
 wf : x.Wf
 may : x.may = true
 tx : (⟨(textI x).toArray⟩ : ByteArray) = s
theorem IsT.same {s : ByteArray} {x y : In} (hx : IsT s x) (hy : IsT s y) : x = y := text_inj hx.may hy.may (arr_inj (hx.tx.trans hy.tx.symm))
open Classical in
noncomputable def readI (s : ByteArray) : Option In := if h : ∃ x, IsT s x then some h.choose else none
theorem readI_some {s : ByteArray} {x : In} (h : IsT s x) : readI s = some x := by
 have hx : ∃ x, IsT s x := ⟨x, h⟩
 unfold readI
 rw [dif_pos hx]
 exact congrArg some (hx.choose_spec.same h)
theorem readI_is {s : ByteArray} {x : In} (h : readI s = some x) : IsT s x := by
 by_cases hx : ∃ x, IsT s x
 ·unfold readI at h
  rw [dif_pos hx] at h
  injection h with h
  exact h ▸ hx.choose_spec
 ·unfold readI at h
  rw [dif_neg hx] at h
  cases h
theorem readI_none {s : ByteArray} (h : ∀ j : In, j.may = true → (⟨(textI j).toArray⟩ : ByteArray) ≠ s) : readI s = none := by
 cases hx : readI s with
 | none => rfl
 | some x => exact absurd (readI_is hx).tx (h x (readI_is hx).may)
def ParseTx (w : World) : Prop := ∀ s : ByteArray, s.size ≤ 100000 → ∀ w', Below w.heap.size w w' →
 (∃ x, readI s = some x ∧ Calls Tryz.prog 9 #[.string s] w' (fun e w2 => e = .returned (.tuple #[x.val, .int .i64 0]) ∧ Below w'.heap.size w' w2)) ∨
 (readI s = none ∧ Calls Tryz.prog 9 #[.string s] w' (fun e w2 => e = .returned (.tuple #[zeroI.val, .int .i64 11]) ∧ Below w'.heap.size w' w2))
theorem ParseTo.tx {w : World} (h : ParseTo w) : ParseTx w := by
 intro s hs w' hb
 obtain ⟨x, e, hc, hx, h3⟩ := h s hs w' hb
 rcases h3 with ⟨rfl, h4, h5⟩ | ⟨rfl, rfl, h5⟩
 ·exact .inl ⟨x, readI_some ⟨hx, h4, h5⟩, hc⟩
 ·exact .inr ⟨readI_none h5, hc⟩
theorem ParseTx.on {w w' : World} (h : ParseTx w) (hb : Below w.heap.size w w') : ParseTx w' := fun s hs w2 h2 => h s hs w2 (hb.trans (h2.mono hb.size))

structure TL (w : World) (B : Nat) (A : Option Addr) (c : Nat) (M : List ByteArray) : Prop where
 le : M.length ≤ c
 cap : c ≤ maxLen
 at_ : 0 < M.length → ∃ b o, A = some ⟨b, o, Option.none⟩ ∧ b < B ∧ ∀ i, i < M.length → w.cell? ⟨b, o + i, none⟩ = some (.string (M.getD i ⟨#[]⟩))
theorem TL.keep {w w' : World} {B : Nat} {A : Option Addr} {c : Nat} {M : List ByteArray} (h : TL w B A c M) (hk : ∀ k, k < B → w'.heap[k]? = w.heap[k]?) : TL w' B A c M :=
 ⟨h.le, h.cap, fun h0 => by
  obtain ⟨b, o, h1, h2, h3⟩ := h.at_ h0
  exact ⟨b, o, h1, h2, fun i hi => (World.cell?_of_block (hk _ h2)).trans (h3 i hi)⟩⟩
theorem TL.below {w w' : World} {B : Nat} {A : Option Addr} {c : Nat} {M : List ByteArray} (h : TL w B A c M) (hb : Below B w w') : TL w' B A c M := h.keep fun k hk => hb.block k hk
theorem TL.more {w : World} {B B' : Nat} {A : Option Addr} {c : Nat} {M : List ByteArray} (h : TL w B A c M) (hB : B ≤ B') : TL w B' A c M :=
 ⟨h.le, h.cap, fun h0 => by
  obtain ⟨b, o, h1, h2, h3⟩ := h.at_ h0
  exact ⟨b, o, h1, by omega, h3⟩⟩
end Go.Proofs.YtgaihekapakoeaaGreatDoor
namespace Go.Proofs.YtgaihekapakoeaaGreatDoor
open Go.RowKit
set_option linter.unusedVariables false
set_option linter.unusedSimpArgs false
set_option maxRecDepth 100000

end Go.Proofs.YtgaihekapakoeaaGreatDoor
namespace Go.Proofs.YtgaihekapakoeaaGreatDoor
open Go.RowKit
set_option linter.unusedVariables false
set_option linter.unusedSimpArgs false
set_option maxRecDepth 100000

theorem TL.two (w : World) (a b : ByteArray) (t : TypeId) : TL (w.alloc (.cells #[.string a, .string b] t)) (w.alloc (.cells #[.string a, .string b] t)).heap.size (some ⟨w.heap.size, 0, none⟩) 2 [a, b] := by
 refine ⟨Nat.le_refl _, by unfold maxLen; omega, fun _ => ⟨w.heap.size, 0, rfl, by simp, fun i hi => ?_⟩⟩
 rw [World.cell?_alloc_at _ _ _ _ rfl]
 match i, hi with
 | 0, _ => rfl
 | 1, _ => rfl

end Go.Proofs.YtgaihekapakoeaaGreatDoor
