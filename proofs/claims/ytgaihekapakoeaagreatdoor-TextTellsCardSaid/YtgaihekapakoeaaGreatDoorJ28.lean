/-         -/
import Derived.Test.YtgaihekapakoeaaGreatDoorJ26
import Derived.Test.YtgaihekapakoeaaGreatDoorJ17
import Derived.Deep.RegionLaw
import Derived.Test.YtgaihekapakoeaaGreatDoorJ3
namespace Go.Proofs.YtgaihekapakoeaaGreatDoor
open Go.RowKit
set_option linter.unusedVariables false
set_option linter.unusedSimpArgs false
set_option maxRecDepth 100000

theorem run_append_ins (w : World) (ty t : TypeId) (h1 : Tryz.prog.underlying t = some (.slice 23))
  (base : Nat) (v : Value) (M : List In) (hown : w.ownsRow base 23 6 v M.length (rowI M)) (g : Nat) (y : In) (hy : InW w g y)
  (b1 : M.length ≤ 1000000) (hbase : base ≤ w.heap.size) :
  ∃ v' w', (Builtin.append_ #[t, t] ty #[v, .slice (some ⟨g, 0, none⟩) 1 1]).run Tryz.prog w = .ok v' w' ∧ w'.ownsRow base 23 6 v' (M ++ [y]).length (rowI (M ++ [y])) ∧ w.grownBy w' v.ownBlock := by
 obtain ⟨i0, hi, hz0, hz1, hz2⟩ := info_parts info_ins
 have hr : rowI (M ++ [y]) = rowI M ++ rowI [y] := by unfold rowI; rw [List.flatMap_append]
 have hc : ∀ j u, (rowI [y])[j]? = some u → w.cell? ((⟨g, 0, none⟩ : Addr).add j) = some u := by
  intro j u hu
  have hj : j < 6 := by
   have := (List.getElem?_eq_some_iff.1 hu).1
   rwa [rowI_len] at this
  have hadd : (⟨g, 0, none⟩ : Addr).add j = ⟨g, j, none⟩ := by unfold Addr.add; split <;> simp_all
  rw [hadd]
  have hu2 : y.cells[j]? = some u := by
   have : (rowI [y])[j]? = y.cells[j]? := by unfold rowI In.cells; simp [inC]
   rw [← this]; exact hu
  exact InW.at_ hy j u hu2
 obtain ⟨v', w', hrun, r1, r2, _⟩ := run_append_own (P := Tryz.prog) w base t ty 23 i0 _ 6 48 h1 hi hz0 hz1 hz2 rfl (by decide) _ M.length (rowI M) hown ⟨g, 0, none⟩ 1 1 (rowI [y]) (rowI_len _) hc rowI_one (by unfold maxLen; omega) (by omega) hbase
 refine ⟨v', w', hrun, ?_, r2⟩
 rw [hr, List.length_append]
 exact r1
theorem does_append_any {P : Program} {o : Oper} {a : Act} {w w' : World} {next : Value → World → Prop} (s x : Operand) {ts : Array TypeId} {vs vx v : Value}
  (hop : o.op = .call { callee := .builtin .append, args := #[s, x], argTypes := ts }) (hs : a.eval s = vs) (hx : a.eval x = vx) (hr : (Builtin.append_ ts o.type #[vs, vx]).run P w = .ok v w') (h : next v w') : Oper.does P o a w next := by
 unfold Oper.does execOp
 simp only [hop, resolve, invoke, builtin, Sem.run_bind, Sem.run_pure, Result.andThen_ok, List.map_toArray, List.map_cons, List.map_nil, hs, hx, hr]
 exact h

def KN (N B : Nat) (X : In) (w : World) : Prop := InW w N X ∧ N < w.heap.size ∧ B ≤ w.heap.size
theorem KN.step {N B : Nat} {X : In} {w w' : World} (h : KN N B X w) (hs : Save (fun _ => False) w w') : KN N B X w' := by
 have h1 := h.1
 have := hs.size
 exact ⟨(hs.block N h.2.1 (fun h => h)).trans h1, by have := h.2.1; omega, by have := h.2.2; omega⟩
def KR (N B : Nat) (X : In) (b : World) (v : Value) (M : List In) (w : World) : Prop := KN N B X w ∧ w.ownsRow B 23 6 v M.length (rowI M) ∧ Below B b w
theorem KR.step {N B : Nat} {X : In} {b : World} {v : Value} {M : List In} {w w' : World} (h : KR N B X b v M w) (hs : Save (fun _ => False) w w') : KR N B X b v M w' :=
 ⟨h.1.step hs, h.2.1.kept (w' := w') (row := none) ⟨hs.os, hs.tape, hs.output, hs.size, fun i hi _ => hs.block i hi (fun h => h)⟩ (by cases hv : v.ownBlock <;> simp), h.2.2.trans (hs.all.mono h.1.2.2)⟩

theorem RB.rest {w : World} {B b off c : Nat} {l : List Int} (h : RB w B (some ⟨b, off, none⟩) c l) (p : Nat) (hp : p ≤ l.length) (hc : c ≠ p) :
  RB w B (some ⟨b, off + p, none⟩) (c - p) (l.drop p) := by
 have := h.sub p (l.length - p) (by omega)
 rwa [List.take_of_length_le (by rw [List.length_drop]; omega)] at this

set_option maxHeartbeats 8000000 in
theorem r9_all_nil (w : World) : Calls Tryz.prog 23 #[.slice none 0 0] w (AllTo w []) := by
 have hO := fun (w : World) => r9_of none 0 0 [] w rfl (RB.nil _ _)
 unfold OfTo at hO
 rw [show ofV [] = zeroI from by decide +kernel, show ofE [] = 5 from by decide +kernel] at hO
 rw [in_val] at hO
 have HO := Lib.hid hO
 clear hO
 unfold AllTo
 rw [show allI [] = ([], 0) from by decide +kernel]
 go_enter Tryz.func23, Tryz.ntmps23
 go_wp2_with fail
 go_loopw [4, 5] (fun v n wr => v = .slice none 0 0 ∧ n = .int .i64 0 ∧ Below w.heap.size w wr) (fun _ _ _ => 0)
 case atStart => exact ⟨rfl, rfl, Below.refl _ _⟩
 case round =>
  obtain ⟨rfl, rfl, hb⟩ := hrel
  go_wp2_with fail
  refine (HO.out _).mono ?_
  rintro e w2 ⟨rfl, hb2⟩
  have hB := hb.trans (hb2.mono hb.size)
  clear hb hb2
  go_wp2_with fail
  go_ret2
  exact ⟨⟨none, 0, rfl, World.ownsRow_nil _ _ _ _⟩, hB.alloc hB.size _⟩

set_option maxHeartbeats 16000000 in
theorem r9_all (b off c n : Nat) (l : List Int) (w : World) (hn : n = l.length) (h : RB w w.heap.size (some ⟨b, off, none⟩) c l) (hl : l.length ≤ 500) : Calls Tryz.prog 23 #[.slice (some ⟨b, off, none⟩) n c] w (AllTo w l) := by
 subst hn
 have hby := h.bytes
 have hcap := h.cap
 have hle := h.le
 unfold maxLen at hcap
 have HH := Lib.hid h
 unfold AllTo
 obtain ⟨R, hR⟩ : ∃ R, allI l = R := ⟨_, rfl⟩
 rw [hR]
 have HR := Lib.hid hR
 clear hR h
 go_enter Tryz.func23, Tryz.ntmps23
 go_wp2_with fail
 go_loopw [4, 5] (fun v n wr => ∃ (Ms : List In) (p : Nat), n = .int .i64 p ∧ wr.ownsRow w.heap.size 23 6 v Ms.length (rowI Ms) ∧ p ≤ l.length ∧ Ms.length ≤ p ∧ R = (Ms ++ (allI (l.drop p)).1, p + (allI (l.drop p)).2) ∧ Below w.heap.size w wr) (fun _ n _ => l.length - (intOf n).toNat)
 case atStart => exact ⟨[], 0, rfl, World.ownsRow_nil _ _ _ _, by omega, by simp, by rw [List.drop_zero, HR.out]; simp, Below.refl _ _⟩
 case round =>
  obtain ⟨Ms, p, rfl, ho, hp, hMp, hRp, hb⟩ := hrel
  obtain ⟨A0, c0, rfl⟩ := own_shape ho
  have HO := Lib.hid ho
  by_cases hc : c = p
  ·have he : l.length = p := by omega
   subst he
   subst hc
   have h0 : l.drop l.length = [] := List.drop_length
   rw [h0, show allI [] = ([], 0) from by decide +kernel] at hRp
   have hq := r9_of (some ⟨b, off, none⟩) 0 0 [] wr rfl (RB.empty wr _ _ 0 (Nat.zero_le _))
   unfold OfTo at hq
   rw [show ofV [] = zeroI from by decide +kernel, show ofE [] = 5 from by decide +kernel] at hq
   rw [in_val] at hq
   have HQ := Lib.hid hq
   have HRp := Lib.hid hRp
   clear hq hRp ho h0
   go_wp2_with fail
   refine HQ.out.mono ?_
   rintro e w2 ⟨rfl, hb2⟩
   have ho2 := HO.out.kept (w' := w2) (row := none) ⟨hb2.os, hb2.tape, hb2.output, hb2.size, fun i hi _ => hb2.block i hi⟩ (by cases hv : (Value.slice A0 Ms.length c0).ownBlock <;> simp)
   have hB2 := hb.trans (hb2.mono hb.size)
   clear hb hb2 HQ HO
   have HO2 := Lib.hid (ho2.alloc (inO zeroI))
   clear ho2
   go_wp2_with fail
   go_ret2
   rw [HRp.out]
   simp only [List.append_nil, Nat.add_zero]
   exact ⟨⟨A0, c0, rfl, HO2.out⟩, hB2.alloc hB2.size _⟩
  ·have ht := (HH.out.below hb).rest p hp hc
   have hlm : (l.drop p).length = l.length - p := List.length_drop
   have HRp := Lib.hid hRp
   have hq := r9_of (some ⟨b, off + p, none⟩) (c - p) (l.length - p) (l.drop p) wr hlm.symm (ht.more hb.size)
   unfold OfTo at hq
   have hbd := hby.drop p
   have HC := Lib.hid (ofE_cases (l.drop p))
   have HG := Lib.hid (fun (y : In) (hy : ofI (l.drop p) = some y) => of_got hbd hy)
   have HS := Lib.hid (fun (y : In) (hy : ofI (l.drop p) = some y) => allI_some hbd hy)
   have HNo := Lib.hid (fun (hy : ofI (l.drop p) = none) => allI_none hy)
   obtain ⟨X, hX⟩ : ∃ X, ofV (l.drop p) = X := ⟨_, rfl⟩
   obtain ⟨E, hE⟩ : ∃ E, ofE (l.drop p) = E := ⟨_, rfl⟩
   rw [hX, hE] at HC hq
   rw [in_val] at hq
   have HQ := Lib.hid hq
   have HLm := Lib.hid hlm
   clear hq ht hRp hX hE hbd hlm ho
   go_wp2_with fail
   refine HQ.out.mono ?_
   rintro e w2 ⟨rfl, hb2⟩
   have ho2 := HO.out.kept (w' := w2) (row := none) ⟨hb2.os, hb2.tape, hb2.output, hb2.size, fun i hi _ => hb2.block i hi⟩ (by cases hv : (Value.slice A0 Ms.length c0).ownBlock <;> simp)
   have hB2 := hb.trans (hb2.mono hb.size)
   clear hb hb2 HQ HO
   obtain ⟨w3, hw3⟩ : ∃ w3, w2.alloc (inO X) = w3 := ⟨_, rfl⟩
   obtain ⟨N, hN⟩ : ∃ N, w2.heap.size = N := ⟨_, rfl⟩
   have hX3 : InW w3 N X := by rw [← hw3, ← hN]; exact InW.laid w2 X
   have ho3 : w3.ownsRow w.heap.size 23 6 (.slice A0 Ms.length c0) Ms.length (rowI Ms) := hw3 ▸ ho2.alloc (inO X)
   have hB3 : Below w.heap.size w w3 := hw3 ▸ hB2.alloc hB2.size _
   have hnb : some N ≠ (Value.slice A0 Ms.length c0).ownBlock := fun e => absurd (ho2.lt _ e.symm).2 (by omega)
   have hNw : w.heap.size ≤ N := hN ▸ hB2.size
   unfold inO at hw3
   clear ho2 hB2
   have HO3 := Lib.hid ho3
   have HNB := Lib.hid hnb
   clear ho3 hnb
   rcases HC.out with ⟨y, hy, rfl, rfl⟩ | ⟨hy, rfl⟩
   ·have hS := HS.out _ hy
    have hg := HG.out _ hy
    obtain ⟨k, hk, k1, k2, k3, -⟩ := hg.nat
    rw [HLm.out] at k3
    have hR2 : R = ((Ms ++ [X]) ++ (allI (l.drop (p + k))).1, (p + k) + (allI (l.drop (p + k))).2) := by
     rw [HRp.out, hS, hk, Int.toNat_natCast, List.drop_drop]
     simp [Nat.add_assoc, Nat.add_comm k p]
    have HR2 := Lib.hid hR2
    have HK := Lib.hid hk
    clear hS hg hk hR2 HC HG HS HNo hy
    have g0 := hX3.gs
    have g1 := hX3.gx
    have g2 := hX3.go
    have g3 := hX3.gd
    have g4 := hX3.gm
    have g5 := hX3.gn
    clear g0 g1 g2 g3 g4 g5
    have hk3 : KN N w.heap.size X w3 := ⟨hX3, hX3.lt, hB3.size⟩
    have hr3 : KR N w.heap.size X w (.slice A0 Ms.length c0) Ms w3 := ⟨hk3, HO3.out, hB3⟩
    have g0 : ∀ q : M.Of (KN N w.heap.size X), q.w.cell? ⟨N, 0, none⟩ = some (.int .i64 X.s) := fun q => q.ok.1.gs
    have g1 : ∀ q : M.Of (KN N w.heap.size X), q.w.cell? ⟨N, 1, none⟩ = some (.int .i64 X.x) := fun q => q.ok.1.gx
    have g2 : ∀ q : M.Of (KN N w.heap.size X), q.w.cell? ⟨N, 2, none⟩ = some (.int .i64 X.o) := fun q => q.ok.1.go
    have g3 : ∀ q : M.Of (KN N w.heap.size X), q.w.cell? ⟨N, 3, none⟩ = some (.int .i64 X.d) := fun q => q.ok.1.gd
    have g4 : ∀ q : M.Of (KN N w.heap.size X), q.w.cell? ⟨N, 4, none⟩ = some (.int .i64 X.m) := fun q => q.ok.1.gm
    have g5 : ∀ q : M.Of (KN N w.heap.size X), q.w.cell? ⟨N, 5, none⟩ = some (.int .i64 k) := fun q => by rw [q.ok.1.gn, HK.out]
    have HK3 := Lib.hid hk3
    have HR3 := Lib.hid hr3
    have HB3 := Lib.hid hB3
    haveI : Nonempty (M.Of (KN N w.heap.size X)) := ⟨⟨w3, hk3⟩⟩
    clear hX3 hk3 hr3 hB3 HO3
    go_upto_region 6 with fail
    refine M.regionF_ (KN N w.heap.size X) (KR N w.heap.size X w (.slice A0 Ms.length c0) Ms) (fun w1 w2 h hs => h.step hs) (fun _ h => h.1) (fun n => HR3.out.step (Save.drawn _ _ n)) (by kernel_rfl) ?_
    refine M.seg_ [0, 1, 4, 5, 6, 7] 4 _ _ HK3.out (by kernel_rfl) (by kernel_rfl) (by kernel_rfl) (by simp only [pickOps, mask, plain, List.getElem?_toArray, List.getElem?_cons_zero, List.getElem?_cons_succ, if_true, Bool.false_eq_true, if_false]; rfl) ?_
    repeat (go_big_quiet_step (fail))
    refine wpQuiet_nil ?_
    clear g0 g1 g2 g3 g4 g5
    refine M.cl 2 ?_
    intro wz sz
    unfold Oper.does
    go_simp
    have hnew : InW (wz.alloc (.cells #[.int .i64 X.s, .int .i64 X.x, .int .i64 X.o, .int .i64 X.d, .int .i64 X.m, .int .i64 k] 23)) wz.heap.size X := by
     have h := InW.laid wz X
     unfold inO at h
     rw [HK.out] at h
     exact h
    have hSv : Save (fun _ => False) wz (wz.alloc (.cells #[.int .i64 X.s, .int .i64 X.x, .int .i64 X.o, .int .i64 X.d, .int .i64 X.m, .int .i64 k] 23)) := Save.of_below ((Below.refl wz.heap.size wz).alloc (Nat.le_refl _) _)
    refine ⟨fun w' => KR N w.heap.size X w (.slice A0 Ms.length c0) Ms w' ∧ InW w' wz.heap.size X ∧ wz.heap.size < w'.heap.size, ⟨sz.step hSv, hnew, by simp⟩, fun w1 w2 h hs => ⟨h.1.step hs, (hs.block _ h.2.2 (fun h => h)).trans h.2.1, Nat.lt_of_lt_of_le h.2.2 hs.size⟩, fun _ h => h.1.1, ?_⟩
    clear hnew hSv sz
    generalize wz.heap.size = N2 at *
    go_simp
    refine M.cl 3 ?_
    intro wy sy
    obtain ⟨sy1, sy2, sy3⟩ := sy
    obtain ⟨v5, w5, hrun, ho5, hg5⟩ := run_append_ins wy 44 44 Tryz.underlying44 w.heap.size (.slice A0 Ms.length c0) Ms sy1.2.1 N2 X sy2 (by omega) sy1.1.2.2
    have hk5 : KN N w.heap.size X w5 := ⟨(hg5.block N sy1.1.2.1 HNB.out).trans sy1.1.1, Nat.lt_of_lt_of_le sy1.1.2.1 hg5.size, Nat.le_trans sy1.1.2.2 hg5.size⟩
    have hb5 : Below w.heap.size w w5 := sy1.2.2.grown hg5 sy1.1.2.2 (fun q hq => (sy1.2.1.lt q hq).1)
    have hr5 : KR N w.heap.size X w v5 (Ms ++ [X]) w5 := ⟨hk5, ho5, hb5⟩
    refine does_append_any (vs := .slice A0 Ms.length c0) (vx := .slice (some ⟨N2, 0, none⟩) 1 1) (v := v5) _ _ rfl rfl rfl hrun ?_
    refine ⟨KR N w.heap.size X w v5 (Ms ++ [X]), hr5, fun w1 w2 h hs => h.step hs, fun _ h => h.1, ?_⟩
    clear hr5 hb5 hk5 hrun ho5 hg5 sy1 sy2 sy3
    go_simp
    refine M.seg_ [8, 9] 0 _ _ HK3.out (by kernel_rfl) (by kernel_rfl) (by kernel_rfl) (by simp only [pickOps, mask, plain, List.getElem?_toArray, List.getElem?_cons_zero, List.getElem?_cons_succ, if_true, Bool.false_eq_true, if_false]; rfl) ?_
    repeat (go_big_quiet_step (fail))
    refine wpQuiet_nil ?_
    refine M.en ?_
    intro wc sc
    obtain ⟨-, so, sb⟩ := sc
    go_wp2_with fail
    exact ⟨⟨Ms ++ [X], p + k, by go_num, so, by omega, by simp; omega, HR2.out, sb⟩, by simp [intOf]; omega⟩
   ·have hS := HNo.out hy
    have hR2 : R = (Ms, p) := by rw [HRp.out, hS]; simp
    clear hS HC HG HS HNo hy HRp
    go_wp2_with fail
    go_ret2
    rw [hR2]
    exact ⟨⟨A0, c0, rfl, HO3.out⟩, hB3⟩
end Go.Proofs.YtgaihekapakoeaaGreatDoor
namespace Go.Proofs.YtgaihekapakoeaaGreatDoor
open Go.RowKit
set_option linter.unusedVariables false
set_option linter.unusedSimpArgs false
set_option maxRecDepth 100000

def txs (M : List In) : List ByteArray := M.map fun y => ⟨(ofTx y).toArray⟩
theorem rowT_txs (M : List In) : rowT (M.map ofTx) = (txs M).map Value.string := by simp [rowT, txs]
theorem txs_len (M : List In) : (txs M).length = M.length := by simp [txs]
set_option maxHeartbeats 4000000 in
theorem texts_same (A1 A2 : Option Addr) (c1 c2 n1 n2 : Nat) (Z : List ByteArray) (w : World) (hn1 : n1 = Z.length) (hn2 : n2 = Z.length) (h1 : TL w w.heap.size A1 c1 Z) (h2 : TL w w.heap.size A2 c2 Z) (hl : Z.length ≤ 1000) :
  Calls Tryz.prog 18 #[.slice A1 n1 c1, .slice A2 n2 c2] w fun e w' => e = .returned (.bool true) ∧ Below w.heap.size w w' := by
 subst hn1 hn2
 have H1 := Lib.hid h1
 have H2 := Lib.hid h2
 clear h1 h2
 go_enter Tryz.func18, Tryz.ntmps18
 go_wp2_with fail
 go_loopw [5] (fun i wr => ∃ k : Nat, k ≤ Z.length ∧ i = .int .i64 k ∧ Below w.heap.size w wr) (fun i _ => Z.length - (intOf i).toNat)
 case atStart => exact ⟨0, Nat.zero_le _, rfl, Below.refl _ _⟩
 case round =>
  obtain ⟨k, hk, rfl, hb⟩ := hrel
  by_cases hlt : k < Z.length
  ·obtain ⟨b1, o1, rfl, hb1, ha1⟩ := H1.out.at_ (by omega)
   obtain ⟨b2, o2, rfl, hb2, ha2⟩ := H2.out.at_ (by omega)
   have u1 := (World.cell?_of_block (hb.block b1 hb1)).trans (ha1 k hlt)
   have u2 := (World.cell?_of_block (hb.block b2 hb2)).trans (ha2 k hlt)
   generalize Z.getD k ⟨#[]⟩ = y at *
   have l1 : b1 < wr.heap.size := Nat.lt_of_lt_of_le hb1 hb.size
   have l2 : b2 < wr.heap.size := Nat.lt_of_lt_of_le hb2 hb.size
   have v1 := fun p : M.Of (M.Base wr) => (World.cell?_of_block (p.ok.2.block b1 l1)).trans u1
   have v2 := fun p : M.Of (M.Base wr) => (World.cell?_of_block (p.ok.2.block b2 l2)).trans u2
   clear ha1 ha2 u1 u2 l1 l2
   go_upto_region 6 with fail
   refine M.rg ?_
   refine M.sg [0, 1, 2, 3, 4, 5, 6, 7, 8] 0 ?_
   repeat (go_big_quiet_step (fail))
   refine wpQuiet_nil ?_
   refine M.en ?_
   intro wc sc
   have hbc := hb.trans (sc.2.mono hb.size)
   clear sc
   go_wp2_with fail
   exact ⟨⟨k + 1, by omega, by go_num, hbc⟩, by simp [intOf]; omega⟩
  ·have hke : k = Z.length := by omega
   subst hke
   go_wp2_with fail
   go_ret
   exact ⟨rfl, hb⟩
end Go.Proofs.YtgaihekapakoeaaGreatDoor
namespace Go.Proofs.YtgaihekapakoeaaGreatDoor
open Go.RowKit
set_option linter.unusedVariables false
set_option linter.unusedSimpArgs false
set_option maxRecDepth 100000

end Go.Proofs.YtgaihekapakoeaaGreatDoor
namespace Go.Proofs.YtgaihekapakoeaaGreatDoor
open Go.RowKit
set_option linter.unusedSimpArgs false
set_option linter.unusedVariables false
set_option maxRecDepth 100000

theorem IL.tail {w : World} {B b off c : Nat} {M : List In} (h : IL w B (some ⟨b, off, none⟩) c M) (j : Nat) (hj : j < M.length) : IL w B (some ⟨b, off + j * 6, none⟩) (c - j) (M.drop j) := by
 have h1 := h.le
 have h2 := h.cap
 refine ⟨by rw [List.length_drop]; omega, by omega, fun h0 => ?_⟩
 obtain ⟨b', o', e, hb, hat⟩ := h.at_ (by omega)
 simp only [Option.some.injEq, Addr.mk.injEq, and_true] at e
 obtain ⟨rfl, rfl⟩ := e
 refine ⟨_, _, rfl, hb, fun i hi => ?_⟩
 rw [List.length_drop] at hi
 have := hat (j + i) (by omega)
 rw [show off + j * 6 + i * 6 = off + (j + i) * 6 by omega]
 have e2 : (M.drop j).getD i zeroI = M.getD (j + i) zeroI := by simp [List.getD_eq_getElem?_getD]
 rw [e2]
 exact this

theorem all_ob {w : World} {B c : Nat} {A : Option Addr} {l : List Int} (h : OB w B A c l) (hl : l.length ≤ 500) (n : Nat) (hn : n = l.length) : Calls Tryz.prog 40 #[.slice A n c] w (AllTo w l) := by
 rcases h.addr with ⟨rfl, rfl, rfl⟩ | ⟨g, rfl⟩
 ·subst hn; exact c9_all_nil w
 ·exact c9_all g 0 c n l w hn h.rb hl

end Go.Proofs.YtgaihekapakoeaaGreatDoor
namespace Go.Proofs.YtgaihekapakoeaaGreatDoor
open Go.RowKit
set_option linter.unusedVariables false
set_option linter.unusedSimpArgs false
set_option maxRecDepth 100000

theorem TL.own {w : World} {base c : Nat} {A : Option Addr} {M : List ByteArray} (h : w.ownsRow base 9 1 (.slice A M.length c) M.length (M.map Value.string)) : TL w w.heap.size A c M := by
 rcases h.2 with ⟨h1, h2⟩ | ⟨g, cap, cur, h1, hb, hg, hn, hm, hs⟩
 ·injection h1 with h3 h4 h5
  exact ⟨by omega, by subst h5; unfold maxLen; omega, fun h0 => absurd h0 (by omega)⟩
 ·injection h1 with h3 h4 h5
  subst h3
  have hlt := (h.lt g rfl).2
  refine ⟨by omega, by omega, fun h0 => ⟨g, 0, rfl, hlt, fun i hi => ?_⟩⟩
  rw [h.cellAt _ (by omega), Nat.zero_add]
  simp [List.getD_eq_getElem?_getD, hi]
theorem text_own_shape {w : World} {base n : Nat} {v : Value} {xs : List Value} (h : w.ownsRow base 9 1 v n xs) : ∃ A c, v = .slice A n c := by
 rcases h.2 with ⟨h1, h2⟩ | ⟨g, cap, cur, h1, _⟩
 ·exact ⟨none, 0, by rw [h1, h2]⟩
 ·exact ⟨_, _, h1⟩
end Go.Proofs.YtgaihekapakoeaaGreatDoor
namespace Go.Proofs.YtgaihekapakoeaaGreatDoor
open Go.RowKit
set_option linter.unusedVariables false
set_option linter.unusedSimpArgs false
set_option maxRecDepth 100000

end Go.Proofs.YtgaihekapakoeaaGreatDoor
namespace Go.Proofs.YtgaihekapakoeaaGreatDoor
open Go.RowKit
set_option linter.unusedVariables false
set_option linter.unusedSimpArgs false
set_option maxRecDepth 100000

theorem TL.sub {w : World} {B b o c : Nat} {M : List ByteArray} (h : TL w B (some ⟨b, o, none⟩) c M) (p n : Nat) (hn : p + n ≤ M.length) : TL w B (some ⟨b, o + p, none⟩) (c - p) ((M.drop p).take n) := by
 have h1 := h.le
 have h2 := h.cap
 have hlen : ((M.drop p).take n).length = n := by rw [List.length_take, List.length_drop]; omega
 refine ⟨by rw [hlen]; omega, by omega, fun h0 => ?_⟩
 obtain ⟨b', o', e, hb, hat⟩ := h.at_ (by omega)
 simp only [Option.some.injEq, Addr.mk.injEq, and_true] at e
 obtain ⟨rfl, rfl⟩ := e
 refine ⟨_, _, rfl, hb, fun i hi => ?_⟩
 rw [hlen] at hi
 have := hat (p + i) (by omega)
 rw [show o + p + i = o + (p + i) by omega, this]
 simp [List.getD_eq_getElem?_getD, List.getElem?_take, hi]
end Go.Proofs.YtgaihekapakoeaaGreatDoor
namespace Go.Proofs.YtgaihekapakoeaaGreatDoor
open Go.RowKit
set_option linter.unusedVariables false
set_option linter.unusedSimpArgs false
set_option maxRecDepth 100000

set_option maxHeartbeats 8000000 in
theorem r9_all_empty (a : Addr) (c : Nat) (w : World) (hc : c ≤ maxLen) : Calls Tryz.prog 23 #[.slice (some a) 0 c] w (AllTo w []) := by
 have hO := fun (w : World) (a : Addr) (c : Nat) (hc : c ≤ maxLen) => r9_of (some a) c 0 [] w rfl (RB.empty w _ a c hc)
 unfold OfTo at hO
 rw [show ofV [] = zeroI from by decide +kernel, show ofE [] = 5 from by decide +kernel] at hO
 rw [in_val] at hO
 have HO := Lib.hid hO
 clear hO
 unfold AllTo
 rw [show allI [] = ([], 0) from by decide +kernel]
 obtain ⟨b, off, sp⟩ := a
 unfold maxLen at hc HO
 go_enter Tryz.func23, Tryz.ntmps23
 go_wp2_with fail
 go_loopw [4, 5] (fun v n wr => v = .slice none 0 0 ∧ n = .int .i64 0 ∧ Below w.heap.size w wr) (fun _ _ _ => 0)
 case atStart => exact ⟨rfl, rfl, Below.refl _ _⟩
 case round =>
  obtain ⟨rfl, rfl, hb⟩ := hrel
  go_wp2_with fail
  refine (HO.out _ _ _ (by omega)).mono ?_
  rintro e w2 ⟨rfl, hb2⟩
  have hB := hb.trans (hb2.mono hb.size)
  clear hb hb2
  go_wp2_with fail
  go_ret2
  exact ⟨⟨none, 0, rfl, World.ownsRow_nil _ _ _ _⟩, hB.alloc hB.size _⟩
theorem r9_all_any (A : Option Addr) (c n : Nat) (l : List Int) (w : World) (hn : n = l.length) (h : RB w w.heap.size A c l) (hl : l.length ≤ 500) : Calls Tryz.prog 23 #[.slice A n c] w (AllTo w l) := by
 rcases h.at_ with ⟨rfl, hc⟩ | ⟨⟨b, off, sp⟩, rfl, h1⟩
 ·subst hc
  have h0 := h.le
  have : l = [] := List.eq_nil_of_length_eq_zero (by omega)
  subst this
  subst hn
  exact r9_all_nil w
 ·rcases Nat.eq_zero_or_pos l.length with h0 | h0
  ·have : l = [] := List.eq_nil_of_length_eq_zero h0
   subst this
   subst hn
   exact r9_all_empty _ c w h.cap
  ·obtain ⟨rfl, -, -⟩ : sp = none ∧ True ∧ True := ⟨(h1 h0).1, trivial, trivial⟩
   exact r9_all b off c n l w hn h hl
end Go.Proofs.YtgaihekapakoeaaGreatDoor
