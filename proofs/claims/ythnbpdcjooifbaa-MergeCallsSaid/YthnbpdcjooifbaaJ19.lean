/-       -/
import Derived.Test.YthnbpdcjooifbaaJ5
import Derived.Test.YthnbpdcjooifbaaJ3
import Derived.Deep.Matrix
import Derived.Lib.SlBytesConst
import Derived.Test.YthnbpdcjooifbaaJ4
namespace Go.Proofs.Ythnbpdcjooifbaa
open Go.RowKit
set_option linter.unusedSimpArgs false
set_option linter.unusedVariables false
set_option maxRecDepth 100000

/-- What the numbers of a row of bytes are, one behind the other. -/
def erd1 (l : List Int) : Nat × Nat × Int := countSt l 0 0 12
def erd2 (l : List Int) : Nat × Nat × Int := numSt l (erd1 l).2.1 (erd1 l).2.2
def erd3 (l : List Int) : Nat × Nat × Int := numSt l (erd2 l).2.1 (erd2 l).2.2
def erd4 (l : List Int) : Nat × Nat × Int := countSt l (erd3 l).2.1 (erd3 l).2.2 1048576
def erd5 (l : List Int) : Nat × Nat × Int := countSt l (erd4 l).2.1 (erd4 l).2.2 255
def erdE (l : List Int) : Int := endSt l (erd5 l).2.1 (erd5 l).2.2
def erdX (l : List Int) : Ev := ⟨wrap64 (erd2 l).1, chipOf (erd1 l).1, wrap64 (erd3 l).1, (erd1 l).1, (erd4 l).1, (erd5 l).1⟩

def ReadTo (z : Int) (x : Ev) (B : Nat) (w : World) (e : Ending) (w' : World) : Prop :=
  (((z = 0 ∧ x.May) ∧ e = .returned (.tuple #[x.val, .int .i64 0])) ∨ (¬ (z = 0 ∧ x.May) ∧ e = .returned (.tuple #[zeroE.val, .int .i64 4]))) ∧ Below B w w'
def ReadPost (l : List Int) (B : Nat) (w : World) (e : Ending) (w' : World) : Prop := ReadTo (erdE l) (erdX l) B w e w'

theorem below_grownE {w w' : World} {g B : Nat} (hb : w.grownBy w' (some g)) (hg : B ≤ g) (hB : B ≤ w.heap.size) : Below B w w' := ⟨hb.os, hb.tape, hb.output, hb.size, fun k hk => hb.block k (by omega) (fun e => by have := Option.some.inj e; omega)⟩

set_option maxHeartbeats 3200000 in
theorem eread_any (A : Option Addr) (c n : Nat) (l : List Int) (w : World) (B : Nat) (hn : n = l.length) (h : RB w B A c l) (hB : B ≤ w.heap.size) (hlen : l.length ≤ 1099511627776) :
    Calls Try.prog 43 #[.slice A n c] w (ReadPost l w.heap.size w) := by
  subst hn
  have hbytes := h.bytes
  obtain ⟨r1, hr1⟩ : ∃ r, erd1 l = r := ⟨_, rfl⟩
  obtain ⟨r2, hr2⟩ : ∃ r, erd2 l = r := ⟨_, rfl⟩
  obtain ⟨r3, hr3⟩ : ∃ r, erd3 l = r := ⟨_, rfl⟩
  obtain ⟨r4, hr4⟩ : ∃ r, erd4 l = r := ⟨_, rfl⟩
  obtain ⟨r5, hr5⟩ : ∃ r, erd5 l = r := ⟨_, rfl⟩
  obtain ⟨z, hz⟩ : ∃ r, erdE l = r := ⟨_, rfl⟩
  have D1 : countSt l 0 0 12 = r1 := hr1
  have D2 : numSt l r1.2.1 r1.2.2 = r2 := by rw [← hr1, ← hr2]; rfl
  have D3 : numSt l r2.2.1 r2.2.2 = r3 := by rw [← hr2, ← hr3]; rfl
  have D4 : countSt l r3.2.1 r3.2.2 1048576 = r4 := by rw [← hr3, ← hr4]; rfl
  have D5 : countSt l r4.2.1 r4.2.2 255 = r5 := by rw [← hr4, ← hr5]; rfl
  have D6 : endSt l r5.2.1 r5.2.2 = z := by rw [← hr5, ← hz]; rfl
  have b2 : r2.1 < 18446744073709551616 := by rw [← D2]; exact numSt_lt _ _ _ hbytes
  have b3 : r3.1 < 18446744073709551616 := by rw [← D3]; exact numSt_lt _ _ _ hbytes
  have hX : erdX l = ⟨wrap64 r2.1, chipOf r1.1, wrap64 r3.1, r1.1, r4.1, r5.1⟩ := by unfold erdX; rw [hr1, hr2, hr3, hr4, hr5]
  unfold ReadPost
  rw [hz]
  obtain ⟨x, hxe⟩ : ∃ x, erdX l = x := ⟨_, rfl⟩
  rw [hxe] at hX ⊢
  clear hxe
  have HX := Lib.hid hX
  have HZ := Lib.hid hz
  clear hX hz hr1 hr2 hr3 hr4 hr5
  obtain ⟨v1, p1, e1⟩ := r1
  obtain ⟨v2, p2, e2⟩ := r2
  obtain ⟨v3, p3, e3⟩ := r3
  obtain ⟨v4, p4, e4⟩ := r4
  obtain ⟨v5, p5, e5⟩ := r5
  simp only at D1 D2 D3 D4 D5 D6 b2 b3 HX
  have K1 := Lib.hid D1
  have K2 := Lib.hid D2
  have K3 := Lib.hid D3
  have K4 := Lib.hid D4
  have K5 := Lib.hid D5
  have K6 := Lib.hid D6
  clear D1 D2 D3 D4 D5 D6
  have hE0 := EW.laid w zeroE
  have hrb := h.alloc hB (evO zeroE)
  go_enter Try.func43, Try.ntmps43
  go_wp2_with fail
  refine (new_any A c _ l _ B rfl hrb (by simp; omega) hlen).mono ?_
  rintro e w2 ⟨g, A2, c2, rfl, hR, hb, hg, ha⟩
  simp at hg ha
  have hz2 : w.heap.size + 1 ≤ w2.heap.size := by have := hb.size; simpa using this
  have hE2 := hE0.below hb (by simp)
  have hB2 : Below w.heap.size w w2 := ((Below.refl _ _).alloc (Nat.le_refl _) _).trans (hb.mono (by simp))
  have hZ2 : RdrZ w2 (w.heap.size + 1) g A2 c2 l 0 0 := ⟨hR, by omega, ha⟩
  have hgl : g < w2.heap.size := hZ2.rdr.lt
  clear hb hR ha hrb hE0
  -- the event's own block
  have X := EW.laid w2 zeroE
  have E := hE2.more (evO zeroE)
  have Z := hZ2.belowH ((Below.refl w2.heap.size w2).alloc (Nat.le_refl _) (evO zeroE))
  have Bw : Below w.heap.size w (w2.alloc (evO zeroE)) := hB2.alloc (by omega) _
  clear hE2 hZ2 hB2
  have h1 := rcount_any g A2 c2 l 0 0 12 _ Z.rdr (by omega)
  rw [K1.out] at h1
  have H1 := Lib.hid h1
  clear h1
  go_wp2_with fail
  generalize w2.heap.size = n at *
  refine H1.out.mono ?_
  rintro e w4 ⟨rfl, hR4, hg4⟩
  have X4 := X.grown hg4 (by omega)
  have E4 := E.grown hg4 (by omega)
  have B4 := Bw.trans (below_grownE hg4 (by omega) Bw.size)
  have Z4 := Z.to hR4
  clear X E Z Bw hR4 hg4 H1
  have x3 := X4.ev.c3
  have f3 := X4.free 3
  go_wp2_with fail
  clear x3 f3
  refine (chip_any v1 _).mono ?_
  rintro e w' ⟨rfl, rfl⟩
  have X5 := X4.put3 v1
  have E5 := E4.grown (grown_setCell w4 n 3 (.int .i64 v1)) (by omega)
  have B5 := B4.trans (below_grownE (grown_setCell w4 n 3 (.int .i64 v1)) (by omega) B4.size)
  have Z5 := Z4.other (grown_setCell w4 n 3 (.int .i64 v1)) (.inr (by omega))
  clear X4 E4 B4 Z4
  generalize w4.setCell ⟨n, 3, none⟩ (.int .i64 v1) = w5 at *
  have x1 := X5.ev.c1
  have f1 := X5.free 1
  have X6 := X5.put1 (chipOf v1)
  have E6 := E5.grown (grown_setCell w5 n 1 (.int .i64 (chipOf v1))) (by omega)
  have B6 := B5.trans (below_grownE (grown_setCell w5 n 1 (.int .i64 (chipOf v1))) (by omega) B5.size)
  have Z6 := Z5.other (grown_setCell w5 n 1 (.int .i64 (chipOf v1))) (.inr (by omega))
  have h2 := rnumber_any g A2 c2 l p1 e1 _ Z6.rdr
  rw [K2.out] at h2
  have H2 := Lib.hid h2
  clear h2 X5 E5 B5 Z5
  go_wp2_with fail
  clear x1 f1
  refine H2.out.mono ?_
  rintro e w7 ⟨rfl, hR, hg7⟩
  clear H2
  have X7 := X6.grown hg7 (by omega)
  have E7 := E6.grown hg7 (by omega)
  have B7 := B6.trans (below_grownE hg7 (by omega) B6.size)
  have Z7 := Z6.to hR
  clear X6 E6 B6 Z6 hR hg7
  have xf := X7.ev.c0
  have ff := X7.free 0
  have X8 := X7.put0 (wrap64 v2)
  have E8 := E7.grown (grown_setCell w7 n 0 (.int .i64 (wrap64 v2))) (by omega)
  have B8 := B7.trans (below_grownE (grown_setCell w7 n 0 (.int .i64 (wrap64 v2))) (by omega) B7.size)
  have Z8 := Z7.other (grown_setCell w7 n 0 (.int .i64 (wrap64 v2))) (.inr (by omega))
  have hc := rnumber_any g A2 c2 l p2 e2 _ Z8.rdr
  rw [K3.out] at hc
  have HC := Lib.hid hc
  clear hc X7 E7 B7 Z7
  go_wp2_with fail
  clear xf ff
  refine HC.out.mono ?_
  rintro e w9 ⟨rfl, hR, hg9⟩
  clear HC
  have X9 := X8.grown hg9 (by omega)
  have E9 := E8.grown hg9 (by omega)
  have B9 := B8.trans (below_grownE hg9 (by omega) B8.size)
  have Z9 := Z8.to hR
  clear X8 E8 B8 Z8 hR hg9
  have xf := X9.ev.c2
  have ff := X9.free 2
  have X10 := X9.put2 (wrap64 v3)
  have E10 := E9.grown (grown_setCell w9 n 2 (.int .i64 (wrap64 v3))) (by omega)
  have B10 := B9.trans (below_grownE (grown_setCell w9 n 2 (.int .i64 (wrap64 v3))) (by omega) B9.size)
  have Z10 := Z9.other (grown_setCell w9 n 2 (.int .i64 (wrap64 v3))) (.inr (by omega))
  have hc := rcount_any g A2 c2 l p3 e3 1048576 _ Z10.rdr (by omega)
  rw [K4.out] at hc
  have HC := Lib.hid hc
  clear hc X9 E9 B9 Z9
  go_wp2_with fail
  clear xf ff
  refine HC.out.mono ?_
  rintro e w11 ⟨rfl, hR, hg11⟩
  clear HC
  have X11 := X10.grown hg11 (by omega)
  have E11 := E10.grown hg11 (by omega)
  have B11 := B10.trans (below_grownE hg11 (by omega) B10.size)
  have Z11 := Z10.to hR
  clear X10 E10 B10 Z10 hR hg11
  have xf := X11.ev.c4
  have ff := X11.free 4
  have X12 := X11.put4 v4
  have E12 := E11.grown (grown_setCell w11 n 4 (.int .i64 v4)) (by omega)
  have B12 := B11.trans (below_grownE (grown_setCell w11 n 4 (.int .i64 v4)) (by omega) B11.size)
  have Z12 := Z11.other (grown_setCell w11 n 4 (.int .i64 v4)) (.inr (by omega))
  have hc := rcount_any g A2 c2 l p4 e4 255 _ Z12.rdr (by omega)
  rw [K5.out] at hc
  have HC := Lib.hid hc
  clear hc X11 E11 B11 Z11
  go_wp2_with fail
  clear xf ff
  refine HC.out.mono ?_
  rintro e w13 ⟨rfl, hR, hg13⟩
  clear HC
  have X13 := X12.grown hg13 (by omega)
  have E13 := E12.grown hg13 (by omega)
  have B13 := B12.trans (below_grownE hg13 (by omega) B12.size)
  have Z13 := Z12.to hR
  clear X12 E12 B12 Z12 hR hg13
  have xf := X13.ev.c5
  have ff := X13.free 5
  have X14 := X13.put5 v5
  have E14 := E13.grown (grown_setCell w13 n 5 (.int .i64 v5)) (by omega)
  have B14 := B13.trans (below_grownE (grown_setCell w13 n 5 (.int .i64 v5)) (by omega) B13.size)
  have Z14 := Z13.other (grown_setCell w13 n 5 (.int .i64 v5)) (.inr (by omega))
  have hc := rend_any g A2 c2 l p5 e5 _ Z14.rdr
  rw [K6.out] at hc
  have HC := Lib.hid hc
  clear hc X13 E13 B13 Z13
  go_wp2_with fail
  clear xf ff
  refine HC.out.mono ?_
  rintro e w15 ⟨rfl, hR, hg15⟩
  clear HC
  have X15 := X14.grown hg15 (by omega)
  have E15 := E14.grown hg15 (by omega)
  have B15 := B14.trans (below_grownE hg15 (by omega) B14.size)
  clear X14 E14 B14 Z14 hR hg15
  have hx : EW w15 n x := by rw [HX.out]; exact X15
  clear X15 HX K1 K2 K3 K4 K5 K6
  have hval : x.val = .agg #[.int .i64 x.time, .int .i64 x.chip, .int .i64 x.seq, .int .i64 x.kind, .int .i64 x.a, .int .i64 x.b] := rfl
  have HV := Lib.hid hval
  clear hval
  by_cases hz0 : z = 0
  · have HP := Lib.hid hz0
    subst hz0
    obtain ⟨c0, c1, c2, c3, c4, c5⟩ := hx.ev
    go_wp2_with fail
    clear c0 c1 c2 c3 c4 c5
    rw [← HV.out]
    refine (echeck_any w15 x).mono ?_
    rintro e w16 ⟨hm, hb⟩
    have X16 := hx.below hb hx.lt
    have E16 := E15.below hb E15.lt
    have B16 := B15.trans (hb.mono B15.size)
    clear hb hx E15 B15
    obtain ⟨c0, c1, c2, c3, c4, c5⟩ := X16.ev
    obtain ⟨d0, d1, d2, d3, d4, d5⟩ := E16.ev
    have g0 := E16.free 0
    have g1 := E16.free 1
    have g2 := E16.free 2
    have g3 := E16.free 3
    have g4 := E16.free 4
    have g5 := E16.free 5
    rcases hm with ⟨rfl, hm⟩ | ⟨rfl, hm⟩
    · go_wp2_with fail
      (try simp only [Exit.inBlock, Exit.then])
      exact bodyPost_ret (v := .tuple #[x.val, .int .i64 0]) (results_ev rfl _ _ _ x _ rfl rfl (putEv_ew E16 x)) rfl ⟨Or.inl ⟨⟨rfl, hm⟩, rfl⟩, B16.trans (putEv_below _ _ x (Nat.le_refl _))⟩
    · go_wp2_with fail
      (try simp only [Exit.inBlock, Exit.then])
      exact bodyPost_ret (v := .tuple #[zeroE.val, .int .i64 4]) (results_ev rfl _ _ _ zeroE _ rfl rfl (putEv_ew E16 zeroE)) rfl ⟨Or.inr ⟨fun h => hm h.2, rfl⟩, B16.trans (putEv_below _ _ zeroE (Nat.le_refl _))⟩
  · have HP := Lib.hid hz0
    have hzb : (z != 0) = true := by simpa using hz0
    clear hz0
    obtain ⟨d0, d1, d2, d3, d4, d5⟩ := E15.ev
    have g0 := E15.free 0
    have g1 := E15.free 1
    have g2 := E15.free 2
    have g3 := E15.free 3
    have g4 := E15.free 4
    have g5 := E15.free 5
    go_wp2_with fail
    (try simp only [Exit.inBlock, Exit.then])
    exact bodyPost_ret (v := .tuple #[zeroE.val, .int .i64 4]) (results_ev rfl _ _ _ zeroE _ rfl rfl (putEv_ew E15 zeroE)) rfl ⟨Or.inr ⟨fun h => HP.out h.1, rfl⟩, B15.trans (putEv_below _ _ zeroE (Nat.le_refl _))⟩
end Go.Proofs.Ythnbpdcjooifbaa
namespace Go.Proofs.Ythnbpdcjooifbaa
open Go.RowKit Go.ChangeShapes Go.WideShapes Go.ChangeAt Go.Deep
set_option maxRecDepth 100000

/-- Numbers that came in. -/
def IR (w : World) (B : Nat) (A : Option Addr) (k : IntKind) (l : List Int) : Prop := ∀ i, i < l.length → ∃ b off, A = some ⟨b, off, none⟩ ∧ b < B ∧ w.cell? ⟨b, off + i, none⟩ = some (.int k (l.getD i 0))
/-- Rows of bytes that came in. -/
def PR (w : World) (B : Nat) (A : Option Addr) (ps : List Piece) : Prop := ∀ i (h : i < ps.length), ∃ b off, A = some ⟨b, off, none⟩ ∧ b < B ∧ w.cell? ⟨b, off + i, none⟩ = some (.slice ps[i].A ps[i].l.length ps[i].c) ∧ RB w B ps[i].A ps[i].c ps[i].l

theorem open_nums {H : Type} {enc : TypeId × Value → H} {W : World} {t e : TypeId} {k : IntKind} {a : Option Addr} {len cap : Nat} {d : DataW H} {p : List MemPlace}
    (ht : Try.prog.underlying t = some (.slice e)) (he : Try.prog.underlying e = some (.int k)) (hc : Try.prog.cellsOf e = 1)
    (h : DataW.Trod enc Try.prog W 0 (fun _ => true) true t (.slice a len cap) d p) : ∃ l : List Int, len = l.length ∧ IR W W.heap.size a k l ∧ len ≤ cap ∧ cap ≤ maxLen ∧ ∀ n ∈ l, (Lit.int k n).wf = true := by
  obtain ⟨fuel, hf⟩ := h
  rcases open_ints ht he hc hf with ⟨hcs, _⟩ | ⟨x, l, c, zs, hcs, _, hl, hm, hz, _, hcell, hwz⟩
  · simp [Value.cells] at hcs
    obtain ⟨rfl, rfl, rfl⟩ := hcs
    exact ⟨[], rfl, fun i hi => absurd hi (Nat.not_lt_zero _), Nat.le_refl _, Nat.zero_le _, fun n hn => by cases hn⟩
  · simp [Value.cells] at hcs
    obtain ⟨rfl, rfl, rfl⟩ := hcs
    have hz' : zs.length = cap := by simpa using hz
    have hlen : (zs.take len).length = len := by rw [List.length_take]; omega
    refine ⟨zs.take len, hlen.symm, fun i hi => ?_, hl, hm, fun n hn => hwz n (List.mem_of_mem_take hn)⟩
    obtain ⟨b, off, rfl, hc⟩ := ints_at hcell (by omega)
    refine ⟨b, off, rfl, World.block_lt_of_cell? _ _ (hc 0 (by omega)), ?_⟩
    rw [hc i (by omega)]
    simp only [List.getD]
    rw [List.getElem?_take, if_pos (by omega)]

theorem open_rows {H : Type} {enc : TypeId × Value → H} {W : World} {a : Option Addr} {len cap : Nat} {d : DataW H} {p : List MemPlace}
    (h : DataW.Trod enc Try.prog W 0 (fun _ => true) true 105 (.slice a len cap) d p) : ∃ ps : List Piece, len = ps.length ∧ PR W W.heap.size a ps ∧ len ≤ cap ∧ cap ≤ maxLen := by
  obtain ⟨fuel, hf⟩ := h
  rcases open_int_rows Try.underlying105 Try.underlying33 Try.underlying5 (by kernel_rfl) (by kernel_rfl) hf with ⟨hcs, _⟩ | ⟨x, l, c, A, L, C, Z, hcs, _, hl, hm, _, hrows⟩
  · simp [Value.cells] at hcs
    obtain ⟨rfl, rfl, rfl⟩ := hcs
    exact ⟨[], rfl, fun i hi => absurd hi (Nat.not_lt_zero _), Nat.le_refl _, Nat.zero_le _⟩
  · simp [Value.cells] at hcs
    obtain ⟨rfl, rfl, rfl⟩ := hcs
    refine ⟨(List.range len).map fun r => ⟨A r, C r, (Z r).take (L r)⟩, by simp, fun i hi => ?_, hl, hm⟩
    have hi' : i < len := by simpa using hi
    obtain ⟨hc, hLC, hCm, hZ, hwf, hnone, hsome⟩ := hrows i (by omega)
    have hsp : x.spot = none := by simpa [Addr.add] using World.cell?_spot (hrows 0 (by omega)).1
    obtain ⟨b, off, spot⟩ := x
    simp only at hsp
    subst hsp
    rw [Go.WideShapes.add_plain] at hc
    have hlen : ((Z i).take (L i)).length = L i := by rw [List.length_take]; omega
    have hb : AllB (Z i) := fun n hn => by have := bounds_u8 (hwf n hn); omega
    refine ⟨b, off, rfl, World.block_lt_of_cell? _ _ hc, by simpa [hlen] using hc, ?_⟩
    simp only [List.getElem_map, List.getElem_range]
    refine ⟨by omega, hCm, hb.take _, ?_⟩
    cases hA : A i with
    | none =>
      have h0 := hnone hA
      have h1 : Z i = [] := List.length_eq_zero_iff.1 (by omega)
      exact .inl ⟨rfl, h0⟩
    | some a' =>
      refine .inr ⟨a', rfl, fun h0 => ?_⟩
      have hcs := (hsome a' hA).2
      have hsp : a'.spot = none := by simpa [Addr.add] using World.cell?_spot (hcs 0 (by omega))
      refine ⟨hsp, ?_, fun j hj => ?_⟩
      · have := World.block_lt_of_cell? _ _ (hcs 0 (by omega))
        simpa [Addr.add] using this
      · have h2 := hcs j (by omega)
        obtain ⟨b', off', spot'⟩ := a'
        simp only at hsp
        subst hsp
        rw [Go.WideShapes.add_plain] at h2
        simp only
        rw [h2]
        simp only [List.getD]
        rw [List.getElem?_take, if_pos (by omega)]

/-- A block's bytes. -/
def blk (m : List Int) : List Int := numB m.length ++ m
def sgX (xs : List Int) (i : Nat) : List Int := if i < xs.length then numB (xs.getD i 0).toNat else []
def sgY (ys : List Int) (i : Nat) : List Int := if i < ys.length then numB (foldZ (ys.getD i 0)) else []
def sgP (ps : List Piece) (i : Nat) : List Int := if h : i < ps.length then blk ps[i].l else []
def putB (xs ys : List Int) (ps : List Piece) : Nat → List Int
  | 0 => []
  | n + 1 => putB xs ys ps n ++ sgX xs n ++ sgY ys n ++ sgP ps n

theorem putB_split (xs ys : List Int) (ps : List Piece) : ∀ n k, k ≤ n → ∃ t, putB xs ys ps n = putB xs ys ps k ++ t
  | 0, k, hk => by obtain rfl : k = 0 := by omega
                   exact ⟨[], by simp⟩
  | n + 1, k, hk => by
    by_cases h : k = n + 1
    · subst h; exact ⟨[], by simp⟩
    · obtain ⟨t, ht⟩ := putB_split xs ys ps n k (by omega)
      exact ⟨t ++ sgX xs n ++ sgY ys n ++ sgP ps n, by simp only [putB]; rw [ht]; simp [List.append_assoc]⟩
theorem putB_parts (xs ys : List Int) (ps : List Piece) (k : Nat) (hk : k < 50) : ∃ t, putB xs ys ps 50 = putB xs ys ps k ++ sgX xs k ++ sgY ys k ++ sgP ps k ++ t := by
  obtain ⟨t, ht⟩ := putB_split xs ys ps 50 (k + 1) (by omega)
  exact ⟨t, by rw [ht]; rfl⟩

theorem sgX_le (xs : List Int) (i : Nat) : (sgX xs i).length ≤ 9 := by unfold sgX; split; exact (numB_length _).2; simp
theorem sgY_le (ys : List Int) (i : Nat) : (sgY ys i).length ≤ 9 := by unfold sgY; split; exact (numB_length _).2; simp
theorem sgP_le (ps : List Piece) (i : Nat) (h : ∀ h : i < ps.length, ps[i].l.length ≤ 3000) : (sgP ps i).length ≤ 3009 := by
  unfold sgP blk
  split
  · rename_i h'
    have := h h'
    have := (numB_length (ps[i].l.length)).2
    rw [List.length_append]; omega
  · simp

/-- A number is read where it was put. -/
theorem num_at (L done r : List Int) (x : Nat) (hx : x < 18446744073709551616) (h : L = done ++ numB x ++ r) : numSt L done.length 0 = (x, (done ++ numB x).length, 0) := by
  unfold numSt
  rw [if_pos rfl, h, List.append_assoc, List.drop_left, numRd_numB x hx, List.length_append]
theorem block_at (L done r m : List Int) (hm : m.length ≤ 1048576) (h : L = done ++ blk m ++ r) : blockSt L done.length 0 = (m, (done ++ blk m).length, 0) := by
  have hn := num_at L done (m ++ r) m.length (by omega) (by rw [h]; simp [blk])
  unfold blockSt
  rw [hn]
  simp only
  have hL : L.length = (done ++ numB m.length).length + (m.length + r.length) := by rw [h]; simp [blk]; omega
  have hd : L.drop (done ++ numB m.length).length = m ++ r := by
    rw [show L = (done ++ numB m.length) ++ (m ++ r) by rw [h]; simp [blk]]
    exact List.drop_left
  rw [if_neg (by omega), if_neg (by simp), if_neg (by omega), hd, List.take_left]
  simp [blk, Nat.add_assoc]

/-- Of bytes of which the last is missing: all is read up to it, or there are too few. -/
def CutS (L done : List Int) (p : Nat) (e : Int) : Prop := e = 5 ∨ (e = 0 ∧ p = done.length ∧ ∃ r, r ≠ [] ∧ L = done ++ r)

theorem take_cut (done t r : List Int) (h : r ≠ []) : (done ++ t ++ r).take ((done ++ t ++ r).length - 1) = done ++ t ++ r.dropLast := by
  rw [← List.dropLast_eq_take, List.dropLast_append_of_ne_nil h]

theorem num_cut (L done r : List Int) (x : Nat) (hx : x < 18446744073709551616) (h : L = done ++ numB x ++ r) (p : Nat) (e : Int) (hc : CutS L done p e) :
    CutS L (done ++ numB x) (numSt (L.take (L.length - 1)) p e).2.1 (numSt (L.take (L.length - 1)) p e).2.2 := by
  rcases hc with rfl | ⟨rfl, rfl, r', hr', hL⟩
  · exact .inl (by unfold numSt; rw [if_neg (by decide)])
  · by_cases hr : r = []
    · refine .inl ?_
      subst hr
      have hl := (numB_length x).1
      unfold numSt
      rw [if_pos rfl]
      simp only
      have : (L.take (L.length - 1)).drop done.length = (numB x).take ((numB x).length - 1) := by
        rw [List.drop_take, h]
        simp only [List.append_nil, List.drop_left, List.length_append]
        congr 1
        omega
      rw [this]
      exact numRd_short x hx _ (by omega)
    · have e1 : L.take (L.length - 1) = done ++ numB x ++ r.dropLast := by rw [h]; exact take_cut _ _ _ hr
      have := num_at (L.take (L.length - 1)) done r.dropLast x hx e1
      rw [this]
      exact .inr ⟨rfl, rfl, r, hr, h⟩

theorem block_cut (L done r m : List Int) (hm : m.length ≤ 1048576) (h : L = done ++ blk m ++ r) (p : Nat) (e : Int) (hc : CutS L done p e) :
    CutS L (done ++ blk m) (blockSt (L.take (L.length - 1)) p e).2.1 (blockSt (L.take (L.length - 1)) p e).2.2 := by
  rcases hc with rfl | ⟨rfl, rfl, r', hr', hL⟩
  · refine .inl ?_
    unfold blockSt numSt
    simp
  · by_cases hr : r = []
    · refine .inl ?_
      subst hr
      have hl := (numB_length m.length).1
      have h2 : L = done ++ numB m.length ++ m := by rw [h]; simp [blk]
      have hcut := num_cut L done m m.length (by omega) h2 done.length 0 (.inr ⟨rfl, rfl, r', hr', hL⟩)
      by_cases hm0 : m = []
      · subst hm0
        have h5 : (numSt (L.take (L.length - 1)) done.length 0).2.2 = 5 := by
          rcases hcut with h5 | ⟨_, _, r2, hr2, hL2⟩
          · exact h5
          · rw [h2, List.append_nil] at hL2
            simp at hL2
            exact absurd hL2 hr2
        have hv : (numSt (L.take (L.length - 1)) done.length 0).1 = 0 := by
          unfold numSt
          rw [if_pos rfl]
          simp only
          have : (L.take (L.length - 1)).drop done.length = [] := by
            rw [h2]
            simp [numB]
          rw [this]; rfl
        unfold blockSt
        rw [if_neg (by omega), if_pos (by rw [h5]; decide), h5]
      · have e1 : L.take (L.length - 1) = done ++ numB m.length ++ m.dropLast := by rw [h2]; exact take_cut _ _ _ hm0
        have hn := num_at (L.take (L.length - 1)) done m.dropLast m.length (by omega) e1
        have hpos : 0 < m.length := List.length_pos_iff.2 hm0
        unfold blockSt
        rw [hn]
        simp only
        rw [if_neg (by omega), if_neg (by simp), if_pos (by rw [e1]; simp; omega)]
    · have e1 : L.take (L.length - 1) = done ++ blk m ++ r.dropLast := by rw [h]; exact take_cut _ _ _ hr
      have := block_at (L.take (L.length - 1)) done r.dropLast m hm e1
      rw [this]
      exact .inr ⟨rfl, rfl, r, hr, h⟩
end Go.Proofs.Ythnbpdcjooifbaa
namespace Go.Proofs.Ythnbpdcjooifbaa
open Go.RowKit
set_option linter.unusedSimpArgs false
set_option linter.unusedVariables false
set_option maxRecDepth 100000

/-- An event's bytes. -/
def evB (x : Ev) : List Int := [] ++ numB x.kind.toNat ++ numB x.time.toNat ++ numB x.seq.toNat ++ numB x.a.toNat ++ numB x.b.toNat

def EvBytes (B : Nat) (w : World) (x : Ev) (e : Ending) (w' : World) : Prop :=
  ∃ A c, e = .returned (.tuple #[.slice A (evB x).length c, .int .i64 0]) ∧ OB w' B A c (evB x) ∧ Below B w w'

theorem May.kind {x : Ev} (h : x.May) : 1 ≤ x.kind ∧ x.kind ≤ 12 := by
  have := h.1
  unfold chipOf at this
  (repeat' split at this) <;> omega

set_option maxHeartbeats 1600000 in
theorem ebytes_may (w : World) (x : Ev) (hm : x.May) : Calls Try.prog 80 #[x.val] w (EvBytes w.heap.size w x) := by
  have hk := May.kind hm
  have hm' := hm
  obtain ⟨-, -, t0, t1, s0, s1, a0, a1, b0, b1⟩ := hm'
  have HM := Lib.hid hm
  clear hm
  have HC := Lib.hid (fun w => echeck_any w x)
  have hE : evB x = [] ++ numB x.kind.toNat ++ numB x.time.toNat ++ numB x.seq.toNat ++ numB x.a.toNat ++ numB x.b.toNat := rfl
  unfold EvBytes
  have hx := fun W => EV.laid W x
  obtain ⟨t, c, s, k, a, b⟩ := x
  simp only at hE hk t0 t1 s0 s1 a0 a1 b0 b1
  obtain ⟨tn, rfl⟩ : ∃ n : Nat, t = n := ⟨t.toNat, by omega⟩
  obtain ⟨sn, rfl⟩ : ∃ n : Nat, s = n := ⟨s.toNat, by omega⟩
  obtain ⟨kn, rfl⟩ : ∃ n : Nat, k = n := ⟨k.toNat, by omega⟩
  obtain ⟨an, rfl⟩ : ∃ n : Nat, a = n := ⟨a.toNat, by omega⟩
  obtain ⟨bn, rfl⟩ : ∃ n : Nat, b = n := ⟨b.toNat, by omega⟩
  obtain ⟨hk0, hk1⟩ := hk
  simp only [Int.toNat_natCast] at hE
  have g1 := (numB_length kn).2
  have g2 := (numB_length tn).2
  have g3 := (numB_length sn).2
  have g4 := (numB_length an).2
  have g5 := (numB_length bn).2
  obtain ⟨L1, h1⟩ : ∃ L, [] ++ numB kn = L := ⟨_, rfl⟩
  have l1 : L1.length ≤ 9 := by rw [← h1]; simpa using g1
  obtain ⟨L2, h2⟩ : ∃ L, L1 ++ numB tn = L := ⟨_, rfl⟩
  have l2 : L2.length ≤ 18 := by rw [← h2, List.length_append]; omega
  obtain ⟨L3, h3⟩ : ∃ L, L2 ++ numB sn = L := ⟨_, rfl⟩
  have l3 : L3.length ≤ 27 := by rw [← h3, List.length_append]; omega
  obtain ⟨L4, h4⟩ : ∃ L, L3 ++ numB an = L := ⟨_, rfl⟩
  have l4 : L4.length ≤ 36 := by rw [← h4, List.length_append]; omega
  obtain ⟨L5, h5⟩ : ∃ L, L4 ++ numB bn = L := ⟨_, rfl⟩
  rw [h1, h2, h3, h4, h5] at hE
  rw [hE]
  have H1 := Lib.hid h1
  have H2 := Lib.hid h2
  have H3 := Lib.hid h3
  have H4 := Lib.hid h4
  have H5 := Lib.hid h5
  clear hE h1 h2 h3 h4 h5 g1 g2 g3 g4 g5
  unfold Ev.val
  have c0 := hx w
  clear hx
  go_enter Try.func80, Try.ntmps80
  go_wp2_with fail
  refine (HC.out _).mono ?_
  rintro e w1 ⟨he, hb1⟩
  have he0 : e = .returned (.int .i64 0) := by
    rcases he with ⟨he, _⟩ | ⟨_, hn⟩
    · exact he
    · exact absurd HM.out hn
  subst he0
  clear he
  have hlt1 : w.heap.size < w1.heap.size := by have := hb1.size; simp at this; omega
  have C1 : EV w1 w.heap.size _ := c0.below hb1 (by simp)
  have B1 : Below w.heap.size w w1 := ((Below.refl _ _).alloc (Nat.le_refl _) _).trans (hb1.mono (by simp))
  clear c0 hb1
  have C := C1
  obtain ⟨x0, x1, x2, x3, x4, x5⟩ := C
  simp only at x0 x1 x2 x3 x4 x5
  go_wp2_with fail
  clear x0 x1 x2 x3 x4 x5
  refine (number_any none 0 0 [] kn w1 w1.heap.size rfl (RB.nil _ _) (Nat.le_refl _) (by simp) (by omega)).mono ?_
  rw [H1.out]
  rintro e w2 ⟨A1, c1, rfl, o1, hb1⟩
  have hlt2 : w.heap.size < w2.heap.size := by have := hb1.size; omega
  have C2 := C1.below hb1 hlt1
  have B2 := B1.trans (hb1.mono B1.size)
  have O1 := o1.mono B1.size
  clear C1 o1 hb1
  have C := C2
  obtain ⟨x0, x1, x2, x3, x4, x5⟩ := C
  simp only at x0 x1 x2 x3 x4 x5
  go_wp2_with fail
  clear x0 x1 x2 x3 x4 x5
  refine (number_any A1 _ c1 L1 tn w2 w2.heap.size rfl O1.rb (Nat.le_refl _) (by omega) (by omega)).mono ?_
  rw [H2.out]
  rintro e w3 ⟨A2, c2, rfl, o2, hb2⟩
  have hlt3 : w.heap.size < w3.heap.size := by have := hb2.size; omega
  have C3 := C2.below hb2 hlt2
  have B3 := B2.trans (hb2.mono B2.size)
  have O2 := o2.mono B2.size
  clear C2 o2 hb2 O1
  have C := C3
  obtain ⟨x0, x1, x2, x3, x4, x5⟩ := C
  simp only at x0 x1 x2 x3 x4 x5
  go_wp2_with fail
  clear x0 x1 x2 x3 x4 x5
  refine (number_any A2 _ c2 L2 sn w3 w3.heap.size rfl O2.rb (Nat.le_refl _) (by omega) (by omega)).mono ?_
  rw [H3.out]
  rintro e w4 ⟨A3, c3, rfl, o3, hb3⟩
  have hlt4 : w.heap.size < w4.heap.size := by have := hb3.size; omega
  have C4 := C3.below hb3 hlt3
  have B4 := B3.trans (hb3.mono B3.size)
  have O3 := o3.mono B3.size
  clear C3 o3 hb3 O2
  have C := C4
  obtain ⟨x0, x1, x2, x3, x4, x5⟩ := C
  simp only at x0 x1 x2 x3 x4 x5
  go_wp2_with fail
  clear x0 x1 x2 x3 x4 x5
  refine (number_any A3 _ c3 L3 an w4 w4.heap.size rfl O3.rb (Nat.le_refl _) (by omega) (by omega)).mono ?_
  rw [H4.out]
  rintro e w5 ⟨A4, c4, rfl, o4, hb4⟩
  have hlt5 : w.heap.size < w5.heap.size := by have := hb4.size; omega
  have C5 := C4.below hb4 hlt4
  have B5 := B4.trans (hb4.mono B4.size)
  have O4 := o4.mono B4.size
  clear C4 o4 hb4 O3
  have C := C5
  obtain ⟨x0, x1, x2, x3, x4, x5⟩ := C
  simp only at x0 x1 x2 x3 x4 x5
  go_wp2_with fail
  clear x0 x1 x2 x3 x4 x5
  refine (number_any A4 _ c4 L4 bn w5 w5.heap.size rfl O4.rb (Nat.le_refl _) (by omega) (by omega)).mono ?_
  rw [H5.out]
  rintro e w6 ⟨A5, c5, rfl, o5, hb5⟩
  have hlt6 : w.heap.size < w6.heap.size := by have := hb5.size; omega
  have C6 := C5.below hb5 hlt5
  have B6 := B5.trans (hb5.mono B5.size)
  have O5 := o5.mono B5.size
  clear C5 o5 hb5 O4
  go_wp2_with fail
  go_ret2
  exact ⟨A5, c5, rfl, O5, B6⟩

set_option maxHeartbeats 800000 in
theorem ebytes_not (w : World) (x : Ev) (hm : ¬ x.May) : Calls Try.prog 80 #[x.val] w fun e w' => e = .returned (.tuple #[.slice none 0 0, .int .i64 2]) ∧ Below w.heap.size w w' := by
  have HC := Lib.hid (fun w => echeck_any w x)
  have hx := fun W => EV.laid W x
  have HM := Lib.hid hm
  clear hm
  obtain ⟨t, c, s, k, a, b⟩ := x
  unfold Ev.val
  have c0 := hx w
  clear hx
  go_enter Try.func80, Try.ntmps80
  go_wp2_with fail
  refine (HC.out _).mono ?_
  rintro e w1 ⟨he, hb1⟩
  have he0 : e = .returned (.int .i64 2) := by
    rcases he with ⟨_, hn⟩ | ⟨he, _⟩
    · exact absurd hn HM.out
    · exact he
  subst he0
  clear he
  have hB1 : Below w.heap.size w w1 := ((Below.refl _ _).alloc (Nat.le_refl _) _).trans (hb1.mono (by simp))
  clear hb1
  go_wp2_with fail
  go_ret2
  exact ⟨rfl, hB1⟩
end Go.Proofs.Ythnbpdcjooifbaa
namespace Go.Proofs.Ythnbpdcjooifbaa
open Go.RowKit
set_option linter.unusedSimpArgs false
set_option linter.unusedVariables false
set_option maxRecDepth 100000

theorem count_at (L done r : List Int) (x : Nat) (most : Int) (hx : x < 18446744073709551616) (hm : (x : Int) ≤ most) (h : L = done ++ numB x ++ r) : countSt L done.length 0 most = (x, (done ++ numB x).length, 0) := by
  unfold countSt
  rw [num_at L done r x hx h]
  rw [if_neg (by simp only; omega)]

/-- Five numbers, and what stands behind them. -/
theorem erd_at (x : Ev) (hm : x.May) (t : List Int) : (erd1 (evB x ++ t)).1 = x.kind.toNat ∧ (erd2 (evB x ++ t)).1 = x.time.toNat ∧ (erd3 (evB x ++ t)).1 = x.seq.toNat ∧ (erd4 (evB x ++ t)).1 = x.a.toNat ∧ erd5 (evB x ++ t) = (x.b.toNat, (evB x).length, 0) := by
  have hk := May.kind hm
  obtain ⟨-, -, t0, t1, s0, s1, a0, a1, b0, b1⟩ := hm
  obtain ⟨L, hL⟩ : ∃ L, evB x ++ t = L := ⟨_, rfl⟩
  have e : L = [] ++ numB x.kind.toNat ++ numB x.time.toNat ++ numB x.seq.toNat ++ numB x.a.toNat ++ numB x.b.toNat ++ t := by rw [← hL]; rfl
  rw [hL]
  have h1 : erd1 L = (x.kind.toNat, ([] ++ numB x.kind.toNat).length, 0) := count_at L [] (numB x.time.toNat ++ numB x.seq.toNat ++ numB x.a.toNat ++ numB x.b.toNat ++ t) _ 12 (by omega) (by omega) (by rw [e]; simp only [List.append_assoc])
  have h2 : erd2 L = (x.time.toNat, ([] ++ numB x.kind.toNat ++ numB x.time.toNat).length, 0) := by
    unfold erd2; rw [h1]
    exact num_at L _ (numB x.seq.toNat ++ numB x.a.toNat ++ numB x.b.toNat ++ t) _ (by omega) (by rw [e]; simp only [List.append_assoc])
  have h3 : erd3 L = (x.seq.toNat, ([] ++ numB x.kind.toNat ++ numB x.time.toNat ++ numB x.seq.toNat).length, 0) := by
    unfold erd3; rw [h2]
    exact num_at L _ (numB x.a.toNat ++ numB x.b.toNat ++ t) _ (by omega) (by rw [e]; simp only [List.append_assoc])
  have h4 : erd4 L = (x.a.toNat, ([] ++ numB x.kind.toNat ++ numB x.time.toNat ++ numB x.seq.toNat ++ numB x.a.toNat).length, 0) := by
    unfold erd4; rw [h3]
    exact count_at L _ (numB x.b.toNat ++ t) _ 1048576 (by omega) (by omega) (by rw [e]; simp only [List.append_assoc])
  have h5 : erd5 L = (x.b.toNat, (evB x).length, 0) := by
    unfold erd5; rw [h4]
    exact count_at L _ t _ 255 (by omega) (by omega) (by rw [e])
  exact ⟨by rw [h1], by rw [h2], by rw [h3], by rw [h4], h5⟩

theorem wrap_small (n : Nat) (h : n ≤ 9223372036854775807) : wrap64 (n : Int) = n := by
  unfold wrap64; omega

theorem erd_self (x : Ev) (hm : x.May) : erdE (evB x) = 0 ∧ erdX (evB x) = x := by
  have hk := May.kind hm
  obtain ⟨h1, h2, h3, h4, h5⟩ := erd_at x hm []
  rw [List.append_nil] at h1 h2 h3 h4 h5
  have hc := hm.2.1
  obtain ⟨-, -, t0, t1, s0, s1, a0, a1, b0, b1⟩ := hm
  constructor
  · unfold erdE; rw [h5]; simp [endSt]
  · unfold erdX
    rw [h1, h2, h3, h4, h5, wrap_small _ (by omega), wrap_small _ (by omega)]
    obtain ⟨t, c, s, k, a, b⟩ := x
    simp only at *
    rw [Int.toNat_of_nonneg (by omega : 0 ≤ k), Int.toNat_of_nonneg t0, Int.toNat_of_nonneg s0, Int.toNat_of_nonneg a0, Int.toNat_of_nonneg b0, ← hc]

theorem erd_more (x : Ev) (hm : x.May) (v : Int) : erdE (evB x ++ [v]) ≠ 0 := by
  obtain ⟨h1, h2, h3, h4, h5⟩ := erd_at x hm [v]
  unfold erdE
  rw [h5]
  simp [endSt]

theorem num_err (l : List Int) (p : Nat) (e : Int) (h : e ≠ 0) : (numSt l p e).2.2 ≠ 0 := by
  unfold numSt; rw [if_neg h]; exact h
theorem count_err (l : List Int) (p : Nat) (e most : Int) (h : (numSt l p e).2.2 ≠ 0) : (countSt l p e most).2.2 ≠ 0 := by
  unfold countSt
  split
  · simp
  · exact h
theorem end_err (l : List Int) (p : Nat) (e : Int) (h : e ≠ 0) : endSt l p e ≠ 0 := by
  unfold endSt; rw [if_neg (fun k => h k.1)]; exact h
theorem end_ok (l : List Int) (p : Nat) (e : Int) (h : endSt l p e = 0) : e = 0 ∧ l.length ≤ p := by
  unfold endSt at h
  split at h
  · simp at h
  · rename_i k
    exact ⟨h, by omega⟩
theorem num_ok (l : List Int) (hb : AllB l) (p : Nat) (e : Int) (h : (numSt l p e).2.2 = 0) : e = 0 ∧ l.take (numSt l p e).2.1 = l.take p ++ numB (numSt l p e).1 := by
  have he : e = 0 := by
    rcases Int.lt_trichotomy e 0 with k | k | k
    · exact absurd h (num_err l p e (by omega))
    · exact k
    · exact absurd h (num_err l p e (by omega))
  subst he
  refine ⟨rfl, ?_⟩
  unfold numSt at h ⊢
  rw [if_pos rfl] at h ⊢
  simp only at h ⊢
  have := numB_numRd (l.drop p) (hb.drop p) h
  rw [this.1, List.take_add]
theorem count_ok (l : List Int) (hb : AllB l) (p : Nat) (e most : Int) (h : (countSt l p e most).2.2 = 0) : e = 0 ∧ l.take (countSt l p e most).2.1 = l.take p ++ numB (countSt l p e most).1 := by
  unfold countSt at h ⊢
  split at h
  · simp at h
  · rename_i k
    rw [if_neg k]
    exact num_ok l hb p e h

theorem wrap_nat (v : Nat) (h : v < 18446744073709551616) (h0 : 0 ≤ wrap64 (v : Int)) : (wrap64 (v : Int)).toNat = v := by
  unfold wrap64 at *; omega

/-- WHAT IS READ HAS JUST THESE BYTES. -/
theorem erd_back (l : List Int) (hb : AllB l) (hz : erdE l = 0) (hm : (erdX l).May) : evB (erdX l) = l := by
  obtain ⟨e5, hp⟩ := end_ok _ _ _ hz
  obtain ⟨e4, k5⟩ := count_ok l hb _ _ _ (show (countSt l (erd4 l).2.1 (erd4 l).2.2 255).2.2 = 0 from e5)
  obtain ⟨e3, k4⟩ := count_ok l hb _ _ _ (show (countSt l (erd3 l).2.1 (erd3 l).2.2 1048576).2.2 = 0 from e4)
  obtain ⟨e2, k3⟩ := num_ok l hb _ _ (show (numSt l (erd2 l).2.1 (erd2 l).2.2).2.2 = 0 from e3)
  obtain ⟨e1, k2⟩ := num_ok l hb _ _ (show (numSt l (erd1 l).2.1 (erd1 l).2.2).2.2 = 0 from e2)
  obtain ⟨_, k1⟩ := count_ok l hb _ _ _ (show (countSt l 0 0 12).2.2 = 0 from e1)
  have q5 : l.take (erd5 l).2.1 = l.take (erd4 l).2.1 ++ numB (erd5 l).1 := k5
  have q4 : l.take (erd4 l).2.1 = l.take (erd3 l).2.1 ++ numB (erd4 l).1 := k4
  have q3 : l.take (erd3 l).2.1 = l.take (erd2 l).2.1 ++ numB (erd3 l).1 := k3
  have q2 : l.take (erd2 l).2.1 = l.take (erd1 l).2.1 ++ numB (erd2 l).1 := k2
  have q1 : l.take (erd1 l).2.1 = l.take 0 ++ numB (erd1 l).1 := k1
  have hall : l.take (erd5 l).2.1 = l := List.take_of_length_le hp
  have b2 : (erd2 l).1 < 18446744073709551616 := numSt_lt _ _ _ hb
  have b3 : (erd3 l).1 < 18446744073709551616 := numSt_lt _ _ _ hb
  obtain ⟨-, -, t0, t1, s0, s1, a0, a1, c0, c1⟩ := hm
  have w2 := wrap_nat _ b2 (by have h := t0; unfold erdX at h; exact h)
  have w3 := wrap_nat _ b3 (by have h := s0; unfold erdX at h; exact h)
  have hX : evB (erdX l) = [] ++ numB (erd1 l).1 ++ numB (erd2 l).1 ++ numB (erd3 l).1 ++ numB (erd4 l).1 ++ numB (erd5 l).1 := by
    unfold evB erdX
    simp only
    rw [w2, w3, Int.toNat_natCast, Int.toNat_natCast, Int.toNat_natCast]
  rw [hX]
  refine Eq.trans ?_ hall
  rw [q5, q4, q3, q2, q1, List.take_zero]

/-- WITHOUT ITS LAST BYTE IT IS NONE. -/
theorem erd_less (x : Ev) (hm : x.May) : erdE ((evB x).take ((evB x).length - 1)) ≠ 0 := by
  have hk := May.kind hm
  obtain ⟨-, -, t0, t1, s0, s1, a0, a1, b0, b1⟩ := hm
  have hl := numB_length x.b.toNat
  obtain ⟨D, hD⟩ : ∃ D, [] ++ numB x.kind.toNat ++ numB x.time.toNat ++ numB x.seq.toNat ++ numB x.a.toNat = D := ⟨_, rfl⟩
  have e0 : evB x = D ++ numB x.b.toNat := by rw [← hD]; rfl
  obtain ⟨L, hL⟩ : ∃ L, (evB x).take ((evB x).length - 1) = L := ⟨_, rfl⟩
  have eL : L = D ++ (numB x.b.toNat).take ((numB x.b.toNat).length - 1) := by
    rw [← hL, e0, List.take_append, List.length_append]
    rw [List.take_of_length_le (by omega), show D.length + (numB x.b.toNat).length - 1 - D.length = (numB x.b.toNat).length - 1 by omega]
  have e : L = [] ++ numB x.kind.toNat ++ numB x.time.toNat ++ numB x.seq.toNat ++ numB x.a.toNat ++ (numB x.b.toNat).take ((numB x.b.toNat).length - 1) := by rw [eL, ← hD]
  rw [hL]
  have h1 : erd1 L = (x.kind.toNat, ([] ++ numB x.kind.toNat).length, 0) := count_at L [] (numB x.time.toNat ++ numB x.seq.toNat ++ numB x.a.toNat ++ (numB x.b.toNat).take ((numB x.b.toNat).length - 1)) _ 12 (by omega) (by omega) (by rw [e]; simp only [List.append_assoc])
  have h2 : erd2 L = (x.time.toNat, ([] ++ numB x.kind.toNat ++ numB x.time.toNat).length, 0) := by
    unfold erd2; rw [h1]
    exact num_at L _ (numB x.seq.toNat ++ numB x.a.toNat ++ (numB x.b.toNat).take ((numB x.b.toNat).length - 1)) _ (by omega) (by rw [e]; simp only [List.append_assoc])
  have h3 : erd3 L = (x.seq.toNat, ([] ++ numB x.kind.toNat ++ numB x.time.toNat ++ numB x.seq.toNat).length, 0) := by
    unfold erd3; rw [h2]
    exact num_at L _ (numB x.a.toNat ++ (numB x.b.toNat).take ((numB x.b.toNat).length - 1)) _ (by omega) (by rw [e]; simp only [List.append_assoc])
  have h4 : erd4 L = (x.a.toNat, D.length, 0) := by
    unfold erd4; rw [h3, ← hD]
    exact count_at L _ ((numB x.b.toNat).take ((numB x.b.toNat).length - 1)) _ 1048576 (by omega) (by omega) (by rw [e])
  have h5 : (erd5 L).2.2 ≠ 0 := by
    unfold erd5; rw [h4]
    refine count_err _ _ _ _ ?_
    unfold numSt
    rw [if_pos rfl]
    simp only
    rw [eL, List.drop_left, numRd_short x.b.toNat (by omega) _ (by omega)]
    decide
  exact end_err _ _ _ h5
end Go.Proofs.Ythnbpdcjooifbaa
namespace Go.Proofs.Ythnbpdcjooifbaa
open Go.RowKit

/-- The row of a literal, marked or not. -/
theorem RB.row (w : World) (l : List Int) (fr : Nat × Nat) (hb : AllB l) (hm : l.length ≤ maxLen) : RB (w.alloc (.cells (l.map (Value.int .u8)).toArray 5 fr)) (w.heap.size + 1) (some ⟨w.heap.size, 0, none⟩) l.length l := by
  refine RB.mk_ (Nat.le_refl _) hm hb (Nat.lt_succ_self _) fun i hi => ?_
  rw [cell_of_row _ _ _ _ _ _ (heap_alloc_new w _)]
  simp [hi]

theorem str_rb (w : World) (B : Nat) (A : Option Addr) (c n : Nat) (l : List Int) (h : RB w B A c l) (hn : n = l.length) :
    (convert 33 9 (.slice A n c)).run Try.prog w = .ok (.string (strOfNums l)) w := by subst hn; exact run_string_rb w B A c l h

theorem AllB.of {l : List Int} (h : l.all (fun n => decide (0 ≤ n) && decide (n < 256)) = true) : AllB l := fun n hn => by
  have := List.all_eq_true.1 h n hn
  simpa using this

theorem sum_nine : (sumL [49, 50, 51, 52, 53, 54, 55, 56, 57]).toNat = 10673 := by decide +kernel
theorem read1 : numSt [250, 0, 0, 1, 5] 0 0 = (65536, 4, 0) := by decide +kernel
theorem read2 : numSt [250, 0, 0, 1, 5] 4 0 = (5, 5, 0) := by decide +kernel
theorem read3 : endSt [250, 0, 0, 1, 5] 5 0 = 0 := by decide +kernel

theorem block_ab (w : World) : Calls Try.prog 81 #[.slice none 0 0, .slice (some ⟨w.heap.size, 0, none⟩) 2 2] (w.alloc (.cells #[.int .u8 97, .int .u8 98] 5 (2, 3))) fun e w' =>
    ∃ A c, e = .returned (.tuple #[.slice A 3 c, .int .i64 0]) ∧ OB w' w.heap.size A c [2, 97, 98] ∧ Below w.heap.size w w' := by
  refine (block_any none _ 0 0 2 2 [] [97, 98] _ _ rfl rfl (RB.nil _ _) (RB.row w [97, 98] (2, 3) (AllB.of (by decide)) (by decide)) (by simp) (by decide) (by decide)).mono ?_
  rintro e w1 ⟨A1, c1, he, ho1, hb1⟩
  exact ⟨A1, c1, he, ho1.mono (by simp), ((Below.refl _ _).alloc (Nat.le_refl _) _).trans (hb1.mono (by simp))⟩

theorem number_248 (w : World) : Calls Try.prog 55 #[.slice none 0 0, .int .u64 248] w fun e w' =>
    ∃ A c, e = .returned (.slice A 2 c) ∧ OB w' w.heap.size A c [248, 248] ∧ Below w.heap.size w w' := by
  refine (number_any none 0 0 [] 248 w 0 rfl (RB.nil _ _) (Nat.zero_le _) (by decide) (by decide)).mono ?_
  rintro e w1 ⟨A1, c1, he, ho1, hb1⟩
  exact ⟨A1, c1, he, ho1, hb1⟩

end Go.Proofs.Ythnbpdcjooifbaa
namespace Go.Proofs.Ythnbpdcjooifbaa
open Go.RowKit

theorem number_nil (v : Nat) (w : World) (hv : v < 18446744073709551616) : Calls Try.prog 55 #[.slice none 0 0, .int .u64 v] w fun e w' =>
    ∃ A c, e = .returned (.slice A (numB v).length c) ∧ OB w' w.heap.size A c (numB v) ∧ Below w.heap.size w w' :=
  (number_any none 0 0 [] v w 0 rfl (RB.nil _ _) (Nat.zero_le _) (Nat.zero_le _) hv).mono fun _ _ ⟨A, c, h1, h2, h3⟩ => ⟨A, c, h1, h2, h3⟩
theorem block_nil (X : Option Addr) (k cx : Nat) (m : List Int) (w : World) (D : Nat) (hk : k = m.length) (hx : RB w D X cx m) (hD : D ≤ w.heap.size) (hm : m.length ≤ 1048576) : Calls Try.prog 81 #[.slice none 0 0, .slice X k cx] w fun e w' =>
    ∃ A c, e = .returned (.tuple #[.slice A (numB m.length ++ m).length c, .int .i64 0]) ∧ OB w' w.heap.size A c (numB m.length ++ m) ∧ Below w.heap.size w w' :=
  (block_any none X 0 0 k cx [] m w D rfl hk (RB.nil _ _) hx hD (Nat.zero_le _) hm).mono fun _ _ ⟨A, c, h1, h2, h3⟩ => ⟨A, c, h1, h2, h3⟩

theorem RB.pre {w : World} {B c : Nat} {A : Option Addr} {l : List Int} (h : RB w B A c l) (k : Nat) (hk : k ≤ l.length) : RB w B A c (l.take k) := by
  have hlen : (l.take k).length = k := by rw [List.length_take]; omega
  refine ⟨by have := h.le; omega, h.cap, h.bytes.take k, ?_⟩
  rcases h.at_ with h1 | ⟨a, rfl, hc⟩
  · exact .inl h1
  · refine .inr ⟨a, rfl, fun h0 => ?_⟩
    obtain ⟨hs, hb, hc⟩ := hc (by omega)
    refine ⟨hs, hb, fun i hi => ?_⟩
    rw [hc i (by omega)]
    simp only [List.getD]
    rw [List.getElem?_take, if_pos (by omega)]

theorem unfoldN_bd (v : Nat) (h : v < 18446744073709551616) : -9223372036854775808 ≤ unfoldN v ∧ unfoldN v < 9223372036854775808 := by unfold unfoldN; split <;> omega

theorem numRd_err (r : List Int) : (numRd r).2.2 = 0 ∨ (numRd r).2.2 = 4 ∨ (numRd r).2.2 = 5 := by
  cases r with
  | nil => exact .inr (.inr rfl)
  | cons f t =>
    unfold numRd
    simp only
    split
    · exact .inl rfl
    · split
      · exact .inr (.inr rfl)
      · split
        · exact .inr (.inl rfl)
        · exact .inl rfl

theorem block_back (l : List Int) (hb : AllB l) : ∃ (m : List Int) (q : Nat) (x : Int), blockSt l 0 0 = (m, q, x) ∧ AllB m ∧ m.length ≤ 1048576 ∧ (x = 0 ∨ x = 3 ∨ x = 4 ∨ x = 5) ∧ (x = 0 → numB m.length ++ m = l.take q ∧ q ≤ l.length) := by
  have h1 := numB_numRd l hb
  have h2 := numRd_err l
  unfold blockSt numSt
  simp only [if_true, List.drop_zero]
  generalize numRd l = r at *
  obtain ⟨v, k, x⟩ := r
  simp only at *
  by_cases hv : 1048576 < v
  · rw [if_pos hv]
    exact ⟨_, _, _, rfl, AllB.nil, by simp, by simp, by simp⟩
  · rw [if_neg hv]
    by_cases hx : x = 0
    · subst hx
      obtain ⟨h3, h4⟩ := h1 rfl
      simp only [ne_eq, not_true, if_false, Nat.zero_add]
      by_cases hl : l.length - k < v
      · rw [if_pos hl]; exact ⟨_, _, _, rfl, AllB.nil, by simp, by simp, by simp⟩
      · rw [if_neg hl]
        have hml : ((l.drop k).take v).length = v := by rw [List.length_take, List.length_drop]; omega
        refine ⟨_, _, _, rfl, (hb.drop k).take v, by omega, .inl rfl, fun _ => ⟨?_, by omega⟩⟩
        rw [hml, h3, ← List.take_add]
    · simp only [ne_eq, hx, not_false_eq_true, if_true]
      refine ⟨_, _, _, rfl, AllB.nil, by simp, ?_, fun h => absurd h hx⟩
      rcases h2 with h2 | h2 | h2
      · exact absurd h2 hx
      · exact .inr (.inr (.inl h2))
      · exact .inr (.inr (.inr h2))

end Go.Proofs.Ythnbpdcjooifbaa
