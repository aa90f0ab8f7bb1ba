
/- Read of an event: the walk. -/
import Derived.Test.YthmogabonfkmhaaGreatDoorG0
namespace Go.Proofs.YthmogabonfkmhaaGreatDoor
open Go.RowKit
set_option linter.unusedSimpArgs false
set_option linter.unusedVariables false
set_option maxRecDepth 100000

/-- What the numbers of a row of bytes are, one behind the other. -/
def erd1 (l : List Int) : Nat × Nat × Int := countSt l 0 0 12
def erd2 (l : List Int) : Nat × Nat × Int := numSt l (erd1 l).2.1 (erd1 l).2.2
def erd3 (l : List Int) : Nat × Nat × Int := numSt l (erd2 l).2.1 (erd2 l).2.2
def erd4 (l : List Int) : Nat × Nat × Int := countSt l (erd3 l).2.1 (erd3 l).2.2 1048576
def erd5 (l : List Int) : Nat × Nat × Int := countSt l (erd4 l).2.1 (erd4 l).2.2 255
def erdE (l : List Int) : Int := endSt l (erd5 l).2.1 (erd5 l).2.2
def erdX (l : List Int) : Ev := ⟨wrap64 (erd2 l).1, chipOf (erd1 l).1, wrap64 (erd3 l).1, (erd1 l).1, (erd4 l).1, (erd5 l).1⟩

def ReadTo (z : Int) (x : Ev) (B : Nat) (w : World) (e : Ending) (w' : World) : Prop :=
  (((z = 0 ∧ x.May) ∧ e = .returned (.tuple #[x.val, .int .i64 0])) ∨ (¬ (z = 0 ∧ x.May) ∧ e = .returned (.tuple #[zeroE.val, .int .i64 4]))) ∧ Below B w w'
def ReadPost (l : List Int) (B : Nat) (w : World) (e : Ending) (w' : World) : Prop := ReadTo (erdE l) (erdX l) B w e w'

theorem below_grownE {w w' : World} {g B : Nat} (hb : w.grownBy w' (some g)) (hg : B ≤ g) (hB : B ≤ w.heap.size) : Below B w w' := ⟨hb.os, hb.tape, hb.output, hb.size, fun k hk => hb.block k (by omega) (fun e => by have := Option.some.inj e; omega)⟩

set_option maxHeartbeats 3200000 in
theorem eread_any (A : Option Addr) (c n : Nat) (l : List Int) (w : World) (B : Nat) (hn : n = l.length) (h : RB w B A c l) (hB : B ≤ w.heap.size) (hlen : l.length ≤ 1099511627776) :
    Calls Tryz.prog 7 #[.slice A n c] w (ReadPost l w.heap.size w) := by
  subst hn
  have hbytes := h.bytes
  obtain ⟨r1, hr1⟩ : ∃ r, erd1 l = r := ⟨_, rfl⟩
  obtain ⟨r2, hr2⟩ : ∃ r, erd2 l = r := ⟨_, rfl⟩
  obtain ⟨r3, hr3⟩ : ∃ r, erd3 l = r := ⟨_, rfl⟩
  obtain ⟨r4, hr4⟩ : ∃ r, erd4 l = r := ⟨_, rfl⟩
  obtain ⟨r5, hr5⟩ : ∃ r, erd5 l = r := ⟨_, rfl⟩
  obtain ⟨z, hz⟩ : ∃ r, erdE l = r := ⟨_, rfl⟩
  have D1 : countSt l 0 0 12 = r1 := hr1
  have D2 : numSt l r1.2.1 r1.2.2 = r2 := by rw [← hr1, ← hr2]; rfl
  have D3 : numSt l r2.2.1 r2.2.2 = r3 := by rw [← hr2, ← hr3]; rfl
  have D4 : countSt l r3.2.1 r3.2.2 1048576 = r4 := by rw [← hr3, ← hr4]; rfl
  have D5 : countSt l r4.2.1 r4.2.2 255 = r5 := by rw [← hr4, ← hr5]; rfl
  have D6 : endSt l r5.2.1 r5.2.2 = z := by rw [← hr5, ← hz]; rfl
  have b2 : r2.1 < 18446744073709551616 := by rw [← D2]; exact numSt_lt _ _ _ hbytes
  have b3 : r3.1 < 18446744073709551616 := by rw [← D3]; exact numSt_lt _ _ _ hbytes
  have hX : erdX l = ⟨wrap64 r2.1, chipOf r1.1, wrap64 r3.1, r1.1, r4.1, r5.1⟩ := by unfold erdX; rw [hr1, hr2, hr3, hr4, hr5]
  unfold ReadPost
  rw [hz]
  obtain ⟨x, hxe⟩ : ∃ x, erdX l = x := ⟨_, rfl⟩
  rw [hxe] at hX ⊢
  clear hxe
  have HX := Lib.hid hX
  have HZ := Lib.hid hz
  clear hX hz hr1 hr2 hr3 hr4 hr5
  obtain ⟨v1, p1, e1⟩ := r1
  obtain ⟨v2, p2, e2⟩ := r2
  obtain ⟨v3, p3, e3⟩ := r3
  obtain ⟨v4, p4, e4⟩ := r4
  obtain ⟨v5, p5, e5⟩ := r5
  simp only at D1 D2 D3 D4 D5 D6 b2 b3 HX
  have K1 := Lib.hid D1
  have K2 := Lib.hid D2
  have K3 := Lib.hid D3
  have K4 := Lib.hid D4
  have K5 := Lib.hid D5
  have K6 := Lib.hid D6
  clear D1 D2 D3 D4 D5 D6
  have hE0 := EW.laid w zeroE
  have hrb := h.alloc hB (evO zeroE)
  go_enter Tryz.func7, Tryz.ntmps7
  go_wp2_with fail
  refine (new_any A c _ l _ B rfl hrb (by simp; omega) hlen).mono ?_
  rintro e w2 ⟨g, A2, c2, rfl, hR, hb, hg, ha⟩
  simp at hg ha
  have hz2 : w.heap.size + 1 ≤ w2.heap.size := by have := hb.size; simpa using this
  have hE2 := hE0.below hb (by simp)
  have hB2 : Below w.heap.size w w2 := ((Below.refl _ _).alloc (Nat.le_refl _) _).trans (hb.mono (by simp))
  have hZ2 : RdrZ w2 (w.heap.size + 1) g A2 c2 l 0 0 := ⟨hR, by omega, ha⟩
  have hgl : g < w2.heap.size := hZ2.rdr.lt
  clear hb hR ha hrb hE0
  -- the event's own block
  have X := EW.laid w2 zeroE
  have E := hE2.more (evO zeroE)
  have Z := hZ2.belowH ((Below.refl w2.heap.size w2).alloc (Nat.le_refl _) (evO zeroE))
  have Bw : Below w.heap.size w (w2.alloc (evO zeroE)) := hB2.alloc (by omega) _
  clear hE2 hZ2 hB2
  have h1 := rcount_any g A2 c2 l 0 0 12 _ Z.rdr (by omega)
  rw [K1.out] at h1
  have H1 := Lib.hid h1
  clear h1
  go_wp2_with fail
  generalize w2.heap.size = n at *
  refine H1.out.mono ?_
  rintro e w4 ⟨rfl, hR4, hg4⟩
  have X4 := X.grown hg4 (by omega)
  have E4 := E.grown hg4 (by omega)
  have B4 := Bw.trans (below_grownE hg4 (by omega) Bw.size)
  have Z4 := Z.to hR4
  clear X E Z Bw hR4 hg4 H1
  have x3 := X4.ev.c3
  have f3 := X4.free 3
  go_wp2_with fail
  clear x3 f3
  refine (chip_any v1 _).mono ?_
  rintro e w' ⟨rfl, rfl⟩
  have X5 := X4.put3 v1
  have E5 := E4.grown (grown_setCell w4 n 3 (.int .i64 v1)) (by omega)
  have B5 := B4.trans (below_grownE (grown_setCell w4 n 3 (.int .i64 v1)) (by omega) B4.size)
  have Z5 := Z4.other (grown_setCell w4 n 3 (.int .i64 v1)) (.inr (by omega))
  clear X4 E4 B4 Z4
  generalize w4.setCell ⟨n, 3, none⟩ (.int .i64 v1) = w5 at *
  have x1 := X5.ev.c1
  have f1 := X5.free 1
  have X6 := X5.put1 (chipOf v1)
  have E6 := E5.grown (grown_setCell w5 n 1 (.int .i64 (chipOf v1))) (by omega)
  have B6 := B5.trans (below_grownE (grown_setCell w5 n 1 (.int .i64 (chipOf v1))) (by omega) B5.size)
  have Z6 := Z5.other (grown_setCell w5 n 1 (.int .i64 (chipOf v1))) (.inr (by omega))
  have h2 := rnumber_any g A2 c2 l p1 e1 _ Z6.rdr
  rw [K2.out] at h2
  have H2 := Lib.hid h2
  clear h2 X5 E5 B5 Z5
  go_wp2_with fail
  clear x1 f1
  refine H2.out.mono ?_
  rintro e w7 ⟨rfl, hR, hg7⟩
  clear H2
  have X7 := X6.grown hg7 (by omega)
  have E7 := E6.grown hg7 (by omega)
  have B7 := B6.trans (below_grownE hg7 (by omega) B6.size)
  have Z7 := Z6.to hR
  clear X6 E6 B6 Z6 hR hg7
  have xf := X7.ev.c0
  have ff := X7.free 0
  have X8 := X7.put0 (wrap64 v2)
  have E8 := E7.grown (grown_setCell w7 n 0 (.int .i64 (wrap64 v2))) (by omega)
  have B8 := B7.trans (below_grownE (grown_setCell w7 n 0 (.int .i64 (wrap64 v2))) (by omega) B7.size)
  have Z8 := Z7.other (grown_setCell w7 n 0 (.int .i64 (wrap64 v2))) (.inr (by omega))
  have hc := rnumber_any g A2 c2 l p2 e2 _ Z8.rdr
  rw [K3.out] at hc
  have HC := Lib.hid hc
  clear hc X7 E7 B7 Z7
  go_wp2_with fail
  clear xf ff
  refine HC.out.mono ?_
  rintro e w9 ⟨rfl, hR, hg9⟩
  clear HC
  have X9 := X8.grown hg9 (by omega)
  have E9 := E8.grown hg9 (by omega)
  have B9 := B8.trans (below_grownE hg9 (by omega) B8.size)
  have Z9 := Z8.to hR
  clear X8 E8 B8 Z8 hR hg9
  have xf := X9.ev.c2
  have ff := X9.free 2
  have X10 := X9.put2 (wrap64 v3)
  have E10 := E9.grown (grown_setCell w9 n 2 (.int .i64 (wrap64 v3))) (by omega)
  have B10 := B9.trans (below_grownE (grown_setCell w9 n 2 (.int .i64 (wrap64 v3))) (by omega) B9.size)
  have Z10 := Z9.other (grown_setCell w9 n 2 (.int .i64 (wrap64 v3))) (.inr (by omega))
  have hc := rcount_any g A2 c2 l p3 e3 1048576 _ Z10.rdr (by omega)
  rw [K4.out] at hc
  have HC := Lib.hid hc
  clear hc X9 E9 B9 Z9
  go_wp2_with fail
  clear xf ff
  refine HC.out.mono ?_
  rintro e w11 ⟨rfl, hR, hg11⟩
  clear HC
  have X11 := X10.grown hg11 (by omega)
  have E11 := E10.grown hg11 (by omega)
  have B11 := B10.trans (below_grownE hg11 (by omega) B10.size)
  have Z11 := Z10.to hR
  clear X10 E10 B10 Z10 hR hg11
  have xf := X11.ev.c4
  have ff := X11.free 4
  have X12 := X11.put4 v4
  have E12 := E11.grown (grown_setCell w11 n 4 (.int .i64 v4)) (by omega)
  have B12 := B11.trans (below_grownE (grown_setCell w11 n 4 (.int .i64 v4)) (by omega) B11.size)
  have Z12 := Z11.other (grown_setCell w11 n 4 (.int .i64 v4)) (.inr (by omega))
  have hc := rcount_any g A2 c2 l p4 e4 255 _ Z12.rdr (by omega)
  rw [K5.out] at hc
  have HC := Lib.hid hc
  clear hc X11 E11 B11 Z11
  go_wp2_with fail
  clear xf ff
  refine HC.out.mono ?_
  rintro e w13 ⟨rfl, hR, hg13⟩
  clear HC
  have X13 := X12.grown hg13 (by omega)
  have E13 := E12.grown hg13 (by omega)
  have B13 := B12.trans (below_grownE hg13 (by omega) B12.size)
  have Z13 := Z12.to hR
  clear X12 E12 B12 Z12 hR hg13
  have xf := X13.ev.c5
  have ff := X13.free 5
  have X14 := X13.put5 v5
  have E14 := E13.grown (grown_setCell w13 n 5 (.int .i64 v5)) (by omega)
  have B14 := B13.trans (below_grownE (grown_setCell w13 n 5 (.int .i64 v5)) (by omega) B13.size)
  have Z14 := Z13.other (grown_setCell w13 n 5 (.int .i64 v5)) (.inr (by omega))
  have hc := rend_any g A2 c2 l p5 e5 _ Z14.rdr
  rw [K6.out] at hc
  have HC := Lib.hid hc
  clear hc X13 E13 B13 Z13
  go_wp2_with fail
  clear xf ff
  refine HC.out.mono ?_
  rintro e w15 ⟨rfl, hR, hg15⟩
  clear HC
  have X15 := X14.grown hg15 (by omega)
  have E15 := E14.grown hg15 (by omega)
  have B15 := B14.trans (below_grownE hg15 (by omega) B14.size)
  clear X14 E14 B14 Z14 hR hg15
  have hx : EW w15 n x := by rw [HX.out]; exact X15
  clear X15 HX K1 K2 K3 K4 K5 K6
  have hval : x.val = .agg #[.int .i64 x.time, .int .i64 x.chip, .int .i64 x.seq, .int .i64 x.kind, .int .i64 x.a, .int .i64 x.b] := rfl
  have HV := Lib.hid hval
  clear hval
  by_cases hz0 : z = 0
  · have HP := Lib.hid hz0
    subst hz0
    obtain ⟨c0, c1, c2, c3, c4, c5⟩ := hx.ev
    go_wp2_with fail
    clear c0 c1 c2 c3 c4 c5
    rw [← HV.out]
    refine (echeck_any w15 x).mono ?_
    rintro e w16 ⟨hm, hb⟩
    have X16 := hx.below hb hx.lt
    have E16 := E15.below hb E15.lt
    have B16 := B15.trans (hb.mono B15.size)
    clear hb hx E15 B15
    obtain ⟨c0, c1, c2, c3, c4, c5⟩ := X16.ev
    obtain ⟨d0, d1, d2, d3, d4, d5⟩ := E16.ev
    have g0 := E16.free 0
    have g1 := E16.free 1
    have g2 := E16.free 2
    have g3 := E16.free 3
    have g4 := E16.free 4
    have g5 := E16.free 5
    rcases hm with ⟨rfl, hm⟩ | ⟨rfl, hm⟩
    · go_wp2_with fail
      (try simp only [Exit.inBlock, Exit.then])
      exact bodyPost_ret (v := .tuple #[x.val, .int .i64 0]) (results_ev rfl _ _ _ x _ rfl rfl (putEv_ew E16 x)) rfl ⟨Or.inl ⟨⟨rfl, hm⟩, rfl⟩, B16.trans (putEv_below _ _ x (Nat.le_refl _))⟩
    · go_wp2_with fail
      (try simp only [Exit.inBlock, Exit.then])
      exact bodyPost_ret (v := .tuple #[zeroE.val, .int .i64 4]) (results_ev rfl _ _ _ zeroE _ rfl rfl (putEv_ew E16 zeroE)) rfl ⟨Or.inr ⟨fun h => hm h.2, rfl⟩, B16.trans (putEv_below _ _ zeroE (Nat.le_refl _))⟩
  · have HP := Lib.hid hz0
    have hzb : (z != 0) = true := by simpa using hz0
    clear hz0
    obtain ⟨d0, d1, d2, d3, d4, d5⟩ := E15.ev
    have g0 := E15.free 0
    have g1 := E15.free 1
    have g2 := E15.free 2
    have g3 := E15.free 3
    have g4 := E15.free 4
    have g5 := E15.free 5
    go_wp2_with fail
    (try simp only [Exit.inBlock, Exit.then])
    exact bodyPost_ret (v := .tuple #[zeroE.val, .int .i64 4]) (results_ev rfl _ _ _ zeroE _ rfl rfl (putEv_ew E15 zeroE)) rfl ⟨Or.inr ⟨fun h => HP.out h.1, rfl⟩, B15.trans (putEv_below _ _ zeroE (Nat.le_refl _))⟩
end Go.Proofs.YthmogabonfkmhaaGreatDoor
