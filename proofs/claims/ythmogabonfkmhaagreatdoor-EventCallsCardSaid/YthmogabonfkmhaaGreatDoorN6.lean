
/- The document's own Read of chapter 3. -/
import Derived.Test.YthmogabonfkmhaaGreatDoorK61
import Derived.Test.YthmogabonfkmhaaGreatDoorN5
import Derived.Test.YthmogabonfkmhaaGreatDoorG5
namespace Go.Proofs.YthmogabonfkmhaaGreatDoor
open Go.RowKit
set_option linter.unusedSimpArgs false
set_option linter.unusedVariables false

theorem Later.cell {S : Nat → Prop} {w : World} (p : Later S w) {b o : Nat} {v : Value} (h : w.cell? ⟨b, o, none⟩ = some v) (hS : ¬ S b) : p.w.cell? ⟨b, o, none⟩ = some v :=
  (World.cell?_of_block (p.ok.block b (World.block_lt_of_cell? _ _ h) hS)).trans h

section
open Go.RowKit

set_option linter.unusedSimpArgs false

set_option linter.unusedVariables false

/-- What the reference's Read reads: k numbers, what is left, the error. -/
def q3 (l : List Int) : Nat → List Int × List Int × Int
  | 0 => ([], l, 0)
  | k + 1 => ((q3 l k).1 ++ [((min (numQ (q3 l k).2.1 (q3 l k).2.2).1 2199023255552 : Nat) : Int)], (numQ (q3 l k).2.1 (q3 l k).2.2).2.1, (numQ (q3 l k).2.1 (q3 l k).2.2).2.2)

theorem q3_length (l : List Int) : ∀ k, (q3 l k).1.length = k
  | 0 => rfl
  | k + 1 => by simp [q3, q3_length l k]

def evOf (x : List Int) : Ev := ⟨x.getD 1 0, chipOf (x.getD 0 0), x.getD 2 0, x.getD 0 0, x.getD 3 0, x.getD 4 0⟩

def q3E (l : List Int) : Int := endQ (q3 l 5).2.1 (q3 l 5).2.2

def q3X (l : List Int) : Ev := evOf (q3 l 5).1

/-- A block that is a row of five numbers. -/
def A5 (w : World) (b : Nat) (x : List Int) : Prop := w.heap[b]? = some (.cells #[.int .i64 (x.getD 0 0), .int .i64 (x.getD 1 0), .int .i64 (x.getD 2 0), .int .i64 (x.getD 3 0), .int .i64 (x.getD 4 0)] 49 (0, 0))

theorem A5.put {w : World} {b : Nat} {x : List Int} (h : A5 w b x) (k : Nat) (hk : k < 5) (hx : x.length = k) (v : Int) : A5 (w.setCell ⟨b, k, none⟩ (.int .i64 v)) b (x ++ [v]) := by
  unfold A5 at *
  rw [heap_setCell_same w b k _ _ _ h]
  match k, hk with
  | 0, _ => obtain rfl := List.length_eq_zero_iff.1 hx; rfl
  | 1, _ => match x, hx with | [a], _ => rfl
  | 2, _ => match x, hx with | [a, b], _ => rfl
  | 3, _ => match x, hx with | [a, b, c], _ => rfl
  | 4, _ => match x, hx with | [a, b, c, d], _ => rfl

theorem A5.nth {w : World} {b : Nat} {x : List Int} (h : A5 w b x) (i : Nat) (hi : i < 5) : w.cell? ⟨b, i, none⟩ = some (.int .i64 (x.getD i 0)) := by
  rw [cell_of_row _ _ _ _ _ _ h]
  match i, hi with
  | 0, _ => rfl
  | 1, _ => rfl
  | 2, _ => rfl
  | 3, _ => rfl
  | 4, _ => rfl

theorem A5.free {w : World} {b : Nat} {x : List Int} (h : A5 w b x) (i : Nat) : w.frozen? ⟨b, i, none⟩ = false := frozen_of_row w b i _ _ h

theorem A5.lt {w : World} {b : Nat} {x : List Int} (h : A5 w b x) : b < w.heap.size := (Array.getElem?_eq_some_iff.1 h).1

theorem A5.keep {w w' : World} {b : Nat} {x : List Int} (h : A5 w b x) (hb : w'.heap[b]? = w.heap[b]?) : A5 w' b x := hb.trans h

theorem putEv_grown (w : World) (b : Nat) (x : Ev) : w.grownBy (putEv w b x) (some b) :=
  grown_trans (grown_trans (grown_trans (grown_trans (grown_trans (grown_setCell w b 0 _) (grown_setCell _ b 1 _)) (grown_setCell _ b 2 _)) (grown_setCell _ b 3 _)) (grown_setCell _ b 4 _)) (grown_setCell _ b 5 _)

abbrev a5O : Obj := .cells #[.int .i64 0, .int .i64 0, .int .i64 0, .int .i64 0, .int .i64 0] 49

set_option maxRecDepth 100000 in
set_option maxHeartbeats 4000000 in
theorem r3read_any (A : Option Addr) (c n : Nat) (l : List Int) (w : World) (B : Nat) (hn : n = l.length) (h : RB w B A c l) (hB : B ≤ w.heap.size) (hlen : l.length ≤ 1099511627776) :
    Calls Tryz.prog 9 #[.slice A n c] w (ReadTo (q3E l) (q3X l) w.heap.size w) := by
  subst hn
  go_enter Tryz.func9, Tryz.ntmps9
  go_wp2_with fail
  refine (qnew_any A c _ l _ B rfl (h.alloc hB _) (by simp; omega) hlen).mono ?_
  rintro e w2 ⟨g, A2, c2, rfl, hR, hb, hg⟩
  simp at hg
  have hS0 : EW w2 w.heap.size zeroE := (EW.laid w zeroE).below hb (by simp)
  have hB2 : Below w.heap.size w w2 := ((Below.refl _ _).alloc (Nat.le_refl _) _).trans (hb.mono (by simp))
  clear hb
  go_wp2_with fail
  have hS3 := hS0.more a5O
  have hR3 := hR.below ((Below.refl _ _).alloc (Nat.le_refl _) a5O) hR.lt
  have hA3 : A5 (w2.alloc a5O) w2.heap.size [] := heap_alloc_new _ _
  have hB3 := hB2.alloc hB2.size a5O
  have hgf := hR.lt
  have hwf : w.heap.size < w2.heap.size := hS0.lt
  clear hS0 hR hB2
  generalize w2.alloc a5O = w3 at *
  generalize w2.heap.size = f at *
  go_loopw [6] (fun i wr => ∃ (k : Nat) (A : Option Addr) (c : Nat), k ≤ 5 ∧ i = .int .i64 k ∧ QR wr g A c (q3 l k).2.1 (q3 l k).2.2 ∧ A5 wr f (q3 l k).1 ∧ EW wr w.heap.size zeroE ∧ Below w.heap.size w wr) (fun i _ => 5 - (intOf i).toNat)
  case atStart => exact ⟨0, A2, c2, by omega, rfl, hR3, hA3, hS3, hB3⟩
  case round =>
    obtain ⟨k, A5', c5, hk, rfl, hQ, hA, hS, hBr⟩ := hrel
    clear hS3 hR3 hA3 hB3
    have hlk := q3_length l k
    by_cases hlt : k < 5
    · have HR := Lib.hid (show q3 l (k + 1) = ((q3 l k).1 ++ [((min (numQ (q3 l k).2.1 (q3 l k).2.2).1 2199023255552 : Nat) : Int)], (numQ (q3 l k).2.1 (q3 l k).2.2).2.1, (numQ (q3 l k).2.1 (q3 l k).2.2).2.2) from rfl)
      have hrc := qsmall_any g A5' c5 (q3 l k).2.1 (q3 l k).2.2 wr hQ
      obtain ⟨q, hq⟩ : ∃ q, numQ (q3 l k).2.1 (q3 l k).2.2 = q := ⟨_, rfl⟩
      rw [hq] at hrc HR
      have HC := Lib.hid hrc
      clear hrc hq
      go_wp2_with fail
      refine HC.out.mono ?_
      rintro e w4 ⟨rfl, ⟨A6, c6, hQ4⟩, hg4⟩
      have hA4 := hA.keep (hg4.block _ hA.lt (fun e => by have := Option.some.inj e; omega))
      have hS4 := hS.keep (hg4.block _ hS.lt (fun e => by have := Option.some.inj e; omega))
      have hB4 := hBr.trans (below_grownE hg4 (by omega) hBr.size)
      clear hQ hA hS hBr hg4
      have hfz := hA4.free k
      have hcl := hA4.nth k hlt
      have HP := Lib.hid (hA4.put k hlt hlk ((min q.1 2199023255552 : Nat) : Int))
      have HG := Lib.hid ((Below.refl f w4).setCell (p := ⟨f, k, none⟩) (Nat.le_refl _) (.int .i64 ((min q.1 2199023255552 : Nat) : Int)))
      go_wp2_with fail
      go_roundw
      case rel => exact ⟨k + 1, A6, c6, by omega, by go_num, by rw [HR.out]; exact hQ4.below HG.out hgf, by rw [HR.out]; exact HP.out, hS4.keep (HG.out.block _ (by omega)), hB4.trans (HG.out.mono (by omega))⟩
      case measure => simp [intOf]; omega
    · obtain rfl : k = 5 := by omega
      obtain ⟨x, hx⟩ : ∃ x, endQ (q3 l 5).2.1 (q3 l 5).2.2 = x := ⟨_, rfl⟩
      obtain ⟨s, hs⟩ : ∃ s, (q3 l 5).1 = s := ⟨_, rfl⟩
      have hend := qend_any g A5' c5 (q3 l 5).2.1 (q3 l 5).2.2
      rw [hx] at hend
      rw [hs] at hA
      have HX := Lib.hid hx
      have HS := Lib.hid hs
      have HE := Lib.hid hend
      clear hx hs hlk hend
      obtain ⟨S, hSd⟩ : ∃ S : Nat → Prop, ∀ i, S i ↔ False := ⟨fun _ => False, fun _ => Iff.rfl⟩
      have k0 := hA.nth 0 (by decide)
      have k1 := hA.nth 1 (by decide)
      have k2 := hA.nth 2 (by decide)
      have k3 := hA.nth 3 (by decide)
      have k4 := hA.nth 4 (by decide)
      have d0 := fun p : Later S wr => p.cell k0 (fun h => (hSd _).1 h)
      have d1 := fun p : Later S wr => p.cell k1 (fun h => (hSd _).1 h)
      have d2 := fun p : Later S wr => p.cell k2 (fun h => (hSd _).1 h)
      have d3 := fun p : Later S wr => p.cell k3 (fun h => (hSd _).1 h)
      have d4 := fun p : Later S wr => p.cell k4 (fun h => (hSd _).1 h)
      have HSD := Lib.hid hSd
      clear k0 k1 k2 k3 k4 hSd
      go_upto_region 7 with fail
      refine region_ S (by kernel_rfl) ?_
      refine seg_ [0, 1, 2, 3, 5, 6, 7, 8, 9, 10, 11, 12] 4 _ (by kernel_rfl) (by kernel_rfl) (by kernel_rfl) (by simp only [pickOps, mask, plain, List.getElem?_toArray, List.getElem?_cons_zero, List.getElem?_cons_succ, if_true]; rfl) ?_
      repeat (go_big_quiet_step (fail))
      refine wpQuiet_nil ?_
      clear d0 d1 d2 d3 d4
      refine calm_ (i := 4) (.int .i64 (chipOf (s.getD 0 0))) rfl (by kernel_rfl) (by kernel_rfl) (by kernel_rfl) (by kernel_rfl) ?_ ?_
      · intro W hW
        unfold Oper.does
        go_simp
        refine (rchip_any _ W).mono ?_
        rintro e w' ⟨rfl, rfl⟩
        exact ⟨_, rfl, rfl, W.drawn, rfl⟩
      go_simp
      refine calm_ (i := 13) (evOf s).val rfl (by kernel_rfl) (by kernel_rfl) (by kernel_rfl) (by kernel_rfl) ?_ ?_
      · intro W hW
        unfold Oper.does
        go_simp
        exact ⟨rfl, W.drawn, rfl⟩
      go_simp
      obtain ⟨y, hy⟩ : ∃ y, evOf s = y := ⟨_, rfl⟩
      rw [hy]
      obtain ⟨S1, hS1⟩ : ∃ S1 : Nat → Prop, ∀ i, S1 i ↔ i = wr.heap.size := ⟨fun i => i = wr.heap.size, fun _ => Iff.rfl⟩
      refine callx_ (i := 14) rfl (by kernel_rfl) (by kernel_rfl) ?_
      intro n1
      unfold Oper.does
      go_simp
      refine turn_ (S1 := S1) (Save.drawn S wr n1) (Save.of_below (((Below.refl _ _).alloc (Nat.le_refl _) (.cells #[.int .i64 0, .int .i64 0, .int .i64 0, .int .i64 0, .int .i64 0, .int .i64 0] 23)))) (fun i hi h => absurd ((hS1 i).1 h) (by omega)) ?_
      refine callx_ (i := 15) rfl (by kernel_rfl) (by kernel_rfl) ?_
      intro n2
      have hE : EW { (({ wr with drawn := n1 } : World).alloc (.cells #[.int .i64 0, .int .i64 0, .int .i64 0, .int .i64 0, .int .i64 0, .int .i64 0] 23)) with drawn := n2 } wr.heap.size zeroE := EW.laid { wr with drawn := n1 } zeroE
      have hBz : Below wr.heap.size wr { (({ wr with drawn := n1 } : World).alloc (.cells #[.int .i64 0, .int .i64 0, .int .i64 0, .int .i64 0, .int .i64 0, .int .i64 0] 23)) with drawn := n2 } := ((Save.drawn S wr n1).below (B := wr.heap.size) (Nat.le_refl _) (fun k h => absurd h (fun h => (HSD.out _).1 h))).trans (((Below.refl wr.heap.size { wr with drawn := n1 }).alloc (Nat.le_refl _) (.cells #[.int .i64 0, .int .i64 0, .int .i64 0, .int .i64 0, .int .i64 0, .int .i64 0] 23)).trans ((Save.drawn S _ n2).below (B := wr.heap.size) (by simp) (fun k h => absurd h (fun h => (HSD.out _).1 h))))
      have hV : Save S1 (({ wr with drawn := n1 } : World).alloc (.cells #[.int .i64 0, .int .i64 0, .int .i64 0, .int .i64 0, .int .i64 0, .int .i64 0] 23)) { (({ wr with drawn := n1 } : World).alloc (.cells #[.int .i64 0, .int .i64 0, .int .i64 0, .int .i64 0, .int .i64 0, .int .i64 0] 23)) with drawn := n2 } := Save.drawn S1 _ n2
      generalize ({ (({ wr with drawn := n1 } : World).alloc (.cells #[.int .i64 0, .int .i64 0, .int .i64 0, .int .i64 0, .int .i64 0, .int .i64 0] 23)) with drawn := n2 } : World) = w8 at *
      have g0 := hE.free 0
      have g1 := hE.free 1
      have g2 := hE.free 2
      have g3 := hE.free 3
      have g4 := hE.free 4
      have g5 := hE.free 5
      obtain ⟨e0, e1, e2, e3, e4, e5⟩ := hE.ev
      unfold Oper.does Ev.val
      go_simp
      clear g0 g1 g2 g3 g4 g5 e0 e1 e2 e3 e4 e5
      refine turn_ (S1 := S) hV (Save.of_grown (putEv_grown w8 wr.heap.size y) ((hS1 _).2 rfl)) (fun i hi h => absurd h (fun h => (HSD.out _).1 h)) ?_
      refine end_ (by kernel_rfl) ?_
      intro wc sc
      have hBc : Below wr.heap.size wr wc := hBz.trans ((putEv_below w8 wr.heap.size y (Nat.le_refl _)).trans (sc.below (Nat.le_trans hBz.size (putEv_grown w8 wr.heap.size y).size) (fun k h => absurd h (fun h => (HSD.out _).1 h))))
      have hXc : EW wc wr.heap.size y := (putEv_ew hE y).keep (sc.block _ (putEv_ew hE y).lt (fun h => (HSD.out _).1 h))
      have hQc := hQ.below hBc hQ.lt
      have hSc := hS.below hBc hS.lt
      have hgl := hQ.lt
      have hwl := hS.lt
      have hB3 := hBr.trans (hBc.mono hBr.size)
      clear hE hBz hV sc hQ hA hS hBr hBc hS1 S1
      generalize wr.heap.size = d at *
      have HY := Lib.hid hy
      clear hy
      go_wp2_with fail
      refine (HE.out _ hQc).mono ?_
      rintro e w15 ⟨rfl, _, hg15⟩
      have X15 := hXc.grown hg15 (by omega)
      have E15 := hSc.grown hg15 (by omega)
      have B15 := hB3.trans (below_grownE hg15 (by omega) hB3.size)
      clear hXc hSc hB3 hg15 hQc
      have hval : y.val = .agg #[.int .i64 y.time, .int .i64 y.chip, .int .i64 y.seq, .int .i64 y.kind, .int .i64 y.a, .int .i64 y.b] := rfl
      have HV := Lib.hid hval
      clear hval
      have HR : q3E l = x := HX.out
      have HR2 : q3X l = y := by unfold q3X; rw [HS.out, HY.out]
      have HR := Lib.hid HR
      have HR2 := Lib.hid HR2
      by_cases hz0 : x = 0
      · have HP := Lib.hid hz0
        subst hz0
        obtain ⟨c0, c1, c2, c3, c4, c5⟩ := X15.ev
        go_wp2_with fail
        clear c0 c1 c2 c3 c4 c5
        rw [← HV.out]
        refine (r3check_any w15 y).mono ?_
        rintro e w16 ⟨hm, hb⟩
        have X16 := X15.below hb X15.lt
        have E16 := E15.below hb E15.lt
        have B16 := B15.trans (hb.mono B15.size)
        clear hb X15 E15 B15
        obtain ⟨c0, c1, c2, c3, c4, c5⟩ := X16.ev
        obtain ⟨d0, d1, d2, d3, d4, d5⟩ := E16.ev
        have g0 := E16.free 0
        have g1 := E16.free 1
        have g2 := E16.free 2
        have g3 := E16.free 3
        have g4 := E16.free 4
        have g5 := E16.free 5
        rcases hm with ⟨rfl, hm⟩ | ⟨rfl, hm⟩
        · go_wp2_with fail
          (try simp only [Exit.inBlock, Exit.then])
          rw [HR.out, HR2.out]
          exact bodyPost_ret (v := .tuple #[y.val, .int .i64 0]) (results_ev rfl _ _ _ y _ rfl rfl (putEv_ew E16 y)) rfl ⟨Or.inl ⟨⟨rfl, hm⟩, rfl⟩, B16.trans (putEv_below _ _ y (Nat.le_refl _))⟩
        · go_wp2_with fail
          (try simp only [Exit.inBlock, Exit.then])
          rw [HR.out, HR2.out]
          exact bodyPost_ret (v := .tuple #[zeroE.val, .int .i64 4]) (results_ev rfl _ _ _ zeroE _ rfl rfl (putEv_ew E16 zeroE)) rfl ⟨Or.inr ⟨fun h => hm h.2, rfl⟩, B16.trans (putEv_below _ _ zeroE (Nat.le_refl _))⟩
      · have HP := Lib.hid hz0
        have hzb : (x != 0) = true := by simpa using hz0
        clear hz0
        obtain ⟨d0, d1, d2, d3, d4, d5⟩ := E15.ev
        have g0 := E15.free 0
        have g1 := E15.free 1
        have g2 := E15.free 2
        have g3 := E15.free 3
        have g4 := E15.free 4
        have g5 := E15.free 5
        go_wp2_with fail
        (try simp only [Exit.inBlock, Exit.then])
        rw [HR.out, HR2.out]
        exact bodyPost_ret (v := .tuple #[zeroE.val, .int .i64 4]) (results_ev rfl _ _ _ zeroE _ rfl rfl (putEv_ew E15 zeroE)) rfl ⟨Or.inr ⟨fun h => HP.out h.1, rfl⟩, B15.trans (putEv_below _ _ zeroE (Nat.le_refl _))⟩
end
end Go.Proofs.YthmogabonfkmhaaGreatDoor
