/-   -/
import Derived.Test.YthnbpdcjooifbaaJ23
import Derived.Test.YthnbpdcjooifbaaJ22
import Derived.Test.YthnbpdcjooifbaaJ16
import Derived.Test.YthnbpdcjooifbaaJ19
import Derived.Test.YthnbpdcjooifbaaZK51
namespace Go.Proofs.Ythnbpdcjooifbaa
open Go.RowKit
set_option linter.unusedSimpArgs false
set_option linter.unusedVariables false

/-- What the reference's Read reads: k numbers, what is left, the error. -/
def q3 (l : List Int) : Nat → List Int × List Int × Int
  | 0 => ([], l, 0)
  | k + 1 => ((q3 l k).1 ++ [((min (numQ (q3 l k).2.1 (q3 l k).2.2).1 2199023255552 : Nat) : Int)], (numQ (q3 l k).2.1 (q3 l k).2.2).2.1, (numQ (q3 l k).2.1 (q3 l k).2.2).2.2)
theorem q3_length (l : List Int) : ∀ k, (q3 l k).1.length = k
  | 0 => rfl
  | k + 1 => by simp [q3, q3_length l k]
def evOf (x : List Int) : Ev := ⟨x.getD 1 0, chipOf (x.getD 0 0), x.getD 2 0, x.getD 0 0, x.getD 3 0, x.getD 4 0⟩
def q3E (l : List Int) : Int := endQ (q3 l 5).2.1 (q3 l 5).2.2
def q3X (l : List Int) : Ev := evOf (q3 l 5).1

/-- A block that is a row of five numbers. -/
def A5 (w : World) (b : Nat) (x : List Int) : Prop := w.heap[b]? = some (.cells #[.int .i64 (x.getD 0 0), .int .i64 (x.getD 1 0), .int .i64 (x.getD 2 0), .int .i64 (x.getD 3 0), .int .i64 (x.getD 4 0)] 91 (0, 0))
theorem A5.put {w : World} {b : Nat} {x : List Int} (h : A5 w b x) (k : Nat) (hk : k < 5) (hx : x.length = k) (v : Int) : A5 (w.setCell ⟨b, k, none⟩ (.int .i64 v)) b (x ++ [v]) := by
  unfold A5 at *
  rw [heap_setCell_same w b k _ _ _ h]
  match k, hk with
  | 0, _ => obtain rfl := List.length_eq_zero_iff.1 hx; rfl
  | 1, _ => match x, hx with | [a], _ => rfl
  | 2, _ => match x, hx with | [a, b], _ => rfl
  | 3, _ => match x, hx with | [a, b, c], _ => rfl
  | 4, _ => match x, hx with | [a, b, c, d], _ => rfl
theorem A5.nth {w : World} {b : Nat} {x : List Int} (h : A5 w b x) (i : Nat) (hi : i < 5) : w.cell? ⟨b, i, none⟩ = some (.int .i64 (x.getD i 0)) := by
  rw [cell_of_row _ _ _ _ _ _ h]
  match i, hi with
  | 0, _ => rfl
  | 1, _ => rfl
  | 2, _ => rfl
  | 3, _ => rfl
  | 4, _ => rfl
theorem A5.free {w : World} {b : Nat} {x : List Int} (h : A5 w b x) (i : Nat) : w.frozen? ⟨b, i, none⟩ = false := frozen_of_row w b i _ _ h
theorem A5.lt {w : World} {b : Nat} {x : List Int} (h : A5 w b x) : b < w.heap.size := (Array.getElem?_eq_some_iff.1 h).1
theorem A5.keep {w w' : World} {b : Nat} {x : List Int} (h : A5 w b x) (hb : w'.heap[b]? = w.heap[b]?) : A5 w' b x := hb.trans h
theorem putEv_grown (w : World) (b : Nat) (x : Ev) : w.grownBy (putEv w b x) (some b) :=
  grown_trans (grown_trans (grown_trans (grown_trans (grown_trans (grown_setCell w b 0 _) (grown_setCell _ b 1 _)) (grown_setCell _ b 2 _)) (grown_setCell _ b 3 _)) (grown_setCell _ b 4 _)) (grown_setCell _ b 5 _)
abbrev a5O : Obj := .cells #[.int .i64 0, .int .i64 0, .int .i64 0, .int .i64 0, .int .i64 0] 91

set_option maxRecDepth 100000 in
set_option maxHeartbeats 4000000 in
theorem r3read_any (A : Option Addr) (c n : Nat) (l : List Int) (w : World) (B : Nat) (hn : n = l.length) (h : RB w B A c l) (hB : B ≤ w.heap.size) (hlen : l.length ≤ 1099511627776) :
    Calls Try.prog 48 #[.slice A n c] w (ReadTo (q3E l) (q3X l) w.heap.size w) := by
  subst hn
  go_enter Try.func48, Try.ntmps48
  go_wp2_with fail
  refine (qnew_any A c _ l _ B rfl (h.alloc hB _) (by simp; omega) hlen).mono ?_
  rintro e w2 ⟨g, A2, c2, rfl, hR, hb, hg⟩
  simp at hg
  have hS0 : EW w2 w.heap.size zeroE := (EW.laid w zeroE).below hb (by simp)
  have hB2 : Below w.heap.size w w2 := ((Below.refl _ _).alloc (Nat.le_refl _) _).trans (hb.mono (by simp))
  clear hb
  go_wp2_with fail
  have hS3 := hS0.more a5O
  have hR3 := hR.below ((Below.refl _ _).alloc (Nat.le_refl _) a5O) hR.lt
  have hA3 : A5 (w2.alloc a5O) w2.heap.size [] := heap_alloc_new _ _
  have hB3 := hB2.alloc hB2.size a5O
  have hgf := hR.lt
  have hwf : w.heap.size < w2.heap.size := hS0.lt
  clear hS0 hR hB2
  generalize w2.alloc a5O = w3 at *
  generalize w2.heap.size = f at *
  go_loopw [6] (fun i wr => ∃ (k : Nat) (A : Option Addr) (c : Nat), k ≤ 5 ∧ i = .int .i64 k ∧ QR wr g A c (q3 l k).2.1 (q3 l k).2.2 ∧ A5 wr f (q3 l k).1 ∧ EW wr w.heap.size zeroE ∧ Below w.heap.size w wr) (fun i _ => 5 - (intOf i).toNat)
  case atStart => exact ⟨0, A2, c2, by omega, rfl, hR3, hA3, hS3, hB3⟩
  case round =>
    obtain ⟨k, A5', c5, hk, rfl, hQ, hA, hS, hBr⟩ := hrel
    clear hS3 hR3 hA3 hB3
    have hlk := q3_length l k
    by_cases hlt : k < 5
    · have HR := Lib.hid (show q3 l (k + 1) = ((q3 l k).1 ++ [((min (numQ (q3 l k).2.1 (q3 l k).2.2).1 2199023255552 : Nat) : Int)], (numQ (q3 l k).2.1 (q3 l k).2.2).2.1, (numQ (q3 l k).2.1 (q3 l k).2.2).2.2) from rfl)
      have hrc := qsmall_any g A5' c5 (q3 l k).2.1 (q3 l k).2.2 wr hQ
      obtain ⟨q, hq⟩ : ∃ q, numQ (q3 l k).2.1 (q3 l k).2.2 = q := ⟨_, rfl⟩
      rw [hq] at hrc HR
      have HC := Lib.hid hrc
      clear hrc hq
      go_wp2_with fail
      refine HC.out.mono ?_
      rintro e w4 ⟨rfl, ⟨A6, c6, hQ4⟩, hg4⟩
      have hA4 := hA.keep (hg4.block _ hA.lt (fun e => by have := Option.some.inj e; omega))
      have hS4 := hS.keep (hg4.block _ hS.lt (fun e => by have := Option.some.inj e; omega))
      have hB4 := hBr.trans (below_grownE hg4 (by omega) hBr.size)
      clear hQ hA hS hBr hg4
      have hfz := hA4.free k
      have hcl := hA4.nth k hlt
      have HP := Lib.hid (hA4.put k hlt hlk ((min q.1 2199023255552 : Nat) : Int))
      have HG := Lib.hid ((Below.refl f w4).setCell (p := ⟨f, k, none⟩) (Nat.le_refl _) (.int .i64 ((min q.1 2199023255552 : Nat) : Int)))
      go_wp2_with fail
      go_roundw
      case rel => exact ⟨k + 1, A6, c6, by omega, by go_num, by rw [HR.out]; exact hQ4.below HG.out hgf, by rw [HR.out]; exact HP.out, hS4.keep (HG.out.block _ (by omega)), hB4.trans (HG.out.mono (by omega))⟩
      case measure => simp [intOf]; omega
    · obtain rfl : k = 5 := by omega
      obtain ⟨x, hx⟩ : ∃ x, endQ (q3 l 5).2.1 (q3 l 5).2.2 = x := ⟨_, rfl⟩
      obtain ⟨s, hs⟩ : ∃ s, (q3 l 5).1 = s := ⟨_, rfl⟩
      have hend := qend_any g A5' c5 (q3 l 5).2.1 (q3 l 5).2.2
      rw [hx] at hend
      rw [hs] at hA
      have HX := Lib.hid hx
      have HS := Lib.hid hs
      have HE := Lib.hid hend
      clear hx hs hlk hend
      obtain ⟨S, hSd⟩ : ∃ S : Nat → Prop, ∀ i, S i ↔ False := ⟨fun _ => False, fun _ => Iff.rfl⟩
      have k0 := hA.nth 0 (by decide)
      have k1 := hA.nth 1 (by decide)
      have k2 := hA.nth 2 (by decide)
      have k3 := hA.nth 3 (by decide)
      have k4 := hA.nth 4 (by decide)
      have d0 := fun p : Later S wr => p.cell k0 (fun h => (hSd _).1 h)
      have d1 := fun p : Later S wr => p.cell k1 (fun h => (hSd _).1 h)
      have d2 := fun p : Later S wr => p.cell k2 (fun h => (hSd _).1 h)
      have d3 := fun p : Later S wr => p.cell k3 (fun h => (hSd _).1 h)
      have d4 := fun p : Later S wr => p.cell k4 (fun h => (hSd _).1 h)
      have HSD := Lib.hid hSd
      clear k0 k1 k2 k3 k4 hSd
      go_upto_region 7 with fail
      refine region_ S (by kernel_rfl) ?_
      refine seg_ [0, 1, 2, 3, 5, 6, 7, 8, 9, 10, 11, 12] 4 _ (by kernel_rfl) (by kernel_rfl) (by kernel_rfl) (by simp only [pickOps, mask, plain, List.getElem?_toArray, List.getElem?_cons_zero, List.getElem?_cons_succ, if_true]; rfl) ?_
      repeat (go_big_quiet_step (fail))
      refine wpQuiet_nil ?_
      clear d0 d1 d2 d3 d4
      refine calm_ (i := 4) (.int .i64 (chipOf (s.getD 0 0))) rfl (by kernel_rfl) (by kernel_rfl) (by kernel_rfl) (by kernel_rfl) ?_ ?_
      · intro W hW
        unfold Oper.does
        go_simp
        refine (rchip_any _ W).mono ?_
        rintro e w' ⟨rfl, rfl⟩
        exact ⟨_, rfl, rfl, W.drawn, rfl⟩
      go_simp
      refine calm_ (i := 13) (evOf s).val rfl (by kernel_rfl) (by kernel_rfl) (by kernel_rfl) (by kernel_rfl) ?_ ?_
      · intro W hW
        unfold Oper.does
        go_simp
        exact ⟨rfl, W.drawn, rfl⟩
      go_simp
      obtain ⟨y, hy⟩ : ∃ y, evOf s = y := ⟨_, rfl⟩
      rw [hy]
      obtain ⟨S1, hS1⟩ : ∃ S1 : Nat → Prop, ∀ i, S1 i ↔ i = wr.heap.size := ⟨fun i => i = wr.heap.size, fun _ => Iff.rfl⟩
      refine callx_ (i := 14) rfl (by kernel_rfl) (by kernel_rfl) ?_
      intro n1
      unfold Oper.does
      go_simp
      refine turn_ (S1 := S1) (Save.drawn S wr n1) (Save.of_below (((Below.refl _ _).alloc (Nat.le_refl _) (.cells #[.int .i64 0, .int .i64 0, .int .i64 0, .int .i64 0, .int .i64 0, .int .i64 0] 23)))) (fun i hi h => absurd ((hS1 i).1 h) (by omega)) ?_
      refine callx_ (i := 15) rfl (by kernel_rfl) (by kernel_rfl) ?_
      intro n2
      have hE : EW { (({ wr with drawn := n1 } : World).alloc (.cells #[.int .i64 0, .int .i64 0, .int .i64 0, .int .i64 0, .int .i64 0, .int .i64 0] 23)) with drawn := n2 } wr.heap.size zeroE := EW.laid { wr with drawn := n1 } zeroE
      have hBz : Below wr.heap.size wr { (({ wr with drawn := n1 } : World).alloc (.cells #[.int .i64 0, .int .i64 0, .int .i64 0, .int .i64 0, .int .i64 0, .int .i64 0] 23)) with drawn := n2 } := ((Save.drawn S wr n1).below (B := wr.heap.size) (Nat.le_refl _) (fun k h => absurd h (fun h => (HSD.out _).1 h))).trans (((Below.refl wr.heap.size { wr with drawn := n1 }).alloc (Nat.le_refl _) (.cells #[.int .i64 0, .int .i64 0, .int .i64 0, .int .i64 0, .int .i64 0, .int .i64 0] 23)).trans ((Save.drawn S _ n2).below (B := wr.heap.size) (by simp) (fun k h => absurd h (fun h => (HSD.out _).1 h))))
      have hV : Save S1 (({ wr with drawn := n1 } : World).alloc (.cells #[.int .i64 0, .int .i64 0, .int .i64 0, .int .i64 0, .int .i64 0, .int .i64 0] 23)) { (({ wr with drawn := n1 } : World).alloc (.cells #[.int .i64 0, .int .i64 0, .int .i64 0, .int .i64 0, .int .i64 0, .int .i64 0] 23)) with drawn := n2 } := Save.drawn S1 _ n2
      generalize ({ (({ wr with drawn := n1 } : World).alloc (.cells #[.int .i64 0, .int .i64 0, .int .i64 0, .int .i64 0, .int .i64 0, .int .i64 0] 23)) with drawn := n2 } : World) = w8 at *
      have g0 := hE.free 0
      have g1 := hE.free 1
      have g2 := hE.free 2
      have g3 := hE.free 3
      have g4 := hE.free 4
      have g5 := hE.free 5
      obtain ⟨e0, e1, e2, e3, e4, e5⟩ := hE.ev
      unfold Oper.does Ev.val
      go_simp
      clear g0 g1 g2 g3 g4 g5 e0 e1 e2 e3 e4 e5
      refine turn_ (S1 := S) hV (Save.of_grown (putEv_grown w8 wr.heap.size y) ((hS1 _).2 rfl)) (fun i hi h => absurd h (fun h => (HSD.out _).1 h)) ?_
      refine end_ (by kernel_rfl) ?_
      intro wc sc
      have hBc : Below wr.heap.size wr wc := hBz.trans ((putEv_below w8 wr.heap.size y (Nat.le_refl _)).trans (sc.below (Nat.le_trans hBz.size (putEv_grown w8 wr.heap.size y).size) (fun k h => absurd h (fun h => (HSD.out _).1 h))))
      have hXc : EW wc wr.heap.size y := (putEv_ew hE y).keep (sc.block _ (putEv_ew hE y).lt (fun h => (HSD.out _).1 h))
      have hQc := hQ.below hBc hQ.lt
      have hSc := hS.below hBc hS.lt
      have hgl := hQ.lt
      have hwl := hS.lt
      have hB3 := hBr.trans (hBc.mono hBr.size)
      clear hE hBz hV sc hQ hA hS hBr hBc hS1 S1
      generalize wr.heap.size = d at *
      have HY := Lib.hid hy
      clear hy
      go_wp2_with fail
      refine (HE.out _ hQc).mono ?_
      rintro e w15 ⟨rfl, _, hg15⟩
      have X15 := hXc.grown hg15 (by omega)
      have E15 := hSc.grown hg15 (by omega)
      have B15 := hB3.trans (below_grownE hg15 (by omega) hB3.size)
      clear hXc hSc hB3 hg15 hQc
      have hval : y.val = .agg #[.int .i64 y.time, .int .i64 y.chip, .int .i64 y.seq, .int .i64 y.kind, .int .i64 y.a, .int .i64 y.b] := rfl
      have HV := Lib.hid hval
      clear hval
      have HR : q3E l = x := HX.out
      have HR2 : q3X l = y := by unfold q3X; rw [HS.out, HY.out]
      have HR := Lib.hid HR
      have HR2 := Lib.hid HR2
      by_cases hz0 : x = 0
      · have HP := Lib.hid hz0
        subst hz0
        obtain ⟨c0, c1, c2, c3, c4, c5⟩ := X15.ev
        go_wp2_with fail
        clear c0 c1 c2 c3 c4 c5
        rw [← HV.out]
        refine (r3check_any w15 y).mono ?_
        rintro e w16 ⟨hm, hb⟩
        have X16 := X15.below hb X15.lt
        have E16 := E15.below hb E15.lt
        have B16 := B15.trans (hb.mono B15.size)
        clear hb X15 E15 B15
        obtain ⟨c0, c1, c2, c3, c4, c5⟩ := X16.ev
        obtain ⟨d0, d1, d2, d3, d4, d5⟩ := E16.ev
        have g0 := E16.free 0
        have g1 := E16.free 1
        have g2 := E16.free 2
        have g3 := E16.free 3
        have g4 := E16.free 4
        have g5 := E16.free 5
        rcases hm with ⟨rfl, hm⟩ | ⟨rfl, hm⟩
        · go_wp2_with fail
          (try simp only [Exit.inBlock, Exit.then])
          rw [HR.out, HR2.out]
          exact bodyPost_ret (v := .tuple #[y.val, .int .i64 0]) (results_ev rfl _ _ _ y _ rfl rfl (putEv_ew E16 y)) rfl ⟨Or.inl ⟨⟨rfl, hm⟩, rfl⟩, B16.trans (putEv_below _ _ y (Nat.le_refl _))⟩
        · go_wp2_with fail
          (try simp only [Exit.inBlock, Exit.then])
          rw [HR.out, HR2.out]
          exact bodyPost_ret (v := .tuple #[zeroE.val, .int .i64 4]) (results_ev rfl _ _ _ zeroE _ rfl rfl (putEv_ew E16 zeroE)) rfl ⟨Or.inr ⟨fun h => hm h.2, rfl⟩, B16.trans (putEv_below _ _ zeroE (Nat.le_refl _))⟩
      · have HP := Lib.hid hz0
        have hzb : (x != 0) = true := by simpa using hz0
        clear hz0
        obtain ⟨d0, d1, d2, d3, d4, d5⟩ := E15.ev
        have g0 := E15.free 0
        have g1 := E15.free 1
        have g2 := E15.free 2
        have g3 := E15.free 3
        have g4 := E15.free 4
        have g5 := E15.free 5
        go_wp2_with fail
        (try simp only [Exit.inBlock, Exit.then])
        rw [HR.out, HR2.out]
        exact bodyPost_ret (v := .tuple #[zeroE.val, .int .i64 4]) (results_ev rfl _ _ _ zeroE _ rfl rfl (putEv_ew E15 zeroE)) rfl ⟨Or.inr ⟨fun h => HP.out h.1, rfl⟩, B15.trans (putEv_below _ _ zeroE (Nat.le_refl _))⟩
end Go.Proofs.Ythnbpdcjooifbaa
namespace Go.Proofs.Ythnbpdcjooifbaa
open Go.RowKit
set_option linter.unusedSimpArgs false
set_option linter.unusedVariables false

/-- What is left to the reader behind k blocks, and its error. -/
def rst (L : List Int) : Nat → List Int × Int
  | 0 => (countQ L 0 4194304).2
  | k + 1 => (blockQ (rst L k).1 (rst L k).2).2
def rblk (L : List Int) (k : Nat) : List Int := (blockQ (rst L k).1 (rst L k).2).1
def ROk (L : List Int) (k : Nat) : Prop := q3E (rblk L k) = 0 ∧ (q3X (rblk L k)).May
def rxs (L : List Int) : Nat → List Ev
  | 0 => []
  | k + 1 => rxs L k ++ [q3X (rblk L k)]
def rcnt (L : List Int) : Nat := (countQ L 0 4194304).1
def RGood (L : List Int) : Prop := (∀ i, i < rcnt L → ROk L i) ∧ endQ (rst L (rcnt L)).1 (rst L (rcnt L)).2 = 0 ∧ chk (rxs L (rcnt L)) = 0
theorem rxs_length (L : List Int) : ∀ k, (rxs L k).length = k
  | 0 => rfl
  | k + 1 => by simp [rxs, rxs_length L k]
theorem rcnt_le (L : List Int) : rcnt L ≤ 4194304 := by
  unfold rcnt countQ
  split
  · exact Nat.zero_le _
  · rename_i h
    by_cases h2 : (numQ L 0).2.2 = 0
    · simp only
      have : ¬ 4194304 < (numQ L 0).1 := fun h3 => h ⟨h2, h3⟩
      omega
    · rw [numQ_err L 0 h2]; exact Nat.zero_le _
theorem countQ_left (r : List Int) (e : Int) (m : Nat) : (countQ r e m).2.1.length ≤ r.length := by
  unfold countQ
  split <;> exact numQ_le r e
theorem blockQ_left (r : List Int) (e : Int) : (blockQ r e).2.1.length ≤ r.length ∧ (blockQ r e).1.length ≤ r.length := by
  have := numQ_le r e
  unfold blockQ
  repeat' split
  all_goals simp
  all_goals omega
theorem rst_le (L : List Int) : ∀ k, (rst L k).1.length ≤ L.length
  | 0 => countQ_left L 0 4194304
  | k + 1 => Nat.le_trans (blockQ_left (rst L k).1 (rst L k).2).1 (rst_le L k)
theorem QR.kept {w w' : World} {g c : Nat} {A : Option Addr} {r : List Int} {e : Int} {row : Option Nat} (h : QR w g A c r e) (hb : w.grownBy w' row) (hg : ∀ k, row = some k → g < k) : QR w' g A c r e := by
  refine ⟨(hb.block _ h.lt (fun e => by have := hg g e.symm; omega)).trans h.blk, h.rb.keep (fun p hp => ?_), h.len⟩
  exact World.cell?_of_block (hb.block _ (by have := h.lt; omega) (fun e => by have := hg _ e.symm; omega))
theorem rblk_le (L : List Int) (k : Nat) : (rblk L k).length ≤ L.length := Nat.le_trans (blockQ_left (rst L k).1 (rst L k).2).2 (rst_le L k)
theorem rblk_err (L : List Int) (k : Nat) (h : (rst L k).2 ≠ 0) : ¬ ROk L k := by
  intro hk
  have h1 : rblk L k = [] := by
    unfold rblk blockQ numQ
    simp only [if_neg h]
    rw [if_pos h]
  unfold ROk at hk
  rw [h1] at hk
  exact absurd hk.1 (by decide)
def RReadsAny (w : World) (L : List Int) (e : Ending) (w' : World) : Prop :=
  ((RGood L ∧ ∃ y : Ls, e = .returned (.tuple #[y.val, .int .i64 0]) ∧ y.l = rxs L (rcnt L) ∧ LsAt w' w'.heap.size y) ∨ (¬ RGood L ∧ e = .returned (.tuple #[.slice none 0 0, .int .i64 4]))) ∧ Below w.heap.size w w'
def RReadRel (B B2 : Nat) (w : World) (g : Nat) (L : List Int) (k : Nat) (v : Value) (wr : World) : Prop :=
  (∃ A c, QR wr g A c (rst L k).1 (rst L k).2) ∧ (∀ i, i < k → ROk L i) ∧ wr.ownsRow B2 23 6 v k (rowV (rxs L k)) ∧ B2 ≤ wr.heap.size ∧ Below B w wr

set_option maxRecDepth 100000 in
set_option maxHeartbeats 4000000 in
theorem r4read_any (w : World) (A : Option Addr) (c n : Nat) (L : List Int) (hn : n = L.length) (hL : L.length ≤ 1099511627776) (B : Nat) (h : RB w B A c L) (hB : B ≤ w.heap.size) :
    Calls Try.prog 19 #[.slice A n c] w (RReadsAny w L) := by
  subst hn
  have HNEW := Lib.hid (qnew_any A c L.length L w B rfl h hB hL)
  obtain ⟨i0, hi, hz0, hz1, hz2⟩ := info_parts info_ev
  clear h hB
  go_enter Try.func19, Try.ntmps19
  go_wp2_with fail
  refine HNEW.out.mono ?_
  rintro e w1 ⟨g, A1, c1, rfl, hr, b1, hgw⟩
  have hcnt := qcount_any g A1 c1 L 0 4194304 w1 hr (by omega)
  have hN := rcnt_le L
  obtain ⟨N, hNe⟩ : ∃ N, rcnt L = N := ⟨_, rfl⟩
  rw [hNe] at hN
  have HNE := Lib.hid hNe
  have hm0 : (countQ L 0 4194304).2 = rst L 0 := rfl
  rw [show (countQ L 0 4194304).1 = N from hNe, hm0] at hcnt
  have B1 := Lib.hid b1
  have h1 := b1.size
  have HCN := Lib.hid hcnt
  clear hcnt hr b1 hNe hm0
  go_wp2_with fail
  refine HCN.out.mono ?_
  rintro e w2 ⟨rfl, hr, hg2⟩
  have h2 := hg2.size
  have b2 : Below w.heap.size w w2 := B1.out.grown hg2 h1 (fun j e => by obtain rfl := Option.some.inj e; exact hgw)
  have hgl : g < w2.heap.size := by obtain ⟨_, _, hq⟩ := hr; exact hq.lt
  have HR := Lib.hid hr
  have B2 := Lib.hid b2
  clear hr hg2 b2
  go_wp2_with fail
  go_loopw [5, 6] (fun v i wr => ∃ k j : Nat, k + j = N ∧ i = .int .i64 j ∧ RReadRel w.heap.size w2.heap.size w g L k v wr) (fun _ i _ => (intOf i).toNat)
  case atStart => exact ⟨0, N, by omega, rfl, HR.out, fun i hi => absurd hi (Nat.not_lt_zero _), World.ownsRow_nil _ _ _ _, Nat.le_refl _, B2.out⟩
  case round =>
    clear HR B2
    obtain ⟨k, j, hk, rfl, ⟨A6, c6, hr⟩, hok, ho, hs2, hb⟩ := hrel
    have hsw : w.heap.size ≤ wr.heap.size := hb.size
    have HOK := Lib.hid hok
    have ec := hr.c1
    obtain ⟨x, hx⟩ : ∃ x, (rst L k).2 = x := ⟨_, rfl⟩
    rw [hx] at ec
    have HX := Lib.hid hx
    clear hok hx
    rcases j with _ | j
    · obtain rfl : k = N := by omega
      have hen := qend_any g A6 c6 _ _ wr hr
      obtain ⟨z9, hx⟩ : ∃ z9, endQ (rst L k).1 (rst L k).2 = z9 := ⟨_, rfl⟩
      rw [hx] at hen
      have HX9 := Lib.hid hx
      have HEN := Lib.hid hen
      have HO := Lib.hid ho
      have HB := Lib.hid hb
      clear hr ho hen hb hx ec
      go_wp2_with fail
      refine HEN.out.mono ?_
      rintro e w3 ⟨rfl, _, hg3⟩
      have ho3 := row_off HO.out hg3 hgl
      have hb3 := HB.out.grown hg3 hsw (fun j e => by obtain rfl := Option.some.inj e; exact hgw)
      obtain ⟨y, rfl, hyl, hya, _⟩ := row_to_ls2 (rxs_length L k) ho3
      have hck2 := (rmcheck_any w3 y hya).mono fun e w' hc => hc.chk
      rw [hyl] at hck2
      obtain ⟨z, hz⟩ : ∃ z, chk (rxs L k) = z := ⟨_, rfl⟩
      rw [hz] at hck2
      have HZ := Lib.hid hz
      have HCK := Lib.hid hck2
      have HYL := Lib.hid hyl
      have HYA := Lib.hid hya
      have HB3 := Lib.hid hb3
      have hs3 := hb3.size
      clear hck2 hyl hya hb3 hg3 ho3 hz
      unfold Ls.val at HCK ⊢
      by_cases hx0 : z9 = 0
      · subst hx0
        go_wp2_with fail
        refine HCK.out.mono ?_
        rintro e w4 ⟨rfl, b4⟩
        have HBW := Lib.hid (HB3.out.trans (b4.mono hs3))
        have HYA4 := Lib.hid ((HYA.out.keep b4.block).more b4.size)
        clear b4
        by_cases hz0 : z = 0
        · subst hz0
          go_wp2_with fail
          go_ret2
          refine ⟨.inl ⟨⟨fun i hi => HOK.out i (by rw [← HNE.out]; exact hi), ?_, ?_⟩, y, rfl, ?_, HYA4.out⟩, HBW.out⟩
          · rw [HNE.out]; exact HX9.out
          · rw [HNE.out]; exact HZ.out
          · rw [HNE.out]; exact HYL.out
        · have hzb : (z != 0) = true := by simpa using hz0
          have HZ0 := Lib.hid hz0
          clear hz0
          go_wp2_with fail
          go_ret2
          refine ⟨.inr ⟨fun hG => HZ0.out ?_, rfl⟩, HBW.out⟩
          have := hG.2.2
          rw [HNE.out, HZ.out] at this
          exact this
      · have hxb : (z9 != 0) = true := by simpa using hx0
        have HX0 := Lib.hid hx0
        clear hx0
        go_wp2_with fail
        go_ret2
        refine ⟨.inr ⟨fun hG => HX0.out ?_, rfl⟩, HB3.out⟩
        have := hG.2.1
        rw [HNE.out, HX9.out] at this
        exact this
    · by_cases hx0 : x = 0
      · subst hx0
        have hblk := qblock_any g A6 c6 _ _ wr hr
        have hsn : rxs L (k + 1) = rxs L k ++ [q3X (rblk L k)] := rfl
        have hst : (blockQ (rst L k).1 (rst L k).2).2 = rst L (k + 1) := rfl
        rw [hst, show (blockQ (rst L k).1 (rst L k).2).1 = rblk L k from rfl] at hblk
        have hml := rblk_le L k
        have hOK : ROk L k ↔ q3E (rblk L k) = 0 ∧ (q3X (rblk L k)).May := Iff.rfl
        obtain ⟨m, hm⟩ : ∃ m, rblk L k = m := ⟨_, rfl⟩
        rw [hm] at hblk hsn hml hOK
        have HB := Lib.hid hblk
        have HO := Lib.hid ho
        have HSN := Lib.hid hsn
        have HMO := Lib.hid hOK
        clear hblk ho hsn hr hst hm hOK
        go_wp2_with fail
        refine HB.out.mono ?_
        rintro e w3 ⟨A3, c3, rfl, ho3, hr3, hg3⟩
        have hs3 := hg3.size
        have b3 : Below w.heap.size w w3 := hb.grown hg3 hsw (fun j e => by obtain rfl := Option.some.inj e; exact hgw)
        have HER := Lib.hid (r3read_any A3 c3 m.length m w3 w3.heap.size rfl ho3 (Nat.le_refl _) (by omega))
        have HO3 := Lib.hid (row_off HO.out hg3 hgl)
        have HR3 := Lib.hid hr3
        have HB3 := Lib.hid b3
        clear ho3 hr3 hg3 b3 ec
        go_wp2_with fail
        refine HER.out.mono ?_
        rintro e w4 ⟨hcase, b4⟩
        have hs4 := b4.size
        have hb4 : Below w.heap.size w w4 := HB3.out.trans (b4.mono (by omega))
        rcases hcase with ⟨hyes, rfl⟩ | ⟨hno, rfl⟩
        · obtain ⟨y, hy⟩ : ∃ y, q3X m = y := ⟨_, rfl⟩
          rw [hy]
          have HMOK := Lib.hid (HMO.out.2 hyes)
          have hsn := HSN.out
          rw [hy] at hsn
          have HSN2 := Lib.hid hsn
          have HO4 := Lib.hid ((row_below HO3.out b4 (Nat.le_refl _)).alloc (evO y))
          have HR4 := Lib.hid (show ∃ A c, QR w4 g A c (rst L (k + 1)).1 (rst L (k + 1)).2 by obtain ⟨A, c, hq⟩ := HR3.out; exact ⟨A, c, hq.below b4 hq.lt⟩)
          have HB4 := Lib.hid hb4
          obtain ⟨s0, s1, s2, s3, s4, s5⟩ := EV.laid w4 y
          have hgl4 : g < w4.heap.size := by omega
          unfold evO at s0 s1 s2 s3 s4 s5 HO4
          clear b4 hb4 hy hyes hsn HSN
          unfold Ev.val
          go_wp2_with (at_builtin; refine wpList_append_own _ rfl (.tmp 32) (.tmp 34) 25 rfl w2.heap.size 23 i0 _ 6 48 Try.underlying25 hi hz0 hz1 hz2 rfl (by decide) _ k (rowV (rxs L k)) rfl (HO4.out.alloc _) ⟨w4.heap.size + 1, 0, none⟩ 1 1 y.cells (by simp [Act.eval, Act.put]) rfl (by have := new_ev (w4.alloc (evO y)) y; rw [World.size_alloc] at this; exact this) (cells_one _) (by unfold maxLen; omega) (by omega) (by simp; omega) ?_; intro v5 w5 ho5 hg5 _; have HO5 := Lib.hid ho5; have HG5 := Lib.hid hg5; clear ho5 hg5)
          have r5 : ∃ A c, QR w5 g A c (rst L (k + 1)).1 (rst L (k + 1)).2 := by
            obtain ⟨A, c, hq⟩ := HR4.out
            have e1 := hq.below (B := w4.heap.size) ((Below.refl w4.heap.size w4).alloc (Nat.le_refl _) (evO y)) hgl4
            have e2 := e1.below (B := w4.heap.size) ((Below.refl w4.heap.size (w4.alloc (evO y))).alloc (by simp) (evO y)) hgl4
            exact ⟨A, c, e2.kept HG5.out (fun j e => by have := (HO4.out.lt j e).1; omega)⟩
          have hs5 := HG5.out.size
          simp only [World.size_alloc] at hs5
          have b5 : Below w.heap.size w w5 := ((HB4.out.alloc HB4.out.size (evO y)).alloc (by have := HB4.out.size; simp; omega) (evO y)).grown HG5.out (by have := HB4.out.size; simp; omega) (fun j e => by have := (HO4.out.lt j e).1; omega)
          refine ⟨⟨k + 1, j, by omega, by go_num, r5, fun i hi => ?_, ?_, by omega, b5⟩, by simp [intOf]⟩
          · by_cases e : i = k
            · subst e; exact HMOK.out
            · exact HOK.out i (by omega)
          · rw [HSN2.out, rowV_snoc]; exact HO5.out
        · have HNO := Lib.hid (show ¬ RGood L from fun hG => hno (HMO.out.1 (hG.1 k (by rw [HNE.out]; omega))))
          have HB4 := Lib.hid hb4
          clear hno b4 hb4
          unfold zeroE Ev.val
          go_wp2_with fail
          go_ret2
          refine ⟨.inr ⟨HNO.out, rfl⟩, ?_⟩
          exact HB4.out.alloc HB4.out.size _
      · have hxb : (x == 0) = false := by simpa using hx0
        have HNO := Lib.hid (show ¬ RGood L from fun hG => rblk_err L k (by rw [HX.out]; exact hx0) (hG.1 k (by rw [HNE.out]; omega)))
        have hen := qend_any g A6 c6 _ _ wr hr
        rw [HX.out, show endQ (rst L k).1 x = x by unfold endQ; rw [if_neg (fun h => hx0 h.1)]] at hen
        have HEN := Lib.hid hen
        have HB := Lib.hid hb
        have hxn : (x != 0) = true := by simpa using hx0
        clear hx0 hen hr ho hb
        go_wp2_with fail
        refine HEN.out.mono ?_
        rintro e w3 ⟨rfl, _, hg3⟩
        have HB3 := Lib.hid (HB.out.grown hg3 hsw (fun j e => by obtain rfl := Option.some.inj e; exact hgw))
        clear hg3
        go_wp2_with fail
        go_ret2
        exact ⟨.inr ⟨HNO.out, rfl⟩, HB3.out⟩
end Go.Proofs.Ythnbpdcjooifbaa
