
/- The reference's Read. -/
import Derived.Test.YtpkmphalhmmbkaaH8
import Derived.Test.YtpkmphalhmmbkaaH2
namespace Go.Proofs.Ytpkmphalhmmbkaa
open Go.RowKit
set_option linter.unusedSimpArgs false
set_option linter.unusedVariables false
set_option maxRecDepth 100000

/-- What the reference's Read reads: k numbers, what is left, the error. -/
def refN (l : List Int) : Nat → List Int × List Int × Int
  | 0 => ([], l, 0)
  | k + 1 => ((refN l k).1 ++ [((min (numQ (refN l k).2.1 (refN l k).2.2).1 1000 : Nat) : Int)], (numQ (refN l k).2.1 (refN l k).2.2).2.1, (numQ (refN l k).2.1 (refN l k).2.2).2.2)
theorem refN_length (l : List Int) : ∀ k, (refN l k).1.length = k
  | 0 => rfl
  | k + 1 => by simp [refN, refN_length l k]

/-- A block that is a row of seven numbers. -/
def AW (w : World) (b : Nat) (s : Scr) : Prop := w.heap[b]? = some (.cells #[.int .i64 s.lines, .int .i64 s.columns, .int .i64 s.top, .int .i64 s.rows, .int .i64 s.left, .int .i64 s.wide, .int .i64 s.pulse] 87 (0, 0))
theorem AW.put {w : World} {b : Nat} {x : List Int} (h : AW w b (scrOf x)) (k : Nat) (hk : k < 7) (hx : x.length = k) (v : Int) : AW (w.setCell ⟨b, k, none⟩ (.int .i64 v)) b (scrOf (x ++ [v])) := by
  unfold AW at *
  rw [heap_setCell_same w b k _ _ _ h]
  match k, hk with
  | 0, _ => obtain rfl := List.length_eq_zero_iff.1 hx; rfl
  | 1, _ => match x, hx with | [a], _ => rfl
  | 2, _ => match x, hx with | [a, b], _ => rfl
  | 3, _ => match x, hx with | [a, b, c], _ => rfl
  | 4, _ => match x, hx with | [a, b, c, d], _ => rfl
  | 5, _ => match x, hx with | [a, b, c, d, e], _ => rfl
  | 6, _ => match x, hx with | [a, b, c, d, e, f], _ => rfl
theorem AW.sb {w : World} {b : Nat} {s : Scr} (h : AW w b s) : SB w b s := by
  constructor <;> (rw [cell_of_row _ _ _ _ _ _ h]; rfl)
theorem AW.free {w : World} {b : Nat} {s : Scr} (h : AW w b s) (i : Nat) : w.frozen? ⟨b, i, none⟩ = false := frozen_of_row w b i _ _ h
theorem AW.lt {w : World} {b : Nat} {s : Scr} (h : AW w b s) : b < w.heap.size := (Array.getElem?_eq_some_iff.1 h).1
theorem AW.keep {w w' : World} {b : Nat} {s : Scr} (h : AW w b s) (hb : w'.heap[b]? = w.heap[b]?) : AW w' b s := hb.trans h

set_option maxHeartbeats 4000000 in
theorem rread_any (A : Option Addr) (c n : Nat) (l : List Int) (w : World) (B : Nat) (hn : n = l.length) (h : RB w B A c l) (hB : B ≤ w.heap.size) (hlen : l.length ≤ 1099511627776) :
    Calls Try.prog 21 #[.slice A n c] w fun e w' => ((endQ (refN l 7).2.1 (refN l 7).2.2 = 0 ∧ (scrOf (refN l 7).1).May → e = .returned (.tuple #[(scrOf (refN l 7).1).val, .int .i64 0])) ∧ (¬ (endQ (refN l 7).2.1 (refN l 7).2.2 = 0 ∧ (scrOf (refN l 7).1).May) → e = .returned (.tuple #[(scrOf []).val, .int .i64 4]))) ∧ Below w.heap.size w w' := by
  subst hn
  go_enter Try.func21, Try.ntmps21
  go_wp2_with fail
  refine (qnew_any A c _ l _ B rfl (h.alloc hB _) (by simp; omega) hlen).mono ?_
  rintro e w2 ⟨g, A2, c2, rfl, hR, hb, hg⟩
  simp at hg
  have hS0 : SW w2 w.heap.size (scrOf []) := (SW.laid w (scrOf [])).keep (hb.block _ (by simp))
  have hB2 : Below w.heap.size w w2 := ((Below.refl _ _).alloc (Nat.le_refl _) _).trans (hb.mono (by simp))
  clear hb
  go_wp2_with fail
  have hS3 := hS0.keep (((Below.refl _ _).alloc (Nat.le_refl _) (.cells #[.int .i64 0, .int .i64 0, .int .i64 0, .int .i64 0, .int .i64 0, .int .i64 0, .int .i64 0] 87)).block _ hS0.lt)
  have hR3 := hR.below ((Below.refl _ _).alloc (Nat.le_refl _) (.cells #[.int .i64 0, .int .i64 0, .int .i64 0, .int .i64 0, .int .i64 0, .int .i64 0, .int .i64 0] 87)) hR.lt
  have hA3 : AW (w2.alloc (.cells #[.int .i64 0, .int .i64 0, .int .i64 0, .int .i64 0, .int .i64 0, .int .i64 0, .int .i64 0] 87)) w2.heap.size (scrOf []) := heap_alloc_new _ _
  have hB3 := hB2.alloc hB2.size (.cells #[.int .i64 0, .int .i64 0, .int .i64 0, .int .i64 0, .int .i64 0, .int .i64 0, .int .i64 0] 87)
  have hgf := hR.lt
  clear hS0 hR hB2
  generalize w2.alloc (.cells #[.int .i64 0, .int .i64 0, .int .i64 0, .int .i64 0, .int .i64 0, .int .i64 0, .int .i64 0] 87) = w3 at *
  generalize w2.heap.size = f at *
  go_loopw [6] (fun i wr => ∃ (k : Nat) (A : Option Addr) (c : Nat), k ≤ 7 ∧ i = .int .i64 k ∧ QR wr g A c (refN l k).2.1 (refN l k).2.2 ∧ AW wr f (scrOf (refN l k).1) ∧ SW wr w.heap.size (scrOf []) ∧ Below w.heap.size w wr) (fun i _ => 7 - (intOf i).toNat)
  case atStart => exact ⟨0, A2, c2, by omega, rfl, hR3, hA3, hS3, hB3⟩
  case round =>
    obtain ⟨k, A5, c5, hk, rfl, hQ, hA, hS, hBr⟩ := hrel
    clear hS3 hR3 hA3 hB3
    have hlk := refN_length l k
    by_cases hlt : k < 7
    · have HR := Lib.hid (show refN l (k + 1) = ((refN l k).1 ++ [((min (numQ (refN l k).2.1 (refN l k).2.2).1 1000 : Nat) : Int)], (numQ (refN l k).2.1 (refN l k).2.2).2.1, (numQ (refN l k).2.1 (refN l k).2.2).2.2) from rfl)
      have hrc := qnum_any g A5 c5 (refN l k).2.1 (refN l k).2.2 wr hQ
      obtain ⟨q, hq⟩ : ∃ q, numQ (refN l k).2.1 (refN l k).2.2 = q := ⟨_, rfl⟩
      rw [hq] at hrc HR
      have HC := Lib.hid hrc
      clear hrc hq
      go_wp2_with fail
      refine HC.out.mono ?_
      rintro e w4 ⟨rfl, ⟨A6, c6, hQ4⟩, hg4⟩
      have hA4 := hA.keep (hg4.block _ hA.lt (fun e => by have := Option.some.inj e; omega))
      have hS4 := hS.keep (hg4.block _ hS.lt (fun e => by have := Option.some.inj e; omega))
      have hB4 := hBr.trans (below_grown hg4 (by omega) hBr.size)
      clear hQ hA hS hBr hg4
      have hm : min (q.1 : Int) 1000 = ((min q.1 1000 : Nat) : Int) := by omega
      have hfz := hA4.free k
      have hcl := hA4.sb.nth k hlt
      have HP := Lib.hid (hA4.put k hlt hlk ((min q.1 1000 : Nat) : Int))
      have HG := Lib.hid ((Below.refl f w4).setCell (p := ⟨f, k, none⟩) (Nat.le_refl _) (.int .i64 ((min q.1 1000 : Nat) : Int)))
      go_wp2_with fail
      go_roundw
      case rel => exact ⟨k + 1, A6, c6, by omega, by go_num, by rw [HR.out]; exact hQ4.below HG.out hgf, by rw [HR.out]; exact HP.out, hS4.keep (HG.out.block _ (by omega)), hB4.trans (HG.out.mono (by omega))⟩
      case measure => simp [intOf]; omega
    · obtain rfl : k = 7 := by omega
      obtain ⟨x, hx⟩ : ∃ x, endQ (refN l 7).2.1 (refN l 7).2.2 = x := ⟨_, rfl⟩
      obtain ⟨s, hs⟩ : ∃ s, scrOf (refN l 7).1 = s := ⟨_, rfl⟩
      have hend := qend_any g A5 c5 (refN l 7).2.1 (refN l 7).2.2
      rw [hx] at hend
      rw [hs] at hA
      have HX := Lib.hid hx
      have HS := Lib.hid hs
      have HE := Lib.hid hend
      clear hx hs hlk hend
      obtain ⟨c0, c1, c2', c3, c4, c5', c6⟩ := hA.sb
      go_wp2_with fail
      clear c0 c1 c2' c3 c4 c5' c6
      have hQ3 := hQ.below ((Below.refl wr.heap.size wr).alloc (Nat.le_refl _) (scO s)) hQ.lt
      have hS1 : SW (wr.alloc (scO s)) wr.heap.size s := SW.laid wr s
      have hS0 : SW (wr.alloc (scO s)) w.heap.size (scrOf []) := hS.keep (((Below.refl wr.heap.size wr).alloc (Nat.le_refl _) (scO s)).block _ hS.lt)
      have hB3 : Below w.heap.size w (wr.alloc (scO s)) := hBr.alloc hBr.size _
      have hgd := hQ.lt
      have hwd := hS.lt
      simp only [scO] at hQ3 hS1 hS0 hB3
      clear hQ hA hS hBr
      refine (HE.out _ hQ3).mono ?_
      rintro e w4 ⟨rfl, ⟨A6, c6, hQ4⟩, hg4⟩
      have hS14 := hS1.keep (hg4.block _ hS1.lt (fun e => by have := Option.some.inj e; omega))
      have hS04 := hS0.keep (hg4.block _ hS0.lt (fun e => by have := Option.some.inj e; omega))
      have hB4 := hB3.trans (below_grown hg4 (by omega) hB3.size)
      clear hS1 hS0 hB3 hg4 hQ3 hQ4
      generalize wr.heap.size = d at *
      have hval : s.val = .agg #[.int .i64 s.lines, .int .i64 s.columns, .int .i64 s.top, .int .i64 s.rows, .int .i64 s.left, .int .i64 s.wide, .int .i64 s.pulse] := rfl
      have HV := Lib.hid hval
      clear hval
      by_cases hx0 : x = 0
      · subst hx0
        obtain ⟨c0, c1, c2', c3, c4, c5, c6⟩ := hS14.sb
        go_wp2_with fail
        clear c0 c1 c2' c3 c4 c5 c6
        rw [← HV.out]
        refine (rcheck_any w4 s).mono ?_
        rintro e w5 ⟨hm, hb⟩
        have hS15 := hS14.keep (hb.block _ (by have := hS14.lt; omega))
        have hS05 := hS04.keep (hb.block _ (by have := hS04.lt; omega))
        have hB5 := hB4.trans (hb.mono hB4.size)
        clear hb hS14 hS04
        obtain ⟨c0, c1, c2', c3, c4, c5, c6⟩ := hS15.sb
        obtain ⟨d0, d1, d2, d3, d4, d5, d6⟩ := hS05.sb
        have g0 := hS05.free 0
        have g1 := hS05.free 1
        have g2 := hS05.free 2
        have g3 := hS05.free 3
        have g4 := hS05.free 4
        have g5 := hS05.free 5
        have g6 := hS05.free 6
        rcases hm with ⟨rfl, hm⟩ | ⟨rfl, hm⟩
        · go_wp2_with fail
          (try simp only [Exit.inBlock, Exit.then])
          exact bodyPost_ret (v := .tuple #[s.val, .int .i64 0]) (results_scr rfl _ _ _ s _ rfl rfl (putScr_sw hS05 s)) rfl ⟨⟨fun _ => by rw [HS.out], fun h => absurd ⟨HX.out, by rw [HS.out]; exact hm⟩ h⟩, hB5.trans (putScr_below _ _ s (Nat.le_refl _))⟩
        · go_wp2_with fail
          (try simp only [Exit.inBlock, Exit.then])
          exact bodyPost_ret (v := .tuple #[(scrOf []).val, .int .i64 4]) (results_scr rfl _ _ _ (scrOf []) _ rfl rfl (putScr_sw hS05 (scrOf []))) rfl ⟨⟨fun h => absurd (HS.out ▸ h.2) hm, fun _ => rfl⟩, hB5.trans (putScr_below _ _ (scrOf []) (Nat.le_refl _))⟩
      · have hxb : (x != 0) = true := by simpa using hx0
        obtain ⟨d0, d1, d2, d3, d4, d5, d6⟩ := hS04.sb
        have g0 := hS04.free 0
        have g1 := hS04.free 1
        have g2 := hS04.free 2
        have g3 := hS04.free 3
        have g4 := hS04.free 4
        have g5 := hS04.free 5
        have g6 := hS04.free 6
        go_wp2_with fail
        (try simp only [Exit.inBlock, Exit.then])
        exact bodyPost_ret (v := .tuple #[(scrOf []).val, .int .i64 4]) (results_scr rfl _ _ _ (scrOf []) _ rfl rfl (putScr_sw hS04 (scrOf []))) rfl ⟨⟨fun h => absurd (HX.out ▸ h.1) hx0, fun _ => rfl⟩, hB4.trans (putScr_below _ _ (scrOf []) (Nat.le_refl _))⟩
end Go.Proofs.Ytpkmphalhmmbkaa
