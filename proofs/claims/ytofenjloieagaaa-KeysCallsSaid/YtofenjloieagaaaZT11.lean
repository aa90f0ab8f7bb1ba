/-  -/
import Derived.Test.YtofenjloieagaaaZT10
namespace Go.Proofs.Ytofenjloieagaaa
open Go.RowKit
set_option linter.unusedSimpArgs false
set_option linter.unusedVariables false
set_option maxRecDepth 100000

/-- Where the reader is behind k touches, and its error; these touches. -/
def tst (L : List Int) : Nat → Nat × Int
  | 0 => (countSt L 0 0 65536).2
  | k + 1 => (tch4 L (tst L k).1 (tst L k).2).2
def txs (L : List Int) : Nat → List Tc
  | 0 => []
  | k + 1 => txs L k ++ [tchX L (tst L k).1 (tst L k).2]
def tcnt (L : List Int) : Nat := (countSt L 0 0 65536).1
theorem txs_len (L : List Int) : ∀ k, (txs L k).length = k
  | 0 => rfl
  | k + 1 => by simp [txs, txs_len L k]
theorem tcnt_le (L : List Int) : tcnt L ≤ 65536 := by
  unfold tcnt countSt
  split
  · exact Nat.zero_le _
  · omega
/-- All that Read asks of bytes; what it reads. -/
def TGood (L : List Int) : Prop := endSt L (tst L (tcnt L)).1 (tst L (tcnt L)).2 = 0 ∧ Good (txs L (tcnt L))
instance (L : List Int) : Decidable (TGood L) := by unfold TGood; infer_instance
def readE (L : List Int) : Int := if TGood L then 0 else 4
def readT (L : List Int) : List Tc := txs L (tcnt L)
theorem num_bad (l : List Int) (p : Nat) (e : Int) (h : e ≠ 0) : (numSt l p e).2.2 ≠ 0 := by
  unfold numSt; rw [if_neg h]; exact h
theorem count_bad (l : List Int) (p : Nat) (e most : Int) (h : e ≠ 0) : (countSt l p e most).2.2 ≠ 0 := by
  unfold countSt
  split
  · simp
  · exact num_bad l p e h
theorem tch_bad (l : List Int) (p : Nat) (e : Int) (h : e ≠ 0) : (tch4 l p e).2.2 ≠ 0 := count_bad _ _ _ _ (count_bad _ _ _ _ (count_bad _ _ _ _ (num_bad _ _ _ h)))
theorem tst_bad (L : List Int) (k : Nat) (h : (tst L k).2 ≠ 0) : ∀ j, (tst L (k + j)).2 ≠ 0
  | 0 => h
  | j + 1 => tch_bad _ _ _ (tst_bad L k h j)
theorem end_bad (l : List Int) (p : Nat) (e : Int) (h : e ≠ 0) : endSt l p e ≠ 0 := by
  unfold endSt; rw [if_neg (fun k => h k.1)]; exact h
theorem read_bad (L : List Int) (k : Nat) (hk : k ≤ tcnt L) (h : (tst L k).2 ≠ 0) : readE L = 4 := by
  unfold readE
  have := tst_bad L k h (tcnt L - k)
  rw [show k + (tcnt L - k) = tcnt L by omega] at this
  rw [if_neg fun hh : TGood L => end_bad _ _ _ this hh.1]
theorem row_off17 {w w' : World} {base g : Nat} {v : Value} {M : List Tc} (h : OwnT w base v M) (hg : w.grownBy w' (some g)) (hgb : g < base) : OwnT w' base v M :=
  h.kept hg (.inr (by
    intro e
    have := (h.lt g (by first | exact e | exact e.symm)).1
    omega))

set_option maxHeartbeats 4000000 in
theorem readT_any (w : World) (A : Option Addr) (c n : Nat) (L : List Int) (hn : n = L.length) (hL : L.length ≤ 1099511627776) (B : Nat) (h : RB w B A c L) (hB : B ≤ w.heap.size) :
    Calls Try.prog 9 #[.slice A n c] w (ListE w (readE L) (readT L)) := by
  subst hn
  have HNEW := Lib.hid (new_any A c L.length L w B rfl h hB hL)
  obtain ⟨i0, hi, hz0, hz1, hz2⟩ := info_parts info_tc
  clear h hB
  have hN := tcnt_le L
  have HBad := Lib.hid (read_bad L)
  have HRT := Lib.hid (show readT L = txs L (tcnt L) from rfl)
  have HRE := Lib.hid (show readE L = if endSt L (tst L (tcnt L)).1 (tst L (tcnt L)).2 = 0 ∧ Good (txs L (tcnt L)) then 0 else 4 from rfl)
  obtain ⟨N, hNe⟩ : ∃ N, tcnt L = N := ⟨_, rfl⟩
  rw [hNe] at hN HBad HRT HRE
  generalize readE L = rE at *
  generalize readT L = rT at *
  go_enter Try.func9, Try.ntmps9
  go_wp2_with fail
  refine HNEW.out.mono ?_
  rintro e w1 ⟨g, A1, c1, rfl, hr, b1, hgw, _⟩
  have hcnt := rcount_any g A1 c1 L 0 0 65536 w1 hr (by omega)
  have hm0 : (countSt L 0 0 65536).2 = tst L 0 := rfl
  rw [show (countSt L 0 0 65536).1 = N from hNe, hm0] at hcnt
  have B1 := Lib.hid b1
  have h1 := b1.size
  have HCN := Lib.hid hcnt
  clear hcnt hr b1 hNe hm0
  go_wp2_with fail
  refine HCN.out.mono ?_
  rintro e w2 ⟨rfl, hr, hg2⟩
  have h2 := hg2.size
  have b2 : Below w.heap.size w w2 := B1.out.grown hg2 h1 (fun j e => by obtain rfl := Option.some.inj e; exact hgw)
  have hgl := hr.lt
  have HR := Lib.hid hr
  have B2 := Lib.hid b2
  clear hr hg2 b2
  go_wp2_with fail
  go_loopw [5, 10] (fun v i wr => ∃ k : Nat, k ≤ N ∧ i = .int .i64 k ∧ Rdr wr g A1 c1 L (tst L k).1 (tst L k).2 ∧ OwnT wr w2.heap.size v (txs L k) ∧ w2.heap.size ≤ wr.heap.size ∧ Below w.heap.size w wr) (fun _ i _ => N - (intOf i).toNat)
  case atStart => exact ⟨0, Nat.zero_le _, rfl, HR.out, World.ownsRow_nil _ _ _ _, Nat.le_refl _, B2.out⟩
  case round =>
    rename World => wr
    clear HR B2
    obtain ⟨k, hk, rfl, hr, ho, hs2, hb⟩ := hrel
    have hsw : w.heap.size ≤ wr.heap.size := hb.size
    have HO := Lib.hid ho
    have HB := Lib.hid hb
    have HR := Lib.hid hr
    clear hr ho hb
    by_cases hlt : k < N
    · have HT := Lib.hid (touch_any wr g A1 c1 L _ _ HR.out)
      have hsn : txs L (k + 1) = txs L k ++ [tchX L (tst L k).1 (tst L k).2] := rfl
      have hst : (tch4 L (tst L k).1 (tst L k).2).2 = tst L (k + 1) := rfl
      have hln := txs_len L k
      have HBk := Lib.hid (HBad.out (k + 1) (by omega))
      rw [hst] at HT
      generalize tchX L (tst L k).1 (tst L k).2 = y at *
      have HSN := Lib.hid hsn
      have HLN := Lib.hid hln
      clear hsn hst hln HR HRT HRE HBad
      go_wp2_with fail
      refine HT.out.mono ?_
      rintro e w3 ⟨rfl, hr3, hg3⟩
      have hs3 := hg3.size
      have HO3 := Lib.hid (row_off17 HO.out hg3 hgl)
      have HR3 := Lib.hid hr3
      have HB3 := Lib.hid (HB.out.grown hg3 hsw (fun j e => by obtain rfl := Option.some.inj e; exact hgw))
      clear hr3 hg3 HO HB HT
      unfold Tc.val
      generalize txs L k = M at *
      go_wp2_with (at_builtin; refine wpList_append_own _ rfl (.tmp 12) (.tmp 15) 22 rfl w2.heap.size 45 i0 _ 4 32 Try.underlying22 hi hz0 hz1 hz2 rfl (by decide) _ M.length (rowT M) rfl (HO3.out.alloc _) ⟨w3.heap.size, 0, none⟩ 1 1 y.cells rfl rfl (new_tc w3 y) (cells_one _) (by rw [HLN.out]; unfold maxLen; omega) (by rw [HLN.out]; omega) (by simp; omega) ?_; intro v5 w5 ho5 hg5 _; have HO5 := Lib.hid ho5; have HG5 := Lib.hid hg5; clear ho5 hg5)
      have hlt3 : g < w3.heap.size := by omega
      have hr5 : Rdr w5 g A1 c1 L (tst L (k + 1)).1 (tst L (k + 1)).2 :=
        (HR3.out.below (B := w3.heap.size) ((Below.refl w3.heap.size w3).alloc (Nat.le_refl _) _) hlt3).kept HG5.out (fun j e => by have := (HO3.out.lt j e).1; omega)
      have hs5 := HG5.out.size
      simp only [World.size_alloc] at hs5
      have HB5 := Lib.hid ((HB3.out.alloc HB3.out.size _).grown HG5.out (by have := HB3.out.size; simp; omega) (fun j e => by have := (HO3.out.lt j e).1; omega))
      have HO5' : Hid (OwnT w5 w2.heap.size v5 (txs L (k + 1))) := Lib.hid (by
        rw [HSN.out]
        unfold OwnT
        rw [rowT_snoc, List.length_append]
        exact HO5.out)
      have HR5 := Lib.hid hr5
      have hErr := err_any g (tst L (k + 1)).2 w5 hr5.c0 hr5.c3
      generalize hte : (tst L (k + 1)).2 = te at *
      have HTE := Lib.hid hte
      have HErr := Lib.hid hErr
      clear hr5 hErr HO5 HG5 HO3 HR3 HB3 HSN hte
      go_wp2_with fail
      refine HErr.out.mono ?_
      rintro e w6 ⟨rfl, rfl⟩
      by_cases hz : te = 0
      · subst hz
        go_wp2_with fail
        exact ⟨⟨k + 1, by omega, by go_num, by rw [HTE.out]; exact HR5.out, HO5'.out, by omega, HB5.out⟩, by simp [intOf]; omega⟩
      · have hn : (te != 0) = true := by simpa using hz
        have HF := Lib.hid (HBk.out hz)
        clear hz HBk
        go_wp2_with fail
        go_ret2
        rw [HF.out]
        exact ⟨⟨_, rfl, World.ownsRow_nil _ _ _ _⟩, HB5.out⟩
    · obtain rfl : k = N := by omega
      have hen := rend_any g A1 c1 L _ _ wr HR.out
      generalize hx : endSt L (tst L k).1 (tst L k).2 = x at *
      obtain ⟨A3, c3, rfl, -, l3, k3⟩ := HO.out.shape0
      have HEN := Lib.hid hen
      have HLN := Lib.hid (txs_len L k)
      have HGd := Lib.hid (@errL_zero (txs L k))
      clear hen HR HBad hx
      generalize txs L k = M at *
      go_wp2_with fail
      refine HEN.out.mono ?_
      rintro e w3 ⟨rfl, _, hg3⟩
      have HO3 := Lib.hid (row_off17 HO.out hg3 hgl)
      have HB3 := Lib.hid (HB.out.grown hg3 hsw (fun j e => by obtain rfl := Option.some.inj e; exact hgw))
      have HCK := Lib.hid (check_any w3 A3 c3 M HO3.out.ts ⟨l3, k3⟩)
      clear hg3 HO HB HEN
      by_cases hx0 : x = 0
      · subst hx0
        generalize errL M = z at *
        go_wp2_with fail
        refine HCK.out.mono ?_
        rintro e w4 ⟨rfl, b4⟩
        have HB4 := Lib.hid (HB3.out.trans (b4.mono HB3.out.size))
        have HO4 := Lib.hid (ownsRow_base_a (HO3.out.below b4) (show w.heap.size ≤ w2.heap.size by omega))
        clear b4 HO3 HB3 HCK
        by_cases hz : z = 0
        · subst hz
          have hr0 : rE = 0 := by rw [HRE.out, if_pos ⟨by first | trivial | rfl, HGd.out.1 (by first | trivial | rfl)⟩]
          have HR0 := Lib.hid hr0
          clear hr0 HRE HGd
          go_wp2_with fail
          go_ret2
          rw [HR0.out, HRT.out]
          exact ⟨⟨_, rfl, HO4.out⟩, HB4.out⟩
        · have hn : (z != 0) = true := by simpa using hz
          have hr0 : rE = 4 := by rw [HRE.out, if_neg fun h => hz (HGd.out.2 h.2)]
          have HR0 := Lib.hid hr0
          clear hr0 HRE HGd hz
          go_wp2_with fail
          go_ret2
          rw [HR0.out]
          exact ⟨⟨_, rfl, World.ownsRow_nil _ _ _ _⟩, HB4.out⟩
      · have hn : (x != 0) = true := by simpa using hx0
        have hr0 : rE = 4 := by rw [HRE.out, if_neg fun h => hx0 h.1]
        have HR0 := Lib.hid hr0
        clear hr0 HRE HGd hx0 HCK
        go_wp2_with fail
        go_ret2
        rw [HR0.out]
        exact ⟨⟨_, rfl, World.ownsRow_nil _ _ _ _⟩, HB3.out⟩
end Go.Proofs.Ytofenjloieagaaa
