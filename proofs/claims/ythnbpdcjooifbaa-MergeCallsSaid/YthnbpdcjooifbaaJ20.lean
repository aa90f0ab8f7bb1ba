/-   -/
import Derived.Test.YthnbpdcjooifbaaJ15
import Derived.Test.YthnbpdcjooifbaaJ19
namespace Go.Proofs.Ythnbpdcjooifbaa
open Go.RowKit
set_option linter.unusedSimpArgs false
set_option linter.unusedVariables false

def blkB (m : List Int) : List Int := numB m.length ++ m
def evsB (l : List Ev) : List Int := l.flatMap fun e => blkB (evB e)
def histB (l : List Ev) : List Int := numB l.length ++ evsB l
theorem evB_le (e : Ev) : (evB e).length ≤ 45 := by
  unfold evB
  simp only [List.length_append, List.length_nil]
  have h1 := (numB_length e.kind.toNat).2
  have h2 := (numB_length e.time.toNat).2
  have h3 := (numB_length e.seq.toNat).2
  have h4 := (numB_length e.a.toNat).2
  have h5 := (numB_length e.b.toNat).2
  omega
theorem blkB_le (e : Ev) : (blkB (evB e)).length ≤ 54 := by
  unfold blkB
  rw [List.length_append]
  have h1 := (numB_length (evB e).length).2
  have h2 := evB_le e
  omega
theorem evsB_le : ∀ l : List Ev, (evsB l).length ≤ l.length * 54
  | [] => by simp [evsB]
  | x :: t => by
    have ih := evsB_le t
    have h1 := blkB_le x
    unfold evsB at ih ⊢
    rw [List.flatMap_cons, List.length_append, List.length_cons]
    omega
theorem evsB_take (l : List Ev) (k : Nat) (hk : k < l.length) : evsB (l.take (k + 1)) = evsB (l.take k) ++ blkB (evB (l.getD k evZ)) := by
  unfold evsB
  rw [List.take_succ_eq_append_getElem hk, List.flatMap_append, List.getD_eq_getElem?_getD, List.getElem?_eq_getElem hk]
  simp

set_option maxRecDepth 100000 in
theorem mblock_any (w : World) (x : Ev) (hm : x.May) : Calls Try.prog 56 #[x.val] w (Fresh w.heap.size w (blkB (evB x))) := by
  have hb0 : Below w.heap.size w (w.alloc (evO x)) := (Below.refl _ _).alloc (Nat.le_refl _) _
  obtain ⟨s0, s1, s2, s3, s4, s5⟩ := EV.laid w x
  have HE := Lib.hid (ebytes_may (w.alloc (evO x)) x hm)
  have HB0 := Lib.hid hb0
  clear hb0
  unfold evO at s0 s1 s2 s3 s4 s5
  unfold evO Ev.val at HE
  unfold Ev.val
  go_enter Try.func56, Try.ntmps56
  go_wp2_with fail
  refine HE.out.mono ?_
  rintro e w1 ⟨A, c, rfl, ho, b1⟩
  have HO := Lib.hid ho
  have B1 := Lib.hid (HB0.out.trans (b1.mono (by simp)))
  have HBL := Lib.hid (block_nil A (evB x).length c (evB x) w1 w1.heap.size rfl ho.rb (Nat.le_refl _) (by have := evB_le x; omega))
  clear ho b1 s0 s1 s2 s3 s4 s5
  go_wp2_with fail
  refine HBL.out.mono ?_
  rintro e w2 ⟨A2, c2, rfl, ho2, b2⟩
  have HF := Lib.hid (show Fresh w.heap.size w (blkB (evB x)) (.returned (.slice A2 (numB (evB x).length ++ evB x).length c2)) w2 from ⟨A2, c2, rfl, ho2.mono B1.out.size, B1.out.trans (b2.mono B1.out.size)⟩)
  clear ho2 b2
  go_wp2_with fail
  go_ret
  have hf := HF.out
  rw [List.length_append] at hf
  exact hf

def BytesTo (w : World) (l : List Ev) (e : Ending) (w' : World) : Prop :=
  ((chk l ≠ 0 ∧ e = .returned (.tuple #[.slice none 0 0, .int .i64 (chk l)])) ∨ (chk l = 0 ∧ ∃ A c, e = .returned (.tuple #[.slice A (histB l).length c, .int .i64 0]) ∧ OB w' w.heap.size A c (histB l))) ∧ Below w.heap.size w w'

set_option maxRecDepth 100000 in
set_option maxHeartbeats 2000000 in
theorem mbytes_any (w : World) (x : Ls) (h : LsAt w w.heap.size x) (hN : x.l.length ≤ 1048576) : Calls Try.prog 23 #[x.val] w (BytesTo w x.l) := by
  have hcap := h.cap
  have hle := h.le
  unfold maxLen at hcap
  have HCK := Lib.hid ((mcheck_any w x h).mono fun e w' hc => hc.chk)
  have HL := Lib.hid h
  clear h
  unfold Ls.val at HCK ⊢
  go_enter Try.func23, Try.ntmps23
  go_wp2_with fail
  refine HCK.out.mono ?_
  rintro e w1 ⟨rfl, b1⟩
  by_cases hck : chk x.l = 0
  case neg =>
    have hb : (chk x.l != 0) = true := by simpa using hck
    have HC := Lib.hid hck
    clear hck
    go_wp2_with fail
    go_ret2
    exact ⟨.inl ⟨HC.out, rfl⟩, b1⟩
  have hb : (chk x.l != 0) = false := by simpa using hck
  have HC := Lib.hid hck
  have HG := Lib.hid (chk_good hck).1
  have HNB := Lib.hid (number_nil x.l.length w1 (by omega))
  have h1 := b1.size
  clear hck
  go_wp2_with fail
  refine HNB.out.mono ?_
  rintro e w2 ⟨A, c, rfl, ho, b2⟩
  have b12 := b1.trans (b2.mono h1)
  have HO := Lib.hid (ho.mono h1)
  have B12 := Lib.hid b12
  clear ho b12 b2 b1
  go_wp2_with fail
  go_loopw [5, 19] (fun v i wr => ∃ k : Nat, k ≤ x.l.length ∧ i = .int .i64 k ∧ (∃ A c, v = .slice A (numB x.l.length ++ evsB (x.l.take k)).length c ∧ OB wr w.heap.size A c (numB x.l.length ++ evsB (x.l.take k))) ∧ Below w.heap.size w wr) (fun _ i _ => x.l.length - (intOf i).toNat)
  case atStart => exact ⟨0, Nat.zero_le _, rfl, ⟨A, c, by simp [evsB], by simpa [evsB] using HO.out⟩, B12.out⟩
  case round =>
    clear HO B12
    obtain ⟨k, hk, rfl, ⟨A1, c1, rfl, ho⟩, hb2⟩ := hrel
    by_cases hlt : k < x.l.length
    · obtain ⟨b, o, hA, hb1, hat⟩ := HL.out.at_ (by omega)
      have hu := (hat k hlt).keep (hb2.block b hb1)
      obtain ⟨y, hy⟩ : ∃ y, x.l.getD k evZ = y := ⟨_, rfl⟩
      rw [show x.l.getD k ⟨0, 0, 0, 0, 0, 0⟩ = y from hy] at hu
      have hmay : y.May := by rw [← hy]; exact HG.out.1 k hlt
      have htk := evsB_take x.l k hlt
      rw [hy] at htk
      have hlen := evsB_le (x.l.take k)
      have hnl := (numB_length x.l.length).2
      have htl : (x.l.take k).length ≤ 1048576 := by simp; omega
      have hbl := blkB_le y
      obtain ⟨d0, d1, d2, d3, d4, d5⟩ := hu
      obtain ⟨s0, s1, s2, s3, s4, s5⟩ := EV.laid wr y
      have hsz := hb2.size
      have HMB := Lib.hid (mblock_any (wr.alloc (evO y)) y hmay)
      have HO := Lib.hid ho
      have HTK := Lib.hid htk
      have hdl : (numB x.l.length ++ evsB (x.l.take k)).length ≤ 56623113 := by rw [List.length_append]; omega
      obtain ⟨D, hD⟩ : ∃ D, numB x.l.length ++ evsB (x.l.take k) = D := ⟨_, rfl⟩
      rw [hD] at HO hdl ⊢
      have HD := Lib.hid hD
      unfold evO at s0 s1 s2 s3 s4 s5
      unfold evO Ev.val at HMB
      clear hat hy hmay htk hlen hnl htl ho hD
      rw [hA]
      go_wp2_with fail
      refine HMB.out.mono ?_
      rintro e w3 ⟨A2, c2, rfl, ho2, b3⟩
      have hb3 : Below w.heap.size w w3 := (hb2.alloc hsz _).trans (b3.mono (by simp; omega))
      have HO3 := Lib.hid ((HO.out.alloc (evO y)).below b3 (Nat.le_refl _))
      have HO2 := Lib.hid ho2
      have h3 := hb3.size
      clear ho2 b3 s0 s1 s2 s3 s4 s5 d0 d1 d2 d3 d4 d5
      go_wp2_with (at_builtin; refine wpList_append_rb _ rfl (.tmp 23) (.tmp 25) rfl w.heap.size w3.heap.size A1 _ c1 D rfl rfl HO3.out A2 _ c2 (blkB (evB y)) rfl rfl HO2.out.rb (by omega) h3 ?_; intro A3 c3 w4 ho4 hb4 _; have HO4 := Lib.hid ho4; have HB4 := Lib.hid (hb3.trans hb4); clear ho4 hb4)
      refine ⟨⟨k + 1, by omega, by go_num, ⟨A3, c3, ?_, ?_⟩, HB4.out⟩, by simp [intOf]; omega⟩
      · rw [HTK.out, ← List.append_assoc, HD.out, List.length_append]
      · rw [HTK.out, ← List.append_assoc, HD.out]; exact HO4.out
    · obtain rfl : k = x.l.length := by omega
      rw [List.take_length] at ho ⊢
      have HF := Lib.hid (show BytesTo w x.l (.returned (.tuple #[.slice A1 (histB x.l).length c1, .int .i64 0])) wr from ⟨.inr ⟨HC.out, A1, c1, rfl, ho⟩, hb2⟩)
      clear ho
      go_wp2_with fail
      go_ret2
      exact HF.out
end Go.Proofs.Ythnbpdcjooifbaa
namespace Go.Proofs.Ythnbpdcjooifbaa
open Go.RowKit
set_option linter.unusedSimpArgs false
set_option linter.unusedVariables false

theorem hblock_at (L done m r : List Int) (hm : m.length ≤ 1048576) (h : L = done ++ blkB m ++ r) : blockSt L done.length 0 = (m, (done ++ blkB m).length, 0) := by
  have h2 : L = done ++ numB m.length ++ (m ++ r) := by rw [h]; simp [blkB]
  unfold blockSt
  rw [num_at L done (m ++ r) m.length (by omega) h2]
  have hd : L.drop (done ++ numB m.length).length = m ++ r := by rw [h2, List.drop_left]
  have hl : L.length - (done ++ numB m.length).length = (m ++ r).length := by rw [h2, List.length_append]; omega
  simp only
  rw [if_neg (by omega), if_neg (by simp), if_neg (by rw [hl, List.length_append]; omega), hd, List.take_left]
  simp [blkB, Nat.add_assoc]
theorem evsB_split (l : List Ev) (k : Nat) (hk : k < l.length) : evsB l = evsB (l.take k) ++ blkB (evB (l.getD k evZ)) ++ evsB (l.drop (k + 1)) := by
  rw [← evsB_take l k hk]
  unfold evsB
  rw [← List.flatMap_append, List.take_append_drop]
theorem histB_len (l : List Ev) (h : l.length ≤ 1048576) : (histB l).length ≤ 56623113 := by
  unfold histB
  rw [List.length_append]
  have h1 := (numB_length l.length).2
  have h2 := evsB_le l
  omega

def ReadsTo (w : World) (l : List Ev) (e : Ending) (w' : World) : Prop :=
  ∃ y : Ls, e = .returned (.tuple #[y.val, .int .i64 0]) ∧ y.l = l ∧ LsAt w' w'.heap.size y ∧ Below w.heap.size w w'
def ReadRel (B B2 : Nat) (w : World) (g : Nat) (A : Option Addr) (c : Nat) (l : List Ev) (k : Nat) (v : Value) (wr : World) : Prop :=
  Rdr wr g A c (histB l) (numB l.length ++ evsB (l.take k)).length 0 ∧ wr.ownsRow B2 23 6 v (l.take k).length (rowV (l.take k)) ∧ B2 ≤ wr.heap.size ∧ Below B w wr

theorem row_off {w w' : World} {B2 g n : Nat} {v : Value} {xs : List Value} {e s : Nat} (h : w.ownsRow B2 e s v n xs) (hg : w.grownBy w' (some g)) (hlt : g < B2) : w'.ownsRow B2 e s v n xs := by
  refine h.kept hg ?_
  cases hv : v.ownBlock with
  | none => exact .inl rfl
  | some k => exact .inr fun e => by have := (h.lt k hv).1; have := Option.some.inj e; omega
theorem row_below {w w' : World} {B2 n B : Nat} {v : Value} {xs : List Value} {e s : Nat} (h : w.ownsRow B2 e s v n xs) (hb : Below B w w') (hB : w.heap.size ≤ B) : w'.ownsRow B2 e s v n xs := by
  have hg : w.grownBy w' none := ⟨hb.os, hb.tape, hb.output, hb.size, fun k hk _ => hb.block k (by omega)⟩
  refine h.kept hg ?_
  cases v.ownBlock with
  | none => exact .inl rfl
  | some k => exact .inr (by simp)

set_option maxRecDepth 100000 in
set_option maxHeartbeats 4000000 in
theorem mread_any (w : World) (A : Option Addr) (c : Nat) (l : List Ev) (hck : chk l = 0) (hN : l.length ≤ 1048576) (h : RB w w.heap.size A c (histB l)) :
    Calls Try.prog 17 #[.slice A (histB l).length c] w (ReadsTo w l) := by
  have hL := histB_len l hN
  have HNEW := Lib.hid (new_any A c (histB l).length (histB l) w w.heap.size rfl h (Nat.le_refl _) (by omega))
  obtain ⟨i0, hi, hz0, hz1, hz2⟩ := info_parts info_ev
  have HC := Lib.hid hck
  have HG := Lib.hid (chk_good hck).1
  clear h hck
  go_enter Try.func17, Try.ntmps17
  go_wp2_with fail
  refine HNEW.out.mono ?_
  rintro e w1 ⟨g, A1, c1, rfl, hr, b1, hgw, _⟩
  have hcnt := rcount_any g A1 c1 (histB l) 0 0 4194304 w1 hr (by omega)
  have hce := count_at (histB l) [] (evsB l) l.length 4194304 (by omega) (by omega) (by simp [histB])
  rw [List.length_nil, List.nil_append] at hce
  rw [hce] at hcnt
  clear hce
  have HCN := Lib.hid hcnt
  have B1 := Lib.hid b1
  have h1 := b1.size
  clear hcnt hr b1
  go_wp2_with fail
  refine HCN.out.mono ?_
  rintro e w2 ⟨rfl, hr, hg2⟩
  have h2 := hg2.size
  have b2 : Below w.heap.size w w2 := B1.out.grown hg2 h1 (fun j e => by obtain rfl := Option.some.inj e; exact hgw)
  have hgl := hr.lt
  have HR := Lib.hid hr
  have B2 := Lib.hid b2
  clear hr hg2 b2
  go_wp2_with fail
  go_loopw [5, 12] (fun v i wr => ∃ k : Nat, k ≤ l.length ∧ i = .int .i64 k ∧ ReadRel w.heap.size w2.heap.size w g A1 c1 l k v wr) (fun _ i _ => l.length - (intOf i).toNat)
  case atStart => exact ⟨0, Nat.zero_le _, rfl, by simpa [evsB] using HR.out, World.ownsRow_nil _ _ _ _, Nat.le_refl _, B2.out⟩
  case round =>
    clear HR B2
    obtain ⟨k, hk, rfl, hr, ho, hs2, hb⟩ := hrel
    have hsw : w.heap.size ≤ wr.heap.size := hb.size
    by_cases hlt : k < l.length
    · obtain ⟨y, hy⟩ : ∃ y, l.getD k evZ = y := ⟨_, rfl⟩
      have hmay : y.May := by rw [← hy]; exact HG.out.1 k hlt
      have htk := evsB_take l k hlt
      have hsp := evsB_split l k hlt
      rw [hy] at htk hsp
      have hblk := rblock_any g A1 c1 (histB l) _ 0 wr hr
      rw [hblock_at (histB l) (numB l.length ++ evsB (l.take k)) (evB y) (evsB (l.drop (k + 1))) (by have := evB_le y; omega) (by unfold histB; rw [hsp]; simp)] at hblk
      have hsn : l.take (k + 1) = l.take k ++ [y] := by rw [List.take_succ_eq_append_getElem hlt, ← hy, List.getD_eq_getElem?_getD, List.getElem?_eq_getElem hlt]; rfl
      have htl : (l.take k).length = k := by simp; omega
      rw [htl] at ho
      have HB := Lib.hid hblk
      have HO := Lib.hid ho
      have HTK := Lib.hid htk
      have HSN := Lib.hid hsn
      have HMAY := Lib.hid hmay
      clear hy hmay htk hsp hblk ho hsn htl hr
      go_wp2_with fail
      refine HB.out.mono ?_
      rintro e w3 ⟨A3, c3, rfl, ho3, hr3, hg3⟩
      have hs3 := hg3.size
      have b3 : Below w.heap.size w w3 := hb.grown hg3 hsw (fun j e => by obtain rfl := Option.some.inj e; exact hgw)
      have HER := Lib.hid (eread_any A3 c3 (evB y).length (evB y) w3 w3.heap.size rfl ho3.rb (Nat.le_refl _) (by have := evB_le y; omega))
      have HO3 := Lib.hid (row_off HO.out hg3 hgl)
      have HR3 := Lib.hid hr3
      have HB3 := Lib.hid b3
      clear ho3 hr3 hg3 b3
      go_wp2_with fail
      refine HER.out.mono ?_
      rintro e w4 ⟨hcase, b4⟩
      rw [(erd_self y HMAY.out).1, (erd_self y HMAY.out).2] at hcase
      rcases hcase with ⟨_, rfl⟩ | ⟨hno, _⟩
      case inr => exact absurd ⟨rfl, HMAY.out⟩ hno
      have hs4 := b4.size
      have hb4 : Below w.heap.size w w4 := HB3.out.trans (b4.mono (by omega))
      have HO4 := Lib.hid ((row_below HO3.out b4 (Nat.le_refl _)).alloc (evO y))
      have HR4 := Lib.hid (HR3.out.below b4 HR3.out.lt)
      have HB4 := Lib.hid hb4
      obtain ⟨s0, s1, s2, s3, s4, s5⟩ := EV.laid w4 y
      have hgl4 : g < w4.heap.size := by omega
      unfold evO at s0 s1 s2 s3 s4 s5 HO4
      clear b4 hb4
      unfold Ev.val
      go_wp2_with (at_builtin; refine wpList_append_own _ rfl (.tmp 22) (.tmp 24) 25 rfl w2.heap.size 23 i0 _ 6 48 Try.underlying25 hi hz0 hz1 hz2 rfl (by decide) _ k (rowV (l.take k)) rfl (HO4.out.alloc _) ⟨w4.heap.size + 1, 0, none⟩ 1 1 y.cells (by simp [Act.eval, Act.put]) rfl (by have := new_ev (w4.alloc (evO y)) y; rw [World.size_alloc] at this; exact this) (cells_one _) (by unfold maxLen; omega) (by omega) (by simp; omega) ?_; intro v5 w5 ho5 hg5 _; have HO5 := Lib.hid ho5; have HG5 := Lib.hid hg5; clear ho5 hg5)
      have r5 : Rdr w5 g A1 c1 (histB l) (numB l.length ++ evsB (l.take k) ++ blkB (evB y)).length 0 := by
        have e1 := HR4.out.below (B := w4.heap.size) ((Below.refl w4.heap.size w4).alloc (Nat.le_refl _) (evO y)) hgl4
        have e2 := e1.below (B := w4.heap.size) ((Below.refl w4.heap.size (w4.alloc (evO y))).alloc (by simp) (evO y)) hgl4
        exact e2.kept HG5.out (fun j e => by have := (HO4.out.lt j e).1; omega)
      have hs5 := HG5.out.size
      simp only [World.size_alloc] at hs5
      have b5 : Below w.heap.size w w5 := ((HB4.out.alloc HB4.out.size (evO y)).alloc (by have := HB4.out.size; simp; omega) (evO y)).grown HG5.out (by have := HB4.out.size; simp; omega) (fun j e => by have := (HO4.out.lt j e).1; omega)
      have htl : (l.take k).length = k := by simp; omega
      refine ⟨⟨k + 1, by omega, by go_num, ?_, ?_, by omega, b5⟩, by simp [intOf]; omega⟩
      · rw [HTK.out, ← List.append_assoc]; exact r5
      · rw [HSN.out, rowV_snoc, List.length_append, htl]; exact HO5.out
    · obtain rfl : k = l.length := by omega
      rw [List.take_length] at hr ho
      have hen := rend_any g A1 c1 (histB l) _ 0 wr hr
      rw [show endSt (histB l) (numB l.length ++ evsB l).length 0 = 0 by unfold endSt; rw [if_neg]; intro h; have := h.2; unfold histB at this; omega] at hen
      have HEN := Lib.hid hen
      have HO := Lib.hid ho
      have HB := Lib.hid hb
      clear hr ho hen hb
      go_wp2_with fail
      refine HEN.out.mono ?_
      rintro e w3 ⟨rfl, _, hg3⟩
      have ho3 := row_off HO.out hg3 hgl
      have hb3 := HB.out.grown hg3 hsw (fun j e => by obtain rfl := Option.some.inj e; exact hgw)
      obtain ⟨y, rfl, hyl, hya, _⟩ := row_to_ls ho3
      have hck2 := (mcheck_any w3 y hya).mono fun e w' hc => hc.chk
      rw [hyl, HC.out] at hck2
      have HCK := Lib.hid hck2
      have HYL := Lib.hid hyl
      have HYA := Lib.hid hya
      have HB3 := Lib.hid hb3
      have hs3 := hb3.size
      clear hck2 hyl hya hb3 hg3 ho3
      unfold Ls.val at HCK ⊢
      go_wp2_with fail
      refine HCK.out.mono ?_
      rintro e w4 ⟨rfl, b4⟩
      have HF := Lib.hid (show ReadsTo w l (.returned (.tuple #[y.val, .int .i64 0])) w4 from ⟨y, rfl, HYL.out, (HYA.out.keep b4.block).more b4.size, HB3.out.trans (b4.mono hs3)⟩)
      clear b4
      unfold Ls.val at HF
      go_wp2_with fail
      go_ret2
      exact HF.out
end Go.Proofs.Ythnbpdcjooifbaa
