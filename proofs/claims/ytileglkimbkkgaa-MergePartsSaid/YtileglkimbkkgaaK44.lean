
/- A history's bytes. A history's bytes are read as it. Parts: in rows of the call's own; put together they are all; Pick. The walk of MergeParts. -/
import Derived.Test.YtileglkimbkkgaaK30
import Derived.Test.YtileglkimbkkgaaK28
import Derived.Test.YtileglkimbkkgaaG6
import Derived.Test.YtileglkimbkkgaaY
import Derived.Test.YtileglkimbkkgaaK22
import Derived.Test.YtileglkimbkkgaaK31
import Derived.Test.YtileglkimbkkgaaK18
namespace Go.Proofs.Ytileglkimbkkgaa
section
open Go.RowKit
set_option linter.unusedSimpArgs false
set_option linter.unusedVariables false

def blkB (m : List Int) : List Int := numB m.length ++ m
def evsB (l : List Ev) : List Int := l.flatMap fun e => blkB (evB e)
def histB (l : List Ev) : List Int := numB l.length ++ evsB l
theorem evB_le (e : Ev) : (evB e).length ≤ 45 := by
  unfold evB
  simp only [List.length_append, List.length_nil]
  have h1 := (numB_length e.kind.toNat).2
  have h2 := (numB_length e.time.toNat).2
  have h3 := (numB_length e.seq.toNat).2
  have h4 := (numB_length e.a.toNat).2
  have h5 := (numB_length e.b.toNat).2
  omega
theorem blkB_le (e : Ev) : (blkB (evB e)).length ≤ 54 := by
  unfold blkB
  rw [List.length_append]
  have h1 := (numB_length (evB e).length).2
  have h2 := evB_le e
  omega
theorem evsB_le : ∀ l : List Ev, (evsB l).length ≤ l.length * 54
  | [] => by simp [evsB]
  | x :: t => by
    have ih := evsB_le t
    have h1 := blkB_le x
    unfold evsB at ih ⊢
    rw [List.flatMap_cons, List.length_append, List.length_cons]
    omega
theorem evsB_take (l : List Ev) (k : Nat) (hk : k < l.length) : evsB (l.take (k + 1)) = evsB (l.take k) ++ blkB (evB (l.getD k evZ)) := by
  unfold evsB
  rw [List.take_succ_eq_append_getElem hk, List.flatMap_append, List.getD_eq_getElem?_getD, List.getElem?_eq_getElem hk]
  simp

set_option maxRecDepth 100000 in
theorem mblock_any (w : World) (x : Ev) (hm : x.May) : Calls Try.prog 56 #[x.val] w (Fresh w.heap.size w (blkB (evB x))) := by
  have hb0 : Below w.heap.size w (w.alloc (evO x)) := (Below.refl _ _).alloc (Nat.le_refl _) _
  obtain ⟨s0, s1, s2, s3, s4, s5⟩ := EV.laid w x
  have HE := Lib.hid (ebytes_may (w.alloc (evO x)) x hm)
  have HB0 := Lib.hid hb0
  clear hb0
  unfold evO at s0 s1 s2 s3 s4 s5
  unfold evO Ev.val at HE
  unfold Ev.val
  go_enter Try.func56, Try.ntmps56
  go_wp2_with fail
  refine HE.out.mono ?_
  rintro e w1 ⟨A, c, rfl, ho, b1⟩
  have HO := Lib.hid ho
  have B1 := Lib.hid (HB0.out.trans (b1.mono (by simp)))
  have HBL := Lib.hid (block_nil A (evB x).length c (evB x) w1 w1.heap.size rfl ho.rb (Nat.le_refl _) (by have := evB_le x; omega))
  clear ho b1 s0 s1 s2 s3 s4 s5
  go_wp2_with fail
  refine HBL.out.mono ?_
  rintro e w2 ⟨A2, c2, rfl, ho2, b2⟩
  have HF := Lib.hid (show Fresh w.heap.size w (blkB (evB x)) (.returned (.slice A2 (numB (evB x).length ++ evB x).length c2)) w2 from ⟨A2, c2, rfl, ho2.mono B1.out.size, B1.out.trans (b2.mono B1.out.size)⟩)
  clear ho2 b2
  go_wp2_with fail
  go_ret
  have hf := HF.out
  rw [List.length_append] at hf
  exact hf

def BytesTo (w : World) (l : List Ev) (e : Ending) (w' : World) : Prop :=
  ((chk l ≠ 0 ∧ e = .returned (.tuple #[.slice none 0 0, .int .i64 (chk l)])) ∨ (chk l = 0 ∧ ∃ A c, e = .returned (.tuple #[.slice A (histB l).length c, .int .i64 0]) ∧ OB w' w.heap.size A c (histB l))) ∧ Below w.heap.size w w'

set_option maxRecDepth 100000 in
set_option maxHeartbeats 2000000 in
theorem mbytes_any (w : World) (x : Ls) (h : LsAt w w.heap.size x) (hN : x.l.length ≤ 1048576) : Calls Try.prog 23 #[x.val] w (BytesTo w x.l) := by
  have hcap := h.cap
  have hle := h.le
  unfold maxLen at hcap
  have HCK := Lib.hid ((mcheck_any w x h).mono fun e w' hc => hc.chk)
  have HL := Lib.hid h
  clear h
  unfold Ls.val at HCK ⊢
  go_enter Try.func23, Try.ntmps23
  go_wp2_with fail
  refine HCK.out.mono ?_
  rintro e w1 ⟨rfl, b1⟩
  by_cases hck : chk x.l = 0
  case neg =>
    have hb : (chk x.l != 0) = true := by simpa using hck
    have HC := Lib.hid hck
    clear hck
    go_wp2_with fail
    go_ret2
    exact ⟨.inl ⟨HC.out, rfl⟩, b1⟩
  have hb : (chk x.l != 0) = false := by simpa using hck
  have HC := Lib.hid hck
  have HG := Lib.hid (chk_good hck).1
  have HNB := Lib.hid (number_nil x.l.length w1 (by omega))
  have h1 := b1.size
  clear hck
  go_wp2_with fail
  refine HNB.out.mono ?_
  rintro e w2 ⟨A, c, rfl, ho, b2⟩
  have b12 := b1.trans (b2.mono h1)
  have HO := Lib.hid (ho.mono h1)
  have B12 := Lib.hid b12
  clear ho b12 b2 b1
  go_wp2_with fail
  go_loopw [5, 19] (fun v i wr => ∃ k : Nat, k ≤ x.l.length ∧ i = .int .i64 k ∧ (∃ A c, v = .slice A (numB x.l.length ++ evsB (x.l.take k)).length c ∧ OB wr w.heap.size A c (numB x.l.length ++ evsB (x.l.take k))) ∧ Below w.heap.size w wr) (fun _ i _ => x.l.length - (intOf i).toNat)
  case atStart => exact ⟨0, Nat.zero_le _, rfl, ⟨A, c, by simp [evsB], by simpa [evsB] using HO.out⟩, B12.out⟩
  case round =>
    clear HO B12
    obtain ⟨k, hk, rfl, ⟨A1, c1, rfl, ho⟩, hb2⟩ := hrel
    by_cases hlt : k < x.l.length
    · obtain ⟨b, o, hA, hb1, hat⟩ := HL.out.at_ (by omega)
      have hu := (hat k hlt).keep (hb2.block b hb1)
      obtain ⟨y, hy⟩ : ∃ y, x.l.getD k evZ = y := ⟨_, rfl⟩
      rw [show x.l.getD k ⟨0, 0, 0, 0, 0, 0⟩ = y from hy] at hu
      have hmay : y.May := by rw [← hy]; exact HG.out.1 k hlt
      have htk := evsB_take x.l k hlt
      rw [hy] at htk
      have hlen := evsB_le (x.l.take k)
      have hnl := (numB_length x.l.length).2
      have htl : (x.l.take k).length ≤ 1048576 := by simp; omega
      have hbl := blkB_le y
      obtain ⟨d0, d1, d2, d3, d4, d5⟩ := hu
      obtain ⟨s0, s1, s2, s3, s4, s5⟩ := EV.laid wr y
      have hsz := hb2.size
      have HMB := Lib.hid (mblock_any (wr.alloc (evO y)) y hmay)
      have HO := Lib.hid ho
      have HTK := Lib.hid htk
      have hdl : (numB x.l.length ++ evsB (x.l.take k)).length ≤ 56623113 := by rw [List.length_append]; omega
      obtain ⟨D, hD⟩ : ∃ D, numB x.l.length ++ evsB (x.l.take k) = D := ⟨_, rfl⟩
      rw [hD] at HO hdl ⊢
      have HD := Lib.hid hD
      unfold evO at s0 s1 s2 s3 s4 s5
      unfold evO Ev.val at HMB
      clear hat hy hmay htk hlen hnl htl ho hD
      rw [hA]
      go_wp2_with fail
      refine HMB.out.mono ?_
      rintro e w3 ⟨A2, c2, rfl, ho2, b3⟩
      have hb3 : Below w.heap.size w w3 := (hb2.alloc hsz _).trans (b3.mono (by simp; omega))
      have HO3 := Lib.hid ((HO.out.alloc (evO y)).below b3 (Nat.le_refl _))
      have HO2 := Lib.hid ho2
      have h3 := hb3.size
      clear ho2 b3 s0 s1 s2 s3 s4 s5 d0 d1 d2 d3 d4 d5
      go_wp2_with (at_builtin; refine wpList_append_rb _ rfl (.tmp 23) (.tmp 25) rfl w.heap.size w3.heap.size A1 _ c1 D rfl rfl HO3.out A2 _ c2 (blkB (evB y)) rfl rfl HO2.out.rb (by omega) h3 ?_; intro A3 c3 w4 ho4 hb4 _; have HO4 := Lib.hid ho4; have HB4 := Lib.hid (hb3.trans hb4); clear ho4 hb4)
      refine ⟨⟨k + 1, by omega, by go_num, ⟨A3, c3, ?_, ?_⟩, HB4.out⟩, by simp [intOf]; omega⟩
      · rw [HTK.out, ← List.append_assoc, HD.out, List.length_append]
      · rw [HTK.out, ← List.append_assoc, HD.out]; exact HO4.out
    · obtain rfl : k = x.l.length := by omega
      rw [List.take_length] at ho ⊢
      have HF := Lib.hid (show BytesTo w x.l (.returned (.tuple #[.slice A1 (histB x.l).length c1, .int .i64 0])) wr from ⟨.inr ⟨HC.out, A1, c1, rfl, ho⟩, hb2⟩)
      clear ho
      go_wp2_with fail
      go_ret2
      exact HF.out
end

section
open Go.RowKit
set_option linter.unusedSimpArgs false
set_option linter.unusedVariables false

theorem hblock_at (L done m r : List Int) (hm : m.length ≤ 1048576) (h : L = done ++ blkB m ++ r) : blockSt L done.length 0 = (m, (done ++ blkB m).length, 0) := by
  have h2 : L = done ++ numB m.length ++ (m ++ r) := by rw [h]; simp [blkB]
  unfold blockSt
  rw [num_at L done (m ++ r) m.length (by omega) h2]
  have hd : L.drop (done ++ numB m.length).length = m ++ r := by rw [h2, List.drop_left]
  have hl : L.length - (done ++ numB m.length).length = (m ++ r).length := by rw [h2, List.length_append]; omega
  simp only
  rw [if_neg (by omega), if_neg (by simp), if_neg (by rw [hl, List.length_append]; omega), hd, List.take_left]
  simp [blkB, Nat.add_assoc]
theorem evsB_split (l : List Ev) (k : Nat) (hk : k < l.length) : evsB l = evsB (l.take k) ++ blkB (evB (l.getD k evZ)) ++ evsB (l.drop (k + 1)) := by
  rw [← evsB_take l k hk]
  unfold evsB
  rw [← List.flatMap_append, List.take_append_drop]
theorem histB_len (l : List Ev) (h : l.length ≤ 1048576) : (histB l).length ≤ 56623113 := by
  unfold histB
  rw [List.length_append]
  have h1 := (numB_length l.length).2
  have h2 := evsB_le l
  omega

def ReadsTo (w : World) (l : List Ev) (e : Ending) (w' : World) : Prop :=
  ∃ y : Ls, e = .returned (.tuple #[y.val, .int .i64 0]) ∧ y.l = l ∧ LsAt w' w'.heap.size y ∧ Below w.heap.size w w'
def ReadRel (B B2 : Nat) (w : World) (g : Nat) (A : Option Addr) (c : Nat) (l : List Ev) (k : Nat) (v : Value) (wr : World) : Prop :=
  Rdr wr g A c (histB l) (numB l.length ++ evsB (l.take k)).length 0 ∧ wr.ownsRow B2 23 6 v (l.take k).length (rowV (l.take k)) ∧ B2 ≤ wr.heap.size ∧ Below B w wr

theorem row_off {w w' : World} {B2 g n : Nat} {v : Value} {xs : List Value} {e s : Nat} (h : w.ownsRow B2 e s v n xs) (hg : w.grownBy w' (some g)) (hlt : g < B2) : w'.ownsRow B2 e s v n xs := by
  refine h.kept hg ?_
  cases hv : v.ownBlock with
  | none => exact .inl rfl
  | some k => exact .inr fun e => by have := (h.lt k hv).1; have := Option.some.inj e; omega
theorem row_below {w w' : World} {B2 n B : Nat} {v : Value} {xs : List Value} {e s : Nat} (h : w.ownsRow B2 e s v n xs) (hb : Below B w w') (hB : w.heap.size ≤ B) : w'.ownsRow B2 e s v n xs := by
  have hg : w.grownBy w' none := ⟨hb.os, hb.tape, hb.output, hb.size, fun k hk _ => hb.block k (by omega)⟩
  refine h.kept hg ?_
  cases v.ownBlock with
  | none => exact .inl rfl
  | some k => exact .inr (by simp)

set_option maxRecDepth 100000 in
set_option maxHeartbeats 4000000 in
theorem mread_any (w : World) (A : Option Addr) (c : Nat) (l : List Ev) (hck : chk l = 0) (hN : l.length ≤ 1048576) (h : RB w w.heap.size A c (histB l)) :
    Calls Try.prog 17 #[.slice A (histB l).length c] w (ReadsTo w l) := by
  have hL := histB_len l hN
  have HNEW := Lib.hid (new_any A c (histB l).length (histB l) w w.heap.size rfl h (Nat.le_refl _) (by omega))
  obtain ⟨i0, hi, hz0, hz1, hz2⟩ := info_parts info_ev
  have HC := Lib.hid hck
  have HG := Lib.hid (chk_good hck).1
  clear h hck
  go_enter Try.func17, Try.ntmps17
  go_wp2_with fail
  refine HNEW.out.mono ?_
  rintro e w1 ⟨g, A1, c1, rfl, hr, b1, hgw, _⟩
  have hcnt := rcount_any g A1 c1 (histB l) 0 0 4194304 w1 hr (by omega)
  have hce := count_at (histB l) [] (evsB l) l.length 4194304 (by omega) (by omega) (by simp [histB])
  rw [List.length_nil, List.nil_append] at hce
  rw [hce] at hcnt
  clear hce
  have HCN := Lib.hid hcnt
  have B1 := Lib.hid b1
  have h1 := b1.size
  clear hcnt hr b1
  go_wp2_with fail
  refine HCN.out.mono ?_
  rintro e w2 ⟨rfl, hr, hg2⟩
  have h2 := hg2.size
  have b2 : Below w.heap.size w w2 := B1.out.grown hg2 h1 (fun j e => by obtain rfl := Option.some.inj e; exact hgw)
  have hgl := hr.lt
  have HR := Lib.hid hr
  have B2 := Lib.hid b2
  clear hr hg2 b2
  go_wp2_with fail
  go_loopw [5, 12] (fun v i wr => ∃ k : Nat, k ≤ l.length ∧ i = .int .i64 k ∧ ReadRel w.heap.size w2.heap.size w g A1 c1 l k v wr) (fun _ i _ => l.length - (intOf i).toNat)
  case atStart => exact ⟨0, Nat.zero_le _, rfl, by simpa [evsB] using HR.out, World.ownsRow_nil _ _ _ _, Nat.le_refl _, B2.out⟩
  case round =>
    clear HR B2
    obtain ⟨k, hk, rfl, hr, ho, hs2, hb⟩ := hrel
    have hsw : w.heap.size ≤ wr.heap.size := hb.size
    by_cases hlt : k < l.length
    · obtain ⟨y, hy⟩ : ∃ y, l.getD k evZ = y := ⟨_, rfl⟩
      have hmay : y.May := by rw [← hy]; exact HG.out.1 k hlt
      have htk := evsB_take l k hlt
      have hsp := evsB_split l k hlt
      rw [hy] at htk hsp
      have hblk := rblock_any g A1 c1 (histB l) _ 0 wr hr
      rw [hblock_at (histB l) (numB l.length ++ evsB (l.take k)) (evB y) (evsB (l.drop (k + 1))) (by have := evB_le y; omega) (by unfold histB; rw [hsp]; simp)] at hblk
      have hsn : l.take (k + 1) = l.take k ++ [y] := by rw [List.take_succ_eq_append_getElem hlt, ← hy, List.getD_eq_getElem?_getD, List.getElem?_eq_getElem hlt]; rfl
      have htl : (l.take k).length = k := by simp; omega
      rw [htl] at ho
      have HB := Lib.hid hblk
      have HO := Lib.hid ho
      have HTK := Lib.hid htk
      have HSN := Lib.hid hsn
      have HMAY := Lib.hid hmay
      clear hy hmay htk hsp hblk ho hsn htl hr
      go_wp2_with fail
      refine HB.out.mono ?_
      rintro e w3 ⟨A3, c3, rfl, ho3, hr3, hg3⟩
      have hs3 := hg3.size
      have b3 : Below w.heap.size w w3 := hb.grown hg3 hsw (fun j e => by obtain rfl := Option.some.inj e; exact hgw)
      have HER := Lib.hid (eread_any A3 c3 (evB y).length (evB y) w3 w3.heap.size rfl ho3.rb (Nat.le_refl _) (by have := evB_le y; omega))
      have HO3 := Lib.hid (row_off HO.out hg3 hgl)
      have HR3 := Lib.hid hr3
      have HB3 := Lib.hid b3
      clear ho3 hr3 hg3 b3
      go_wp2_with fail
      refine HER.out.mono ?_
      rintro e w4 ⟨hcase, b4⟩
      rw [(erd_self y HMAY.out).1, (erd_self y HMAY.out).2] at hcase
      rcases hcase with ⟨_, rfl⟩ | ⟨hno, _⟩
      case inr => exact absurd ⟨rfl, HMAY.out⟩ hno
      have hs4 := b4.size
      have hb4 : Below w.heap.size w w4 := HB3.out.trans (b4.mono (by omega))
      have HO4 := Lib.hid ((row_below HO3.out b4 (Nat.le_refl _)).alloc (evO y))
      have HR4 := Lib.hid (HR3.out.below b4 HR3.out.lt)
      have HB4 := Lib.hid hb4
      obtain ⟨s0, s1, s2, s3, s4, s5⟩ := EV.laid w4 y
      have hgl4 : g < w4.heap.size := by omega
      unfold evO at s0 s1 s2 s3 s4 s5 HO4
      clear b4 hb4
      unfold Ev.val
      go_wp2_with (at_builtin; refine wpList_append_own _ rfl (.tmp 22) (.tmp 24) 25 rfl w2.heap.size 23 i0 _ 6 48 Try.underlying25 hi hz0 hz1 hz2 rfl (by decide) _ k (rowV (l.take k)) rfl (HO4.out.alloc _) ⟨w4.heap.size + 1, 0, none⟩ 1 1 y.cells (by simp [Act.eval, Act.put]) rfl (by have := new_ev (w4.alloc (evO y)) y; rw [World.size_alloc] at this; exact this) (cells_one _) (by unfold maxLen; omega) (by omega) (by simp; omega) ?_; intro v5 w5 ho5 hg5 _; have HO5 := Lib.hid ho5; have HG5 := Lib.hid hg5; clear ho5 hg5)
      have r5 : Rdr w5 g A1 c1 (histB l) (numB l.length ++ evsB (l.take k) ++ blkB (evB y)).length 0 := by
        have e1 := HR4.out.below (B := w4.heap.size) ((Below.refl w4.heap.size w4).alloc (Nat.le_refl _) (evO y)) hgl4
        have e2 := e1.below (B := w4.heap.size) ((Below.refl w4.heap.size (w4.alloc (evO y))).alloc (by simp) (evO y)) hgl4
        exact e2.kept HG5.out (fun j e => by have := (HO4.out.lt j e).1; omega)
      have hs5 := HG5.out.size
      simp only [World.size_alloc] at hs5
      have b5 : Below w.heap.size w w5 := ((HB4.out.alloc HB4.out.size (evO y)).alloc (by have := HB4.out.size; simp; omega) (evO y)).grown HG5.out (by have := HB4.out.size; simp; omega) (fun j e => by have := (HO4.out.lt j e).1; omega)
      have htl : (l.take k).length = k := by simp; omega
      refine ⟨⟨k + 1, by omega, by go_num, ?_, ?_, by omega, b5⟩, by simp [intOf]; omega⟩
      · rw [HTK.out, ← List.append_assoc]; exact r5
      · rw [HSN.out, rowV_snoc, List.length_append, htl]; exact HO5.out
    · obtain rfl : k = l.length := by omega
      rw [List.take_length] at hr ho
      have hen := rend_any g A1 c1 (histB l) _ 0 wr hr
      rw [show endSt (histB l) (numB l.length ++ evsB l).length 0 = 0 by unfold endSt; rw [if_neg]; intro h; have := h.2; unfold histB at this; omega] at hen
      have HEN := Lib.hid hen
      have HO := Lib.hid ho
      have HB := Lib.hid hb
      clear hr ho hen hb
      go_wp2_with fail
      refine HEN.out.mono ?_
      rintro e w3 ⟨rfl, _, hg3⟩
      have ho3 := row_off HO.out hg3 hgl
      have hb3 := HB.out.grown hg3 hsw (fun j e => by obtain rfl := Option.some.inj e; exact hgw)
      obtain ⟨y, rfl, hyl, hya, _⟩ := row_to_ls ho3
      have hck2 := (mcheck_any w3 y hya).mono fun e w' hc => hc.chk
      rw [hyl, HC.out] at hck2
      have HCK := Lib.hid hck2
      have HYL := Lib.hid hyl
      have HYA := Lib.hid hya
      have HB3 := Lib.hid hb3
      have hs3 := hb3.size
      clear hck2 hyl hya hb3 hg3 ho3
      unfold Ls.val at HCK ⊢
      go_wp2_with fail
      refine HCK.out.mono ?_
      rintro e w4 ⟨rfl, b4⟩
      have HF := Lib.hid (show ReadsTo w l (.returned (.tuple #[y.val, .int .i64 0])) w4 from ⟨y, rfl, HYL.out, (HYA.out.keep b4.block).more b4.size, HB3.out.trans (b4.mono hs3)⟩)
      clear b4
      unfold Ls.val at HF
      go_wp2_with fail
      go_ret2
      exact HF.out
end

section
open Go.RowKit Go.Shelf
set_option linter.unusedSimpArgs false
set_option linter.unusedVariables false

def OwnTo (w : World) (ys : List Ev) (e : Ending) (w' : World) : Prop := ∃ y : Ls, e = .returned y.val ∧ y.l = ys ∧ w'.ownsRow w.heap.size 23 6 y.val y.l.length (rowV y.l) ∧ Below w.heap.size w w'

set_option maxRecDepth 100000 in
set_option maxHeartbeats 2000000 in
theorem part_own (w : World) (x : Ls) (chip : Int) (h : LsAt w w.heap.size x) (hN : x.l.length ≤ 1048576) :
    Calls Try.prog 28 #[x.val, .int .i64 chip] w (OwnTo w (x.l.filter (onChip chip))) := by
  have HT := Lib.hid (fun (W : World) (g : Nat) (lb : Array Value) => those_any W x g lb)
  have HX := Lib.hid h
  have HC := Lib.hid (fun (W : World) (hb : Below w.heap.size w W) (c3 : W.cell? ⟨w.heap.size, 0, none⟩ = some (.int .i64 chip)) (hsz : w.heap.size < W.heap.size) =>
    callsIn_wide.1 (collect_in 5 (by decide) 77 #[.pointer (some ⟨W.heap.size, 0, none⟩), .pointer (some ⟨W.heap.size + 1, 0, none⟩)] (enters_of Try.func77 (by kernel_rfl) rfl) _ x.l.length hN
      ((W.alloc (boxL x)).alloc (.cells #[.func (.func 63) #[] #[.pointer (some ⟨w.heap.size, 0, none⟩)]] 72))
      (those_stops 4 (by decide) ((W.alloc (boxL x)).alloc (.cells #[.func (.func 63) #[] #[.pointer (some ⟨w.heap.size, 0, none⟩)]] 72)).heap.size W.heap.size (W.heap.size + 1) w.heap.size x chip _ (Nat.le_refl _)
        ((h.keep fun k hk => by
          have h2 := (((hb.alloc hb.size (boxL x)).alloc (by have := hb.size; simp; omega) (.cells #[.func (.func 63) #[] #[.pointer (some ⟨w.heap.size, 0, none⟩)]] 72))).block k hk
          exact h2).more (by simp; omega))
        (by simp; omega) (by simp) (by simp; omega)
        (by
          have h1 : (W.alloc (boxL x)).cell? ⟨W.heap.size, 0, none⟩ = some x.val := by rw [World.cell?_alloc_at _ _ _ _ rfl]; rfl
          exact (((Below.refl (W.alloc (boxL x)).heap.size _).alloc (Nat.le_refl _) _).cell (p := ⟨W.heap.size, 0, none⟩) (by simp)).trans h1)
        (by
          have e : W.heap.size + 1 = (W.alloc (boxL x)).heap.size := by simp
          rw [e, World.cell?_alloc_at _ _ _ _ rfl]; rfl)
        (by
          have h1 := ((Below.refl W.heap.size W).alloc (Nat.le_refl _) (boxL x)).alloc (by simp) (.cells #[.func (.func 63) #[] #[.pointer (some ⟨w.heap.size, 0, none⟩)]] 72)
          exact (h1.cell (p := ⟨w.heap.size, 0, none⟩) hsz).trans c3))))
  unfold Ls.val at HT ⊢
  go_enter Try.func28, Try.ntmps28
  go_wp2_with (first
    | (go_at_call 52; (with_reducible refine (HT.out _ _ _).mono ?_); rintro e w' ⟨rfl, rfl⟩))
  have hcol := HC.out (w.alloc (.cells #[.int .i64 chip] 3)) ((Below.refl _ _).alloc (Nat.le_refl _) _) (by rw [World.cell?_alloc_at _ _ _ _ rfl]; rfl) (by simp)
  rw [World.size_alloc] at hcol
  refine hcol.mono ?_
  rintro e w' ⟨v, ys, rfl, rfl, hr, _, hb⟩
  obtain ⟨y, rfl, hy, hl⟩ := row_to_ls hr
  have hbw : Below w.heap.size w w' := ((((Below.refl w.heap.size w).alloc (Nat.le_refl _) (.cells #[.int .i64 chip] 3)).alloc (by simp) (boxL x)).alloc (by simp; omega) (.cells #[.func (.func 63) #[] #[.pointer (some ⟨w.heap.size, 0, none⟩)]] 72)).trans (hb.mono (by simp; omega))
  have HY := Lib.hid hy
  rw [← hy] at hr
  have HV := Lib.hid (show OwnTo w (x.l.filter (onChip chip)) (.returned y.val) w' from ⟨y, rfl, hy, row_mono hr (by simp; omega), hbw⟩)
  clear hcol hr hb hbw hl hy
  unfold Ls.val at HV ⊢
  go_wp2_with fail
  go_ret
  exact HV.out

theorem Rows2.snoc2 {wr wa wb wc : World} {base : Nat} {vo vo' : Value} {P : List Ls} {y : Ls} {o : Obj} (h : Rows2 wr base vo P) (h1 : Below wr.heap.size wr wa) (h2 : Below wa.heap.size wa wb)
    (hy : wa.ownsRow base 23 6 y.val y.l.length (rowV y.l)) (hg : (wb.alloc o).grownBy wc vo.ownBlock) (ho : wc.ownsRow base 25 1 vo' (P.length + 1) (P.map Ls.val ++ [y.val])) : Rows2 wc base vo' (P ++ [y]) := by
  have hvb : wb.ownsRow base 25 1 vo P.length (P.map Ls.val) := row_below (row_below h.out h1 (Nat.le_refl _)) h2 (Nat.le_refl _)
  refine ⟨by simpa using ho, fun z hz => ?_⟩
  rcases List.mem_append.1 hz with h3 | h3
  · have hz2 := row_below (row_below (h.rows z h3) h1 (Nat.le_refl _)) h2 (Nat.le_refl _)
    exact (hz2.alloc o).kept hg (rows_apart hz2 hvb (by decide))
  · obtain rfl := List.mem_singleton.1 h3
    have hz2 := row_below hy h2 (Nat.le_refl _)
    exact (hz2.alloc o).kept hg (rows_apart hz2 hvb (by decide))

theorem parts_perm {c0 c1 c2 c3 : Int} (h01 : c0 ≠ c1) (h02 : c0 ≠ c2) (h03 : c0 ≠ c3) (h12 : c1 ≠ c2) (h13 : c1 ≠ c3) (h23 : c2 ≠ c3) : ∀ l : List Ev, (∀ y ∈ l, y.chip = c0 ∨ y.chip = c1 ∨ y.chip = c2 ∨ y.chip = c3) →
    (l.filter (onChip c0) ++ (l.filter (onChip c1) ++ (l.filter (onChip c2) ++ (l.filter (onChip c3) ++ [])))).Perm l
  | [], _ => .refl _
  | x :: t, h => by
    have ih := parts_perm h01 h02 h03 h12 h13 h23 t fun y hy => h y (List.mem_cons_of_mem _ hy)
    have f : ∀ c, c = x.chip → (x :: t).filter (onChip c) = x :: t.filter (onChip c) := fun c e => List.filter_cons_of_pos (by simp [onChip, e])
    have g : ∀ c, c ≠ x.chip → (x :: t).filter (onChip c) = t.filter (onChip c) := fun c e => List.filter_cons_of_neg (by simp [onChip]; exact fun e2 => e e2.symm)
    rcases h x List.mem_cons_self with e | e | e | e
    · rw [f c0 e.symm, g c1 (by omega), g c2 (by omega), g c3 (by omega)]
      exact ih.cons x
    · rw [g c0 (by omega), f c1 e.symm, g c2 (by omega), g c3 (by omega), List.cons_append]
      exact List.perm_middle.trans (ih.cons x)
    · rw [g c0 (by omega), g c1 (by omega), f c2 e.symm, g c3 (by omega), List.cons_append, ← List.append_assoc]
      refine List.perm_middle.trans ?_
      rw [List.append_assoc]
      exact ih.cons x
    · rw [g c0 (by omega), g c1 (by omega), g c2 (by omega), f c3 e.symm, List.cons_append, ← List.append_assoc, ← List.append_assoc]
      refine List.perm_middle.trans ?_
      rw [List.append_assoc, List.append_assoc]
      exact ih.cons x
theorem may_chip {x : Ev} (h : x.May) : x.chip = 1 ∨ x.chip = 2 ∨ x.chip = 3 ∨ x.chip = 4 := by
  have h1 := h.1
  have h2 := h.2.1
  have := chipOf_bd x.kind
  omega
/-- The parts' chips, beginning anywhere. -/
def chipAt (q k : Nat) : Int := (((k + q) % 4 + 1 : Nat) : Int)
theorem four_perm {l : List Ev} (hm : ∀ y ∈ l, y.May) (q : Nat) : (l.filter (onChip (chipAt q 0)) ++ (l.filter (onChip (chipAt q 1)) ++ (l.filter (onChip (chipAt q 2)) ++ (l.filter (onChip (chipAt q 3)) ++ [])))).Perm l := by
  unfold chipAt
  refine parts_perm ?_ ?_ ?_ ?_ ?_ ?_ l fun y hy => ?_
  all_goals first
    | omega
    | (have := may_chip (hm y hy); omega)
theorem chk_part {l : List Ev} (h : chk l = 0) (c : Int) : chk (l.filter (onChip c)) = 0 := by
  have hg := chk_good h
  have hs : (l.filter (onChip c)).Pairwise (Hp.lt' ole) := (good_sorted hg.1).filter _
  refine chk_merged hs (.refl _) (fun e he => good_may hg.1 e (List.mem_filter.1 he).1) ?_
  have := List.length_filter_le (onChip c) l
  omega

theorem pick_any (n : Int) (w : World) (hn : (Lit.int .i64 n).wf = true) : Calls Try.prog 35 #[.int .i64 n, .int .i64 4] w fun e w' => e = .returned (.int .i64 (n % 4)) ∧ w = w' := by
  have hb := bounds_i64 hn
  by_cases h : 0 ≤ n
  · go_enter Try.func35, Try.ntmps35
    go_wp2
    go_ret
    exact ⟨rfl, rfl⟩
  · obtain ⟨h1, h2, h3⟩ : -4 < n.tmod 4 ∧ n.tmod 4 ≤ 0 ∧ (if n.tmod 4 < 0 then n.tmod 4 + 4 else n.tmod 4) = n % 4 := by
      have e : n.tmod 4 = -((-n) % 4) := by rw [← Int.tmod_eq_emod_of_nonneg (by omega : 0 ≤ -n), Int.neg_tmod, Int.neg_neg]
      refine ⟨?_, ?_, ?_⟩ <;> (try split) <;> omega
    by_cases h4 : n.tmod 4 < 0
    · rw [if_pos h4] at h3
      have H3 := Lib.hid h3
      clear h3
      go_enter Try.func35, Try.ntmps35
      go_wp2
      go_ret
      exact ⟨ret_i64 H3.out, rfl⟩
    · rw [if_neg h4] at h3
      have H3 := Lib.hid h3
      clear h3
      go_enter Try.func35, Try.ntmps35
      go_wp2
      go_ret
      exact ⟨ret_i64 H3.out, rfl⟩
end

section
open Go.RowKit
set_option linter.unusedSimpArgs false
set_option linter.unusedVariables false

theorem at_later3 {w w' : World} {x : Ls} (h : LsAt w w.heap.size x) (hb : Below w.heap.size w w') : LsAt w' w'.heap.size x := (h.keep hb.block).more hb.size
theorem own_at {w : World} {base : Nat} {y : Ls} (h : w.ownsRow base 23 6 y.val y.l.length (rowV y.l)) : LsAt w w.heap.size y := by
  obtain ⟨z, h1, h2, h3⟩ := row_to_ls h
  have : z = y := by
    obtain ⟨A, c, l⟩ := y
    obtain ⟨A2, c2, l2⟩ := z
    unfold Ls.val at h1
    simp at h1 h2
    simp [h1, h2]
  rw [← this]; exact h3.1
theorem parts_end {P : List Ls} {l : List Ev} {q : Nat} (hl : P.length = 4) (h : P.map Ls.l = (List.range 4).map (fun i => l.filter (onChip (chipAt q i)))) (hm : ∀ y ∈ l, y.May) (hck : chk l = 0) : (allOf P).Perm l ∧ errs P = 0 := by
  refine ⟨?_, errs_none P fun i hi => ?_⟩
  · unfold allOf
    rw [h]
    exact four_perm hm q
  · have e : (P.getD i Ls.none).l = l.filter (onChip (chipAt q i)) := by
      have h2 := congrArg (fun L => L[i]?) h
      simp only [List.getElem?_map] at h2
      rw [List.getElem?_eq_getElem hi, List.getElem?_range (by omega)] at h2
      rw [List.getD_eq_getElem?_getD, List.getElem?_eq_getElem hi]
      simpa using h2
    rw [e]
    exact chk_part hck _
def PartsRel (w : World) (B q k : Nat) (l : List Ev) (vo : Value) (wr : World) : Prop :=
  ∃ P : List Ls, Rows2 wr B vo P ∧ P.length = k ∧ P.map Ls.l = (List.range k).map (fun i => l.filter (onChip (chipAt q i))) ∧ B ≤ wr.heap.size ∧ Below w.heap.size w wr

set_option maxRecDepth 100000 in
set_option maxHeartbeats 4000000 in
theorem walk_MergeParts (w : World) (a1 : Option Addr) (c1 n1 : Nat) (l1 : List Ev) (e1 : n1 = l1.length) (h1 : LsAt w w.heap.size ⟨a1, c1, l1⟩ ∧ (∀ e ∈ l1, e.wf) ∧ (a1 = none → c1 = 0)) (t : Int) (wt : (Lit.int .i64 t).wf = true) :
    Calls Try.prog 5 #[.slice a1 n1 c1, .int .i64 t] w fun e w' => e = .returned (.bool true) ∧ Below w.heap.size w w' := by
  subst e1
  obtain ⟨x0, _, _⟩ := h1
  have X0 := Lib.hid x0
  have hc1 : c1 ≤ 9223372036854775807 := x0.cap
  have hl1 : l1.length ≤ c1 := x0.le
  have WT := Lib.hid wt
  clear wt x0
  obtain ⟨i1, hi, hz0, hz1, hz2⟩ := info_parts info_list
  go_enter Try.func5, Try.ntmps5
  go_wp2_with fail
  refine (lives4_any w).mono ?_
  rintro e w1 ⟨rfl, b1⟩
  by_cases g1 : 120 < l1.length
  · go_wp2_with fail
    go_ret
    exact ⟨rfl, b1⟩
  have HBY := Lib.hid (mbytes_any w1 ⟨a1, c1, l1⟩ (at_later3 X0.out b1) (by show l1.length ≤ _; omega))
  unfold Ls.val at HBY
  go_wp2_with fail
  refine HBY.out.mono ?_
  rintro e w2 ⟨hcase, b2⟩
  have b12 := b1.trans (b2.mono b1.size)
  have h12 := b12.size
  rcases hcase with ⟨hne, rfl⟩ | ⟨hck, A, c, rfl, hob⟩
  · have hb : (chk l1 != 0) = true := by simpa using hne
    have HCK := Lib.hid ((mcheck_any w2 ⟨a1, c1, l1⟩ (at_later3 X0.out b12)).mono fun e w' hc => hc.chk)
    unfold Ls.val at HCK
    have B12 := Lib.hid b12
    clear hne b2 b1 b12
    dsimp only
    go_wp2_with fail
    refine HCK.out.mono ?_
    rintro e w3 ⟨rfl, b3⟩
    have b13 := B12.out.trans (b3.mono h12)
    go_wp2_with fail
    go_ret
    exact ⟨rfl, b13⟩
  have hck1 : chk l1 = 0 := hck
  have HCK := Lib.hid hck1
  have HMAY := Lib.hid (good_may (chk_good hck1).1)
  have HRD := Lib.hid (mread_any w2 A c l1 hck1 (by omega) hob.rb)
  have B12 := Lib.hid b12
  clear hck hck1 hob b1 b2 b12
  dsimp only
  go_wp2_with fail
  refine HRD.out.mono ?_
  rintro e w3 ⟨y, rfl, hyl, hya, b3⟩
  have b13 := B12.out.trans (b3.mono h12)
  have h13 := b13.size
  have HEV := Lib.hid (events_any w3 y ⟨a1, c1, l1⟩ hya (at_later3 X0.out b13))
  rw [decide_eq_true (show y.l = (⟨a1, c1, l1⟩ : Ls).l from hyl)] at HEV
  unfold Ls.val at HEV
  have B13 := Lib.hid b13
  clear hyl hya b3 b13
  unfold Ls.val
  go_wp2_with fail
  refine HEV.out.mono ?_
  rintro e w4 ⟨rfl, b4⟩
  have b14 := B13.out.trans (b4.mono h13)
  have h14 := b14.size
  have B14 := Lib.hid b14
  obtain ⟨q, hq, hq4⟩ : ∃ q : Nat, t % 4 = q ∧ q < 4 := ⟨(t % 4).toNat, by omega, by omega⟩
  have HPK := Lib.hid (fun W => pick_any t W WT.out)
  rw [hq] at HPK
  clear hq b4 b14
  go_wp2_with fail
  go_loopw [9, 10] (fun v i wr => ∃ k : Nat, k ≤ 4 ∧ i = .int .i64 k ∧ PartsRel w w4.heap.size q k l1 v wr) (fun _ i _ => 4 - (intOf i).toNat)
  case atStart => exact ⟨0, by omega, rfl, [], ⟨World.ownsRow_nil _ _ _ _, fun _ h => by cases h⟩, rfl, rfl, Nat.le_refl _, B14.out⟩
  case round =>
    clear B14
    obtain ⟨k, hk, rfl, P, hR, hPk, hPl, hB, hb⟩ := hrel
    by_cases hlt : k < 4
    · have hsw := hb.size
      have hchip : (1 : Int) + ((k : Int) + (q : Int)) % 4 = chipAt q k := by unfold chipAt; omega
      have HCH := Lib.hid hchip
      have HPT := Lib.hid (part_own wr ⟨a1, c1, l1⟩ (chipAt q k) (at_later3 X0.out hb) (by show l1.length ≤ _; omega))
      rw [← hchip] at HPT
      unfold Ls.val at HPT
      have HR := Lib.hid hR
      have HPL := Lib.hid hPl
      have HPK2 := Lib.hid hPk
      clear hR hPl hPk hchip
      go_wp2_with (go_at_call 35; (with_reducible refine (HPK.out _).mono ?_); rintro e w' ⟨rfl, rfl⟩)
      refine HPT.out.mono ?_
      rintro e wa ⟨y2, rfl, hy2, hown, bA⟩
      have hba := hb.trans (bA.mono hsw)
      have hsa := hba.size
      rw [HCH.out] at hy2
      have hcy := (mcheck_any wa y2 (own_at hown)).mono fun e w' hc => hc.chk
      rw [hy2, chk_part HCK.out] at hcy
      have HCY := Lib.hid hcy
      have HY2 := Lib.hid hy2
      have HOWN := Lib.hid (row_mono hown hB)
      have HBA := Lib.hid hba
      have BA := Lib.hid bA
      have hsr := bA.size
      clear hcy hy2 hown hba bA
      unfold Ls.val at HCY ⊢
      go_wp2_with fail
      refine HCY.out.mono ?_
      rintro e wb ⟨rfl, bB⟩
      have hbb := HBA.out.trans (bB.mono hsa)
      have hsb := bB.size
      have hvb : wb.ownsRow w4.heap.size 25 1 _ P.length (P.map Ls.val) := row_below (row_below HR.out.out BA.out (Nat.le_refl _)) bB (Nat.le_refl _)
      rw [HPK2.out] at hvb
      have HVB := Lib.hid hvb
      have HBB := Lib.hid hbb
      have BB := Lib.hid bB
      clear hvb hbb bB
      go_wp2_with (at_builtin; refine wpList_append_own _ rfl (.tmp 62) (.tmp 64) 32 rfl w4.heap.size 25 i1 (.slice none 0 0) 1 24 Try.underlying32 hi hz0 hz1 hz2 rfl (by decide) _ k (P.map Ls.val) rfl (HVB.out.alloc _) ⟨wb.heap.size, 0, none⟩ 1 1 [y2.val] rfl rfl (one_new wb y2.val 25) (fun u hu => by obtain rfl := List.mem_singleton.1 hu; rfl) (by unfold maxLen; omega) (by omega) (by simp; omega) ?_; intro vo' wc hown2 hg2 _; have HO2 := Lib.hid hown2; have HG2 := Lib.hid hg2; clear hown2 hg2)
      have hR2 := HR.out.snoc2 BA.out BB.out HOWN.out HG2.out (by rw [HPK2.out]; exact HO2.out)
      have hsc := HG2.out.size
      simp only [World.size_alloc] at hsc
      have hbc : Below w.heap.size w wc := (HBB.out.alloc HBB.out.size _).grown HG2.out (by have := HBB.out.size; simp; omega) (fun j hj => by have := (HVB.out.lt j hj).1; omega)
      refine ⟨⟨k + 1, by omega, by go_num, P ++ [y2], hR2, by simp [HPK2.out], ?_, by omega, hbc⟩, by simp [intOf]; omega⟩
      rw [List.map_append, HPL.out, List.range_succ, List.map_append]
      simp [HY2.out]
    · obtain rfl : k = 4 := by omega
      obtain ⟨A5, c5, rfl, hll⟩ := hR.ll
      obtain ⟨hperm, herr⟩ := parts_end hPk hPl HMAY.out HCK.out
      have hmm := merge_any wr c5 A5 P hll (by omega)
      rw [hPk] at hmm
      have HMM := Lib.hid hmm
      have HPE := Lib.hid hperm
      have HER := Lib.hid herr
      have HB5 := Lib.hid hb
      have HPK5 := Lib.hid hPk
      have hsw := hb.size
      have hsl := Lib.hid (good_sorted (chk_good HCK.out).1)
      rw [hPk]
      clear hR hPl hPk hll hperm herr hmm hb
      go_wp2_with fail
      refine HMM.out.mono ?_
      rintro e w6 ⟨b6, hcase⟩
      have hlen := HPE.out.length_eq
      have hnd : (allOf P).Nodup := HPE.out.nodup_iff.2 (Hp.sorted_nodup hsl.out)
      rcases hcase with ⟨hne, _⟩ | ⟨_, hlong, _⟩ | ⟨_, _, hno, _⟩ | ⟨_, _, _, M, g, cg, hs, hp, rfl, how⟩
      · exact absurd HER.out hne
      · omega
      · exact absurd hnd hno
      · have hM : M = l1 := Hp.sorted_unique ole_anti hs hsl.out (hp.trans HPE.out)
        have hms := own_ls how M.length (Nat.le_refl _)
        rw [List.take_length] at hms
        have b16 := HB5.out.trans (b6.mono hsw)
        have HEV := Lib.hid (events_any w6 ⟨some ⟨g, 0, none⟩, cg, M⟩ ⟨a1, c1, l1⟩ hms (at_later3 X0.out b16))
        rw [decide_eq_true (show (⟨some ⟨g, 0, none⟩, cg, M⟩ : Ls).l = (⟨a1, c1, l1⟩ : Ls).l from hM)] at HEV
        unfold Ls.val at HEV
        have B16 := Lib.hid b16
        have h16 := b16.size
        clear hM hms how hp hs hnd hlen b6 b16
        go_wp2_with fail
        refine HEV.out.mono ?_
        rintro e w7 ⟨rfl, b7⟩
        have b17 := B16.out.trans (b7.mono h16)
        go_wp2_with fail
        go_ret
        exact ⟨rfl, b17⟩
end
end Go.Proofs.Ytileglkimbkkgaa
