/-  -/
import Derived.Test.YtofenjloieagaaaZY
import Derived.Test.YtofenjloieagaaaZT6
namespace Go.Proofs.Ytofenjloieagaaa
open Go.RowKit
set_option linter.unusedSimpArgs false
set_option linter.unusedVariables false
set_option maxRecDepth 100000

/-- A touch's bytes, a list's. -/
def tcB (x : Tc) : List Int := numB x.time.toNat ++ numB x.what.toNat ++ numB x.key.toNat ++ numB (if x.on then 1 else 0)
def tcsB (l : List Tc) : List Int := l.flatMap tcB
def bytesT (l : List Tc) : List Int := numB l.length ++ tcsB l
def bytesM (l : List Tc) : List Int := if errL l = 0 then bytesT l else []
theorem tcB_le (x : Tc) : (tcB x).length ≤ 36 := by
  unfold tcB
  simp only [List.length_append]
  have h1 := (numB_length x.time.toNat).2
  have h2 := (numB_length x.what.toNat).2
  have h3 := (numB_length x.key.toNat).2
  have h4 := (numB_length (if x.on then 1 else 0)).2
  omega
theorem tcsB_le : ∀ l : List Tc, (tcsB l).length ≤ l.length * 36
  | [] => by simp [tcsB]
  | x :: t => by
    have ih := tcsB_le t
    have h1 := tcB_le x
    unfold tcsB at ih ⊢
    rw [List.flatMap_cons, List.length_append, List.length_cons]
    omega
theorem tcsB_take (l : List Tc) (k : Nat) (hk : k < l.length) : tcsB (l.take (k + 1)) = tcsB (l.take k) ++ tcB (l.getD k tcZ) := by
  unfold tcsB
  rw [tc_take_more hk, List.flatMap_append]
  simp
/-- The numbers of a touch are none below 0. -/
def Tc.Low (x : Tc) : Prop := 0 ≤ x.time ∧ x.time < 9223372036854775808 ∧ 0 ≤ x.what ∧ x.what < 9223372036854775808 ∧ 0 ≤ x.key ∧ x.key < 9223372036854775808
theorem good_lows {l : List Tc} (hg : Good l) {k : Nat} (hk : k < l.length) : (l.getD k tcZ).Low := by
  have h0 := good_low hg.2 k hk
  unfold Tc.Low
  rcases (hg.2 k hk).1 with ⟨a, b, c, d⟩ | ⟨a, b, c⟩ <;> omega

set_option maxHeartbeats 4000000 in
theorem numbers_any (w : World) (x : Tc) (hx : x.Low) : Calls Try.prog 31 #[x.val] w (Fresh w.heap.size w (tcB x)) := by
  obtain ⟨t, k, y, n⟩ := x
  obtain ⟨t0, t1, k0, k1, y0, y1⟩ := hx
  simp only at t0 t1 k0 k1 y0 y1
  obtain ⟨tn, rfl⟩ : ∃ n : Nat, t = n := ⟨t.toNat, by omega⟩
  obtain ⟨kn, rfl⟩ : ∃ n : Nat, k = n := ⟨k.toNat, by omega⟩
  obtain ⟨yn, rfl⟩ : ∃ n : Nat, y = n := ⟨y.toNat, by omega⟩
  have hE : tcB ⟨(tn : Int), kn, yn, n⟩ = numB tn ++ numB kn ++ numB yn ++ numB (if n then 1 else 0) := by unfold tcB; simp only [Int.toNat_natCast]
  rw [hE]
  clear hE
  have g1 := (numB_length tn).2
  have g2 := (numB_length kn).2
  have g3 := (numB_length yn).2
  have HN0 := Lib.hid (fun w => number_nil tn w (by omega))
  have HN := Lib.hid (fun (w1 : World) (B : Nat) (A : Option Addr) (c : Nat) (L : List Int) (x : Nat) (h : OB w1 B A c L) (hL : L.length ≤ 1000) (hx : x < 18446744073709551616) => number_any A L.length c L x w1 w1.heap.size rfl h.rb (Nat.le_refl _) (by omega) hx)
  obtain ⟨L1, h1⟩ : ∃ L, numB tn = L := ⟨_, rfl⟩
  obtain ⟨L2, h2⟩ : ∃ L, L1 ++ numB kn = L := ⟨_, rfl⟩
  obtain ⟨L3, h3⟩ : ∃ L, L2 ++ numB yn = L := ⟨_, rfl⟩
  have l1 : L1.length ≤ 9 := by rw [← h1]; omega
  have l2 : L2.length ≤ 18 := by rw [← h2, List.length_append]; omega
  have l3 : L3.length ≤ 27 := by rw [← h3, List.length_append]; omega
  rw [h1, h2, h3]
  rw [h1] at HN0
  have H2 := Lib.hid h2
  have H3 := Lib.hid h3
  unfold Fresh
  have HB0 : Hid (Below w.heap.size w (w.alloc (tcO ⟨(tn : Int), kn, yn, n⟩))) := Lib.hid ((Below.refl _ _).alloc (Nat.le_refl _) _)
  have HT := Lib.hid (TB.now w ⟨(tn : Int), kn, yn, n⟩)
  clear h1 h2 h3 g1 g2 g3
  unfold Tc.val
  cases n
  all_goals (
    simp only [if_true, if_false, Bool.false_eq_true]
    go_enter Try.func31, Try.ntmps31
    go_wp2_with fail
    refine (HN0.out _).mono ?_
    rintro e w1 ⟨A1, c1, rfl, ho, hb⟩
    have HO1 := Lib.hid ho
    have HB1 := Lib.hid (HB0.out.trans (hb.mono (by simp)))
    obtain ⟨d0, d1, d2, d3⟩ := HT.out.below hb (by simp)
    have hs1 : w.heap.size < w1.heap.size := by have := hb.size; simp at this; omega
    simp only at d0 d1 d2 d3
    clear ho hb HT HB0 HN0
    go_wp2_with fail
    refine (HN.out w1 _ A1 c1 L1 kn HO1.out (by omega) (by omega)).mono ?_
    rw [H2.out]
    rintro e w2 ⟨A2, c2, rfl, ho, hb⟩
    have HO2 := Lib.hid ho
    have HB2 := Lib.hid (HB1.out.trans (hb.mono HB1.out.size))
    have hs2 : w.heap.size < w2.heap.size := by have := hb.size; omega
    have d0 := (hb.cell hs1).trans d0
    have d1 := (hb.cell hs1).trans d1
    have d2 := (hb.cell hs1).trans d2
    have d3 := (hb.cell hs1).trans d3
    clear ho hb HO1 HB1
    go_wp2_with fail
    refine (HN.out w2 _ A2 c2 L2 yn HO2.out (by omega) (by omega)).mono ?_
    rw [H3.out]
    rintro e w3 ⟨A3, c3, rfl, ho, hb⟩
    have HO3 := Lib.hid ho
    have HB3 := Lib.hid (HB2.out.trans (hb.mono HB2.out.size))
    clear ho hb HO2 HB2 d0 d1 d2 d3
    go_wp2_with fail
    first
      | refine (HN.out w3 _ A3 c3 L3 0 HO3.out (by omega) (by omega)).mono ?_
      | refine (HN.out w3 _ A3 c3 L3 1 HO3.out (by omega) (by omega)).mono ?_
    rintro e w4 ⟨A4, c4, rfl, ho, hb⟩
    have HO4 := Lib.hid (ho.mono HB3.out.size)
    have HB4 := Lib.hid (HB3.out.trans (hb.mono HB3.out.size))
    clear ho hb HO3 HB3 H2 H3
    go_wp2_with fail
    go_ret
    exact ⟨A4, c4, by rw [List.length_append]; rfl, HO4.out, HB4.out⟩)

def BytesE (w : World) (l : List Tc) (e : Ending) (w' : World) : Prop :=
  (∃ A c, e = .returned (.tuple #[.slice A (bytesM l).length c, .int .i64 (errL l)]) ∧ OB w' w.heap.size A c (bytesM l)) ∧ Below w.heap.size w w'

set_option maxHeartbeats 4000000 in
theorem bytesE_any (w : World) (A : Option Addr) (c : Nat) (l : List Tc) (hl : TsAt w w.heap.size A l) (hc : l.length ≤ c ∧ c ≤ maxLen) : Calls Try.prog 7 #[.slice A l.length c] w (BytesE w l) := by
  have HCK := Lib.hid (check_any w A c l hl hc)
  have HErr := Lib.hid (@errL_zero l)
  have HL := Lib.hid hl
  have HBM : Hid (∀ z, errL l = z → bytesM l = if z = 0 then numB l.length ++ tcsB l else []) := Lib.hid (fun z hz => by subst hz; rfl)
  have HTs := Lib.hid (tcsB_take l)
  have HTa : Hid (tcsB (l.take l.length) = tcsB l) := Lib.hid (by rw [List.take_length])
  have HLow := Lib.hid (fun (hg : Good l) (k : Nat) (hk : k < l.length) => good_lows hg hk)
  clear hl
  obtain ⟨hc1, hc2⟩ := hc
  unfold maxLen at hc2
  unfold BytesE
  have hg0 := HErr.out
  clear HErr
  generalize bytesM l = bm at *
  generalize errL l = er at *
  by_cases hz : er = 0
  · subst hz
    have hg := hg0.1 rfl
    have h16 : l.length ≤ 65536 := hg.1
    have HLo := Lib.hid (HLow.out hg)
    have HB := Lib.hid ((HBM.out 0 rfl).trans (if_pos rfl))
    have HNB := Lib.hid (fun w1 => number_nil l.length w1 (by omega))
    clear hg0 HBM hg HLow
    go_enter Try.func7, Try.ntmps7
    go_wp2_with fail
    refine HCK.out.mono ?_
    rintro e w1 ⟨rfl, hb⟩
    have HB1 := Lib.hid hb
    clear hb HCK
    go_wp2_with fail
    refine (HNB.out w1).mono ?_
    rintro e w2 ⟨A2, c2, rfl, ho, hb⟩
    have HO2 := Lib.hid (ho.mono HB1.out.size)
    have HB2 := Lib.hid (HB1.out.trans (hb.mono HB1.out.size))
    clear ho hb HB1 HNB
    go_wp2_with fail
    go_loopw [5, 19] (fun v i wr => ∃ k : Nat, k ≤ l.length ∧ i = .int .i64 k ∧ (∃ A c, v = .slice A (numB l.length ++ tcsB (l.take k)).length c ∧ OB wr w.heap.size A c (numB l.length ++ tcsB (l.take k))) ∧ Below w.heap.size w wr) (fun _ i _ => l.length - (intOf i).toNat)
    case atStart => exact ⟨0, Nat.zero_le _, rfl, ⟨A2, c2, by simp [tcsB], by simpa [tcsB] using HO2.out⟩, HB2.out⟩
    case round =>
      rename World => wr
      obtain ⟨k, hk, rfl, ⟨A1, c1, rfl, ho⟩, hb⟩ := hrel
      have HO := Lib.hid ho
      have HBr := Lib.hid hb
      clear ho hb HO2 HB2
      by_cases hlt : k < l.length
      · obtain ⟨b, o, hA, hb1, hat⟩ := HL.out.at_ (by omega)
        have hu := (hat k hlt).below HBr.out hb1
        have htk := HTs.out k hlt
        have hlo := HLo.out k hlt
        have hlen := tcsB_le (l.take k)
        have hnl := (numB_length l.length).2
        have htl : (l.take k).length ≤ 65536 := by simp; omega
        have hdl : (numB l.length ++ tcsB (l.take k)).length ≤ 3000000 := by rw [List.length_append]; omega
        obtain ⟨D, hD⟩ : ∃ D, numB l.length ++ tcsB (l.take k) = D := ⟨_, rfl⟩
        have HTk : Hid (numB l.length ++ tcsB (l.take (k + 1)) = D ++ tcB (l.getD k tcZ)) := Lib.hid (by rw [htk, ← List.append_assoc, hD])
        rw [hD] at HO hdl ⊢
        clear hat htk hlen hnl htl hD HTs HTa HLo HB
        subst hA
        generalize l.getD k tcZ = y at *
        have hbl := tcB_le y
        have HMB := Lib.hid (fun w1 => numbers_any w1 y hlo)
        clear hlo
        obtain ⟨t, kd, ky, n⟩ := y
        obtain ⟨d0, d1, d2, d3⟩ := hu
        unfold Tc.val at HMB
        simp only at d0 d1 d2 d3 HMB
        have HBx := Lib.hid (HBr.out.alloc HBr.out.size (tcO ⟨t, kd, ky, n⟩))
        have HOx := Lib.hid (HO.out.alloc (tcO ⟨t, kd, ky, n⟩))
        obtain ⟨s0, s1, s2, s3⟩ := TB.now wr ⟨t, kd, ky, n⟩
        generalize tcB ⟨t, kd, ky, n⟩ = m at *
        unfold tcO at s0 s1 s2 s3 HBx HOx
        simp only at s0 s1 s2 s3 HBx HOx
        clear HO HBr
        go_wp2_with fail
        refine (HMB.out _).mono ?_
        rintro e w3 ⟨A3, c3, rfl, ho, hb⟩
        have HO3 := Lib.hid (HOx.out.below hb (Nat.le_refl _))
        have HM3 := Lib.hid ho
        have HB3 := Lib.hid (HBx.out.trans (hb.mono HBx.out.size))
        have hs3 : w.heap.size ≤ w3.heap.size := HB3.out.size
        clear ho hb HOx HBx HMB d0 d1 d2 d3 s0 s1 s2 s3
        go_wp2_with (at_builtin; refine wpList_append_rb _ rfl (.tmp 23) (.tmp 25) rfl w.heap.size w3.heap.size A1 _ c1 D rfl rfl HO3.out A3 _ c3 m rfl rfl HM3.out.rb (by omega) hs3 ?_; intro A4 c4 w4 ho4 hb4 _; have HO4 := Lib.hid ho4; have HB4 := Lib.hid (HB3.out.trans hb4); clear ho4 hb4)
        refine ⟨⟨k + 1, by omega, by go_num, ⟨A4, c4, ?_, ?_⟩, HB4.out⟩, by simp [intOf]; omega⟩
        · rw [HTk.out, List.length_append]
        · rw [HTk.out]; exact HO4.out
      · obtain rfl : k = l.length := by omega
        have hB := HB.out
        have hta := HTa.out
        rw [hta, ← hB] at HO
        have hlen : (numB l.length ++ tcsB (l.take l.length)).length = bm.length := by rw [hta, hB]
        rw [hlen]
        clear HB HTa HTs HLo hB hta hlen
        go_wp2_with fail
        go_ret2
        exact ⟨⟨A1, c1, rfl, HO.out⟩, HBr.out⟩
  · have hn : (er != 0) = true := by simpa using hz
    have HB := Lib.hid (HBM.out er rfl)
    rw [if_neg hz] at HB
    have hb0 := HB.out
    subst hb0
    clear hg0 HBM HLow HB hz
    go_enter Try.func7, Try.ntmps7
    go_wp2_with fail
    refine HCK.out.mono ?_
    rintro e w1 ⟨rfl, hb⟩
    go_wp2_with fail
    go_ret2
    exact ⟨⟨none, 0, rfl, OB.nil _ _⟩, hb⟩
end Go.Proofs.Ytofenjloieagaaa
