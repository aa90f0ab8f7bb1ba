
/- KeysBack. -/
import Derived.Test.YtdmjfadeffcidaaT7
import Derived.Test.YtdmjfadeffcidaaT19
namespace Go.Proofs.Ytdmjfadeffcidaa
open Go.RowKit
set_option linter.unusedSimpArgs false
set_option linter.unusedVariables false
set_option maxRecDepth 100000

theorem readE_two (L : List Int) : readE L = 0 ∨ readE L = 4 := by unfold readE; split <;> simp
theorem rd_yes {L : List Int} (hz : readE L = 0) (A : Option Addr) (c n : Nat) (w : World) (hn : n = L.length) (hL : L.length ≤ 100000) (h : RB w w.heap.size A c L) :
    Calls Try.prog 10 #[.slice A n c] w fun e w' => ∃ v, e = .returned (.tuple #[v, .int .i64 0]) ∧ OwnT w' w.heap.size v (readT L) ∧ Below w.heap.size w w' := by
  refine (readT_any w A c n L hn (by omega) _ h (Nat.le_refl _)).mono ?_
  rw [hz]
  rintro e w' ⟨⟨v, rfl, ho⟩, hb⟩
  rw [if_pos rfl] at ho
  exact ⟨v, rfl, ho, hb⟩
theorem rd_no {L : List Int} (hz : readE L = 4) (A : Option Addr) (c n : Nat) (w : World) (hn : n = L.length) (hL : L.length ≤ 100000) (h : RB w w.heap.size A c L) :
    Calls Try.prog 10 #[.slice A n c] w fun e w' => ∃ v, e = .returned (.tuple #[v, .int .i64 4]) ∧ Below w.heap.size w w' := by
  refine (readT_any w A c n L hn (by omega) _ h (Nat.le_refl _)).mono ?_
  rw [hz]
  rintro e w' ⟨⟨v, rfl, ho⟩, hb⟩
  exact ⟨v, rfl, hb⟩
theorem bytes_yes {l : List Tc} (hg : Good l) (L : List Int) (hL : bytesT l = L) (A : Option Addr) (c : Nat) (w : World) (hl : TsAt w w.heap.size A l) (hc : l.length ≤ c ∧ c ≤ maxLen) :
    Calls Try.prog 17 #[.slice A l.length c] w fun e w' => ∃ A c, e = .returned (.tuple #[.slice A L.length c, .int .i64 0]) ∧ OB w' w.heap.size A c L ∧ Below w.heap.size w w' := by
  refine (bytesE_any w A c l hl hc).mono ?_
  have h0 := errL_zero.2 hg
  have hm : bytesM l = L := by unfold bytesM; rw [if_pos h0, hL]
  rintro e w' ⟨⟨A2, c2, rfl, ho⟩, hb⟩
  rw [hm] at ho ⊢
  rw [h0]
  exact ⟨A2, c2, rfl, ho, hb⟩

theorem rd_any {L : List Int} (A : Option Addr) (c n : Nat) (w : World) (hn : n = L.length) (hL : L.length ≤ 100000) (h : RB w w.heap.size A c L) :
    Calls Try.prog 10 #[.slice A n c] w fun e w' => ∃ v z, e = .returned (.tuple #[v, .int .i64 z]) ∧ ((z = 0 ∧ OwnT w' w.heap.size v (readT L) ∧ Good (readT L) ∧ bytesT (readT L) = L) ∨ z = 4) ∧ Below w.heap.size w w' := by
  rcases readE_two L with hz | hz
  · refine (rd_yes hz A c n w hn hL h).mono ?_
    rintro e w' ⟨v, rfl, ho, hb⟩
    obtain ⟨h1, h2⟩ := read_back L h.bytes hz
    exact ⟨v, 0, rfl, .inl ⟨rfl, ho, h1, h2⟩, hb⟩
  · refine (rd_no hz A c n w hn hL h).mono ?_
    rintro e w' ⟨v, rfl, hb⟩
    exact ⟨v, 4, rfl, .inr rfl, hb⟩

set_option maxHeartbeats 8000000 in
theorem walk_KeysBack (w : World) (A : Option Addr) (c n : Nat) (l : List Tc) (hn : n = l.length) (hl : TsAt w w.heap.size A l ∧ n ≤ c ∧ c ≤ maxLen ∧ (∀ x ∈ l, x.wf) ∧ (A = none → c = 0)) (A2 : Option Addr) (c2 n2 : Nat) (L : List Int) (hn2 : n2 = L.length) (hr : RB w w.heap.size A2 c2 L) :
    Calls Try.prog 6 #[.slice A n c, .slice A2 n2 c2] w fun e w' => e = .returned (.bool true) ∧ Below w.heap.size w w' := by
  subst hn hn2
  obtain ⟨hts, h1, h2, -, -⟩ := hl
  have hln := hr.le
  have hcp := hr.cap
  unfold maxLen at hcp
  have HLv := Lib.hid (fun w => lives17_any w)
  have HTs := Lib.hid hts
  have HC2 := Lib.hid h2
  have h2' := h2
  unfold maxLen at h2'
  clear hts h2
  go_enter Try.func6, Try.ntmps6
  go_wp2_with fail
  refine (HLv.out w).mono ?_
  rintro e w1 ⟨rfl, hb⟩
  have HB1 := Lib.hid hb
  clear hb HLv
  by_cases g1 : 60 < l.length
  · go_wp2_with fail
    go_ret
    exact ⟨rfl, HB1.out⟩
  by_cases g2 : 400 < L.length
  · have g1' : l.length ≤ 60 := by omega
    go_wp2_with fail
    go_ret
    exact ⟨rfl, HB1.out⟩
  have g1' : l.length ≤ 60 := by omega
  have g2' : L.length ≤ 400 := by omega
  have hr1 := (hr.below HB1.out).more HB1.out.size
  clear g1 g2
  go_wp2_with fail
  refine (own_any A2 c2 _ L w1 w1.heap.size rfl hr1 (Nat.le_refl _) (by omega)).mono ?_
  rintro e w2 ⟨A3, c3, rfl, ho, hb⟩
  have HO2 := Lib.hid ho.rb
  have HB2 := Lib.hid (HB1.out.trans (hb.mono HB1.out.size))
  clear ho hb hr1 HB1
  have HRd := Lib.hid (rd_any A3 c3 L.length w2 rfl (by omega) HO2.out)
  clear HO2
  go_wp2_with fail
  refine HRd.out.mono ?_
  rintro e w3 ⟨v3, z, rfl, hcase, hb⟩
  have HCs := Lib.hid hcase
  have HB3 := Lib.hid (HB2.out.trans (hb.mono HB2.out.size))
  have hs23 : w2.heap.size ≤ w3.heap.size := hb.size
  clear hcase hb HRd
  go_upto_if 32 with fail
  go_cut [] (fun wc => Below w.heap.size w wc)
  case first =>
    rcases HCs.out with ⟨rfl, ho, hg, hbk⟩ | rfl
    · obtain ⟨A4, c4, rfl, -, l4, k4⟩ := ho.shape0
      have HBy := Lib.hid (bytes_yes hg L hbk A4 c4 w3 ho.ts ⟨l4, k4⟩)
      have hp16 : (readT L).length ≤ 65536 := hg.1
      clear ho hg hbk l4 k4 HCs
      generalize readT L = p at *
      go_wp2_with fail
      refine HBy.out.mono ?_
      rintro e w4 ⟨A5, c5, rfl, ho, hb⟩
      have HB4 := Lib.hid (HB3.out.trans (hb.mono HB3.out.size))
      have q1 := str_rb w4 _ A5 c5 L.length L ho.rb rfl
      have q2 := str_rb w4 _ A2 c2 L.length L (hr.below HB4.out) rfl
      generalize strOfNums L = S at q1 q2
      clear ho hb HBy
      go_wp2_with fail
      go_meet
      exact HB4.out
    · clear HCs
      go_wp2_with fail
      go_meet
      exact HB3.out
  case rest =>
    have HBc := Lib.hid hcut
    clear hcut HCs HB3 HB2
    have HTc := Lib.hid (HTs.out.on HBc.out HBc.out.size)
    by_cases hg : Good l
    · have hl1 := bytesT_pos l
      have hl2 := bytesT_le l
      obtain ⟨hz, hT⟩ := read_self hg
      have HBy := Lib.hid (bytes_yes hg (bytesT l) rfl A c wc HTc.out ⟨h1, HC2.out⟩)
      have hRS := fun (A : Option Addr) (c : Nat) (w : World) h => rd_yes hz A c (bytesT l).length w rfl (by omega) h
      rw [hT] at hRS
      have HRS := Lib.hid hRS
      have HRM := Lib.hid (fun (A : Option Addr) (c : Nat) (w : World) h => rd_no (read_more hg 0) A c (bytesT l ++ [0]).length w rfl (by rw [List.length_append]; simp; omega) h)
      have hRL := fun (A : Option Addr) (c : Nat) (w : World) h => rd_no (read_less hg) A c _ w rfl (by rw [List.length_take]; omega) h
      have HTt := Lib.hid (fun (w1 : World) (A1 A2 : Option Addr) (c1 c2 : Nat) (hx : TsAt w1 w1.heap.size A1 l) (hy : TsAt w1 w1.heap.size A2 l) => touches_any w1 A1 A2 c1 c2 l l hx hy (by unfold maxLen; omega))
      obtain ⟨D, hD⟩ : ∃ D, bytesT l = D := ⟨_, rfl⟩
      rw [hD] at HBy HRS HRM hl1 hl2
      simp only [hD] at hRL
      obtain ⟨Z, hZ⟩ : ∃ Z, D ++ [0] = Z := ⟨_, rfl⟩
      rw [hZ] at HRM
      obtain ⟨mm, hmm⟩ : ∃ mm, D.length = mm + 1 := ⟨D.length - 1, by omega⟩
      have hm1 : (D.length : Int) - 1 = (mm : Int) := by omega
      have hlm : (D.take (D.length - 1)).length = mm := by rw [List.length_take]; omega
      simp only [hlm] at hRL
      have HRL := Lib.hid hRL
      have HZ := Lib.hid hZ
      have HMM := Lib.hid hmm
      have HM1 := Lib.hid hm1
      clear hD hZ hmm hm1 hlm hg hz hT hRS hRL
      go_wp2_with fail
      refine HBy.out.mono ?_
      rintro e w4 ⟨A4, c4, rfl, ho, hb⟩
      have HQ4 := Lib.hid ho.rb
      have HT4 := Lib.hid (HTc.out.on hb hb.size)
      have HB4 := Lib.hid (HBc.out.trans (hb.mono HBc.out.size))
      clear ho hb HBy HTc HBc
      go_wp2_with fail
      refine (HRS.out A4 c4 w4 HQ4.out).mono ?_
      rintro e w5 ⟨v5, rfl, ho, hb⟩
      obtain ⟨A5, c5, rfl, -, -, -⟩ := ho.shape0
      have HP5 := Lib.hid ho.ts
      have HQ5 := Lib.hid (HQ4.out.belowH hb)
      have HT5 := Lib.hid (HT4.out.on hb hb.size)
      have HB5 := Lib.hid (HB4.out.trans (hb.mono HB4.out.size))
      clear ho hb HRS HQ4 HT4 HB4
      have hQ5 := HQ5.out
      obtain ⟨b6, o6, rfl, -, -⟩ := hQ5.pos (by omega)
      have hm1 := HM1.out
      have hlc := hQ5.le
      have hcm : c4 ≤ 9223372036854775807 := by have := hQ5.cap; unfold maxLen at this; omega
      have hmle : mm ≤ c4 := by have := HMM.out; omega
      have hpre := hQ5.pre (D.length - 1) (by omega)
      have HPre := Lib.hid hpre
      clear hpre hQ5
      go_wp2_with fail
      clear hm1 hlc hcm hmle
      refine (HRL.out (some ⟨b6, o6, none⟩) c4 w5 HPre.out).mono ?_
      rintro e w6 ⟨v6, rfl, hb⟩
      have HP6 := Lib.hid (HP5.out.on hb hb.size)
      have HQ6 := Lib.hid (HQ5.out.belowH hb)
      have HT6 := Lib.hid (HT5.out.on hb hb.size)
      have HB6 := Lib.hid (HB5.out.trans (hb.mono HB5.out.size))
      clear hb HRL HPre HP5 HQ5 HT5 HB5
      go_wp2_with fail
      refine (own_any _ c4 _ D _ _ rfl HQ6.out (Nat.le_refl _) (by omega)).mono ?_
      rintro e w7 ⟨A7, c7, rfl, ho, hb⟩
      have HO7 := Lib.hid ho
      have HB7 := Lib.hid (HB6.out.trans (hb.mono HB6.out.size))
      have hs7 := hb.size
      have hs6 := HB6.out.size
      have HB67 := Lib.hid hb
      clear ho hb HQ6 HB6
      obtain ⟨bs, hbs⟩ : ∃ bs, w6.heap.size = bs := ⟨_, rfl⟩
      rw [hbs] at HO7 hs7 hs6 HB67 HP6 HT6
      clear hbs
      go_wp2_with (at_builtin; refine wpList_append_rb _ rfl _ _ rfl bs (w7.heap.size + 1) A7 _ c7 D rfl rfl (HO7.out.alloc _) _ _ _ [0] rfl rfl (RB.lit1 w7 0 (by omega) (by omega)) (by simp; omega) (by simp; omega) ?_; intro A8 c8 w8 hob hbel hne; rw [HZ.out] at hob ⊢)
      have HB68 := Lib.hid ((HB67.out.alloc hs7 _).trans hbel)
      have HB8 := Lib.hid ((HB7.out.alloc HB7.out.size _).trans (hbel.mono hs6))
      have HZ8 := Lib.hid (hob.rb)
      have hs8 : bs ≤ w8.heap.size := by have := hbel.size; simp at this; omega
      have HP8 := Lib.hid (HP6.out.on HB68.out hs8)
      have HT8 := Lib.hid (HT6.out.on HB68.out hs8)
      clear hob hbel hne HO7 HB67 HB68 HP6 HT6 HB7
      refine (HRM.out A8 c8 w8 HZ8.out).mono ?_
      rintro e w9 ⟨v9, rfl, hb⟩
      have HP9 := Lib.hid (HP8.out.on hb hb.size)
      have HT9 := Lib.hid (HT8.out.on hb hb.size)
      have HB9 := Lib.hid (HB8.out.trans (hb.mono HB8.out.size))
      clear hb HP8 HT8 HB8 HZ8 HRM
      go_wp2_with fail
      refine (HTt.out w9 A5 A c5 c HP9.out HT9.out).mono ?_
      rintro e w10 ⟨rfl, hb⟩
      have HB10 := Lib.hid (HB9.out.trans (hb.mono HB9.out.size))
      clear hb HTt HB9
      go_wp2_with fail
      go_ret
      exact ⟨by simp, HB10.out⟩
    · have hne : ¬ errL l = 0 := fun h => hg (errL_zero.1 h)
      have HBE := Lib.hid (bytesE_any wc A c l HTc.out ⟨h1, HC2.out⟩)
      have hbm : bytesM l = [] := by unfold bytesM; rw [if_neg hne]
      have HCk := Lib.hid (fun w1 (hb : Below wc.heap.size wc w1) => check_any w1 A c l (HTc.out.on hb hb.size) ⟨h1, HC2.out⟩)
      unfold BytesE at HBE
      rw [hbm] at HBE
      clear hg hbm
      generalize errL l = er at *
      have hn : (er != 0) = true := by simpa using hne
      clear hne
      go_wp2_with fail
      refine HBE.out.mono ?_
      rintro e w4 ⟨⟨A4, c4, rfl, -⟩, hb⟩
      have HCk4 := Lib.hid (HCk.out w4 hb)
      have HB4 := Lib.hid (HBc.out.trans (hb.mono HBc.out.size))
      clear hb HBE HCk HTc HBc
      go_wp2_with fail
      refine HCk4.out.mono ?_
      rintro e w5 ⟨rfl, hb⟩
      have HB5 := Lib.hid (HB4.out.trans (hb.mono HB4.out.size))
      clear hb HCk4 HB4
      go_wp2_with fail
      go_ret
      exact ⟨by simp, HB5.out⟩
end Go.Proofs.Ytdmjfadeffcidaa
