/-  -/
import Derived.Test.YtofenjloieagaaaZT7
import Derived.Test.YtofenjloieagaaaJ2
import Derived.Test.YtofenjloieagaaaZT46
namespace Go.Proofs.Ytofenjloieagaaa
open Go.RowKit
set_option linter.unusedSimpArgs false
set_option linter.unusedVariables false
set_option maxRecDepth 100000

/-- A list and an error, wherever the list lies. -/
def GivesT (w : World) (z : Int) (D : List Tc) (e : Ending) (w' : World) : Prop :=
  ∃ A c, e = .returned (.tuple #[.slice A D.length c, .int .i64 z]) ∧ TsAt w' w'.heap.size A D ∧ Below w.heap.size w w'
theorem gives_of {w w' : World} {z : Int} {M : List Tc} {e : Ending} (h : ListE w z M e w') : GivesT w z (if z = 0 then M else []) e w' := by
  obtain ⟨⟨v, rfl, ho⟩, hb⟩ := h
  obtain ⟨A, c, rfl, -, -, -⟩ := ho.shape0
  exact ⟨A, c, rfl, ho.ts, hb⟩
/-- Bytes and an error. -/
def GivesB (w : World) (z : Int) (D : List Int) (e : Ending) (w' : World) : Prop :=
  ∃ A c, e = .returned (.tuple #[.slice A D.length c, .int .i64 z]) ∧ RB w' w'.heap.size A c D ∧ Below w.heap.size w w'
theorem gives_bytes {w w' : World} {l : List Tc} {e : Ending} (h : BytesE w l e w') : GivesB w (errL l) (bytesM l) e w' := by
  obtain ⟨⟨A, c, rfl, ho⟩, hb⟩ := h
  exact ⟨A, c, rfl, ho.rb, hb⟩
theorem readT_len (L : List Int) : (readT L).length ≤ 65536 := by
  unfold readT
  rw [txs_len]
  exact tcnt_le L

set_option maxHeartbeats 16000000 in
theorem walk_KeysCalls (w : World) (A1 : Option Addr) (c1 n1 : Nat) (l1 : List Tc) (hn1 : n1 = l1.length) (hl1 : TsAt w w.heap.size A1 l1 ∧ n1 ≤ c1 ∧ c1 ≤ maxLen ∧ (∀ x ∈ l1, x.wf) ∧ (A1 = none → c1 = 0)) (A2 : Option Addr) (c2 n2 : Nat) (l2 : List Tc) (hn2 : n2 = l2.length) (hl2 : TsAt w w.heap.size A2 l2 ∧ n2 ≤ c2 ∧ c2 ≤ maxLen ∧ (∀ x ∈ l2, x.wf) ∧ (A2 = none → c2 = 0)) (t : Int) (wt : (Lit.int .i64 t).wf = true) (h : Int) (wh : (Lit.int .u8 h).wf = true) (A3 : Option Addr) (c3 n3 : Nat) (L : List Int) (hn3 : n3 = L.length) (hr : RB w w.heap.size A3 c3 L) :
    Calls Try.prog 3 #[.slice A1 n1 c1, .slice A2 n2 c2, .int .i64 t, .int .u8 h, .slice A3 n3 c3] w fun e w' => e = .returned (.bool true) ∧ Below w.heap.size w w' := by
  subst hn1 hn2 hn3
  obtain ⟨ht1, k1, m1, w1, z1⟩ := hl1
  obtain ⟨ht2, k2, m2, w2, z2⟩ := hl2
  have hh : 0 ≤ h ∧ h < 256 := by have := bounds_u8 wh; omega
  have HLv := Lib.hid (fun w => lives17_any w)
  have hrc := hr.cap
  have hrl := hr.le
  have q1 : c1 ≤ 9223372036854775807 := m1
  have q2 : c2 ≤ 9223372036854775807 := m2
  have q3 : c3 ≤ 9223372036854775807 := hrc
  by_cases hlong : 60 < l1.length ∨ (l1.length ≤ 60 ∧ 60 < l2.length) ∨ (l1.length ≤ 60 ∧ l2.length ≤ 60 ∧ 400 < L.length)
  · clear ht1 ht2 w1 w2 z1 z2 m1 m2 hr hrc
    rcases hlong with hlong | ⟨hq, hlong⟩ | ⟨hq, hqq, hlong⟩
    all_goals
      go_enter Try.func3, Try.ntmps3
      go_wp2_with fail
      refine (HLv.out w).mono ?_
      rintro e w1 ⟨rfl, hb⟩
      go_wp2_with fail
      go_ret
      exact ⟨rfl, hb⟩
  · have g1 : l1.length ≤ 60 := by omega
    have g2 : l2.length ≤ 60 := by omega
    have g3 : L.length ≤ 400 := by omega
    have hm1 : l1.length ≤ maxLen := by unfold maxLen; omega
    have HT1 := Lib.hid ht1
    have HT2 := Lib.hid ht2
    have HR := Lib.hid hr
    have HZ := Lib.hid (And.intro z1 z2)
    have HMg := Lib.hid (fun (w1 : World) (A1 A2 : Option Addr) (c1 c2 : Nat) (h1 : TsAt w1 w1.heap.size A1 l1) (h2 : TsAt w1 w1.heap.size A2 l2) (n1 : A1 = none → c1 = 0) (n2 : A2 = none → c2 = 0) (k1 : l1.length ≤ c1 ∧ c1 ≤ maxLen) (k2 : l2.length ≤ c2 ∧ c2 ≤ maxLen) => (merge17_any w1 A1 A2 c1 c2 l1 l2 h1 h2 n1 n2 k1 k2).mono (fun e w' h => gives_of h))
    have HMr := Lib.hid (fun (w1 : World) (hb : Below w.heap.size w w1) => (rmerge17_any w1 A1 A2 c1 c2 l1 l2 (ht1.on hb hb.size) (ht2.on hb hb.size) ⟨k1, m1⟩ ⟨k2, m2⟩).mono (fun e w' h => gives_of h))
    have HBk := Lib.hid (fun (w1 : World) (hb : Below w.heap.size w w1) => (bytesE_any w1 A1 c1 l1 (ht1.on hb hb.size) ⟨k1, m1⟩).mono (fun e w' h => gives_bytes h))
    have HBr := Lib.hid (fun (w1 : World) (hb : Below w.heap.size w w1) => (rbytes17_any w1 A1 c1 l1 (ht1.on hb hb.size) ⟨k1, m1⟩).mono (fun e w' h => gives_bytes h))
    have HRk := Lib.hid (fun (w1 : World) (A : Option Addr) (c : Nat) (h : RB w1 w1.heap.size A c L) => (readT_any w1 A c L.length L rfl (by omega) w1.heap.size h (Nat.le_refl _)).mono (fun e w' h => gives_of h))
    have HRr := Lib.hid (fun (w1 : World) (hb : Below w.heap.size w w1) => (rread17_any w1 A3 c3 L.length L rfl (by omega) w.heap.size (hr.below hb) hb.size).mono (fun e w' h => gives_of h))
    have HCk := Lib.hid (fun (w1 : World) (hb : Below w.heap.size w w1) => check_any w1 A1 c1 l1 (ht1.on hb hb.size) ⟨k1, m1⟩)
    have HCr := Lib.hid (fun (w1 : World) (hb : Below w.heap.size w w1) => rcheck17_any w1 A1 c1 l1 (ht1.on hb hb.size) hm1)
    have HDk := Lib.hid (fun (w1' : World) (hb : Below w.heap.size w w1') => downAt_any w1' A1 c1 l1 t (ht1.on hb hb.size) w1 ⟨k1, m1⟩)
    have HDr := Lib.hid (fun (w1 : World) (hb : Below w.heap.size w w1) => rdown_any w1 A1 c1 l1 t (ht1.on hb hb.size) hm1)
    have HEk := Lib.hid (fun (w1 : World) (hb : Below w.heap.size w w1) => earAt_any w1 A1 c1 l1 t (ht1.on hb hb.size) ⟨k1, m1⟩)
    have HEr := Lib.hid (fun (w1 : World) (hb : Below w.heap.size w w1) => rear_any w1 A1 c1 l1 t (ht1.on hb hb.size) hm1)
    have HYk := Lib.hid (fun (w1' : World) (hb : Below w.heap.size w w1') => byteAt_any w1' A1 c1 l1 t h (ht1.on hb hb.size) w1 ⟨k1, m1⟩ hh)
    have HYr := Lib.hid (fun (w1 : World) (hb : Below w.heap.size w w1) => rbyte_any w1 A1 c1 l1 t h (ht1.on hb hb.size) hm1 hh)
    have HUk := Lib.hid (fun (w1 : World) (hb : Below w.heap.size w w1) => until_any w1 A1 c1 l1 t (ht1.on hb hb.size) ⟨k1, m1⟩)
    have HUr := Lib.hid (fun (w1 : World) (hb : Below w.heap.size w w1) => runtil_any w1 A1 c1 l1 t (ht1.on hb hb.size) hm1)
    have hml := mergeL_len l1 l2
    have hrt := readT_len L
    have hdl := downs_len (l1.take (untilN l1 t))
    change (downAt l1 t).length ≤ 40 at hdl
    clear ht1 ht2 hr w1 w2 z1 z2 hlong hh wt wh
    generalize errM l1 l2 = zM at *
    generalize mergeL l1 l2 = D at *
    have hDl : (if zM = 0 then D else []).length ≤ maxLen := by unfold maxLen; split <;> simp; omega
    generalize (if zM = 0 then D else []) = DM at *
    have hRl : (if readE L = 0 then readT L else []).length ≤ maxLen := by unfold maxLen; split <;> simp; omega
    generalize (if readE L = 0 then readT L else []) = DR at *
    generalize readE L = zR at *
    generalize readT L = T at *
    generalize bytesM l1 = DB at *
    generalize errL l1 = zL at *
    generalize byteAt17 l1 t h = vb at *
    generalize earAt l1 t = ve at *
    generalize untilN l1 t = vu at *
    have hdm : (downAt l1 t).length ≤ maxLen := by unfold maxLen; omega
    generalize downAt l1 t = vd at *
    have HTt := Lib.hid (fun (w1 : World) (A1 A2 : Option Addr) (c1 c2 : Nat) (hx : TsAt w1 w1.heap.size A1 DM) (hy : TsAt w1 w1.heap.size A2 DM) => touches_any w1 A1 A2 c1 c2 DM DM hx hy hDl)
    have HTr := Lib.hid (fun (w1 : World) (A1 A2 : Option Addr) (c1 c2 : Nat) (hx : TsAt w1 w1.heap.size A1 DR) (hy : TsAt w1 w1.heap.size A2 DR) => touches_any w1 A1 A2 c1 c2 DR DR hx hy hRl)
    have HTi := Lib.hid (fun (w1 : World) (A1 A2 : Option Addr) (c1 c2 : Nat) (hx : NsAt w1 w1.heap.size A1 vd) (hy : NsAt w1 w1.heap.size A2 vd) => ints_any w1 A1 A2 c1 c2 vd vd hx hy hdm)
    rw [decide_eq_true rfl] at HTt HTr HTi
    clear hml hrt hdl hDl hRl hdm hm1 m1 m2 hrc
    unfold GivesT at HMg HMr HRk HRr
    unfold GivesB at HBk HBr
    go_enter Try.func3, Try.ntmps3
    go_wp2_with fail
    refine (HLv.out w).mono ?_
    rintro e w1 ⟨rfl, hb⟩
    have HB1 := Lib.hid hb
    clear hb HLv
    have hs1 : w.heap.size ≤ w1.heap.size := HB1.out.size
    go_wp2_with (first
      | (at_builtin; refine wpList_append_ts rfl (.tmp 39) (.tmp 40) 22 rfl Try.underlying22 w1.heap.size _ [] rfl (World.ownsRow_made w1 #[] 0 (Nat.le_refl _) (by decide) rfl) w.heap.size A1 c1 l1 rfl ((HT1.out.below HB1.out).below ((Below.refl w.heap.size w1).alloc HB1.out.size _)) HZ.out.1 (by simp; omega) (by simp) ?_; rw [List.nil_append]; intro v4 w4 hown hg; obtain ⟨A4, c4, rfl, n4, l4, k4⟩ := hown.shape0; have HO4 := Lib.hid hown.ts; have HN4 := Lib.hid (And.intro n4 (And.intro l4 k4)); have HB4 := Lib.hid ((HB1.out.alloc HB1.out.size (.cells #[] 45)).grown hg (by simp; omega) (fun k hk => by obtain rfl := Option.some.inj hk; exact hs1)); have hs4 : w.heap.size ≤ w4.heap.size := HB4.out.size; clear hown hg n4 l4 k4)
      | (at_builtin; refine wpList_append_ts rfl (.tmp 42) (.tmp 43) 22 rfl Try.underlying22 w4.heap.size _ [] rfl (World.ownsRow_made w4 #[] 0 (Nat.le_refl _) (by decide) rfl) w.heap.size A2 c2 l2 rfl ((HT2.out.below HB4.out).below ((Below.refl w.heap.size w4).alloc HB4.out.size _)) HZ.out.2 (by simp; omega) (by simp) ?_; rw [List.nil_append]; intro v5 w5 hown hg; obtain ⟨A5, c5, rfl, n5, l5, k5⟩ := hown.shape0; have HO5 := Lib.hid hown.ts; have HN5 := Lib.hid (And.intro n5 (And.intro l5 k5)); have hbx : Below w4.heap.size w4 w5 := ((Below.refl w4.heap.size w4).alloc (Nat.le_refl _) (.cells #[] 45)).grown hg (by simp) (fun k hk => by obtain rfl := Option.some.inj hk; exact Nat.le_refl _); have HO45 := Lib.hid (HO4.out.on hbx hbx.size); have HB5 := Lib.hid (HB4.out.trans (hbx.mono hs4)); clear hown hg n5 l5 k5 hbx)
      | fail)
    refine (HMg.out w5 A4 A5 c4 c5 HO45.out HO5.out HN4.out.1 HN5.out.1 HN4.out.2 HN5.out.2).mono ?_
    rintro e w6 ⟨A6, c6, rfl, ht, hb⟩
    have HO6 := Lib.hid ht
    have HB6 := Lib.hid (HB5.out.trans (hb.mono HB5.out.size))
    clear ht hb HO4 HO5 HO45 HN4 HN5 HB1 HB4 HB5 HMg HZ HT1 HT2 hs1 hs4
    go_wp2_with fail
    refine (HMr.out w6 HB6.out).mono ?_
    rintro e w7 ⟨A7, c7, rfl, ht, hb⟩
    have HP7 := Lib.hid ht
    have HO7 := Lib.hid (HO6.out.on hb hb.size)
    have HB7 := Lib.hid (HB6.out.trans (hb.mono HB6.out.size))
    clear ht hb HO6 HB6 HMr
    go_wp2_with fail
    refine (HBk.out w7 HB7.out).mono ?_
    rintro e w8 ⟨A8, c8, rfl, ht, hb⟩
    have HQ8 := Lib.hid ht
    have HP8 := Lib.hid (HP7.out.on hb hb.size)
    have HO8 := Lib.hid (HO7.out.on hb hb.size)
    have HB8 := Lib.hid (HB7.out.trans (hb.mono HB7.out.size))
    clear ht hb HO7 HP7 HB7 HBk
    go_wp2_with fail
    refine (HBr.out w8 HB8.out).mono ?_
    rintro e w9 ⟨A9, c9, rfl, ht, hb⟩
    have HS9 := Lib.hid ht
    have HQ9 := Lib.hid (HQ8.out.belowH hb)
    have HP9 := Lib.hid (HP8.out.on hb hb.size)
    have HO9 := Lib.hid (HO8.out.on hb hb.size)
    have HB9 := Lib.hid (HB8.out.trans (hb.mono HB8.out.size))
    clear ht hb HO8 HP8 HQ8 HB8 HBr
    go_wp2_with fail
    refine (own_any A3 c3 L.length L w9 w.heap.size rfl (HR.out.below HB9.out) HB9.out.size (by omega)).mono ?_
    rintro e w10 ⟨A10, c10, rfl, ht, hb⟩
    have HW10 := Lib.hid ht.rb
    have HS10 := Lib.hid (HS9.out.belowH hb)
    have HQ10 := Lib.hid (HQ9.out.belowH hb)
    have HP10 := Lib.hid (HP9.out.on hb hb.size)
    have HO10 := Lib.hid (HO9.out.on hb hb.size)
    have HB10 := Lib.hid (HB9.out.trans (hb.mono HB9.out.size))
    clear ht hb HO9 HP9 HQ9 HS9 HB9
    go_wp2_with fail
    refine (HRk.out w10 A10 c10 HW10.out).mono ?_
    rintro e w11 ⟨A11, c11, rfl, ht, hb⟩
    have HX11 := Lib.hid ht
    have HS11 := Lib.hid (HS10.out.belowH hb)
    have HQ11 := Lib.hid (HQ10.out.belowH hb)
    have HP11 := Lib.hid (HP10.out.on hb hb.size)
    have HO11 := Lib.hid (HO10.out.on hb hb.size)
    have HB11 := Lib.hid (HB10.out.trans (hb.mono HB10.out.size))
    clear ht hb HO10 HP10 HQ10 HS10 HB10 HW10 HRk
    go_wp2_with fail
    refine (HRr.out w11 HB11.out).mono ?_
    rintro e w12 ⟨A12, c12, rfl, ht, hb⟩
    have HY12 := Lib.hid ht
    have HX12 := Lib.hid (HX11.out.on hb hb.size)
    have HS12 := Lib.hid (HS11.out.belowH hb)
    have HQ12 := Lib.hid (HQ11.out.belowH hb)
    have HP12 := Lib.hid (HP11.out.on hb hb.size)
    have HO12 := Lib.hid (HO11.out.on hb hb.size)
    have HB12 := Lib.hid (HB11.out.trans (hb.mono HB11.out.size))
    clear ht hb HO11 HP11 HQ11 HS11 HX11 HB11 HRr
    go_wp2_with fail
    refine (HTt.out w12 A6 A7 c6 c7 HO12.out HP12.out).mono ?_
    rintro e w13 ⟨rfl, hb⟩
    have HY13 := Lib.hid (HY12.out.on hb hb.size)
    have HX13 := Lib.hid (HX12.out.on hb hb.size)
    have s1 := str_rb w13 _ A8 c8 DB.length DB (HQ12.out.belowH hb) rfl
    have s2 := str_rb w13 _ A9 c9 DB.length DB (HS12.out.belowH hb) rfl
    have HB13 := Lib.hid (HB12.out.trans (hb.mono HB12.out.size))
    clear hb HO12 HP12 HQ12 HS12 HX12 HY12 HB12 HTt
    generalize strOfNums DB = SB at *
    go_wp2_with fail
    clear s1 s2
    refine (HTr.out w13 A11 A12 c11 c12 HX13.out HY13.out).mono ?_
    rintro e w14 ⟨rfl, hb⟩
    have HB14 := Lib.hid (HB13.out.trans (hb.mono HB13.out.size))
    clear hb HX13 HY13 HB13 HTr
    go_wp2_with fail
    refine (HCk.out w14 HB14.out).mono ?_
    rintro e w15 ⟨rfl, hb⟩
    have HB15 := Lib.hid (HB14.out.trans (hb.mono HB14.out.size))
    clear hb HB14 HCk
    go_wp2_with fail
    refine (HCr.out w15 HB15.out).mono ?_
    rintro e w16 ⟨rfl, hb⟩
    have HB16 := Lib.hid (HB15.out.trans (hb.mono HB15.out.size))
    clear hb HB15 HCr
    go_wp2_with fail
    refine (HDk.out w16 HB16.out).mono ?_
    rintro e w17 ⟨v17, rfl, ho, hb⟩
    obtain ⟨A17, c17, rfl⟩ := row_shape ho
    have HM17 := Lib.hid (NsAt.own ho)
    have HB17 := Lib.hid (HB16.out.trans (hb.mono HB16.out.size))
    clear ho hb HB16 HDk
    go_wp2_with fail
    refine (HDr.out w17 HB17.out).mono ?_
    rintro e w18 ⟨v18, rfl, ho, hb⟩
    obtain ⟨A18, c18, rfl⟩ := row_shape ho
    have HN18 := Lib.hid (NsAt.own ho)
    have HM18 := Lib.hid ((HM17.out.below hb).more hb.size)
    have HB18 := Lib.hid (HB17.out.trans (hb.mono HB17.out.size))
    clear ho hb HB17 HDr HM17
    go_wp2_with fail
    refine (HTi.out w18 A17 A18 c17 c18 HM18.out HN18.out).mono ?_
    rintro e w19 ⟨rfl, hb⟩
    have HB19 := Lib.hid (HB18.out.trans (hb.mono HB18.out.size))
    clear hb HB18 HM18 HN18 HTi
    go_wp2_with fail
    refine (HEk.out w19 HB19.out).mono ?_
    rintro e w20 ⟨rfl, hb⟩
    have HB20 := Lib.hid (HB19.out.trans (hb.mono HB19.out.size))
    clear hb HB19 HEk
    go_wp2_with fail
    refine (HEr.out w20 HB20.out).mono ?_
    rintro e w21 ⟨rfl, hb⟩
    have HB21 := Lib.hid (HB20.out.trans (hb.mono HB20.out.size))
    clear hb HB20 HEr
    go_wp2_with fail
    refine (HYk.out w21 HB21.out).mono ?_
    rintro e w22 ⟨rfl, hb⟩
    have HB22 := Lib.hid (HB21.out.trans (hb.mono HB21.out.size))
    clear hb HB21 HYk
    go_wp2_with fail
    refine (HYr.out w22 HB22.out).mono ?_
    rintro e w23 ⟨rfl, hb⟩
    have HB23 := Lib.hid (HB22.out.trans (hb.mono HB22.out.size))
    clear hb HB22 HYr
    go_wp2_with fail
    refine (HUk.out w23 HB23.out).mono ?_
    rintro e w24 ⟨rfl, hb⟩
    have HB24 := Lib.hid (HB23.out.trans (hb.mono HB23.out.size))
    clear hb HB23 HUk
    go_wp2_with fail
    refine (HUr.out w24 HB24.out).mono ?_
    rintro e w25 ⟨rfl, hb⟩
    have HB25 := Lib.hid (HB24.out.trans (hb.mono HB24.out.size))
    clear hb HB24 HUr
    go_wp2_with fail
    go_ret
    exact ⟨by first | rfl | simp, HB25.out⟩
end Go.Proofs.Ytofenjloieagaaa
