
/- The walk of EventBack. -/
import Derived.Test.YtpkmphalhmmbkaaDoorF8
import Derived.Test.YtpkmphalhmmbkaaDoorG6
import Derived.Test.YtpkmphalhmmbkaaDoorG7
import Derived.Test.YtpkmphalhmmbkaaDoorG4
import Derived.Test.YtpkmphalhmmbkaaDoorY
import Derived.Deep.DeepCutAuto
namespace Go.Proofs.YtpkmphalhmmbkaaDoor
open Go.RowKit
set_option linter.unusedSimpArgs false
set_option linter.unusedVariables false
set_option maxRecDepth 100000

/-- What Read of some bytes, Parse of some text answer: an event's numbers and an error. -/
def Gave (t c s k a b z : Int) (B : Nat) (w : World) (e : Ending) (w' : World) : Prop := e = .returned (.tuple #[.agg #[.int .i64 t, .int .i64 c, .int .i64 s, .int .i64 k, .int .i64 a, .int .i64 b], .int .i64 z]) ∧ Below B w w'

theorem read_gave (A : Option Addr) (c n : Nat) (l : List Int) (w : World) (hn : n = l.length) (h : RB w w.heap.size A c l) (hlen : l.length ≤ 1099511627776) : ∃ (x : Ev) (z : Int), ((z = 0 ∧ x.May ∧ evB x = l) ∨ z = 4) ∧
    Calls Tryd.prog 12 #[.slice A n c] w (Gave x.time x.chip x.seq x.kind x.a x.b z w.heap.size w) := by
  by_cases hk : erdE l = 0 ∧ (erdX l).May
  · refine ⟨erdX l, 0, .inl ⟨rfl, hk.2, erd_back l h.bytes hk.1 hk.2⟩, (eread_any A c n l w _ hn h (Nat.le_refl _) hlen).mono ?_⟩
    rintro e w' ⟨he, hb⟩
    rcases he with ⟨_, he⟩ | ⟨hn, _⟩
    · exact ⟨he, hb⟩
    · exact absurd hk hn
  · refine ⟨zeroE, 4, .inr rfl, (eread_any A c n l w _ hn h (Nat.le_refl _) hlen).mono ?_⟩
    rintro e w' ⟨he, hb⟩
    rcases he with ⟨hn, _⟩ | ⟨_, he⟩
    · exact absurd hn hk
    · exact ⟨he, hb⟩
theorem read_self (A : Option Addr) (c n : Nat) (x : Ev) (hm : x.May) (w : World) (hn : n = (evB x).length) (h : RB w w.heap.size A c (evB x)) (hlen : (evB x).length ≤ 1099511627776) :
    Calls Tryd.prog 12 #[.slice A n c] w (Gave x.time x.chip x.seq x.kind x.a x.b 0 w.heap.size w) := by
  refine (eread_any A c n _ w _ hn h (Nat.le_refl _) hlen).mono ?_
  rintro e w' ⟨he, hb⟩
  obtain ⟨h1, h2⟩ := erd_self x hm
  rw [h1, h2] at he
  rcases he with ⟨_, he⟩ | ⟨hn, _⟩
  · exact ⟨he, hb⟩
  · exact absurd ⟨rfl, hm⟩ hn
theorem read_none (A : Option Addr) (c n : Nat) (l : List Int) (hz : erdE l ≠ 0) (w : World) (hn : n = l.length) (h : RB w w.heap.size A c l) (hlen : l.length ≤ 1099511627776) :
    Calls Tryd.prog 12 #[.slice A n c] w (Gave 0 0 0 0 0 0 4 w.heap.size w) := by
  refine (eread_any A c n _ w _ hn h (Nat.le_refl _) hlen).mono ?_
  rintro e w' ⟨he, hb⟩
  rcases he with ⟨hn, _⟩ | ⟨_, he⟩
  · exact absurd hn.1 hz
  · exact ⟨he, hb⟩
theorem parse_gave (s : ByteArray) (w : World) (hV : Vars w) (hs : s.size ≤ 1000) : ∃ (x : Ev) (z : Int), ((z = 0 ∧ x.May ∧ (⟨(textE x).toArray⟩ : ByteArray) = s) ∨ z = 4) ∧
    Calls Tryd.prog 7 #[.string s] w (Gave x.time x.chip x.seq x.kind x.a x.b z w.heap.size w) := by
  by_cases hk : Told s
  · refine ⟨sayE s, 0, .inl ⟨rfl, hk.2.1, by rw [hk.2.2]⟩, (parse_any s w hV hs).mono ?_⟩
    rintro e w' ⟨he, hb⟩
    rcases he with ⟨_, he⟩ | ⟨hn, _⟩
    · exact ⟨he, hb⟩
    · exact absurd hk hn
  · refine ⟨zeroE, 4, .inr rfl, (parse_any s w hV hs).mono ?_⟩
    rintro e w' ⟨he, hb⟩
    rcases he with ⟨hn, _⟩ | ⟨_, he⟩
    · exact absurd hn hk
    · exact ⟨he, hb⟩
theorem parse_self (x : Ev) (hm : x.May) (w : World) (hV : Vars w) : Calls Tryd.prog 7 #[.string ⟨(textE x).toArray⟩] w (Gave x.time x.chip x.seq x.kind x.a x.b 0 w.heap.size w) := by
  have hl := textE_len x hm
  obtain ⟨h1, h2⟩ := told_text x hm
  refine (parse_any _ w hV (by rw [ByteArray.size]; simp only [List.size_toArray]; omega)).mono ?_
  rintro e w' ⟨he, hb⟩
  rw [h2] at he
  rcases he with ⟨_, he⟩ | ⟨hn, _⟩
  · exact ⟨he, hb⟩
  · exact absurd h1 hn

theorem bytes_of (x : Ev) (l : List Int) (hm : x.May) (hl : evB x = l) (w : World) : Calls Tryd.prog 14 #[.agg #[.int .i64 x.time, .int .i64 x.chip, .int .i64 x.seq, .int .i64 x.kind, .int .i64 x.a, .int .i64 x.b]] w fun e w' => ∃ A c, e = .returned (.tuple #[.slice A l.length c, .int .i64 0]) ∧ OB w' w.heap.size A c l ∧ Below w.heap.size w w' := by
  subst hl
  exact ebytes_may w x hm
theorem text_of (x : Ev) (s : ByteArray) (hm : x.May) (hs : (⟨(textE x).toArray⟩ : ByteArray) = s) (w : World) (hV : Vars w) : Calls Tryd.prog 15 #[.agg #[.int .i64 x.time, .int .i64 x.chip, .int .i64 x.seq, .int .i64 x.kind, .int .i64 x.a, .int .i64 x.b]] w fun e w' => e = .returned (.string s) ∧ Below w.heap.size w w' := by
  subst hs
  exact text_may w x hV hm

theorem bytes_bad (x : Ev) (hm : ¬ x.May) (w : World) : Calls Tryd.prog 14 #[.agg #[.int .i64 x.time, .int .i64 x.chip, .int .i64 x.seq, .int .i64 x.kind, .int .i64 x.a, .int .i64 x.b]] w fun e w' => e = .returned (.tuple #[.slice none 0 0, .int .i64 2]) ∧ Below w.heap.size w w' := ebytes_not w x hm
theorem text_bad (x : Ev) (hm : ¬ x.May) (w : World) : Calls Tryd.prog 15 #[.agg #[.int .i64 x.time, .int .i64 x.chip, .int .i64 x.seq, .int .i64 x.kind, .int .i64 x.a, .int .i64 x.b]] w fun e w' => e = .returned (.string ⟨#[]⟩) ∧ Below w.heap.size w w' := text_not w x hm
theorem check_bad (x : Ev) (hm : ¬ x.May) (w : World) : Calls Tryd.prog 11 #[.agg #[.int .i64 x.time, .int .i64 x.chip, .int .i64 x.seq, .int .i64 x.kind, .int .i64 x.a, .int .i64 x.b]] w fun e w' => e = .returned (.int .i64 2) ∧ Below w.heap.size w w' := by
  refine (echeck_any w x).mono ?_
  rintro e w' ⟨he, hb⟩
  rcases he with ⟨_, h⟩ | ⟨he, _⟩
  · exact absurd h hm
  · exact ⟨he, hb⟩

set_option maxHeartbeats 6400000 in
theorem walk_EventBack (w : World) (hV : Vars w) (a : Ev) (_ : a.wf) (A : Option Addr) (c n : Nat) (l : List Int) (hn : n = l.length) (hr : RB w w.heap.size A c l) (s : ByteArray) (hsm : s.size ≤ maxLen) : Calls Tryd.prog 4 #[a.val, .slice A n c, .string s] w fun e w' => e = .returned (.bool true) ∧ Below w.heap.size w w' := by
  subst hn
  unfold maxLen at hsm
  have hln := hr.le
  have hcp := hr.cap
  unfold maxLen at hcp
  have hE1 := EW.laid w a
  have hB1 : Below w.heap.size w (w.alloc (evO a)) := (Below.refl _ _).alloc (Nat.le_refl _) _
  have HL := Lib.hid (lives3_any _ (hV.on hB1))
  have hsz : (w.alloc (evO a)).heap.size = w.heap.size + 1 := by simp
  unfold Ev.val
  go_enter Tryd.func4, Tryd.ntmps4
  go_wp2_with fail
  refine HL.out.mono ?_
  rintro e w2 ⟨rfl, hb⟩
  have hE2 := hE1.below hb (by rw [hsz]; omega)
  have hB2 : Below w.heap.size w w2 := hB1.trans (hb.mono (by rw [hsz]; omega))
  clear hE1 hB1 HL hb hsz
  by_cases h1 : 300 < l.length
  · go_wp2_with fail
    go_ret
    exact ⟨rfl, hB2⟩
  by_cases h2 : 300 < s.size
  · have h1' : l.length ≤ 300 := by omega
    go_wp2_with fail
    go_ret
    exact ⟨rfl, hB2⟩
  have h1' : l.length ≤ 300 := by omega
  have h2' : s.size ≤ 300 := by omega
  clear h1 h2
  have hr2 := (hr.below hB2).more hB2.size
  go_wp2_with fail
  refine (own_any A c _ l w2 w2.heap.size rfl hr2 (Nat.le_refl _) (by omega)).mono ?_
  rintro e w3 ⟨A3, c3, rfl, ho3, hb⟩
  have hE3 := hE2.below hb hE2.lt
  have hB3 := hB2.trans (hb.mono hB2.size)
  clear hE2 hB2 hb hr2
  obtain ⟨U, zU, hU, hC⟩ := read_gave A3 c3 l.length l w3 rfl ho3.rb (by omega)
  have HC := Lib.hid hC
  have HU := Lib.hid hU
  clear hC hU ho3
  go_wp2_with fail
  refine HC.out.mono ?_
  rintro e w4 ⟨rfl, hb⟩
  have hE4 := hE3.below hb hE3.lt
  have hB4 := hB3.trans (hb.mono hB3.size)
  clear hE3 hB3 hb HC
  go_upto_if 38 with fail
  go_cut [] (fun wc => EW wc w.heap.size a ∧ Below w.heap.size w wc)
  case first =>
    have hU := HU.out
    clear HU
    have hE5 := hE4.more (evO U)
    have hB5 : Below w.heap.size w (w4.alloc (evO U)) := hB4.alloc hB4.size _
    rcases hU with ⟨hz, hm, hbs⟩ | hz
    · subst hz
      have BU := Lib.hid (bytes_of U l hm hbs)
      clear hm hbs
      go_wp2_with fail
      refine (BU.out _).mono ?_
      rintro e w6 ⟨A5, c5, rfl, ho5, hb⟩
      have hE6 := hE5.below hb hE5.lt
      have hB6 := hB5.trans (hb.mono hB5.size)
      have hr6 := hr.below hB6
      have q1 := str_rb w6 _ A5 c5 l.length l ho5.rb rfl
      have q2 := str_rb w6 _ A c l.length l hr6 rfl
      generalize strOfNums l = S at q1 q2
      clear hb hE5 hB5 ho5 hE4 hB4 BU
      go_wp2_with fail
      go_meet
      exact ⟨hE6, hB6⟩
    · subst hz
      clear hE4 hB4
      go_wp2_with fail
      go_meet
      exact ⟨hE5, hB5⟩
  case rest =>
    obtain ⟨hE6, hB6⟩ := hcut
    clear hE4 hB4 HU
    obtain ⟨V, zV, hP, hC⟩ := parse_gave s wc (hV.on hB6) (by omega)
    have HC := Lib.hid hC
    have HP := Lib.hid hP
    clear hC hP
    go_wp2_with fail
    refine HC.out.mono ?_
    rintro e w7 ⟨rfl, hb⟩
    have hE7 := hE6.below hb hE6.lt
    have hB7 := hB6.trans (hb.mono hB6.size)
    clear hE6 hB6 hb HC
    go_upto_region 11 with fail
    go_cut [65] (fun v wc => v = .bool false ∧ EW wc w.heap.size a ∧ Below w.heap.size w wc)
    case first =>
      have hE8 := hE7.more (evO V)
      have hB8 : Below w.heap.size w (w7.alloc (evO V)) := hB7.alloc hB7.size _
      have hP := HP.out
      clear HP
      rcases hP with ⟨hz, hm, ht⟩ | hz
      · subst hz
        have TV := Lib.hid (text_of V s hm ht)
        clear hm ht
        go_wp2_with fail
        refine (TV.out _ (hV.on hB8)).mono ?_
        rintro e w9 ⟨rfl, hb⟩
        have hE9 := hE8.below hb hE8.lt
        have hB9 := hB8.trans (hb.mono hB8.size)
        clear hb hE8 hB8 hE7 hB7 TV
        go_wp2_with fail
        go_meet
        exact ⟨rfl, hE9, hB9⟩
      · subst hz
        clear hE7 hB7
        go_wp2_with fail
        go_meet
        exact ⟨rfl, hE8, hB8⟩
    case rest =>
      obtain ⟨rfl, hE9, hB9⟩ := hcut
      clear hE7 hB7 HP
      by_cases hm : a.May
      · have hl45 : (evB a).length ≤ 45 ∧ 5 ≤ (evB a).length := by
          have g1 := numB_length a.kind.toNat
          have g2 := numB_length a.time.toNat
          have g3 := numB_length a.seq.toNat
          have g4 := numB_length a.a.toNat
          have g5 := numB_length a.b.toNat
          unfold evB
          simp only [List.length_append, List.length_nil]
          omega
        have BA := Lib.hid (fun w => bytes_of a (evB a) hm rfl w)
        have RS := Lib.hid (fun A c w h => read_self A c (evB a).length a hm w rfl h (by omega))
        have TA := Lib.hid (fun w hV => text_of a _ hm rfl w hV)
        have PA := Lib.hid (fun w hV => parse_self a hm w hV)
        have RM := Lib.hid (fun A c w h => read_none A c (evB a ++ [0]).length (evB a ++ [0]) (erd_more a hm 0) w rfl h (by rw [List.length_append]; simp; omega))
        have RL := Lib.hid (fun A c w h => read_none A c _ _ (erd_less a hm) w rfl h (by rw [List.length_take]; omega))
        obtain ⟨D, hD⟩ : ∃ D, evB a = D := ⟨_, rfl⟩
        obtain ⟨T, hT⟩ : ∃ T : ByteArray, (⟨(textE a).toArray⟩ : ByteArray) = T := ⟨_, rfl⟩
        rw [hD] at BA RS RM RL hl45
        rw [hT] at TA PA
        obtain ⟨Z, hZ⟩ : ∃ Z, D ++ [0] = Z := ⟨_, rfl⟩
        rw [hZ] at RM
        obtain ⟨mm, hmm⟩ : ∃ mm, D.length = mm + 1 := ⟨D.length - 1, by omega⟩
        have hm1 : (D.length : Int) - 1 = (mm : Int) := by omega
        have hlm : (D.take (D.length - 1)).length = mm := by rw [List.length_take]; omega
        rw [hlm] at RL
        have HZ := Lib.hid hZ
        have HMM := Lib.hid hmm
        have HM1 := Lib.hid hm1
        have HM := Lib.hid hm
        clear hD hT hZ hmm hm1 hlm hm
        obtain ⟨c0, c1, c2, c3', c4, c5⟩ := hE9.ev
        go_wp2_with fail
        clear c0 c1 c2 c3' c4 c5
        refine (BA.out _).mono ?_
        rintro e w10 ⟨A6, c6, rfl, ho6, hb⟩
        have hE10 := hE9.below hb hE9.lt
        have hB10 := hB9.trans (hb.mono hB9.size)
        have hq10 := ho6.rb
        clear hE9 hB9 hb ho6 BA
        go_wp2_with fail
        refine (RS.out A6 c6 w10 hq10).mono ?_
        rintro e w11 ⟨rfl, hb⟩
        have hE12 := (hE10.below hb hE10.lt).more (evO a)
        have hX12 := EW.laid w11 a
        have hB11 := hB10.trans (hb.mono hB10.size)
        have hB12 : Below w.heap.size w (w11.alloc (evO a)) := hB11.alloc hB11.size _
        have hq12 := (hq10.belowH hb).belowH ((Below.refl w11.heap.size w11).alloc (Nat.le_refl _) (evO a))
        clear hE10 hB10 hq10 hb RS hB11
        obtain ⟨c0, c1, c2, c3', c4, c5⟩ := hE12.ev
        go_wp2_with fail
        clear c0 c1 c2 c3' c4 c5
        refine (TA.out _ (hV.on hB12)).mono ?_
        rintro e w13 ⟨rfl, hb⟩
        have hE13 := hE12.below hb hE12.lt
        have hX13 := hX12.below hb hX12.lt
        have hB13 := hB12.trans (hb.mono hB12.size)
        have hq13 := hq12.belowH hb
        clear hE12 hX12 hB12 hq12 hb TA
        go_wp2_with fail
        refine (PA.out _ (hV.on hB13)).mono ?_
        rintro e w14 ⟨rfl, hb⟩
        have hE15 := (hE13.below hb hE13.lt).more (evO a)
        have hX15 := (hX13.below hb hX13.lt).more (evO a)
        have hY15 := EW.laid w14 a
        have hB14 := hB13.trans (hb.mono hB13.size)
        have hB15 : Below w.heap.size w (w14.alloc (evO a)) := hB14.alloc hB14.size _
        have hq15 := (hq13.belowH hb).belowH ((Below.refl w14.heap.size w14).alloc (Nat.le_refl _) (evO a))
        clear hE13 hX13 hB13 hq13 hb PA hB14
        go_wp2_with fail
        refine (own_any A6 c6 _ D _ _ rfl hq15 (Nat.le_refl _) (by omega)).mono ?_
        rintro e w16 ⟨A7, c7, rfl, ho7, hb⟩
        have hE16 := hE15.below hb hE15.lt
        have hX16 := hX15.below hb hX15.lt
        have hY16 := hY15.below hb hY15.lt
        have hB16 := hB15.trans (hb.mono hB15.size)
        have hq16 := hq15.belowH hb
        have hs16 := hb.size
        have hq16' := hq15.below hb
        have le0 := hE15.lt
        have le1 := hX15.lt
        have le2 := hY15.lt
        clear hE15 hX15 hY15 hq15 hb
        obtain ⟨bs, hbs⟩ : ∃ bs, (w14.alloc (evO a)).heap.size = bs := ⟨_, rfl⟩
        rw [hbs] at hs16 hq16' le0 le1 le2 ho7
        clear hbs
        go_wp2_with (at_builtin; refine wpList_append_rb _ rfl _ _ rfl bs (w16.heap.size + 1) A7 _ c7 D rfl rfl (ho7.alloc _) _ _ _ [0] rfl rfl (RB.lit1 w16 0 (by omega) (by omega)) (by simp; omega) (by simp; omega) ?_; intro A8 c8 w17 hob hbel hne; rw [HZ.out] at hob ⊢)
        have hE17 := (hE16.more (.cells #[.int .u8 0] 5)).below hbel le0
        have hX17 := (hX16.more (.cells #[.int .u8 0] 5)).below hbel le1
        have hY17 := (hY16.more (.cells #[.int .u8 0] 5)).below hbel le2
        have hB17 : Below w.heap.size w w17 := (hB16.alloc hB16.size _).trans (hbel.mono (by omega))
        have hq17 := (hq16'.alloc hs16 (.cells #[.int .u8 0] 5)).below hbel
        have hz17 : bs ≤ w17.heap.size := by have := hbel.size; simp at this; omega
        have ho17 := hob.rb
        clear hE16 hX16 hY16 hB16 hq16 hq16' ho7 hs16 hob hbel hne
        refine (RM.out A8 c8 w17 ho17).mono ?_
        rintro e w18 ⟨rfl, hb⟩
        have hE19 := (hE17.below hb hE17.lt).more (evO zeroE)
        have hX19 := (hX17.below hb hX17.lt).more (evO zeroE)
        have hY19 := (hY17.below hb hY17.lt).more (evO zeroE)
        have hB18 := hB17.trans (hb.mono hB17.size)
        have hB19 : Below w.heap.size w (w18.alloc (evO zeroE)) := hB18.alloc hB18.size _
        have hz18 : bs ≤ w18.heap.size := by have := hb.size; omega
        have hq19 := (hq17.below (hb.mono hz17)).alloc hz18 (evO zeroE)
        clear hE17 hX17 hY17 hB17 hq17 hb hz17 ho17 RM hB18
        obtain ⟨b6, o6, rfl, _, _⟩ := hq19.pos (by omega)
        have hm1 := HM1.out
        have hlc := hq19.le
        have hcm : c6 ≤ 9223372036854775807 := by have := hq19.cap; unfold maxLen at this; omega
        have hmle : mm ≤ c6 := by have := HMM.out; omega
        have hpre := hq19.pre (D.length - 1) (by omega)
        have hpre2 := hpre.more (show bs ≤ (w18.alloc (evO zeroE)).heap.size by simp; omega)
        clear hpre hq19
        go_wp2_with fail
        clear hm1 hlc hcm hmle
        refine (RL.out (some ⟨b6, o6, none⟩) c6 _ hpre2).mono ?_
        rintro e w20 ⟨rfl, hb⟩
        have hE21 := (hE19.below hb hE19.lt).more (evO zeroE)
        have hX21 := (hX19.below hb hX19.lt).more (evO zeroE)
        have hY21 := (hY19.below hb hY19.lt).more (evO zeroE)
        have hB20 := hB19.trans (hb.mono hB19.size)
        have hB21 : Below w.heap.size w (w20.alloc (evO zeroE)) := hB20.alloc hB20.size _
        clear hE19 hX19 hY19 hB19 hb RL hpre2 hB20
        obtain ⟨c0, c1, c2, c3', c4, c5⟩ := hE21.ev
        obtain ⟨d0, d1, d2, d3, d4, d5⟩ := hX21.ev
        obtain ⟨f0, f1, f2, f3, f4, f5⟩ := hY21.ev
        simp only [evO, zeroE] at c0 c1 c2 c3' c4 c5 d0 d1 d2 d3 d4 d5 f0 f1 f2 f3 f4 f5
        go_wp2_with fail
        go_ret
        exact ⟨rfl, hB21⟩
      · have BN := Lib.hid (fun w => bytes_bad a hm w)
        have TN := Lib.hid (fun w => text_bad a hm w)
        have CN := Lib.hid (fun w => check_bad a hm w)
        clear hm
        obtain ⟨c0, c1, c2, c3', c4, c5⟩ := hE9.ev
        go_wp2_with fail
        clear c0 c1 c2 c3' c4 c5
        refine (BN.out _).mono ?_
        rintro e w10 ⟨rfl, hb⟩
        have hE10 := hE9.below hb hE9.lt
        have hB10 := hB9.trans (hb.mono hB9.size)
        clear hE9 hB9 hb BN
        obtain ⟨c0, c1, c2, c3', c4, c5⟩ := hE10.ev
        go_wp2_with fail
        clear c0 c1 c2 c3' c4 c5
        refine (TN.out _).mono ?_
        rintro e w11 ⟨rfl, hb⟩
        have hE11 := hE10.below hb hE10.lt
        have hB11 := hB10.trans (hb.mono hB10.size)
        clear hE10 hB10 hb TN
        obtain ⟨c0, c1, c2, c3', c4, c5⟩ := hE11.ev
        go_wp2_with fail
        clear c0 c1 c2 c3' c4 c5
        refine (CN.out _).mono ?_
        rintro e w12 ⟨rfl, hb⟩
        have hB12 := hB11.trans (hb.mono hB11.size)
        go_wp2_with fail
        go_ret
        exact ⟨rfl, hB12⟩
end Go.Proofs.YtpkmphalhmmbkaaDoor
