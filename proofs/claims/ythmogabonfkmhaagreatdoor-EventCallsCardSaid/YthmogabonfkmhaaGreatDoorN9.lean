
/- EventCalls: what both sides answer, and the walk. -/
import Derived.Test.YthmogabonfkmhaaGreatDoorN3
import Derived.Test.YthmogabonfkmhaaGreatDoorN7
import Derived.Test.YthmogabonfkmhaaGreatDoorF7
import Derived.Test.YthmogabonfkmhaaGreatDoorG4
import Derived.Test.YthmogabonfkmhaaGreatDoorY
import Derived.Deep.DeepCutAuto
namespace Go.Proofs.YthmogabonfkmhaaGreatDoor
open Go.RowKit
set_option linter.unusedSimpArgs false
set_option linter.unusedVariables false
set_option maxRecDepth 100000

/-- What Read of some bytes, Parse of some text answer: an event's numbers and an error. -/
def Gv (x : Ev) (z : Int) (w : World) (e : Ending) (w' : World) : Prop := e = .returned (.tuple #[.agg #[.int .i64 x.time, .int .i64 x.chip, .int .i64 x.seq, .int .i64 x.kind, .int .i64 x.a, .int .i64 x.b], .int .i64 z]) ∧ Below w.heap.size w w'
/-- What Bytes answers. -/
def Bg (l : List Int) (z : Int) (w : World) (e : Ending) (w' : World) : Prop := ∃ A c, e = .returned (.tuple #[.slice A l.length c, .int .i64 z]) ∧ RB w' w'.heap.size A c l ∧ Below w.heap.size w w'

theorem ob_len {w : World} {B : Nat} {A : Option Addr} {c : Nat} {l : List Int} (h : OB w B A c l) : RB w w.heap.size A c l := h.rb

theorem both_bytes (x : Ev) : ∃ (l : List Int) (z : Int), (∀ w, Calls Tryz.prog 5 #[x.val] w (Bg l z w)) ∧ (∀ w, Calls Tryz.prog 6 #[x.val] w (Bg l z w)) := by
  by_cases hm : x.May
  · refine ⟨evB x, 0, fun w => (ebytes_may w x hm).mono ?_, fun w => (r3bytes_any w x).mono ?_⟩
    · rintro e w' ⟨A, c, he, ho, hb⟩
      exact ⟨A, c, he, ho.rb, hb⟩
    · rintro e w' ⟨h, hb⟩
      rcases h with ⟨_, A, c, he, ho⟩ | ⟨hn, _⟩
      · exact ⟨A, c, he, ho.rb, hb⟩
      · exact absurd hm hn
  · refine ⟨[], 2, fun w => (ebytes_not w x hm).mono ?_, fun w => (r3bytes_any w x).mono ?_⟩
    · rintro e w' ⟨he, hb⟩
      exact ⟨none, 0, he, RB.nil _ _, hb⟩
    · rintro e w' ⟨h, hb⟩
      rcases h with ⟨hn, _⟩ | ⟨_, he⟩
      · exact absurd hn hm
      · exact ⟨none, 0, he, RB.nil _ _, hb⟩

theorem both_read (l : List Int) (hb : AllB l) (hlen : l.length ≤ 1000) : ∃ (x : Ev) (z : Int),
    (∀ A c w, RB w w.heap.size A c l → Calls Tryz.prog 7 #[.slice A l.length c] w (Gv x z w)) ∧ (∀ A c w, RB w w.heap.size A c l → Calls Tryz.prog 9 #[.slice A l.length c] w (Gv x z w)) := by
  obtain ⟨ha, hs⟩ := ev_agree l hb
  by_cases hk : erdE l = 0 ∧ (erdX l).May
  · refine ⟨erdX l, 0, fun A c w h => (eread_any A c _ l w _ rfl h (Nat.le_refl _) (by omega)).mono ?_, fun A c w h => (r3read_any A c _ l w _ rfl h (Nat.le_refl _) (by omega)).mono ?_⟩
    · rintro e w' ⟨h, hb⟩
      rcases h with ⟨_, he⟩ | ⟨hn, _⟩
      · exact ⟨he, hb⟩
      · exact absurd hk hn
    · rintro e w' ⟨h, hb⟩
      rcases h with ⟨_, he⟩ | ⟨hn, _⟩
      · exact ⟨by rw [hs hk]; exact he, hb⟩
      · exact absurd (ha.1 hk) hn
  · refine ⟨zeroE, 4, fun A c w h => (eread_any A c _ l w _ rfl h (Nat.le_refl _) (by omega)).mono ?_, fun A c w h => (r3read_any A c _ l w _ rfl h (Nat.le_refl _) (by omega)).mono ?_⟩
    · rintro e w' ⟨h, hb⟩
      rcases h with ⟨hn, _⟩ | ⟨_, he⟩
      · exact absurd hn hk
      · exact ⟨he, hb⟩
    · rintro e w' ⟨h, hb⟩
      rcases h with ⟨hn, _⟩ | ⟨_, he⟩
      · exact absurd (ha.2 hn) hk
      · exact ⟨he, hb⟩

theorem both_parse (s : ByteArray) (hs : s.size ≤ 1000) : ∃ (x : Ev) (z : Int),
    (∀ w, Vars w → Calls Tryz.prog 10 #[.string s] w (Gv x z w)) ∧ (∀ w, Calls Tryz.prog 11 #[.string s] w (Gv x z w)) := by
  obtain ⟨ha, he⟩ := told_same s
  by_cases hk : Told s
  · refine ⟨sayE s, 0, fun w hV => (parse_any s w hV hs).mono ?_, fun w => (rparse_any s w hs).mono ?_⟩
    · rintro e w' ⟨h, hb⟩
      rcases h with ⟨_, he⟩ | ⟨hn, _⟩
      · exact ⟨he, hb⟩
      · exact absurd hk hn
    · rintro e w' ⟨h, hb⟩
      rcases h with ⟨_, h2⟩ | ⟨hn, _⟩
      · exact ⟨by rw [he hk]; exact h2, hb⟩
      · exact absurd (ha.1 hk) hn
  · refine ⟨zeroE, 4, fun w hV => (parse_any s w hV hs).mono ?_, fun w => (rparse_any s w hs).mono ?_⟩
    · rintro e w' ⟨h, hb⟩
      rcases h with ⟨hn, _⟩ | ⟨_, he⟩
      · exact absurd hn hk
      · exact ⟨he, hb⟩
    · rintro e w' ⟨h, hb⟩
      rcases h with ⟨hn, _⟩ | ⟨_, he⟩
      · exact absurd (ha.2 hn) hk
      · exact ⟨he, hb⟩

theorem both_check (x : Ev) : ∃ z : Int, (∀ w, Calls Tryz.prog 16 #[x.val] w fun e w' => e = .returned (.int .i64 z) ∧ Below w.heap.size w w') ∧ (∀ w, Calls Tryz.prog 17 #[x.val] w fun e w' => e = .returned (.int .i64 z) ∧ Below w.heap.size w w') := by
  by_cases hm : x.May
  · refine ⟨0, fun w => (echeck_any w x).mono ?_, fun w => (r3check_any w x).mono ?_⟩
    all_goals
      rintro e w' ⟨h, hb⟩
      rcases h with ⟨he, _⟩ | ⟨_, hn⟩
      · exact ⟨he, hb⟩
      · exact absurd hm hn
  · refine ⟨2, fun w => (echeck_any w x).mono ?_, fun w => (r3check_any w x).mono ?_⟩
    all_goals
      rintro e w' ⟨h, hb⟩
      rcases h with ⟨_, hn⟩ | ⟨he, _⟩
      · exact absurd hn hm
      · exact ⟨he, hb⟩

theorem both_text (x : Ev) : ∃ T : ByteArray, (∀ w, Vars w → Calls Tryz.prog 20 #[x.val] w fun e w' => e = .returned (.string T) ∧ Below w.heap.size w w') ∧ (∀ w, Calls Tryz.prog 21 #[x.val] w fun e w' => e = .returned (.string T) ∧ Below w.heap.size w w') := by
  by_cases hm : x.May
  · exact ⟨_, fun w hV => text_may w x hV hm, fun w => rtext_may w x hm⟩
  · exact ⟨_, fun w hV => text_not w x hm, fun w => rtext_not w x hm⟩

theorem evq_same (y : Ev) (w : World) : (binOp .eql 23 y.val y.val).run Tryz.prog w = .ok (.bool true) w := by
  unfold Ev.val
  go_simp

set_option maxHeartbeats 6400000 in
theorem walk_EventCalls (w : World) (hV : Vars w) (a : Ev) (_ : a.wf) (b : Ev) (_ : b.wf) (k : Int) (_ : (Lit.int .i64 k).wf = true) (A : Option Addr) (c n : Nat) (l : List Int) (hn : n = l.length) (hr : RB w w.heap.size A c l) (s : ByteArray) (hsm : s.size ≤ maxLen) :
    Calls Tryz.prog 3 #[a.val, b.val, .int .i64 k, .slice A n c, .string s] w fun e w' => e = .returned (.bool true) ∧ Below w.heap.size w w' := by
  subst hn
  unfold maxLen at hsm
  have hln := hr.le
  have hcp := hr.cap
  unfold maxLen at hcp
  have hA1 := (EW.laid w a).more (evO b)
  have hB1 := EW.laid (w.alloc (evO a)) b
  have hW1 : Below w.heap.size w ((w.alloc (evO a)).alloc (evO b)) := ((Below.refl _ _).alloc (Nat.le_refl _) _).alloc (by simp) _
  have HL := Lib.hid (lives3_any _ (hV.on hW1))
  rw [show (w.alloc (evO a)).heap.size = w.heap.size + 1 by simp] at hB1
  have hval : ∀ y : Ev, y.val = .agg #[.int .i64 y.time, .int .i64 y.chip, .int .i64 y.seq, .int .i64 y.kind, .int .i64 y.a, .int .i64 y.b] := fun _ => rfl
  have HV := Lib.hid hval
  obtain ⟨la, za, hba, hbr⟩ := both_bytes a
  obtain ⟨cz, hca, hcr⟩ := both_check a
  obtain ⟨T, hta, htr⟩ := both_text a
  have HBA := Lib.hid hba
  have HBR := Lib.hid hbr
  have HCA := Lib.hid hca
  have HCR := Lib.hid hcr
  have HTA := Lib.hid hta
  have HTR := Lib.hid htr
  have HOA := Lib.hid (fun w => order_any w a b)
  have HOR := Lib.hid (fun w => r3_order w a b)
  clear hval hba hbr hca hcr hta htr
  obtain ⟨o, ho⟩ : ∃ o, ordE a b = o := ⟨_, rfl⟩
  rw [ho] at HOA HOR
  clear ho
  simp only [HV.out] at HBA HBR HCA HCR HTA HTR HOA HOR ⊢
  go_enter Tryz.func3, Tryz.ntmps3
  go_wp2_with fail
  refine HL.out.mono ?_
  rintro e w2 ⟨rfl, hb⟩
  have hA2 := hA1.below hb (by simp; omega)
  have hB2 := hB1.below hb (by simp)
  have hW2 := hW1.trans (hb.mono (by simp; omega))
  clear hA1 hB1 hW1 HL hb
  by_cases h1 : 300 < l.length
  · go_wp2_with fail
    go_ret
    exact ⟨rfl, hW2⟩
  by_cases h2 : 300 < s.size
  · have h1' : l.length ≤ 300 := by omega
    go_wp2_with fail
    go_ret
    exact ⟨rfl, hW2⟩
  have h1' : l.length ≤ 300 := by omega
  have h2' : s.size ≤ 300 := by omega
  clear h1 h2
  obtain ⟨x, zx, hxa, hxr⟩ := both_read l hr.bytes (by omega)
  obtain ⟨y, zy, hya, hyr⟩ := both_parse s (by omega)
  have HXA := Lib.hid hxa
  have HXR := Lib.hid hxr
  have HYA := Lib.hid hya
  have HYR := Lib.hid hyr
  clear hxa hxr hya hyr
  have HR := Lib.hid hr
  clear hr
  obtain ⟨c0, c1, c2, c3, c4, c5⟩ := hA2.ev
  go_wp2_with fail
  clear c0 c1 c2 c3 c4 c5
  refine (HBA.out _).mono ?_
  rintro e w3 ⟨A1, d1, rfl, rb1, hb⟩
  have hA3 := hA2.below hb hA2.lt
  have hB3 := hB2.below hb hB2.lt
  have hW3 := hW2.trans (hb.mono hW2.size)
  have RB1 := Lib.hid rb1
  clear hA2 hB2 hW2 hb rb1
  obtain ⟨c0, c1, c2, c3, c4, c5⟩ := hA3.ev
  go_wp2_with fail
  clear c0 c1 c2 c3 c4 c5
  refine (HBR.out _).mono ?_
  rintro e w4 ⟨A2, d2, rfl, rb2, hb⟩
  have hA4 := hA3.below hb hA3.lt
  have hB4 := hB3.below hb hB3.lt
  have hW4 := hW3.trans (hb.mono hW3.size)
  have RB1' := Lib.hid ((RB1.out.below hb).more hb.size)
  have RB2 := Lib.hid rb2
  clear hA3 hB3 hW3 hb rb2 RB1
  go_wp2_with fail
  refine (own_any A c _ l w4 w4.heap.size rfl ((HR.out.below hW4).more hW4.size) (Nat.le_refl _) (by omega)).mono ?_
  rintro e w5 ⟨A3, d3, rfl, ho3, hb⟩
  have hA5 := hA4.below hb hA4.lt
  have hB5 := hB4.below hb hB4.lt
  have hW5 := hW4.trans (hb.mono hW4.size)
  have RB1 := Lib.hid ((RB1'.out.below hb).more hb.size)
  have RB2' := Lib.hid ((RB2.out.below hb).more hb.size)
  have RB3 := Lib.hid ho3.rb
  clear hA4 hB4 hW4 hb RB1' RB2 ho3
  go_wp2_with fail
  refine (HXA.out _ _ _ RB3.out).mono ?_
  rintro e w6 ⟨rfl, hb⟩
  have hA6 := (hA5.below hb hA5.lt).more (evO x)
  have hB6 := (hB5.below hb hB5.lt).more (evO x)
  have hX6 := EW.laid w6 x
  have hW6 := (hW5.trans (hb.mono hW5.size)).alloc (Nat.le_trans hW5.size hb.size) (evO x)
  have RB1' := Lib.hid ((((RB1.out.below hb).more hb.size).below ((Below.refl w6.heap.size w6).alloc (Nat.le_refl _) (evO x))).more (show w6.heap.size ≤ (w6.alloc (evO x)).heap.size by simp))
  have RB2 := Lib.hid ((((RB2'.out.below hb).more hb.size).below ((Below.refl w6.heap.size w6).alloc (Nat.le_refl _) (evO x))).more (show w6.heap.size ≤ (w6.alloc (evO x)).heap.size by simp))
  clear hA5 hB5 hW5 hb RB1 RB2' RB3
  go_wp2_with fail
  refine (HXR.out A c (w6.alloc (evO x)) ((HR.out.below hW6).more hW6.size)).mono ?_
  rintro e w7 ⟨rfl, hb⟩
  have hA7 := (hA6.below hb hA6.lt).more (evO x)
  have hB7 := (hB6.below hb hB6.lt).more (evO x)
  have hX7 := (hX6.below hb hX6.lt).more (evO x)
  have hY7 := EW.laid w7 x
  have hb2 := hb.alloc hb.size (evO x)
  have hW7 := hW6.trans (hb2.mono hW6.size)
  have RB1 := Lib.hid ((RB1'.out.below hb2).more hb2.size)
  have RB2' := Lib.hid ((RB2.out.below hb2).more hb2.size)
  clear hA6 hB6 hX6 hW6 hb hb2 RB1' RB2
  go_wp2_with fail
  refine (HYA.out _ (hV.on hW7)).mono ?_
  rintro e w8 ⟨rfl, hb⟩
  have hA8 := (hA7.below hb hA7.lt).more (evO y)
  have hB8 := (hB7.below hb hB7.lt).more (evO y)
  have hX8 := (hX7.below hb hX7.lt).more (evO y)
  have hY8 := (hY7.below hb hY7.lt).more (evO y)
  have hM8 := EW.laid w8 y
  have hb2 := hb.alloc hb.size (evO y)
  have hW8 := hW7.trans (hb2.mono hW7.size)
  have RB1' := Lib.hid ((RB1.out.below hb2).more hb2.size)
  have RB2 := Lib.hid ((RB2'.out.below hb2).more hb2.size)
  clear hA7 hB7 hX7 hY7 hW7 hb hb2 RB1 RB2'
  go_wp2_with fail
  refine (HYR.out _).mono ?_
  rintro e w9 ⟨rfl, hb⟩
  have hA9 := (hA8.below hb hA8.lt).more (evO y)
  have hB9 := (hB8.below hb hB8.lt).more (evO y)
  have hX9 := (hX8.below hb hX8.lt).more (evO y)
  have hY9 := (hY8.below hb hY8.lt).more (evO y)
  have hM9 := (hM8.below hb hM8.lt).more (evO y)
  have hN9 := EW.laid w9 y
  have hb2 := hb.alloc hb.size (evO y)
  have hW9 := hW8.trans (hb2.mono hW8.size)
  have RB1 := Lib.hid ((RB1'.out.below hb2).more hb2.size)
  have RB2' := Lib.hid ((RB2.out.below hb2).more hb2.size)
  clear hA8 hB8 hX8 hY8 hM8 hW8 hb hb2 RB1' RB2
  go_upto_region 11 with fail
  obtain ⟨W, hW⟩ : ∃ W, w9.alloc (evO y) = W := ⟨_, rfl⟩
  rw [hW] at hA9 hB9 hX9 hY9 hM9 hN9 hW9 RB1 RB2'
  rw [show w9.alloc (.cells #[.int .i64 y.time, .int .i64 y.chip, .int .i64 y.seq, .int .i64 y.kind, .int .i64 y.a, .int .i64 y.b] 23) = W from hW]
  clear hW
  have PA := Lib.hid (fun p : M.Of (M.Base W) => (hA9.below p.ok.2 hA9.lt).ev)
  have PB := Lib.hid (fun p : M.Of (M.Base W) => (hB9.below p.ok.2 hB9.lt).ev)
  have PX := Lib.hid (fun p : M.Of (M.Base W) => (hX9.below p.ok.2 hX9.lt).ev)
  have PY := Lib.hid (fun p : M.Of (M.Base W) => (hY9.below p.ok.2 hY9.lt).ev)
  have PM := Lib.hid (fun p : M.Of (M.Base W) => (hM9.below p.ok.2 hM9.lt).ev)
  have PN := Lib.hid (fun p : M.Of (M.Base W) => (hN9.below p.ok.2 hN9.lt).ev)
  have VW : ∀ w', M.Base W w' → Vars w' := fun w' h => (hV.on hW9).on h.2
  clear hA9 hB9 hX9 hY9 hM9 hN9
  simp only [List.append_eq, List.cons_append, List.nil_append]
  refine M.region_ (by kernel_rfl) ?_
  have s1 := fun p : M.Of (M.Base W) => run_string_rb p.w _ _ _ _ (RB1.out.below p.ok.2)
  have s2 := fun p : M.Of (M.Base W) => run_string_rb p.w _ _ _ _ (RB2'.out.below p.ok.2)
  have q1 := fun p : M.Of (M.Base W) => evq_same x p.w
  have q2 := fun p : M.Of (M.Base W) => evq_same y p.w
  simp only [HV.out] at q1 q2
  have x0 := fun p => (PX.out p).c0
  have x1 := fun p => (PX.out p).c1
  have x2 := fun p => (PX.out p).c2
  have x3 := fun p => (PX.out p).c3
  have x4 := fun p => (PX.out p).c4
  have x5 := fun p => (PX.out p).c5
  have y0 := fun p => (PY.out p).c0
  have y1 := fun p => (PY.out p).c1
  have y2 := fun p => (PY.out p).c2
  have y3 := fun p => (PY.out p).c3
  have y4 := fun p => (PY.out p).c4
  have y5 := fun p => (PY.out p).c5
  have m0 := fun p => (PM.out p).c0
  have m1 := fun p => (PM.out p).c1
  have m2 := fun p => (PM.out p).c2
  have m3 := fun p => (PM.out p).c3
  have m4 := fun p => (PM.out p).c4
  have m5 := fun p => (PM.out p).c5
  have n0 := fun p => (PN.out p).c0
  have n1 := fun p => (PN.out p).c1
  have n2 := fun p => (PN.out p).c2
  have n3 := fun p => (PN.out p).c3
  have n4 := fun p => (PN.out p).c4
  have n5 := fun p => (PN.out p).c5
  refine M.seg_ [0, 1, 2, 3, 4, 5, 6, 7, 8, 9, 10, 11, 12, 13, 14, 15, 16, 17, 18, 19, 20, 21, 22, 23, 24, 25, 26, 27, 28, 29, 30, 31, 33] 35 _ W (M.Base.refl _) (by kernel_rfl) (by kernel_rfl) (by kernel_rfl) (by simp only [pickOps, mask, plain, List.getElem?_toArray, List.getElem?_cons_zero, List.getElem?_cons_succ, if_true, Bool.false_eq_true, if_false]; rfl) ?_
  repeat (go_big_quiet_step (fail))
  refine wpQuiet_nil ?_
  clear s1 s2 q1 q2 x0 x1 x2 x3 x4 x5 y0 y1 y2 y3 y4 y5 m0 m1 m2 m3 m4 m5 n0 n1 n2 n3 n4 n5
  refine M.calm_ (i := 32) (.int .i64 (chipOf k)) rfl (by kernel_rfl) (by kernel_rfl) (by kernel_rfl) (by kernel_rfl) ?_ ?_
  · intro wz sz
    unfold Oper.does
    go_simp
    exact (chip_any k wz).mono fun e w' ⟨he, hw⟩ => ⟨_, he, rfl, hw ▸ Save.refl _ _⟩
  refine M.calm_ (i := 34) (.int .i64 (chipOf k)) rfl (by kernel_rfl) (by kernel_rfl) (by kernel_rfl) (by kernel_rfl) ?_ ?_
  · intro wz sz
    unfold Oper.does
    go_simp
    exact (rchip_any k wz).mono fun e w' ⟨he, hw⟩ => ⟨_, he, rfl, hw ▸ Save.refl _ _⟩
  go_simp
  refine M.seg_ [35, 36, 37, 38, 40] 28 _ W (M.Base.refl _) (by kernel_rfl) (by kernel_rfl) (by kernel_rfl) (by simp only [pickOps, mask, plain, List.getElem?_toArray, List.getElem?_cons_zero, List.getElem?_cons_succ, if_true, Bool.false_eq_true, if_false]; rfl) ?_
  repeat (go_big_quiet_step (fail))
  refine wpQuiet_nil ?_
  refine M.calm_ (i := 39) (.string (nameOf k)) rfl (by kernel_rfl) (by kernel_rfl) (by kernel_rfl) (by kernel_rfl) ?_ ?_
  · intro wz sz
    unfold Oper.does
    go_simp
    exact (name_any k wz (VW wz sz)).mono fun e w' ⟨he, hw⟩ => ⟨_, he, rfl, hw ▸ Save.refl _ _⟩
  refine M.calm_ (i := 41) (.string (nameOf k)) rfl (by kernel_rfl) (by kernel_rfl) (by kernel_rfl) (by kernel_rfl) ?_ ?_
  · intro wz sz
    unfold Oper.does
    go_simp
    exact (rname_any k wz).mono fun e w' ⟨he, hw⟩ => ⟨_, he, rfl, Save.of_below hw⟩
  have a0 := fun p => (PA.out p).c0
  have a1 := fun p => (PA.out p).c1
  have a2 := fun p => (PA.out p).c2
  have a3 := fun p => (PA.out p).c3
  have a4 := fun p => (PA.out p).c4
  have a5 := fun p => (PA.out p).c5
  go_simp
  refine M.seg_ [42, 43, 44, 45, 47] 21 _ W (M.Base.refl _) (by kernel_rfl) (by kernel_rfl) (by kernel_rfl) (by simp only [pickOps, mask, plain, List.getElem?_toArray, List.getElem?_cons_zero, List.getElem?_cons_succ, if_true, Bool.false_eq_true, if_false]; rfl) ?_
  repeat (go_big_quiet_step (fail))
  refine wpQuiet_nil ?_
  refine M.calm_ (i := 46) (.int .i64 cz) rfl (by kernel_rfl) (by kernel_rfl) (by kernel_rfl) (by kernel_rfl) ?_ ?_
  · intro wz sz
    unfold Oper.does
    go_simp
    exact (HCA.out wz).mono fun e w' ⟨he, hw⟩ => ⟨_, he, rfl, Save.of_below hw⟩
  refine M.calm_ (i := 48) (.int .i64 cz) rfl (by kernel_rfl) (by kernel_rfl) (by kernel_rfl) (by kernel_rfl) ?_ ?_
  · intro wz sz
    unfold Oper.does
    go_simp
    exact (HCR.out wz).mono fun e w' ⟨he, hw⟩ => ⟨_, he, rfl, Save.of_below hw⟩
  have b0 := fun p => (PB.out p).c0
  have b1 := fun p => (PB.out p).c1
  have b2 := fun p => (PB.out p).c2
  have b3 := fun p => (PB.out p).c3
  have b4 := fun p => (PB.out p).c4
  have b5 := fun p => (PB.out p).c5
  go_simp
  refine M.seg_ [49, 50, 51, 52, 53, 55, 56] 12 _ W (M.Base.refl _) (by kernel_rfl) (by kernel_rfl) (by kernel_rfl) (by simp only [pickOps, mask, plain, List.getElem?_toArray, List.getElem?_cons_zero, List.getElem?_cons_succ, if_true, Bool.false_eq_true, if_false]; rfl) ?_
  repeat (go_big_quiet_step (fail))
  refine wpQuiet_nil ?_
  clear b0 b1 b2 b3 b4 b5
  refine M.calm_ (i := 54) (.int .i64 o) rfl (by kernel_rfl) (by kernel_rfl) (by kernel_rfl) (by kernel_rfl) ?_ ?_
  · intro wz sz
    unfold Oper.does
    go_simp
    exact (HOA.out wz).mono fun e w' ⟨he, hw⟩ => ⟨_, he, rfl, Save.of_below hw⟩
  refine M.calm_ (i := 57) (.int .i64 o) rfl (by kernel_rfl) (by kernel_rfl) (by kernel_rfl) (by kernel_rfl) ?_ ?_
  · intro wz sz
    unfold Oper.does
    go_simp
    exact (HOR.out wz).mono fun e w' ⟨he, hw⟩ => ⟨_, he, rfl, Save.of_below hw⟩
  go_simp
  refine M.seg_ [58, 59, 60, 61, 63] 5 _ W (M.Base.refl _) (by kernel_rfl) (by kernel_rfl) (by kernel_rfl) (by simp only [pickOps, mask, plain, List.getElem?_toArray, List.getElem?_cons_zero, List.getElem?_cons_succ, if_true, Bool.false_eq_true, if_false]; rfl) ?_
  repeat (go_big_quiet_step (fail))
  refine wpQuiet_nil ?_
  clear a0 a1 a2 a3 a4 a5
  refine M.calm_ (i := 62) (.string T) rfl (by kernel_rfl) (by kernel_rfl) (by kernel_rfl) (by kernel_rfl) ?_ ?_
  · intro wz sz
    unfold Oper.does
    go_simp
    exact (HTA.out wz (VW wz sz)).mono fun e w' ⟨he, hw⟩ => ⟨_, he, rfl, Save.of_below hw⟩
  refine M.calm_ (i := 64) (.string T) rfl (by kernel_rfl) (by kernel_rfl) (by kernel_rfl) (by kernel_rfl) ?_ ?_
  · intro wz sz
    unfold Oper.does
    go_simp
    exact (HTR.out wz).mono fun e w' ⟨he, hw⟩ => ⟨_, he, rfl, Save.of_below hw⟩
  go_simp
  refine M.seg_ [65, 66, 67] 0 _ W (M.Base.refl _) (by kernel_rfl) (by kernel_rfl) (by kernel_rfl) (by simp only [pickOps, mask, plain, List.getElem?_toArray, List.getElem?_cons_zero, List.getElem?_cons_succ, if_true, Bool.false_eq_true, if_false]; rfl) ?_
  repeat (go_big_quiet_step (fail))
  refine wpQuiet_nil ?_
  refine M.end_ (by kernel_rfl) ?_
  rintro wc sc
  have hF := hW9.trans (sc.2.mono hW9.size)
  go_wp2_with fail
  go_ret
  exact ⟨rfl, hF⟩
end Go.Proofs.YthmogabonfkmhaaGreatDoor
