
/- TstateCalls: the walk. -/
import Derived.Test.YtpkmphalhmmbkaaI2
import Derived.Test.YtpkmphalhmmbkaaM
import Derived.Test.YtpkmphalhmmbkaaC
import Derived.Test.YtpkmphalhmmbkaaV
namespace Go.Proofs.Ytpkmphalhmmbkaa
open Go.RowKit
set_option linter.unusedSimpArgs false
set_option linter.unusedVariables false
set_option maxRecDepth 100000

set_option maxHeartbeats 8000000 in
theorem walk_TstateCalls (w : World) (s : Scr) (_ : s.wf) (t : Int) (ht : (Lit.int .i64 t).wf = true) (u : Int) (hu : (Lit.int .i64 u).wf = true) (p : Int × Int × Int) (_ : SpotWf p) (A : Option Addr) (c n : Nat) (l : List Int) (hn : n = l.length) (h : RB w w.heap.size A c l) :
    Calls Try.prog 3 #[s.val, .int .i64 t, .int .i64 u, spotV p.1 p.2.1 p.2.2, .slice A n c] w fun e w' => e = .returned (.bool true) ∧ Below w.heap.size w w' := by
  obtain ⟨f, li, co⟩ := p
  subst hn
  simp only
  obtain ⟨xa, xb, xc, xe, SX, SY⟩ := both_spot s t
  obtain ⟨ma, me, SM, SN⟩ := both_time s f li co
  obtain ⟨ka, kr, SK, SL⟩ := both_next s t
  obtain ⟨D, vx, hD, SV, SW2⟩ := both_bytes s
  obtain ⟨ca, SC1, SC2⟩ := both_check s
  obtain ⟨SL1, SL2⟩ := both_length s
  obtain ⟨pr, SP1, SP2⟩ := both_pulse s t
  obtain ⟨pa, SQ1, SQ2⟩ := both_pulses s t u
  have SX := Lib.hid SX
  have SV := Lib.hid SV
  have SW2 := Lib.hid SW2
  have SC1 := Lib.hid SC1
  have SC2 := Lib.hid SC2
  have SL1 := Lib.hid SL1
  have SL2 := Lib.hid SL2
  have SP1 := Lib.hid SP1
  have SP2 := Lib.hid SP2
  have SQ1 := Lib.hid SQ1
  have SQ2 := Lib.hid SQ2
  have SY := Lib.hid SY
  have SM := Lib.hid SM
  have SN := Lib.hid SN
  have SK := Lib.hid SK
  have SL := Lib.hid SL
  unfold spotV at *
  unfold Scr.val at *
  go_enter Try.func3, Try.ntmps3
  go_wp2_with fail
  refine (lives2_any _).mono ?_
  rintro e w0 ⟨rfl, hb⟩
  have hB0 : Below w.heap.size w w0 := (((Below.refl _ _).alloc (Nat.le_refl _) _).alloc (by simp) _).trans (hb.mono (by simp; omega))
  have hS0 : SB w0 w.heap.size s := SB.laid s ((((Below.refl _ _).alloc (by simp) _)).trans (hb.mono (by simp)))
  have hP0 : SP w0 (w.heap.size + 1) f li co := by
    have := SP.laid (w := w.alloc (scO s)) f li co (hb.mono (by simp))
    simpa using this
  have hw0 : w.heap.size + 1 < w0.heap.size := by have := hb.size; simp at this; omega
  have hr0 := h.below hB0
  clear hb h
  by_cases hlen : 300 < l.length
  · go_wp2_with fail
    go_ret
    exact ⟨rfl, hB0⟩
  obtain ⟨q, qx, SR1, SR2⟩ := both_read l (by omega)
  have SR1 := Lib.hid SR1
  have SR2 := Lib.hid SR2
  obtain ⟨q0, q1, q2, q3, q4, q5, q6⟩ := q
  unfold Scr.val at SR1 SR2
  simp only at SR1 SR2
  have hS := hS0
  have hP := hP0
  have hB := hB0
  have hw := hw0
  have hr := hr0
  clear hS0 hP0 hB0 hw0 hr0
  obtain ⟨c0, c1, c2, c3, c4, c5, c6⟩ := hS
  have hS : SB w0 w.heap.size s := ⟨c0, c1, c2, c3, c4, c5, c6⟩
  go_wp2_with fail
  clear c0 c1 c2 c3 c4 c5 c6
  refine (SX.out _).mono ?_
  rintro e m1 ⟨rfl, hb⟩
  replace hS := hS.below hb (by omega)
  replace hP := hP.below hb hw
  replace hB := hB.trans (hb.mono hB.size)
  replace hr := hr.below (hb.mono (by omega))
  replace hw : w.heap.size + 1 < m1.heap.size := Nat.lt_of_lt_of_le hw hb.size
  clear hb
  have hb := (Below.refl m1.heap.size m1).alloc (Nat.le_refl _) (.cells #[.int .i64 xa, .int .i64 xb, .int .i64 xc] 25)
  replace hS := hS.below hb (by omega)
  replace hP := hP.below hb hw
  replace hB := hB.trans (hb.mono hB.size)
  replace hr := hr.below (hb.mono (by omega))
  replace hw : w.heap.size + 1 < (m1.alloc (.cells #[.int .i64 xa, .int .i64 xb, .int .i64 xc] 25)).heap.size := Nat.lt_of_lt_of_le hw hb.size
  clear hb
  have hX : SP (m1.alloc (.cells #[.int .i64 xa, .int .i64 xb, .int .i64 xc] 25)) m1.heap.size xa xb xc := by constructor <;> (rw [World.cell?_alloc_at _ _ _ _ rfl]; rfl)
  have hbx : m1.heap.size < (m1.alloc (.cells #[.int .i64 xa, .int .i64 xb, .int .i64 xc] 25)).heap.size := by simp
  obtain ⟨c0, c1, c2, c3, c4, c5, c6⟩ := hS
  replace hS : SB (m1.alloc (.cells #[.int .i64 xa, .int .i64 xb, .int .i64 xc] 25)) w.heap.size s := ⟨c0, c1, c2, c3, c4, c5, c6⟩
  obtain ⟨d0, d1, d2⟩ := hP
  replace hP : SP (m1.alloc (.cells #[.int .i64 xa, .int .i64 xb, .int .i64 xc] 25)) (w.heap.size + 1) f li co := ⟨d0, d1, d2⟩
  go_wp2_with fail
  clear c0 c1 c2 c3 c4 c5 c6 d0 d1 d2
  generalize m1.alloc (.cells #[.int .i64 xa, .int .i64 xb, .int .i64 xc] 25) = w1 at *
  generalize m1.heap.size = bx at *
  refine (SY.out _).mono ?_
  rintro e m2 ⟨rfl, hb⟩
  replace hS := hS.below hb (by omega)
  replace hP := hP.below hb hw
  replace hB := hB.trans (hb.mono hB.size)
  replace hr := hr.below (hb.mono (by omega))
  replace hX := hX.below hb hbx
  replace hw : w.heap.size + 1 < m2.heap.size := Nat.lt_of_lt_of_le hw hb.size
  replace hbx := Nat.lt_of_lt_of_le hbx hb.size
  clear hb
  have hb := (Below.refl m2.heap.size m2).alloc (Nat.le_refl _) (.cells #[.int .i64 xa, .int .i64 xb, .int .i64 xc] 25)
  replace hS := hS.below hb (by omega)
  replace hP := hP.below hb hw
  replace hB := hB.trans (hb.mono hB.size)
  replace hr := hr.below (hb.mono (by omega))
  replace hX := hX.below hb hbx
  replace hw : w.heap.size + 1 < (m2.alloc (.cells #[.int .i64 xa, .int .i64 xb, .int .i64 xc] 25)).heap.size := Nat.lt_of_lt_of_le hw hb.size
  replace hbx := Nat.lt_of_lt_of_le hbx hb.size
  clear hb
  have hY : SP (m2.alloc (.cells #[.int .i64 xa, .int .i64 xb, .int .i64 xc] 25)) m2.heap.size xa xb xc := by constructor <;> (rw [World.cell?_alloc_at _ _ _ _ rfl]; rfl)
  have hby : m2.heap.size < (m2.alloc (.cells #[.int .i64 xa, .int .i64 xb, .int .i64 xc] 25)).heap.size := by simp
  obtain ⟨c0, c1, c2, c3, c4, c5, c6⟩ := hS
  replace hS : SB (m2.alloc (.cells #[.int .i64 xa, .int .i64 xb, .int .i64 xc] 25)) w.heap.size s := ⟨c0, c1, c2, c3, c4, c5, c6⟩
  obtain ⟨d0, d1, d2⟩ := hP
  replace hP : SP (m2.alloc (.cells #[.int .i64 xa, .int .i64 xb, .int .i64 xc] 25)) (w.heap.size + 1) f li co := ⟨d0, d1, d2⟩
  go_wp2_with fail
  clear c0 c1 c2 c3 c4 c5 c6 d0 d1 d2
  generalize m2.alloc (.cells #[.int .i64 xa, .int .i64 xb, .int .i64 xc] 25) = w2 at *
  generalize m2.heap.size = by1 at *
  refine (SM.out _).mono ?_
  rintro e w3 ⟨rfl, hb⟩
  replace hS := hS.below hb (by omega)
  replace hP := hP.below hb hw
  replace hB := hB.trans (hb.mono hB.size)
  replace hr := hr.below (hb.mono (by omega))
  replace hX := hX.below hb hbx
  replace hY := hY.below hb hby
  replace hw : w.heap.size + 1 < w3.heap.size := Nat.lt_of_lt_of_le hw hb.size
  replace hbx := Nat.lt_of_lt_of_le hbx hb.size
  replace hby := Nat.lt_of_lt_of_le hby hb.size
  clear hb
  obtain ⟨c0, c1, c2, c3, c4, c5, c6⟩ := hS
  replace hS : SB (w3) w.heap.size s := ⟨c0, c1, c2, c3, c4, c5, c6⟩
  obtain ⟨d0, d1, d2⟩ := hP
  replace hP : SP (w3) (w.heap.size + 1) f li co := ⟨d0, d1, d2⟩
  go_wp2_with fail
  clear c0 c1 c2 c3 c4 c5 c6 d0 d1 d2
  refine (SN.out _).mono ?_
  rintro e w4 ⟨rfl, hb⟩
  replace hS := hS.below hb (by omega)
  replace hP := hP.below hb hw
  replace hB := hB.trans (hb.mono hB.size)
  replace hr := hr.below (hb.mono (by omega))
  replace hX := hX.below hb hbx
  replace hY := hY.below hb hby
  replace hw : w.heap.size + 1 < w4.heap.size := Nat.lt_of_lt_of_le hw hb.size
  replace hbx := Nat.lt_of_lt_of_le hbx hb.size
  replace hby := Nat.lt_of_lt_of_le hby hb.size
  clear hb
  obtain ⟨c0, c1, c2, c3, c4, c5, c6⟩ := hS
  replace hS : SB (w4) w.heap.size s := ⟨c0, c1, c2, c3, c4, c5, c6⟩
  obtain ⟨d0, d1, d2⟩ := hP
  replace hP : SP (w4) (w.heap.size + 1) f li co := ⟨d0, d1, d2⟩
  go_wp2_with fail
  clear c0 c1 c2 c3 c4 c5 c6 d0 d1 d2
  refine (SK.out _).mono ?_
  rintro e w5 ⟨rfl, hb⟩
  replace hS := hS.below hb (by omega)
  replace hP := hP.below hb hw
  replace hB := hB.trans (hb.mono hB.size)
  replace hr := hr.below (hb.mono (by omega))
  replace hX := hX.below hb hbx
  replace hY := hY.below hb hby
  replace hw : w.heap.size + 1 < w5.heap.size := Nat.lt_of_lt_of_le hw hb.size
  replace hbx := Nat.lt_of_lt_of_le hbx hb.size
  replace hby := Nat.lt_of_lt_of_le hby hb.size
  clear hb
  obtain ⟨c0, c1, c2, c3, c4, c5, c6⟩ := hS
  replace hS : SB (w5) w.heap.size s := ⟨c0, c1, c2, c3, c4, c5, c6⟩
  obtain ⟨d0, d1, d2⟩ := hP
  replace hP : SP (w5) (w.heap.size + 1) f li co := ⟨d0, d1, d2⟩
  go_wp2_with fail
  clear c0 c1 c2 c3 c4 c5 c6 d0 d1 d2
  refine (SL.out _).mono ?_
  rintro e w6 ⟨rfl, hb⟩
  replace hS := hS.below hb (by omega)
  replace hP := hP.below hb hw
  replace hB := hB.trans (hb.mono hB.size)
  replace hr := hr.below (hb.mono (by omega))
  replace hX := hX.below hb hbx
  replace hY := hY.below hb hby
  replace hw : w.heap.size + 1 < w6.heap.size := Nat.lt_of_lt_of_le hw hb.size
  replace hbx := Nat.lt_of_lt_of_le hbx hb.size
  replace hby := Nat.lt_of_lt_of_le hby hb.size
  clear hb
  obtain ⟨c0, c1, c2, c3, c4, c5, c6⟩ := hS
  replace hS : SB (w6) w.heap.size s := ⟨c0, c1, c2, c3, c4, c5, c6⟩
  obtain ⟨d0, d1, d2⟩ := hP
  replace hP : SP (w6) (w.heap.size + 1) f li co := ⟨d0, d1, d2⟩
  go_wp2_with fail
  clear c0 c1 c2 c3 c4 c5 c6 d0 d1 d2
  refine (SV.out _).mono ?_
  rintro e w7 ⟨A1, k1, rfl, hv1, hb⟩
  replace hS := hS.below hb (by omega)
  replace hP := hP.below hb hw
  replace hB := hB.trans (hb.mono hB.size)
  replace hr := hr.below (hb.mono (by omega))
  replace hX := hX.below hb hbx
  replace hY := hY.below hb hby
  replace hw : w.heap.size + 1 < w7.heap.size := Nat.lt_of_lt_of_le hw hb.size
  replace hbx := Nat.lt_of_lt_of_le hbx hb.size
  replace hby := Nat.lt_of_lt_of_le hby hb.size
  clear hb
  obtain ⟨c0, c1, c2, c3, c4, c5, c6⟩ := hS
  replace hS : SB (w7) w.heap.size s := ⟨c0, c1, c2, c3, c4, c5, c6⟩
  obtain ⟨d0, d1, d2⟩ := hP
  replace hP : SP (w7) (w.heap.size + 1) f li co := ⟨d0, d1, d2⟩
  go_wp2_with fail
  clear c0 c1 c2 c3 c4 c5 c6 d0 d1 d2
  refine (SW2.out _).mono ?_
  rintro e w8 ⟨A2, k2, rfl, hv2, hb⟩
  replace hS := hS.below hb (by omega)
  replace hP := hP.below hb hw
  replace hB := hB.trans (hb.mono hB.size)
  replace hr := hr.below (hb.mono (by omega))
  replace hX := hX.below hb hbx
  replace hY := hY.below hb hby
  replace hv1 := hv1.belowH hb
  replace hw : w.heap.size + 1 < w8.heap.size := Nat.lt_of_lt_of_le hw hb.size
  replace hbx := Nat.lt_of_lt_of_le hbx hb.size
  replace hby := Nat.lt_of_lt_of_le hby hb.size
  clear hb
  obtain ⟨c0, c1, c2, c3, c4, c5, c6⟩ := hS
  replace hS : SB (w8) w.heap.size s := ⟨c0, c1, c2, c3, c4, c5, c6⟩
  obtain ⟨d0, d1, d2⟩ := hP
  replace hP : SP (w8) (w.heap.size + 1) f li co := ⟨d0, d1, d2⟩
  go_wp2_with fail
  clear c0 c1 c2 c3 c4 c5 c6 d0 d1 d2
  refine (own_any A c _ l w8 w.heap.size rfl hr (by omega) (by omega)).mono ?_
  rintro e w9 ⟨A8, k8, rfl, ho, hb⟩
  replace hS := hS.below hb (by omega)
  replace hP := hP.below hb hw
  replace hB := hB.trans (hb.mono hB.size)
  replace hr := hr.below (hb.mono (by omega))
  replace hX := hX.below hb hbx
  replace hY := hY.below hb hby
  replace hv1 := hv1.belowH hb
  replace hv2 := hv2.belowH hb
  replace hw : w.heap.size + 1 < w9.heap.size := Nat.lt_of_lt_of_le hw hb.size
  replace hbx := Nat.lt_of_lt_of_le hbx hb.size
  replace hby := Nat.lt_of_lt_of_le hby hb.size
  clear hb
  have hq := ho.rb
  clear ho
  obtain ⟨c0, c1, c2, c3, c4, c5, c6⟩ := hS
  replace hS : SB (w9) w.heap.size s := ⟨c0, c1, c2, c3, c4, c5, c6⟩
  obtain ⟨d0, d1, d2⟩ := hP
  replace hP : SP (w9) (w.heap.size + 1) f li co := ⟨d0, d1, d2⟩
  go_wp2_with fail
  clear c0 c1 c2 c3 c4 c5 c6 d0 d1 d2
  refine (SR1.out A8 k8 w9 w9.heap.size hq (Nat.le_refl _)).mono ?_
  rintro e m10 ⟨rfl, hb⟩
  replace hS := hS.below hb (by omega)
  replace hP := hP.below hb hw
  replace hB := hB.trans (hb.mono hB.size)
  replace hr := hr.below (hb.mono (by omega))
  replace hX := hX.below hb hbx
  replace hY := hY.below hb hby
  replace hv1 := hv1.belowH hb
  replace hv2 := hv2.belowH hb
  replace hw : w.heap.size + 1 < m10.heap.size := Nat.lt_of_lt_of_le hw hb.size
  replace hbx := Nat.lt_of_lt_of_le hbx hb.size
  replace hby := Nat.lt_of_lt_of_le hby hb.size
  clear hb
  have hb := (Below.refl m10.heap.size m10).alloc (Nat.le_refl _) (.cells #[.int .i64 q0, .int .i64 q1, .int .i64 q2, .int .i64 q3, .int .i64 q4, .int .i64 q5, .int .i64 q6] 23)
  replace hS := hS.below hb (by omega)
  replace hP := hP.below hb hw
  replace hB := hB.trans (hb.mono hB.size)
  replace hr := hr.below (hb.mono (by omega))
  replace hX := hX.below hb hbx
  replace hY := hY.below hb hby
  replace hv1 := hv1.belowH hb
  replace hv2 := hv2.belowH hb
  replace hw : w.heap.size + 1 < (m10.alloc (.cells #[.int .i64 q0, .int .i64 q1, .int .i64 q2, .int .i64 q3, .int .i64 q4, .int .i64 q5, .int .i64 q6] 23)).heap.size := Nat.lt_of_lt_of_le hw hb.size
  replace hbx := Nat.lt_of_lt_of_le hbx hb.size
  replace hby := Nat.lt_of_lt_of_le hby hb.size
  clear hb
  have hQ : SB (m10.alloc (.cells #[.int .i64 q0, .int .i64 q1, .int .i64 q2, .int .i64 q3, .int .i64 q4, .int .i64 q5, .int .i64 q6] 23)) m10.heap.size ⟨q0, q1, q2, q3, q4, q5, q6⟩ := by constructor <;> (rw [World.cell?_alloc_at _ _ _ _ rfl]; rfl)
  have hbq : m10.heap.size < (m10.alloc (.cells #[.int .i64 q0, .int .i64 q1, .int .i64 q2, .int .i64 q3, .int .i64 q4, .int .i64 q5, .int .i64 q6] 23)).heap.size := by simp
  obtain ⟨c0, c1, c2, c3, c4, c5, c6⟩ := hS
  replace hS : SB (m10.alloc (.cells #[.int .i64 q0, .int .i64 q1, .int .i64 q2, .int .i64 q3, .int .i64 q4, .int .i64 q5, .int .i64 q6] 23)) w.heap.size s := ⟨c0, c1, c2, c3, c4, c5, c6⟩
  obtain ⟨d0, d1, d2⟩ := hP
  replace hP : SP (m10.alloc (.cells #[.int .i64 q0, .int .i64 q1, .int .i64 q2, .int .i64 q3, .int .i64 q4, .int .i64 q5, .int .i64 q6] 23)) (w.heap.size + 1) f li co := ⟨d0, d1, d2⟩
  go_wp2_with fail
  clear c0 c1 c2 c3 c4 c5 c6 d0 d1 d2
  generalize m10.alloc (.cells #[.int .i64 q0, .int .i64 q1, .int .i64 q2, .int .i64 q3, .int .i64 q4, .int .i64 q5, .int .i64 q6] 23) = w10 at *
  generalize m10.heap.size = bq at *
  clear hq
  refine (SR2.out A c w10 w.heap.size hr (by omega)).mono ?_
  rintro e m11 ⟨rfl, hb⟩
  replace hS := hS.below hb (by omega)
  replace hP := hP.below hb hw
  replace hB := hB.trans (hb.mono hB.size)
  replace hr := hr.below (hb.mono (by omega))
  replace hX := hX.below hb hbx
  replace hY := hY.below hb hby
  replace hQ := hQ.below hb hbq
  replace hv1 := hv1.belowH hb
  replace hv2 := hv2.belowH hb
  replace hw : w.heap.size + 1 < m11.heap.size := Nat.lt_of_lt_of_le hw hb.size
  replace hbx := Nat.lt_of_lt_of_le hbx hb.size
  replace hby := Nat.lt_of_lt_of_le hby hb.size
  replace hbq := Nat.lt_of_lt_of_le hbq hb.size
  clear hb
  have hb := (Below.refl m11.heap.size m11).alloc (Nat.le_refl _) (.cells #[.int .i64 q0, .int .i64 q1, .int .i64 q2, .int .i64 q3, .int .i64 q4, .int .i64 q5, .int .i64 q6] 23)
  replace hS := hS.below hb (by omega)
  replace hP := hP.below hb hw
  replace hB := hB.trans (hb.mono hB.size)
  replace hr := hr.below (hb.mono (by omega))
  replace hX := hX.below hb hbx
  replace hY := hY.below hb hby
  replace hQ := hQ.below hb hbq
  replace hv1 := hv1.belowH hb
  replace hv2 := hv2.belowH hb
  replace hw : w.heap.size + 1 < (m11.alloc (.cells #[.int .i64 q0, .int .i64 q1, .int .i64 q2, .int .i64 q3, .int .i64 q4, .int .i64 q5, .int .i64 q6] 23)).heap.size := Nat.lt_of_lt_of_le hw hb.size
  replace hbx := Nat.lt_of_lt_of_le hbx hb.size
  replace hby := Nat.lt_of_lt_of_le hby hb.size
  replace hbq := Nat.lt_of_lt_of_le hbq hb.size
  clear hb
  have hR : SB (m11.alloc (.cells #[.int .i64 q0, .int .i64 q1, .int .i64 q2, .int .i64 q3, .int .i64 q4, .int .i64 q5, .int .i64 q6] 23)) m11.heap.size ⟨q0, q1, q2, q3, q4, q5, q6⟩ := by constructor <;> (rw [World.cell?_alloc_at _ _ _ _ rfl]; rfl)
  have hbr : m11.heap.size < (m11.alloc (.cells #[.int .i64 q0, .int .i64 q1, .int .i64 q2, .int .i64 q3, .int .i64 q4, .int .i64 q5, .int .i64 q6] 23)).heap.size := by simp
  obtain ⟨c0, c1, c2, c3, c4, c5, c6⟩ := hS
  replace hS : SB (m11.alloc (.cells #[.int .i64 q0, .int .i64 q1, .int .i64 q2, .int .i64 q3, .int .i64 q4, .int .i64 q5, .int .i64 q6] 23)) w.heap.size s := ⟨c0, c1, c2, c3, c4, c5, c6⟩
  obtain ⟨d0, d1, d2⟩ := hP
  replace hP : SP (m11.alloc (.cells #[.int .i64 q0, .int .i64 q1, .int .i64 q2, .int .i64 q3, .int .i64 q4, .int .i64 q5, .int .i64 q6] 23)) (w.heap.size + 1) f li co := ⟨d0, d1, d2⟩
  go_wp2_with fail
  clear c0 c1 c2 c3 c4 c5 c6 d0 d1 d2
  generalize m11.alloc (.cells #[.int .i64 q0, .int .i64 q1, .int .i64 q2, .int .i64 q3, .int .i64 q4, .int .i64 q5, .int .i64 q6] 23) = w11 at *
  generalize m11.heap.size = br at *
  have hs' := fun p : M.Of (M.Base w11) => hS.of (by omega) p
  have c0 := fun p => (hs' p).c0
  have c1 := fun p => (hs' p).c1
  have c2 := fun p => (hs' p).c2
  have c3 := fun p => (hs' p).c3
  have c4 := fun p => (hs' p).c4
  have c5 := fun p => (hs' p).c5
  have c6 := fun p => (hs' p).c6
  have xf0 := fun p : M.Of (M.Base w11) => (hX.below p.ok.2 hbx).d0
  have xf1 := fun p : M.Of (M.Base w11) => (hX.below p.ok.2 hbx).d1
  have xf2 := fun p : M.Of (M.Base w11) => (hX.below p.ok.2 hbx).d2
  have yf0 := fun p : M.Of (M.Base w11) => (hY.below p.ok.2 hby).d0
  have yf1 := fun p : M.Of (M.Base w11) => (hY.below p.ok.2 hby).d1
  have yf2 := fun p : M.Of (M.Base w11) => (hY.below p.ok.2 hby).d2
  have qf0 := fun p : M.Of (M.Base w11) => (hQ.below p.ok.2 hbq).c0
  have qf1 := fun p : M.Of (M.Base w11) => (hQ.below p.ok.2 hbq).c1
  have qf2 := fun p : M.Of (M.Base w11) => (hQ.below p.ok.2 hbq).c2
  have qf3 := fun p : M.Of (M.Base w11) => (hQ.below p.ok.2 hbq).c3
  have qf4 := fun p : M.Of (M.Base w11) => (hQ.below p.ok.2 hbq).c4
  have qf5 := fun p : M.Of (M.Base w11) => (hQ.below p.ok.2 hbq).c5
  have qf6 := fun p : M.Of (M.Base w11) => (hQ.below p.ok.2 hbq).c6
  have rf0 := fun p : M.Of (M.Base w11) => (hR.below p.ok.2 hbr).c0
  have rf1 := fun p : M.Of (M.Base w11) => (hR.below p.ok.2 hbr).c1
  have rf2 := fun p : M.Of (M.Base w11) => (hR.below p.ok.2 hbr).c2
  have rf3 := fun p : M.Of (M.Base w11) => (hR.below p.ok.2 hbr).c3
  have rf4 := fun p : M.Of (M.Base w11) => (hR.below p.ok.2 hbr).c4
  have rf5 := fun p : M.Of (M.Base w11) => (hR.below p.ok.2 hbr).c5
  have rf6 := fun p : M.Of (M.Base w11) => (hR.below p.ok.2 hbr).c6
  have t1 := fun p : M.Of (M.Base w11) => str_rb p.w w11.heap.size A1 k1 D.length D (hv1.below p.ok.2) rfl
  have t2 := fun p : M.Of (M.Base w11) => str_rb p.w w11.heap.size A2 k2 D.length D (hv2.below p.ok.2) rfl
  clear hs' hX hY hQ hR hbx hby hbq hbr hv1 hv2 hS hP hr
  simp only [List.append_eq, List.cons_append, List.nil_append]
  refine M.region_ (by kernel_rfl) ?_
  go_simp
  refine M.seg_ [0, 1, 2, 3, 4, 5, 6, 7, 8, 9, 10, 11, 12, 13, 14, 15, 16, 17, 18, 19, 20, 21, 22, 23, 24, 25, 26, 27, 28, 29, 30, 31, 32, 33, 34, 35, 36, 37, 38, 39, 40, 41, 42, 43, 44, 45, 46, 47, 48, 49, 50, 51] 33 _ _ (M.Base.refl _) (by kernel_rfl) (by kernel_rfl) (by kernel_rfl) (by simp only [pickOps, mask, plain, List.getElem?_toArray, List.getElem?_cons_zero, List.getElem?_cons_succ, if_true, if_false, Bool.false_eq_true]; rfl) ?_
  repeat (go_big_quiet_step (fail))
  refine wpQuiet_nil ?_
  refine M.calm_ (i := 52) (.int .i64 ca) rfl (by kernel_rfl) (by kernel_rfl) (by kernel_rfl) (by kernel_rfl) ?_ ?_
  · intro wz sz
    unfold Oper.does
    go_simp
    exact ((fun wz => SC1.out wz) wz).mono fun e w' he => ⟨_, he.1, rfl, Save.of_below he.2⟩
  go_simp
  refine M.seg_ [53] 31 _ _ (M.Base.refl _) (by kernel_rfl) (by kernel_rfl) (by kernel_rfl) (by simp only [pickOps, mask, plain, List.getElem?_toArray, List.getElem?_cons_zero, List.getElem?_cons_succ, if_true, if_false, Bool.false_eq_true]; rfl) ?_
  repeat (go_big_quiet_step (fail))
  refine wpQuiet_nil ?_
  refine M.calm_ (i := 54) (.int .i64 ca) rfl (by kernel_rfl) (by kernel_rfl) (by kernel_rfl) (by kernel_rfl) ?_ ?_
  · intro wz sz
    unfold Oper.does
    go_simp
    exact ((fun wz => SC2.out wz) wz).mono fun e w' he => ⟨_, he.1, rfl, Save.of_below he.2⟩
  go_simp
  refine M.seg_ [55, 56, 57, 58] 26 _ _ (M.Base.refl _) (by kernel_rfl) (by kernel_rfl) (by kernel_rfl) (by simp only [pickOps, mask, plain, List.getElem?_toArray, List.getElem?_cons_zero, List.getElem?_cons_succ, if_true, if_false, Bool.false_eq_true]; rfl) ?_
  repeat (go_big_quiet_step (fail))
  refine wpQuiet_nil ?_
  refine M.calm_ (i := 59) (.int .i64 s.len) rfl (by kernel_rfl) (by kernel_rfl) (by kernel_rfl) (by kernel_rfl) ?_ ?_
  · intro wz sz
    unfold Oper.does
    go_simp
    exact ((fun wz => SL1.out wz) wz).mono fun e w' he => ⟨_, he.1, rfl, Save.of_below he.2⟩
  go_simp
  refine M.seg_ [60] 24 _ _ (M.Base.refl _) (by kernel_rfl) (by kernel_rfl) (by kernel_rfl) (by simp only [pickOps, mask, plain, List.getElem?_toArray, List.getElem?_cons_zero, List.getElem?_cons_succ, if_true, if_false, Bool.false_eq_true]; rfl) ?_
  repeat (go_big_quiet_step (fail))
  refine wpQuiet_nil ?_
  refine M.calm_ (i := 61) (.int .i64 s.len) rfl (by kernel_rfl) (by kernel_rfl) (by kernel_rfl) (by kernel_rfl) ?_ ?_
  · intro wz sz
    unfold Oper.does
    go_simp
    exact ((fun wz => SL2.out wz) wz).mono fun e w' he => ⟨_, he.1, rfl, Save.of_below he.2⟩
  go_simp
  refine M.seg_ [62, 63, 64, 65, 66] 18 _ _ (M.Base.refl _) (by kernel_rfl) (by kernel_rfl) (by kernel_rfl) (by simp only [pickOps, mask, plain, List.getElem?_toArray, List.getElem?_cons_zero, List.getElem?_cons_succ, if_true, if_false, Bool.false_eq_true]; rfl) ?_
  repeat (go_big_quiet_step (fail))
  refine wpQuiet_nil ?_
  refine M.calm_ (i := 67) (.bool pr) rfl (by kernel_rfl) (by kernel_rfl) (by kernel_rfl) (by kernel_rfl) ?_ ?_
  · intro wz sz
    unfold Oper.does
    go_simp
    exact ((fun wz => SP1.out wz) wz).mono fun e w' he => ⟨_, he.1, rfl, Save.of_below he.2⟩
  go_simp
  refine M.seg_ [68, 69] 15 _ _ (M.Base.refl _) (by kernel_rfl) (by kernel_rfl) (by kernel_rfl) (by simp only [pickOps, mask, plain, List.getElem?_toArray, List.getElem?_cons_zero, List.getElem?_cons_succ, if_true, if_false, Bool.false_eq_true]; rfl) ?_
  repeat (go_big_quiet_step (fail))
  refine wpQuiet_nil ?_
  refine M.calm_ (i := 70) (.bool pr) rfl (by kernel_rfl) (by kernel_rfl) (by kernel_rfl) (by kernel_rfl) ?_ ?_
  · intro wz sz
    unfold Oper.does
    go_simp
    exact ((fun wz => SP2.out wz) wz).mono fun e w' he => ⟨_, he.1, rfl, Save.of_below he.2⟩
  go_simp
  refine M.seg_ [71, 72, 73, 74, 75, 76] 8 _ _ (M.Base.refl _) (by kernel_rfl) (by kernel_rfl) (by kernel_rfl) (by simp only [pickOps, mask, plain, List.getElem?_toArray, List.getElem?_cons_zero, List.getElem?_cons_succ, if_true, if_false, Bool.false_eq_true]; rfl) ?_
  repeat (go_big_quiet_step (fail))
  refine wpQuiet_nil ?_
  refine M.calm_ (i := 77) (.int .i64 pa) rfl (by kernel_rfl) (by kernel_rfl) (by kernel_rfl) (by kernel_rfl) ?_ ?_
  · intro wz sz
    unfold Oper.does
    go_simp
    exact ((fun wz => SQ1.out wz) wz).mono fun e w' he => ⟨_, he.1, rfl, Save.of_below he.2⟩
  go_simp
  refine M.seg_ [78, 79, 80] 4 _ _ (M.Base.refl _) (by kernel_rfl) (by kernel_rfl) (by kernel_rfl) (by simp only [pickOps, mask, plain, List.getElem?_toArray, List.getElem?_cons_zero, List.getElem?_cons_succ, if_true, if_false, Bool.false_eq_true]; rfl) ?_
  repeat (go_big_quiet_step (fail))
  refine wpQuiet_nil ?_
  refine M.calm_ (i := 81) (.int .i64 pa) rfl (by kernel_rfl) (by kernel_rfl) (by kernel_rfl) (by kernel_rfl) ?_ ?_
  · intro wz sz
    unfold Oper.does
    go_simp
    exact ((fun wz => SQ2.out wz) wz).mono fun e w' he => ⟨_, he.1, rfl, Save.of_below he.2⟩
  go_simp
  refine M.seg_ [82, 83, 84] 0 _ _ (M.Base.refl _) (by kernel_rfl) (by kernel_rfl) (by kernel_rfl) (by simp only [pickOps, mask, plain, List.getElem?_toArray, List.getElem?_cons_zero, List.getElem?_cons_succ, if_true, if_false, Bool.false_eq_true]; rfl) ?_
  repeat (go_big_quiet_step (fail))
  refine wpQuiet_nil ?_
  refine M.end_ (by kernel_rfl) ?_
  intro wE sE
  go_wp2
  go_ret
  exact ⟨rfl, hB.trans (sE.2.mono hB.size)⟩
end Go.Proofs.Ytpkmphalhmmbkaa
