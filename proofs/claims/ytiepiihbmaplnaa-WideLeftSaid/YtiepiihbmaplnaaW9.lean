
/- A block's instruction: what its flags say; the walk of WideLeft. -/
import Derived.Test.YtiepiihbmaplnaaW5
namespace Go.Proofs.Ytiepiihbmaplnaa
open Go.RowKit
set_option linter.unusedSimpArgs false
set_option linter.unusedVariables false

theorem stay_bits (f : Int) (f0 : 0 ≤ f) (f1 : f < 256) : ∃ s z c : Bool, bits .and .u8 f 193 = bits .or .u8 (bits .or .u8 (flg s 128) (flg z 64)) (flg c 1) :=
  byte_all (P := fun f => ∃ s z c : Bool, bits .and .u8 f 193 = bits .or .u8 (bits .or .u8 (flg s 128) (flg z 64)) (flg c 1)) (by decide +kernel) f f0 f1
theorem c_bit (f : Int) (f0 : 0 ≤ f) (f1 : f < 256) : ∃ c : Bool, bits .and .u8 f 1 = flg c 1 :=
  byte_all (P := fun f => ∃ c : Bool, bits .and .u8 f 1 = flg c 1) (by decide +kernel) f f0 f1
theorem three_says : ∀ s z c y x p : Bool,
    bits .and .u8 (bits .or .u8 (bits .or .u8 (bits .or .u8 (bits .or .u8 (flg s 128) (flg z 64)) (flg c 1)) (bits .or .u8 (flg y 32) (flg x 8))) (flg p 4)) 4 = flg p 4 ∧
    bits .and .u8 (bits .or .u8 (bits .or .u8 (bits .or .u8 (bits .or .u8 (flg s 128) (flg z 64)) (flg c 1)) (bits .or .u8 (flg y 32) (flg x 8))) (flg p 4)) 193 = bits .or .u8 (bits .or .u8 (flg s 128) (flg z 64)) (flg c 1) ∧
    bits .and .u8 (bits .or .u8 (bits .or .u8 (bits .or .u8 (bits .or .u8 (flg s 128) (flg z 64)) (flg c 1)) (bits .or .u8 (flg y 32) (flg x 8))) (flg p 4)) 18 = 0 := by decide +kernel
theorem move_says (a v l f : Int) (f0 : 0 ≤ f) (f1 : f < 256) : bits .and .u8 (moveF a v l f) 4 = flg (l != 0) 4 ∧ bits .and .u8 (moveF a v l f) 193 = bits .and .u8 f 193 ∧ bits .and .u8 (moveF a v l f) 18 = 0 := by
  unfold moveF oddB
  obtain ⟨s, z, c, e⟩ := stay_bits f f0 f1
  rw [e]
  exact three_says s z c _ _ _

theorem sz_bits (r : Int) (h0 : 0 ≤ r) (h1 : r < 256) (c h p : Bool) : ∃ s : Bool, bits .and .u8 (bits .or .u8 (flC r c h p) 2) 208 = bits .or .u8 (bits .or .u8 (flg s 128) (flg (r == 0) 64)) (flg h 16) := by
  have := byte_all (P := fun r => ∀ c h p : Bool, ∃ s : Bool, bits .and .u8 (bits .or .u8 (flC r c h p) 2) 208 = bits .or .u8 (bits .or .u8 (flg s 128) (flg (r == 0) 64)) (flg h 16)) (by decide +kernel) r h0 h1
  exact this c h p
theorem find_bits : ∀ s z h y x p c : Bool,
    bits .and .u8 (bits .or .u8 (bits .or .u8 (bits .or .u8 (bits .or .u8 (bits .or .u8 (bits .or .u8 (flg s 128) (flg z 64)) (flg h 16)) 2) (bits .or .u8 (flg y 32) (flg x 8))) (flg p 4)) (flg c 1)) 4 = flg p 4 ∧
    bits .and .u8 (bits .or .u8 (bits .or .u8 (bits .or .u8 (bits .or .u8 (bits .or .u8 (bits .or .u8 (flg s 128) (flg z 64)) (flg h 16)) 2) (bits .or .u8 (flg y 32) (flg x 8))) (flg p 4)) (flg c 1)) 64 = flg z 64 ∧
    bits .and .u8 (bits .or .u8 (bits .or .u8 (bits .or .u8 (bits .or .u8 (bits .or .u8 (bits .or .u8 (flg s 128) (flg z 64)) (flg h 16)) 2) (bits .or .u8 (flg y 32) (flg x 8))) (flg p 4)) (flg c 1)) 1 = flg c 1 ∧
    bits .and .u8 (bits .or .u8 (bits .or .u8 (bits .or .u8 (bits .or .u8 (bits .or .u8 (bits .or .u8 (flg s 128) (flg z 64)) (flg h 16)) 2) (bits .or .u8 (flg y 32) (flg x 8))) (flg p 4)) (flg c 1)) 2 = 2 := by decide +kernel
theorem find_says (a v l f : Int) (a0 : 0 ≤ a) (a1 : a < 256) (v0 : 0 ≤ v) (v1 : v < 256) (f0 : 0 ≤ f) (f1 : f < 256) :
    bits .and .u8 (findF a v l f) 4 = flg (l != 0) 4 ∧ bits .and .u8 (findF a v l f) 64 = flg (a == v) 64 ∧ bits .and .u8 (findF a v l f) 1 = bits .and .u8 f 1 ∧ bits .and .u8 (findF a v l f) 2 = 2 := by
  obtain ⟨c, e⟩ := c_bit f f0 f1
  obtain ⟨r0, r1⟩ := subR_in a v false
  obtain ⟨s, e2⟩ := sz_bits _ r0 r1 (decide (a - v - num1 false < 0)) (decide (a % 16 - v % 16 - num1 false < 0)) (outS (sgn a - sgn v - num1 false))
  have ez : (subR a v false == 0) = (a == v) := by unfold subR; rw [Bool.eq_iff_iff]; simp [num1]; omega
  rw [ez] at e2
  have e3 : bits .and .u8 (subF a v false) 208 = bits .or .u8 (bits .or .u8 (flg s 128) (flg (a == v) 64)) (flg (decide (a % 16 - v % 16 - num1 false < 0)) 16) := e2
  unfold findF
  rw [e, e3]
  unfold oddB
  exact find_bits s _ _ _ _ _ c
theorem port_says (v b t : Int) (b0 : 0 ≤ b) (b1 : b < 256) : bits .and .u8 (portF v b t) 64 = flg (b == 0) 64 ∧ bits .and .u8 (portF v b t) 16 = flg (decide (255 < v + t)) 16 ∧ bits .and .u8 (portF v b t) 1 = flg (decide (255 < v + t)) 1 := by
  have := byte_all (P := fun b => ∀ n o p : Bool, bits .and .u8 (bits .or .u8 (bits .or .u8 (bits .or .u8 (ownB b) (flg n 2)) (flg o 17)) (flg p 4)) 64 = flg (b == 0) 64 ∧
    bits .and .u8 (bits .or .u8 (bits .or .u8 (bits .or .u8 (ownB b) (flg n 2)) (flg o 17)) (flg p 4)) 16 = flg o 16 ∧ bits .and .u8 (bits .or .u8 (bits .or .u8 (bits .or .u8 (ownB b) (flg n 2)) (flg o 17)) (flg p 4)) 1 = flg o 1) (by decide +kernel) b b0 b1
  exact this _ _ _
theorem flg_ne9 (b : Bool) (k : Int) (hk : k ≠ 0) : (flg b k != 0) = b := by cases b <;> simp [flg, hk]

set_option maxHeartbeats 1000000 in
theorem walk_WideLeft (w : World) (a : Int) (wa : (Lit.int .u8 a).wf = true) (v : Int) (wv : (Lit.int .u8 v).wf = true) (f : Int) (wf : (Lit.int .u8 f).wf = true) (l : Int) (wl : (Lit.int .u16 l).wf = true) :
    Calls Try.prog 8 #[.int .u8 a, .int .u8 v, .int .u8 f, .int .u16 l] w fun e w' => e = .returned (.bool true) ∧ Below w.heap.size w w' := by
  obtain ⟨a0, a1⟩ := wf_u8 wa
  obtain ⟨v0, v1⟩ := wf_u8 wv
  obtain ⟨f0, f1⟩ := wf_u8 wf
  clear wa wv wf wl
  have hM := fun w => w7_move a v l f w a0 a1 v0 v1
  have hF := fun w => w7_find a v l f w a0 a1 v0 v1 f0 f1
  have hP := fun w => w7_port a v f w a0 a1 v0 v1 f0 f1
  obtain ⟨M1, M2, M3⟩ := move_says a v l f f0 f1
  obtain ⟨F1, F2, F3, F4⟩ := find_says a v l f a0 a1 v0 v1 f0 f1
  obtain ⟨P1, P2, P3⟩ := port_says a v f v0 v1
  have k1 := flg_ne9 (l != 0) 4 (by decide)
  have k2 := flg_ne9 (a == v) 64 (by decide)
  have k3 := flg_ne9 (v == 0) 64 (by decide)
  have k4 := flg_ne9 (decide (255 < a + f)) 16 (by decide)
  have k5 := flg_ne9 (decide (255 < a + f)) 1 (by decide)
  obtain ⟨q1, B1⟩ : ∃ q, bits .and .u8 f 193 = q := ⟨_, rfl⟩
  obtain ⟨q2, B2⟩ : ∃ q, bits .and .u8 f 1 = q := ⟨_, rfl⟩
  rw [B1] at M2
  rw [B2] at F3
  generalize moveF a v l f = m at *
  generalize findF a v l f = n at *
  generalize portF a v f = p at *
  generalize decide (255 < a + f) = o at *
  have HM := Lib.hid hM
  have HF := Lib.hid hF
  have HP := Lib.hid hP
  clear hM hF hP f0 f1
  go_enter Try.func8, Try.ntmps8
  go_wp2_with (first
    | (go_at_call 11; (with_reducible refine (lives7_any _).mono ?_); rintro e w' ⟨rfl, rfl⟩)
    | (go_at_call 12; (with_reducible refine (HM.out _).mono ?_); rintro e w' ⟨rfl, rfl⟩)
    | (go_at_call 26; (with_reducible refine (HF.out _).mono ?_); rintro e w' ⟨rfl, rfl⟩)
    | (go_at_call 28; (with_reducible refine (HP.out _).mono ?_); rintro e w' ⟨rfl, rfl⟩))
  go_ret
  exact ⟨rfl, Below.refl _ _⟩
end Go.Proofs.Ytiepiihbmaplnaa
