
/- Registers, the code: what bytes tell (taken). -/
import Derived.Test.YtedlfcmlchjjlaaYQ
namespace Go.Proofs.Ytedlfcmlchjjlaa
open Go.RowKit
set_option linter.unusedSimpArgs false
set_option linter.unusedVariables false
set_option maxRecDepth 100000

def cS (l : List Int) (k : Nat) : Array Value := (List.range k).foldl (fun cs j => cs.setIfInBounds j (.int .u8 (l.getD j 0))) zeroR.cells
def cW (l : List Int) (k : Nat) : Array Value := (List.range k).foldl (fun cs j => cs.setIfInBounds (10 + j) (.int .u16 (l.getD (10 + 2 * j) 0 * 256 + l.getD (11 + 2 * j) 0))) (cS l 10)
def bitOf (n : Int) : Nat → Bool
  | 0 => n % 2 != 0
  | 1 => n / 2 % 2 != 0
  | 2 => n / 4 % 2 != 0
  | _ => n / 8 % 2 != 0
def tR (l : List Int) : Rg := ⟨l.getD 0 0, l.getD 1 0, l.getD 2 0, l.getD 3 0, l.getD 4 0, l.getD 5 0, l.getD 6 0, l.getD 7 0, l.getD 8 0, l.getD 9 0,
  l.getD 10 0 * 256 + l.getD 11 0, l.getD 12 0 * 256 + l.getD 13 0, l.getD 14 0 * 256 + l.getD 15 0, l.getD 16 0 * 256 + l.getD 17 0, l.getD 18 0 * 256 + l.getD 19 0, l.getD 20 0 * 256 + l.getD 21 0, l.getD 22 0 * 256 + l.getD 23 0, l.getD 24 0 * 256 + l.getD 25 0, l.getD 26 0 * 256 + l.getD 27 0,
  bitOf (l.getD 28 0) 0, bitOf (l.getD 28 0) 1, l.getD 29 0, bitOf (l.getD 28 0) 2, bitOf (l.getD 28 0) 3⟩
theorem cS_succ (l : List Int) (k : Nat) : cS l (k + 1) = (cS l k).setIfInBounds k (.int .u8 (l.getD k 0)) := by unfold cS; rw [List.range_succ, List.foldl_append]; rfl
theorem cW_succ (l : List Int) (k : Nat) : cW l (k + 1) = (cW l k).setIfInBounds (10 + k) (.int .u16 (l.getD (10 + 2 * k) 0 * 256 + l.getD (11 + 2 * k) 0)) := by unfold cW; rw [List.range_succ, List.foldl_append]; rfl
theorem cS_zero (l : List Int) : cS l 0 = zeroR.cells := by unfold cS; rw [List.range_zero, List.foldl_nil]
theorem cS_size (l : List Int) (k : Nat) : (cS l k).size = 24 := by
  induction k with
  | zero => rw [cS_zero]; rfl
  | succ k ih => rw [cS_succ, Array.size_setIfInBounds, ih]
theorem cW_zero (l : List Int) : cW l 0 = cS l 10 := by unfold cW; rw [List.range_zero, List.foldl_nil]
theorem wf_i64b {n : Int} (h0 : -9223372036854775808 ≤ n) (h1 : n ≤ 9223372036854775807) : (Lit.int .i64 n).wf = true := by
  simp only [Lit.wf, Bool.and_eq_true, decide_eq_true_eq]
  exact ⟨h0, h1⟩
theorem cW_size (l : List Int) (k : Nat) : (cW l k).size = 24 := by
  induction k with
  | zero => rw [cW_zero]; exact cS_size l 10
  | succ k ih => rw [cW_succ, Array.size_setIfInBounds, ih]
theorem u8and1 (x : Int) (h0 : 0 ≤ x) (h1 : x < 256) : bits .and .u8 x 1 = x % 2 := bits_mask .u8 8 (by decide) wraps_u8 1 (by decide) x h0 h1
theorem some_at {cs : Array Value} {k : Nat} (h : k < cs.size) : ∃ v, cs[k]? = some v := ⟨cs[k], Array.getElem?_eq_getElem h⟩
theorem tR_cells (l : List Int) : tR l = tR l := rfl
theorem cW_9 (l : List Int) : (((((cW l 9).setIfInBounds 19 (.bool (bitOf (l.getD 28 0) 0))).setIfInBounds 20 (.bool (bitOf (l.getD 28 0) 1))).setIfInBounds 22 (.bool (bitOf (l.getD 28 0) 2))).setIfInBounds 23 (.bool (bitOf (l.getD 28 0) 3))).setIfInBounds 21 (.int .i64 (l.getD 29 0)) = (tR l).cells := by kernel_rfl
def cB (l : List Int) : Nat → Array Value
  | 0 => cW l 9
  | 1 => (cW l 9).setIfInBounds 19 (.bool (bitOf (l.getD 28 0) 0))
  | 2 => ((cW l 9).setIfInBounds 19 (.bool (bitOf (l.getD 28 0) 0))).setIfInBounds 20 (.bool (bitOf (l.getD 28 0) 1))
  | 3 => (((cW l 9).setIfInBounds 19 (.bool (bitOf (l.getD 28 0) 0))).setIfInBounds 20 (.bool (bitOf (l.getD 28 0) 1))).setIfInBounds 22 (.bool (bitOf (l.getD 28 0) 2))
  | _ => ((((cW l 9).setIfInBounds 19 (.bool (bitOf (l.getD 28 0) 0))).setIfInBounds 20 (.bool (bitOf (l.getD 28 0) 1))).setIfInBounds 22 (.bool (bitOf (l.getD 28 0) 2))).setIfInBounds 23 (.bool (bitOf (l.getD 28 0) 3))
theorem cB_0 (l : List Int) : cB l 0 = cW l 9 := by unfold cB; simp only
theorem cB_1 (l : List Int) : cB l 1 = (cB l 0).setIfInBounds 19 (.bool (bitOf (l.getD 28 0) 0)) := by unfold cB; simp only
theorem cB_2 (l : List Int) : cB l 2 = (cB l 1).setIfInBounds 20 (.bool (bitOf (l.getD 28 0) 1)) := by unfold cB; simp only
theorem cB_3 (l : List Int) : cB l 3 = (cB l 2).setIfInBounds 22 (.bool (bitOf (l.getD 28 0) 2)) := by unfold cB; simp only
theorem cB_4 (l : List Int) : cB l 4 = (cB l 3).setIfInBounds 23 (.bool (bitOf (l.getD 28 0) 3)) := by unfold cB; simp only
theorem cB_size (l : List Int) (k : Nat) : (cB l k).size = 24 := by
  have := cW_size l 9
  unfold cB; split <;> simp only [Array.size_setIfInBounds, this]
theorem cB_done (l : List Int) : (cB l 4).setIfInBounds 21 (.int .i64 (l.getD 29 0)) = (tR l).cells := by rw [cB_4, cB_3, cB_2, cB_1, cB_0]; exact cW_9 l
theorem tR_ok {l : List Int} (h : AllB l) : (tR l).Ok := by
  have g := fun i => h.getD i
  constructor <;> first
    | exact g _
    | (unfold isW; show 0 ≤ l.getD _ 0 * 256 + l.getD _ 0 ∧ l.getD _ 0 * 256 + l.getD _ 0 < 65536; have h1 := g 10; have h2 := g 11; have h3 := g 12; have h4 := g 13; have h5 := g 14; have h6 := g 15; have h7 := g 16; have h8 := g 17; have h9 := g 18; have h10 := g 19; have h11 := g 20; have h12 := g 21; have h13 := g 22; have h14 := g 23; have h15 := g 24; have h16 := g 25; have h17 := g 26; have h18 := g 27; omega)
    | (have := g 29; exact wf_i64b (by show -9223372036854775808 ≤ l.getD 29 0; omega) (by show l.getD 29 0 ≤ 9223372036854775807; omega))

set_option maxHeartbeats 8000000 in
theorem c8_taken (A : Option Addr) (c : Nat) (l : List Int) (w : World) (h : RB w w.heap.size A c l) (hl : l.length = 32) : Calls Try.prog 51 #[.slice A 32 c] w fun e w' => e = .returned (tR l).val ∧ Below w.heap.size w w' := by
  obtain ⟨bb, off, rfl, hbb, hcell⟩ := h.pos (by omega)
  have hcap := h.le
  have hby := fun i => h.bytes.getD i
  rw [hl] at hcap hcell
  obtain ⟨w1, hw1⟩ : ∃ w1, w.alloc (rgO zeroR) = w1 := ⟨_, rfl⟩
  have hR1 : RowW w1 w.heap.size (cS l 0) := by rw [cS_zero, ← hw1]; exact RgW.laid w zeroR
  have hB1 : Below w.heap.size w w1 := hw1 ▸ (Below.refl _ _).alloc (Nat.le_refl _) _
  have HR1 := Lib.hid hR1
  have HC := Lib.hid (fun (w' : World) (hb : Below w.heap.size w w') (i : Nat) (hi : i < 32) => (hb.cell (p := ⟨bb, off + i, none⟩) hbb).trans (hcell i hi))
  clear hR1 hcell h
  unfold rgO zeroR at hw1
  go_enter Try.func51, Try.ntmps51
  go_wp2_with fail
  refine (c8_singles w.heap.size _).mono ?_
  rintro e w2 ⟨rfl, hb⟩
  have hR2 := HR1.out.below hb HR1.out.lt
  have hB2 := hB1.trans (hb.mono hB1.size)
  clear hb hB1 HR1 hw1
  go_wp2_with fail
  go_loopw [10] (fun i wr => ∃ k : Nat, k ≤ 10 ∧ i = .int .i64 k ∧ RowW wr w.heap.size (cS l k) ∧ Below w.heap.size w wr) (fun i _ => 10 - (intOf i).toNat)
  case atStart => exact ⟨0, by omega, rfl, hR2, hB2⟩
  case round =>
    clear hR2 hB2
    obtain ⟨k, hk, rfl, hR, hB⟩ := hrel
    by_cases hlt : k < 10
    · have hI : ∀ w', (Instr.index 63 (.agg #[.pointer (some ⟨w.heap.size, 0, none⟩), .pointer (some ⟨w.heap.size, 1, none⟩), .pointer (some ⟨w.heap.size, 2, none⟩), .pointer (some ⟨w.heap.size, 3, none⟩), .pointer (some ⟨w.heap.size, 4, none⟩), .pointer (some ⟨w.heap.size, 5, none⟩), .pointer (some ⟨w.heap.size, 6, none⟩), .pointer (some ⟨w.heap.size, 7, none⟩), .pointer (some ⟨w.heap.size, 8, none⟩), .pointer (some ⟨w.heap.size, 9, none⟩)]) (.int .i64 k)).run Try.prog w' = .ok (.pointer (some ⟨w.heap.size, k, none⟩)) w' := fun w' => by
        have := ixs_any w.heap.size k hlt w'
        rwa [Nat.zero_add] at this
      have x0 := HC.out wr hB k (by omega)
      obtain ⟨v0, hv0⟩ := some_at (cs := cS l k) (k := k) (by rw [cS_size]; omega)
      have x1 := hR.at_ k v0 hv0
      have f1 := hR.free k
      have hR2 := Lib.hid (show RowW (wr.setCell ⟨w.heap.size, k, none⟩ (.int .u8 (l.getD k 0))) w.heap.size (cS l (k + 1)) by rw [cS_succ]; exact hR.set k _)
      have hB2 := Lib.hid (hB.setCell (p := ⟨w.heap.size, k, none⟩) (Nat.le_refl _) (.int .u8 (l.getD k 0)))
      obtain ⟨X, hX⟩ : ∃ X, l.getD k 0 = X := ⟨_, rfl⟩
      rw [hX] at x0 hR2 hB2
      clear hR hB hX hv0
      go_wp2_with fail
      go_roundw
      case rel => exact ⟨k + 1, by omega, by go_num, hR2.out, hB2.out⟩
      case measure => simp [intOf]; omega
    · rw [show ((k : Nat) : Int) = 10 by omega]
      obtain rfl : k = 10 := by omega
      have HR := Lib.hid hR
      clear hR
      go_wp2_with fail
      refine (c8_singles w.heap.size _).mono ?_
      rintro e w3 ⟨rfl, hb⟩
      have hR3 : RowW w3 w.heap.size (cW l 0) := by rw [cW_zero]; exact HR.out.below hb HR.out.lt
      have hB3 := hB.trans (hb.mono hB.size)
      clear hb hB HR
      have hc10 : c ≠ 10 := by omega
      go_wp2_with fail
      refine (c8_words w.heap.size _).mono ?_
      rintro e w4 ⟨rfl, hb⟩
      have hR4 := hR3.below hb hR3.lt
      have hB4 := hB3.trans (hb.mono hB3.size)
      clear hb hR3 hB3 hc10
      go_wp2_with fail
      go_loopw [26] (fun i wr => ∃ k : Nat, k ≤ 9 ∧ i = .int .i64 k ∧ RowW wr w.heap.size (cW l k) ∧ Below w.heap.size w wr) (fun i _ => 9 - (intOf i).toNat)
      case atStart => exact ⟨0, by omega, rfl, hR4, hB4⟩
      case round =>
        clear hR4 hB4
        obtain ⟨k, hk, rfl, hR, hB⟩ := hrel
        by_cases hlt : k < 9
        · have hI := fun w' => ixw_any w.heap.size k hlt w'
          obtain ⟨w5, hw5⟩ : ∃ w5, wr = w5 := ⟨_, rfl⟩
          rw [hw5] at hR hB ⊢
          clear hw5
          obtain ⟨S, hS⟩ : ∃ S : Nat → Prop, ∀ k, S k ↔ k = w.heap.size := ⟨(· = w.heap.size), fun _ => Iff.rfl⟩
          have hbl := fun p : Later S w5 => hB.trans (p.ok.below (B := w.heap.size) hB.size (fun k hk => by have := (hS k).1 hk; omega))
          have xa := fun p => HC.out _ (hbl p) (10 + 2 * k) (by omega)
          have xb := fun p => HC.out _ (hbl p) (11 + 2 * k) (by omega)
          have b1 := hby (10 + 2 * k)
          have b2 := hby (11 + 2 * k)
          obtain ⟨v0, hv0⟩ := some_at (cs := cW l k) (k := 10 + k) (by rw [cW_size]; omega)
          have hT : (cW l (k + 1)) = (cW l k).setIfInBounds (10 + k) (.int .u16 (l.getD (10 + 2 * k) 0 * 256 + l.getD (11 + 2 * k) 0)) := cW_succ l k
          obtain ⟨P, hP⟩ : ∃ P, l.getD (10 + 2 * k) 0 = P := ⟨_, rfl⟩
          obtain ⟨Q, hQ⟩ : ∃ P, l.getD (11 + 2 * k) 0 = P := ⟨_, rfl⟩
          rw [hP] at b1 hT
          rw [hQ] at b2 hT
          simp only [hP] at xa
          simp only [hQ] at xb
          have e1 : ∀ p : Later S w5, p.w.cell? ⟨bb, off + 10 + 2 * k, none⟩ = some (.int .u8 P) := fun p => by rw [Nat.add_assoc]; exact xa p
          have e2 : ∀ p : Later S w5, p.w.cell? ⟨bb, off + 10 + (2 * k + 1), none⟩ = some (.int .u8 Q) := fun p => by rw [show off + 10 + (2 * k + 1) = off + (11 + 2 * k) by omega]; exact xb p
          have n1 : (2 * (k : Int)).toNat = 2 * k := by omega
          have n2 : (2 * (k : Int) + 1).toNat = 2 * k + 1 := by omega
          obtain ⟨p0, p1⟩ := b1
          obtain ⟨q0, q1⟩ := b2
          have HT := Lib.hid hT
          have HS := Lib.hid hS
          have HR := Lib.hid hR
          have HB := Lib.hid hB
          have HV := Lib.hid hv0
          clear xa xb hP hQ hT hS hR hB hv0 hbl
          go_upto_region 10 with fail
          clear hI
          refine region_ S (by kernel_rfl) ?_
          refine seg_ [0, 1, 2, 3, 4, 5, 6, 7, 8, 9, 10, 11] 3 _ (by kernel_rfl) (by kernel_rfl) (by kernel_rfl) (by simp only [pickOps, mask, plain, List.getElem?_toArray, List.getElem?_cons_zero, List.getElem?_cons_succ, if_true]; rfl) ?_
          repeat (go_big_quiet_step (fail))
          refine wpQuiet_nil ?_
          clear e1 e2 n1 n2
          refine calm_ (i := 12) (.int .u16 (P * 256 + Q)) rfl (by kernel_rfl) (by kernel_rfl) (by kernel_rfl) (by kernel_rfl) ?_ ?_
          · intro wz sz
            unfold Oper.does
            go_simp
            refine (w7_pair P Q _ p0 p1 q0 q1).mono ?_
            rintro e w' ⟨rfl, rfl⟩
            exact ⟨_, rfl, rfl, ⟨wz.drawn, rfl⟩⟩
          go_simp
          refine seg_ [13] 1 _ (by kernel_rfl) (by kernel_rfl) (by kernel_rfl) (by simp only [pickOps, mask, plain, List.getElem?_toArray, List.getElem?_cons_zero, List.getElem?_cons_succ, if_true]; rfl) ?_
          repeat (go_big_quiet_step (fail))
          refine wpQuiet_nil ?_
          refine callx_ (i := 14) rfl (by kernel_rfl) (by kernel_rfl) ?_
          intro nn
          have hV := Save.drawn S w5 nn
          have hR6 : RowW { w5 with drawn := nn } w.heap.size (cW l k) := HR.out
          have hB6 : Below w.heap.size w { w5 with drawn := nn } := HB.out.trans ((Save.drawn (fun _ => False) w5 nn).all.mono HB.out.size)
          generalize hw : ({ w5 with drawn := nn } : World) = w6 at *
          clear hw HR HB
          have hc := hR6.at_ (10 + k) _ HV.out
          have fc := hR6.free (10 + k)
          unfold Oper.does
          go_simp
          clear hc fc
          refine turn_ (S1 := fun _ => False) hV (save_cell (Save.refl S w6) w.heap.size (10 + k) (.int .u16 (P * 256 + Q)) ((HS.out _).2 rfl)) (fun k hk h => h.elim) ?_
          have hR7 : RowW (w6.setCell ⟨w.heap.size, 10 + k, none⟩ (.int .u16 (P * 256 + Q))) w.heap.size (cW l (k + 1)) := by rw [HT.out]; exact hR6.set (10 + k) _
          have hB7 := hB6.setCell (p := ⟨w.heap.size, 10 + k, none⟩) (Nat.le_refl _) (.int .u16 (P * 256 + Q))
          generalize hw : w6.setCell ⟨w.heap.size, 10 + k, none⟩ (.int .u16 (P * 256 + Q)) = w7 at *
          clear hw hR6 hB6 hV HV
          refine end_ (by kernel_rfl) ?_
          intro wc sc
          have hb8 := sc.below (B := w7.heap.size) (Nat.le_refl _) (fun _ h => h.elim)
          have hR8 := hR7.below hb8 hR7.lt
          have hB8 := hB7.trans (hb8.mono hB7.size)
          clear hR7 hB7 hb8 sc
          go_wp2_with fail
          go_roundw
          case rel => exact ⟨k + 1, by omega, by go_num, hR8, hB8⟩
          case measure => simp [intOf]; omega
        · rw [show ((k : Nat) : Int) = 9 by omega]
          obtain rfl : k = 9 := by omega
          have HR := Lib.hid hR
          clear hR
          go_wp2_with fail
          refine (c8_words w.heap.size _).mono ?_
          rintro e w5 ⟨rfl, hb⟩
          have hR5 : RowW w5 w.heap.size (cB l 0) := by rw [cB_0]; exact HR.out.below hb HR.out.lt
          have hB5 := hB.trans (hb.mono hB.size)
          clear hb hB HR
          have hc18 : c - 10 ≠ 18 := by omega
          go_wp2_with fail
          refine (c8_switches w.heap.size _).mono ?_
          rintro e w6 ⟨rfl, hb⟩
          have hR6 := hR5.below hb hR5.lt
          have hB6 := hB5.trans (hb.mono hB5.size)
          clear hb hR5 hB5 hc18
          have z1 := cB_1 l
          have z2 := cB_2 l
          have z3 := cB_3 l
          have z4 := cB_4 l
          have zs := cB_size l
          have zd := cB_done l
          obtain ⟨F, hF⟩ : ∃ F, cB l = F := ⟨_, rfl⟩
          simp only [hF] at z1 z2 z3 z4 zs zd hR6
          have Z1 := Lib.hid z1
          have Z2 := Lib.hid z2
          have Z3 := Lib.hid z3
          have Z4 := Lib.hid z4
          have ZS := Lib.hid zs
          have ZD := Lib.hid zd
          clear z1 z2 z3 z4 zs zd hF
          go_wp2_with fail
          go_loopw [51] (fun i wr => ∃ k : Nat, k ≤ 4 ∧ i = .int .i64 k ∧ RowW wr w.heap.size (F k) ∧ Below w.heap.size w wr) (fun i _ => 4 - (intOf i).toNat)
          case atStart => exact ⟨0, by omega, rfl, hR6, hB6⟩
          case round =>
            clear hR6 hB6
            obtain ⟨k, hk, rfl, hR, hB⟩ := hrel
            have hk5 : k = 0 ∨ k = 1 ∨ k = 2 ∨ k = 3 ∨ k = 4 := by omega
            clear hk
            rcases hk5 with rfl | rfl | rfl | rfl | rfl
            · have hI := fun w' => ixb_0 w.heap.size w'
              have x0 := HC.out wr hB 28 (by omega)
              have hb28 := hby 28
              obtain ⟨v0, hv0⟩ := some_at (cs := F 0) (k := 19) (by rw [ZS.out]; omega)
              have x1 := hR.at_ 19 v0 hv0
              have f1 := hR.free 19
              have hR2 := Lib.hid (show RowW (wr.setCell ⟨w.heap.size, 19, none⟩ (.bool (bitOf (l.getD 28 0) 0))) w.heap.size (F 1) by rw [Z1.out]; exact hR.set 19 _)
              have hB2 := Lib.hid (hB.setCell (p := ⟨w.heap.size, 19, none⟩) (Nat.le_refl _) (.bool (bitOf (l.getD 28 0) 0)))
              obtain ⟨X, hX⟩ : ∃ X, l.getD 28 0 = X := ⟨_, rfl⟩
              rw [hX] at x0 hR2 hB2 hb28
              obtain ⟨X0, X1⟩ := hb28
              have hq := u8and1 (X) (by omega) (by omega)
              have x0b : wr.cell? ⟨bb, off + 10 + 18, none⟩ = some (.int .u8 X) := by rw [Nat.add_assoc]; exact x0
              clear hR hB hX hv0
              go_wp2_with fail
              go_roundw
              case rel => exact ⟨1, by omega, by go_num, hR2.out, hB2.out⟩
              case measure => simp [intOf]
            · have hI := fun w' => ixb_1 w.heap.size w'
              have x0 := HC.out wr hB 28 (by omega)
              have hb28 := hby 28
              obtain ⟨v0, hv0⟩ := some_at (cs := F 1) (k := 20) (by rw [ZS.out]; omega)
              have x1 := hR.at_ 20 v0 hv0
              have f1 := hR.free 20
              have hR2 := Lib.hid (show RowW (wr.setCell ⟨w.heap.size, 20, none⟩ (.bool (bitOf (l.getD 28 0) 1))) w.heap.size (F 2) by rw [Z2.out]; exact hR.set 20 _)
              have hB2 := Lib.hid (hB.setCell (p := ⟨w.heap.size, 20, none⟩) (Nat.le_refl _) (.bool (bitOf (l.getD 28 0) 1)))
              obtain ⟨X, hX⟩ : ∃ X, l.getD 28 0 = X := ⟨_, rfl⟩
              rw [hX] at x0 hR2 hB2 hb28
              obtain ⟨X0, X1⟩ := hb28
              have hq := u8and1 (X / 2) (by omega) (by omega)
              have x0b : wr.cell? ⟨bb, off + 10 + 18, none⟩ = some (.int .u8 X) := by rw [Nat.add_assoc]; exact x0
              clear hR hB hX hv0
              go_wp2_with fail
              go_roundw
              case rel => exact ⟨2, by omega, by go_num, hR2.out, hB2.out⟩
              case measure => simp [intOf]
            · have hI := fun w' => ixb_2 w.heap.size w'
              have x0 := HC.out wr hB 28 (by omega)
              have hb28 := hby 28
              obtain ⟨v0, hv0⟩ := some_at (cs := F 2) (k := 22) (by rw [ZS.out]; omega)
              have x1 := hR.at_ 22 v0 hv0
              have f1 := hR.free 22
              have hR2 := Lib.hid (show RowW (wr.setCell ⟨w.heap.size, 22, none⟩ (.bool (bitOf (l.getD 28 0) 2))) w.heap.size (F 3) by rw [Z3.out]; exact hR.set 22 _)
              have hB2 := Lib.hid (hB.setCell (p := ⟨w.heap.size, 22, none⟩) (Nat.le_refl _) (.bool (bitOf (l.getD 28 0) 2)))
              obtain ⟨X, hX⟩ : ∃ X, l.getD 28 0 = X := ⟨_, rfl⟩
              rw [hX] at x0 hR2 hB2 hb28
              obtain ⟨X0, X1⟩ := hb28
              have hq := u8and1 (X / 4) (by omega) (by omega)
              have x0b : wr.cell? ⟨bb, off + 10 + 18, none⟩ = some (.int .u8 X) := by rw [Nat.add_assoc]; exact x0
              clear hR hB hX hv0
              go_wp2_with fail
              go_roundw
              case rel => exact ⟨3, by omega, by go_num, hR2.out, hB2.out⟩
              case measure => simp [intOf]
            · have hI := fun w' => ixb_3 w.heap.size w'
              have x0 := HC.out wr hB 28 (by omega)
              have hb28 := hby 28
              obtain ⟨v0, hv0⟩ := some_at (cs := F 3) (k := 23) (by rw [ZS.out]; omega)
              have x1 := hR.at_ 23 v0 hv0
              have f1 := hR.free 23
              have hR2 := Lib.hid (show RowW (wr.setCell ⟨w.heap.size, 23, none⟩ (.bool (bitOf (l.getD 28 0) 3))) w.heap.size (F 4) by rw [Z4.out]; exact hR.set 23 _)
              have hB2 := Lib.hid (hB.setCell (p := ⟨w.heap.size, 23, none⟩) (Nat.le_refl _) (.bool (bitOf (l.getD 28 0) 3)))
              obtain ⟨X, hX⟩ : ∃ X, l.getD 28 0 = X := ⟨_, rfl⟩
              rw [hX] at x0 hR2 hB2 hb28
              obtain ⟨X0, X1⟩ := hb28
              have hq := u8and1 (X / 8) (by omega) (by omega)
              have x0b : wr.cell? ⟨bb, off + 10 + 18, none⟩ = some (.int .u8 X) := by rw [Nat.add_assoc]; exact x0
              clear hR hB hX hv0
              go_wp2_with fail
              go_roundw
              case rel => exact ⟨4, by omega, by go_num, hR2.out, hB2.out⟩
              case measure => simp [intOf]
            · have x0 := HC.out wr hB 29 (by omega)
              have hb29 := hby 29
              obtain ⟨v0, hv0⟩ := some_at (cs := F 4) (k := 21) (by rw [ZS.out]; omega)
              have x1 := hR.at_ 21 v0 hv0
              have f1 := hR.free 21
              have hR2 : RowW (wr.setCell ⟨w.heap.size, 21, none⟩ (.int .i64 (l.getD 29 0))) w.heap.size (tR l).cells := by rw [← ZD.out]; exact hR.set 21 _
              have hB2 := Lib.hid (hB.setCell (p := ⟨w.heap.size, 21, none⟩) (Nat.le_refl _) (.int .i64 (l.getD 29 0)))
              obtain ⟨t, ht⟩ : ∃ t, tR l = t := ⟨_, rfl⟩
              rw [ht] at hR2
              have HTt := Lib.hid ht
              obtain ⟨X, hX⟩ : ∃ X, l.getD 29 0 = X := ⟨_, rfl⟩
              rw [hX] at x0 hR2 hB2 hb29
              obtain ⟨X0, X1⟩ := hb29
              have x0b : wr.cell? ⟨bb, off + 10 + 18 + 1, none⟩ = some (.int .u8 X) := by rw [Nat.add_assoc, Nat.add_assoc]; exact x0
              have x0c : wr.cell? ⟨bb, off + 28 + 1, none⟩ = some (.int .u8 X) := by rw [Nat.add_assoc]; exact x0
              have HR2 := Lib.hid hR2
              clear hR hB hX hv0 hR2 ht
              go_wp2_with (first
                | (refine wpList_load_row rfl 24 _ rfl w.heap.size rfl _ _ (0, 0) _ HR2.out Try.underlying24 rfl rg_info ?_)
                | (refine wpList_store_row rfl 24 _ _ rfl w.heap.size t.cells rfl rfl _ _ HR2.out rg_info rfl (rg_one t) ?_))
              (try simp only [Exit.inBlock, Exit.then])
              exact bodyPost_ret (results_rg rfl _ _ _ t rfl (setRow_heap _ _ _ _ _ _ HR2.out)) rfl ⟨by rw [HTt.out], below_setRow hB2.out (Nat.le_refl _) _⟩

end Go.Proofs.Ytedlfcmlchjjlaa
