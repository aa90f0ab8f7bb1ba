/- The walk of OctetBack. -/
import Derived.Test.YthimgmcekhgclaaA
import Derived.Test.YthimgmcekhgclaaQ
import Derived.Test.YthimgmcekhgclaaV
import Derived.Test.YthimgmcekhgclaaY
import Derived.Deep.DeepCutAuto
import Derived.Deep.LoopGhost
import Derived.OpenShut
namespace Go.Proofs.Ythimgmcekhgclaa
open Go.RowKit
set_option linter.unusedVariables false

theorem putB_le (xs ys : List Int) (ps : List Piece) : ∀ k, (∀ j (h : j < ps.length), j < k → ps[j].l.length ≤ 3000) → (putB xs ys ps k).length ≤ 3100 * k
  | 0, _ => by simp [putB]
  | k + 1, h => by
    have ih := putB_le xs ys ps k (fun j hj hk => h j hj (by omega))
    have h1 := sgX_le xs k
    have h2 := sgY_le ys k
    have h3 := sgP_le ps k (fun hk => h k hk (by omega))
    simp only [putB, List.length_append]
    omega

theorem Save.none {S : Nat → Prop} {w w' : World} (h : Save S w w') (hS : ∀ k, ¬ S k) : Below w.heap.size w w' := ⟨h.os, h.tape, h.output, h.size, fun k hk => h.block k hk (hS k)⟩
theorem Later.bel {S : Nat → Prop} {g B : Nat} {b : World} (p : Later S b) (hS : ∀ i, S i → i = g) (hg : B ≤ g) (hB : B ≤ b.heap.size) : Below B b p.w := p.ok.below hB (fun k hk => by rw [hS k hk]; exact hg)
theorem below_grownG {w w' : World} {g B : Nat} (hb : w.grownBy w' (some g)) (hg : B ≤ g) (hB : B ≤ w.heap.size) : Below B w w' := ⟨hb.os, hb.tape, hb.output, hb.size, fun k hk => hb.block k (by omega) (fun e => by have := Option.some.inj e; omega)⟩

/-- What came in. -/
structure In3 (w : World) (A0 A1 A2 : Option Addr) (xs ys : List Int) (ps : List Piece) : Prop where
  x : IR w w.heap.size A0 .u64 xs
  y : IR w w.heap.size A1 .i64 ys
  p : PR w w.heap.size A2 ps
  xb : ∀ i, i < xs.length → ∃ v : Nat, xs.getD i 0 = (v : Int) ∧ v < 18446744073709551616
  yb : ∀ i, i < ys.length → -9223372036854775808 ≤ ys.getD i 0 ∧ ys.getD i 0 < 9223372036854775808

set_option maxHeartbeats 1000000 in
set_option maxRecDepth 100000 in
theorem octback_big (w : World) (A0 A1 A2 : Option Addr) (c0 c1 c2 n0 n1 n2 : Nat) (h : 50 < n0 ∨ 50 < n1 ∨ 50 < n2) :
    Calls Try.prog 6 #[.slice A0 n0 c0, .slice A1 n1 c1, .slice A2 n2 c2] w fun e w' => e = .returned (.bool true) ∧ Below w.heap.size w w' := by
  go_enter Try.func6, Try.ntmps6
  go_wp2_with fail
  refine (lives_any _).mono ?_
  rintro e w1 ⟨rfl, hb⟩
  by_cases h0 : 50 < n0
  · go_wp2_with fail
    go_ret
    exact ⟨rfl, hb⟩
  · by_cases h1 : 50 < n1
    · go_wp2_with fail
      go_ret
      exact ⟨rfl, hb⟩
    · have h2 : 50 < n2 := by omega
      go_wp2_with fail
      go_ret
      exact ⟨rfl, hb⟩

set_option linter.unusedSimpArgs false in
set_option maxHeartbeats 16000000 in
set_option maxRecDepth 100000 in
theorem octback_ok (w : World) (A0 A1 A2 : Option Addr) (c0 c1 c2 : Nat) (xs ys : List Int) (ps : List Piece) (hin : In3 w A0 A1 A2 xs ys ps) (h0 : xs.length ≤ 50) (h1 : ys.length ≤ 50) (h2 : ps.length ≤ 50)
    (k0 : xs.length ≤ c0) (k1 : ys.length ≤ c1) (k2 : ps.length ≤ c2) (m0 : c0 ≤ 9223372036854775807) (m1 : c1 ≤ 9223372036854775807) (m2 : c2 ≤ 9223372036854775807) :
    Calls Try.prog 6 #[.slice A0 xs.length c0, .slice A1 ys.length c1, .slice A2 ps.length c2] w fun e w' => e = .returned (.bool true) ∧ Below w.heap.size w w' := by
  go_enter Try.func6, Try.ntmps6
  go_wp2_with fail
  refine (lives_any _).mono ?_
  rintro e w1 ⟨rfl, hb1⟩
  go_wp2_with fail
  go_loopg [7, 8] 50 (fun gh v i wr => ∃ (k : Nat) (A : Option Addr) (c : Nat), gh = 50 - k ∧ k ≤ 50 ∧ i = .int .i64 k ∧ v = .slice A (putB xs ys ps k).length c ∧ OB wr w.heap.size A c (putB xs ys ps k) ∧ (∀ j (h : j < ps.length), j < k → ps[j].l.length ≤ 3000) ∧ Below w.heap.size w wr)
  case atStart => exact ⟨0, none, 0, rfl, by omega, rfl, rfl, OB.nil _ _, fun j _ h => absurd h (Nat.not_lt_zero _), hb1⟩
  case round =>
    obtain ⟨k, A, c, rfl, hk, rfl, rfl, ho, hsm, hB⟩ := hrel
    have hple := putB_le xs ys ps k hsm
    by_cases hlt : k < 50
    · have hxle := sgX_le xs k
      have hyle := sgY_le ys k
      go_upto_if 35 with fail
      go_cut [7] (fun v wc => ∃ (A : Option Addr) (c : Nat), v = .slice A (putB xs ys ps k ++ sgX xs k).length c ∧ OB wc w.heap.size A c (putB xs ys ps k ++ sgX xs k) ∧ Below w.heap.size w wc)
      case first =>
        by_cases hx : k < xs.length
        · obtain ⟨b, off, rfl, hbb, hc⟩ := hin.x k hx
          obtain ⟨v, hv, hv2⟩ := hin.xb k hx
          rw [hv] at hc
          have hcell := (hB.cell (p := ⟨b, off + k, none⟩) hbb).trans hc
          have HX := Lib.hid (show sgX xs k = numB v by unfold sgX; rw [if_pos hx, hv, Int.toNat_natCast])
          clear hv hc
          go_wp2_with fail
          clear hcell
          refine (number_any A _ c (putB xs ys ps k) v wr wr.heap.size rfl ho.rb (Nat.le_refl _) (by omega) hv2).mono ?_
          rintro e w2 ⟨A3, c3, rfl, ho3, hb3⟩
          go_wp2_with fail
          go_meet
          rw [HX.out]
          exact ⟨A3, c3, by simp, ho3.mono hB.size, hB.trans (hb3.mono hB.size)⟩
        · have HX := Lib.hid (show sgX xs k = [] by unfold sgX; rw [if_neg hx])
          go_wp2_with fail
          go_meet
          rw [HX.out, List.append_nil]
          exact ⟨A, c, rfl, ho, hB⟩
      case rest =>
        obtain ⟨A, c, rfl, ho, hB⟩ := hcut
        have hl1 : (putB xs ys ps k ++ sgX xs k).length ≤ 160000 := by rw [List.length_append]; omega
        obtain ⟨D, hD⟩ : ∃ D, putB xs ys ps k ++ sgX xs k = D := ⟨_, rfl⟩
        rw [hD] at ho hl1 ⊢
        have HD := Lib.hid hD
        clear hD
        go_upto_if 45 with fail
        go_cut [7] (fun v wc => ∃ (A : Option Addr) (c : Nat), v = .slice A (D ++ sgY ys k).length c ∧ OB wc w.heap.size A c (D ++ sgY ys k) ∧ Below w.heap.size w wc)
        case first =>
          by_cases hy : k < ys.length
          · obtain ⟨b, off, rfl, hbb, hc⟩ := hin.y k hy
            obtain ⟨hy0, hy1⟩ := hin.yb k hy
            have HY := Lib.hid (show sgY ys k = numB (foldZ (ys.getD k 0)) by unfold sgY; rw [if_pos hy])
            obtain ⟨y, hyy⟩ : ∃ y, ys.getD k 0 = y := ⟨_, rfl⟩
            rw [hyy] at hc hy0 hy1 HY
            have hcell := (hB.cell (p := ⟨b, off + k, none⟩) hbb).trans hc
            clear hyy hc
            go_wp2_with fail
            clear hcell
            refine (signed_any A _ c D y wc wc.heap.size rfl ho.rb (Nat.le_refl _) (by omega) hy0 hy1).mono ?_
            rintro e w2 ⟨A3, c3, rfl, ho3, hb3⟩
            go_wp2_with fail
            go_meet
            rw [HY.out]
            exact ⟨A3, c3, by simp, ho3.mono hB.size, hB.trans (hb3.mono hB.size)⟩
          · have HY := Lib.hid (show sgY ys k = [] by unfold sgY; rw [if_neg hy])
            go_wp2_with fail
            go_meet
            rw [HY.out, List.append_nil]
            exact ⟨A, c, rfl, ho, hB⟩
        case rest =>
          obtain ⟨A, c, rfl, ho, hB⟩ := hcut
          have hl2 : (D ++ sgY ys k).length ≤ 170000 := by rw [List.length_append]; omega
          obtain ⟨D2, hD2⟩ : ∃ D2, D ++ sgY ys k = D2 := ⟨_, rfl⟩
          rw [hD2] at ho hl2 ⊢
          have HPB := Lib.hid (show putB xs ys ps (k + 1) = D2 ++ sgP ps k by simp only [putB]; rw [HD.out, hD2])
          clear hD2
          by_cases hp : k < ps.length
          · obtain ⟨b, off, rfl, hbb, hc, hrb⟩ := hin.p k hp
            have HP0 := Lib.hid (show sgP ps k = blk ps[k].l by unfold sgP; rw [dif_pos hp])
            have HS0 := Lib.hid hsm
            clear hsm
            obtain ⟨q, hq⟩ : ∃ q, ps[k] = q := ⟨_, rfl⟩
            have HQ := Lib.hid hq
            rw [hq] at hc hrb HP0
            clear hq
            obtain ⟨Aq, cq, m⟩ := q
            simp only at hc hrb HP0
            have hcell := (hB.cell (p := ⟨b, off + k, none⟩) hbb).trans hc
            clear hc
            by_cases hm : 3000 < m.length
            · go_wp2_with fail
              go_ret
              exact ⟨rfl, hB⟩
            · go_wp2_with fail
              clear hcell
              refine (own_any Aq cq _ m wc w.heap.size rfl (hrb.below hB) hB.size (by omega)).mono ?_
              rintro e w2 ⟨A3, c3, rfl, ho3, hb3⟩
              have ho2 := ho.below hb3 (Nat.le_refl _)
              have hB2 := hB.trans (hb3.mono hB.size)
              clear hb3
              go_wp2_with fail
              refine (block_any A A3 _ c _ c3 D2 m w2 w2.heap.size rfl rfl ho2.rb ho3.rb (Nat.le_refl _) (by omega) (by omega)).mono ?_
              rintro e w3 ⟨A4, c4, rfl, ho4, hb4⟩
              go_wp2_with fail
              go_roundg (50 - (k + 1))
              case measure => omega
              case rel =>
                refine ⟨k + 1, A4, c4, rfl, by omega, by go_num, ?_, ?_, fun j hj hjk => ?_, hB2.trans (hb4.mono hB2.size)⟩
                · rw [HPB.out, HP0.out]; simp [blk]
                · rw [HPB.out, HP0.out]; exact ho4.mono hB2.size
                · by_cases hjk' : j = k
                  · subst hjk'; rw [HQ.out]; simp only; omega
                  · exact HS0.out j hj (by omega)
          · have HP := Lib.hid (show sgP ps k = [] by unfold sgP; rw [dif_neg hp])
            go_wp2_with fail
            go_roundg (50 - (k + 1))
            case measure => omega
            case rel =>
              refine ⟨k + 1, A, c, rfl, by omega, by go_num, ?_, ?_, fun j hj hjk => hsm j hj (by omega), hB⟩
              · rw [HPB.out, HP.out, List.append_nil]
              · rw [HPB.out, HP.out, List.append_nil]; exact ho
    · have hsm' : ∀ j (h : j < ps.length), ps[j].l.length ≤ 3000 := fun j h => hsm j h (by omega)
      have hLle : (putB xs ys ps k).length ≤ 155000 := by omega
      obtain ⟨L, hL⟩ : ∃ L, putB xs ys ps k = L := ⟨_, rfl⟩
      rw [hL] at ho hLle ⊢
      have HL := Lib.hid hL
      have HN := Lib.hid (show k = 50 by omega)
      have HSM := Lib.hid hsm'
      clear hL hsm hsm' hple hb1
      go_wp2_with fail
      refine (new_any A c _ L wr wr.heap.size rfl ho.rb (Nat.le_refl _) (by omega)).mono ?_
      rintro e w2 ⟨g, A3, c3, rfl, hR, hb2, hg, ha3⟩
      clear ha3
      have hB2 := hB.trans (hb2.mono hB.size)
      have hrb2 := ho.rb.below hb2
      have hwB := hB.size
      obtain ⟨B2, hB2e⟩ : ∃ B2, wr.heap.size = B2 := ⟨_, rfl⟩
      rw [hB2e] at hrb2 hg hwB
      clear hb2 hB2e ho hB
      go_wp2_with fail
      go_loopg [10] 50 (fun gh i wr => ∃ k : Nat, gh = 50 - k ∧ k ≤ 50 ∧ i = .int .i64 k ∧ Rdr wr g A3 c3 L (putB xs ys ps k).length 0 ∧ RB wr B2 A c L ∧ Below w.heap.size w wr)
      case atStart => exact ⟨0, rfl, by omega, rfl, hR, hrb2, hB2⟩
      case round =>
        clear hR hrb2 hB2
        obtain ⟨k, rfl, hk, rfl, hR, hrb, hB⟩ := hrel
        by_cases hlt : k < 50
        · obtain ⟨t, hL⟩ := putB_parts xs ys ps k hlt
          rw [← HN.out, HL.out] at hL
          have HLK := Lib.hid hL
          clear hL
          have hgl := hR.lt
          obtain ⟨S0, hS0⟩ : ∃ S0 : Nat → Prop, ∀ i, S0 i ↔ (i = g ∧ (k < xs.length ∨ k < ys.length ∨ k < ps.length)) := ⟨_, fun _ => Iff.rfl⟩
          obtain ⟨S1, hS1⟩ : ∃ S1 : Nat → Prop, ∀ i, S1 i ↔ (i = g ∧ (k < ys.length ∨ k < ps.length)) := ⟨_, fun _ => Iff.rfl⟩
          obtain ⟨S2, hS2⟩ : ∃ S2 : Nat → Prop, ∀ i, S2 i ↔ (i = g ∧ k < ps.length) := ⟨_, fun _ => Iff.rfl⟩
          have HS0 := Lib.hid hS0
          have HS1 := Lib.hid hS1
          have HS2 := Lib.hid hS2
          clear hS0 hS1 hS2
          go_upto_region 21 with fail
          refine region_ S0 (by kernel_rfl) ?_
          by_cases hx : k < xs.length
          · obtain ⟨b, off, rfl, hbb, hc⟩ := hin.x k hx
            obtain ⟨v, hv, hv2⟩ := hin.xb k hx
            rw [hv] at hc
            have HX := Lib.hid (show sgX xs k = numB v by unfold sgX; rw [if_pos hx, hv, Int.toNat_natCast])
            have hcx : ∀ p : Later S0 wr, p.w.cell? ⟨b, off + k, none⟩ = some (.int .u64 v) := fun p => ((hB.trans (p.bel (g := g) (fun i h => ((HS0.out i).1 h).1) (by omega) hB.size)).cell hbb).trans hc
            have hvv : ((v : Int) != (v : Int)) = false := by simp
            clear hv hc
            refine seg_ [0, 1, 2, 3, 4, 5, 7, 8, 9, 10] 35 _ (by kernel_rfl) (by kernel_rfl) (by kernel_rfl) (by simp only [pickOps, mask, plain, List.getElem?_toArray, List.getElem?_cons_zero, List.getElem?_cons_succ, if_true, if_false, Bool.false_eq_true]; rfl) ?_
            repeat (go_big_quiet_step (fail))
            refine wpQuiet_nil ?_
            clear hcx
            refine callx_ (i := 6) rfl (by kernel_rfl) (by kernel_rfl) ?_
            intro kn
            unfold Oper.does
            go_simp
            refine (rnumber_any g A3 c3 L _ 0 _ (hR.same (w' := { wr with drawn := kn }) rfl)).mono ?_
            rintro e w4 ⟨he, hR4, hg4⟩
            rw [num_at L (putB xs ys ps k) (sgY ys k ++ sgP ps k ++ t) v hv2 (by rw [HLK.out, HX.out]; simp [List.append_assoc])] at he hR4
            simp only at he hR4
            subst he
            refine ⟨_, rfl, turn_ (S1 := S1) (Save.drawn _ _ _) (Save.of_grown hg4 ((HS0.out g).2 ⟨rfl, .inl hx⟩)) (fun i _ h => (HS0.out i).2 ⟨((HS1.out i).1 h).1, .inr ((HS1.out i).1 h).2⟩) ?_⟩
            have hg4' : wr.grownBy w4 (some g) := ⟨hg4.os, hg4.tape, hg4.output, hg4.size, hg4.block⟩
            have hB4 := hB.trans (below_grownG hg4' (by omega) hB.size)
            have hrb4 : RB w4 B2 A c L := hrb.below (below_grownG hg4' hg (by omega))
            have hgl4 := hR4.lt
            clear hg4 hg4' hR hB hrb
            rw [← HX.out] at hR4
            refine seg_ [11, 12, 13] 31 _ (by kernel_rfl) (by kernel_rfl) (by kernel_rfl) (by simp only [pickOps, mask, plain, List.getElem?_toArray, List.getElem?_cons_zero, List.getElem?_cons_succ, if_true, if_false, Bool.false_eq_true]; rfl) ?_
            repeat (go_big_quiet_step (fail))
            refine wpQuiet_nil ?_
            by_cases hy : k < ys.length
            · obtain ⟨by_, offy, rfl, hbby, hcy⟩ := hin.y k hy
              obtain ⟨hy0, hy1⟩ := hin.yb k hy
              have HY := Lib.hid (show sgY ys k = numB (foldZ (ys.getD k 0)) by unfold sgY; rw [if_pos hy])
              obtain ⟨y, hyy⟩ : ∃ y, ys.getD k 0 = y := ⟨_, rfl⟩
              rw [hyy] at hcy hy0 hy1 HY
              have hcyl : ∀ p : Later S1 w4, p.w.cell? ⟨by_, offy + k, none⟩ = some (.int .i64 y) := fun p => ((hB4.trans (p.bel (g := g) (fun i h => ((HS1.out i).1 h).1) (by omega) hB4.size)).cell hbby).trans hcy
              have hyv : (y != y) = false := by simp
              clear hyy hcy
              refine seg_ [14, 15, 16, 17, 18, 19, 21, 22, 23, 24] 21 _ (by kernel_rfl) (by kernel_rfl) (by kernel_rfl) (by simp only [pickOps, mask, plain, List.getElem?_toArray, List.getElem?_cons_zero, List.getElem?_cons_succ, if_true, if_false, Bool.false_eq_true]; rfl) ?_
              repeat (go_big_quiet_step (fail))
              refine wpQuiet_nil ?_
              clear hcyl
              refine callx_ (i := 20) rfl (by kernel_rfl) (by kernel_rfl) ?_
              intro kn
              unfold Oper.does
              go_simp
              refine (rsigned_any g A3 c3 L _ 0 _ (hR4.same (w' := { w4 with drawn := kn }) rfl)).mono ?_
              rintro e w5 ⟨he, hR5, hg5⟩
              rw [num_at L (putB xs ys ps k ++ sgX xs k) (sgP ps k ++ t) (foldZ y) (foldZ_lt y hy0 hy1) (by rw [HLK.out, HY.out]; simp [List.append_assoc])] at he hR5
              simp only [unfold_fold] at he hR5
              subst he
              refine ⟨_, rfl, turn_ (S1 := S2) (Save.drawn _ _ _) (Save.of_grown hg5 ((HS1.out g).2 ⟨rfl, .inl hy⟩)) (fun i _ h => (HS1.out i).2 ⟨((HS2.out i).1 h).1, .inr ((HS2.out i).1 h).2⟩) ?_⟩
              have hg5' : w4.grownBy w5 (some g) := ⟨hg5.os, hg5.tape, hg5.output, hg5.size, hg5.block⟩
              have hB5 := hB4.trans (below_grownG hg5' (by omega) hB4.size)
              have hrb5 : RB w5 B2 A c L := hrb4.below (below_grownG hg5' hg (by omega))
              have hgl5 := hR5.lt
              clear hg5 hg5' hR4 hB4 hrb4
              rw [← HY.out] at hR5
              refine seg_ [25, 26, 27, 28] 16 _ (by kernel_rfl) (by kernel_rfl) (by kernel_rfl) (by simp only [pickOps, mask, plain, List.getElem?_toArray, List.getElem?_cons_zero, List.getElem?_cons_succ, if_true, if_false, Bool.false_eq_true]; rfl) ?_
              repeat (go_big_quiet_step (fail))
              refine wpQuiet_nil ?_
              by_cases hp : k < ps.length
              · obtain ⟨bp, offp, rfl, hbp, hcp, hrbp⟩ := hin.p k hp
                have HP0 := Lib.hid (show sgP ps k = blk ps[k].l by unfold sgP; rw [dif_pos hp])
                have hsm := HSM.out k hp
                obtain ⟨q, hq⟩ : ∃ q, ps[k] = q := ⟨_, rfl⟩
                rw [hq] at hcp hrbp HP0 hsm
                clear hq
                obtain ⟨Aq, cq, m⟩ := q
                simp only at hcp hrbp HP0 hsm
                have hcpl : ∀ p : Later S2 w5, p.w.cell? ⟨bp, offp + k, none⟩ = some (.slice Aq m.length cq) := fun p => ((hB5.trans (p.bel (g := g) (fun i h => ((HS2.out i).1 h).1) (by omega) hB5.size)).cell hbp).trans hcp
                have hs1 : ∀ p : Later S2 w5, (convert 24 9 (.slice Aq m.length cq)).run Try.prog p.w = .ok (.string (strOfNums m)) p.w := fun p => str_rb _ _ Aq cq _ _ (hrbp.below (hB5.trans (p.bel (g := g) (fun i h => ((HS2.out i).1 h).1) (by omega) hB5.size))) rfl
                clear hcp
                refine seg_ [29, 30, 31, 32, 33, 34, 37, 38, 39, 40, 41] 5 _ (by kernel_rfl) (by kernel_rfl) (by kernel_rfl) (by simp only [pickOps, mask, plain, List.getElem?_toArray, List.getElem?_cons_zero, List.getElem?_cons_succ, if_true, if_false, Bool.false_eq_true]; rfl) ?_
                repeat (go_big_quiet_step (fail))
                refine wpQuiet_nil ?_
                clear hcpl hs1
                refine callx_ (i := 35) rfl (by kernel_rfl) (by kernel_rfl) ?_
                intro kn
                unfold Oper.does
                go_simp
                have hbk := rblock_any g A3 c3 L _ 0 _ (hR5.same (w' := { w5 with drawn := kn }) rfl)
                rw [block_at L (putB xs ys ps k ++ sgX xs k ++ sgY ys k) t m (by omega) (by rw [HLK.out, HP0.out])] at hbk
                refine hbk.mono ?_
                rintro e w6 ⟨A6, c6, rfl, ho6, hR6, hg6⟩
                refine ⟨_, rfl, turn_ (S1 := fun _ => False) (Save.drawn _ _ _) (Save.of_grown hg6 ((HS2.out g).2 ⟨rfl, hp⟩)) (fun i _ h => h.elim) ?_⟩
                have hg6' : w5.grownBy w6 (some g) := ⟨hg6.os, hg6.tape, hg6.output, hg6.size, hg6.block⟩
                have hB6 := hB5.trans (below_grownG hg6' (by omega) hB5.size)
                have hrb6 : RB w6 B2 A c L := hrb5.below (below_grownG hg6' hg (by omega))
                clear hg6 hg6' hR5 hB5 hrb5 hbk
                have hs2 : ∀ p : Later (fun _ => False) w6, (convert 24 9 (.slice A6 m.length c6)).run Try.prog p.w = .ok (.string (strOfNums m)) p.w := fun p => str_rb _ _ A6 c6 _ _ (ho6.rb.belowH p.ok.all) rfl
                refine seg_ [36, 42, 43, 44] 0 _ (by kernel_rfl) (by kernel_rfl) (by kernel_rfl) (by simp only [pickOps, mask, plain, List.getElem?_toArray, List.getElem?_cons_zero, List.getElem?_cons_succ, if_true, if_false, Bool.false_eq_true]; rfl) ?_
                repeat (go_big_quiet_step (fail))
                refine wpQuiet_nil ?_
                clear hs2
                refine end_ (by kernel_rfl) ?_
                intro w7 hE
                have hE := hE.all
                rw [← HP0.out] at hR6
                have hR7 := hR6.below hE hR6.lt
                have hB7 := hB6.trans (hE.mono hB6.size)
                have hrb7 : RB w7 B2 A c L := hrb6.below (hE.mono (by have := hR6.lt; omega))
                clear hE
                go_wp2_with fail
                go_roundg (50 - (k + 1))
                case measure => omega
                case rel => exact ⟨k + 1, rfl, by omega, by go_num, hR7, hrb7, hB7⟩
              · have HP := Lib.hid (show sgP ps k = [] by unfold sgP; rw [dif_neg hp])
                refine seg_ [29, 30, 31, 32, 33, 34, 35, 36, 37, 38, 39, 40, 41, 42, 43, 44] 0 _ (by kernel_rfl) (by kernel_rfl) (by kernel_rfl) (by simp only [pickOps, mask, plain, List.getElem?_toArray, List.getElem?_cons_zero, List.getElem?_cons_succ, if_true, if_false, Bool.false_eq_true]; rfl) ?_
                repeat (go_big_quiet_step (fail))
                refine wpQuiet_nil ?_
                refine end_ (by kernel_rfl) ?_
                intro w7 hE
                have hE := hE.none (fun i h => hp ((HS2.out i).1 h).2)
                have hR6 : Rdr w5 g A3 c3 L (putB xs ys ps k ++ sgX xs k ++ sgY ys k ++ sgP ps k).length 0 := by rw [HP.out, List.append_nil]; exact hR5
                have hB6 := hB5
                have hrb6 := hrb5
                clear hR5 hB5 hrb5
                have hR7 := hR6.below hE hR6.lt
                have hB7 := hB6.trans (hE.mono hB6.size)
                have hrb7 : RB w7 B2 A c L := hrb6.below (hE.mono (by have := hR6.lt; omega))
                clear hE
                go_wp2_with fail
                go_roundg (50 - (k + 1))
                case measure => omega
                case rel => exact ⟨k + 1, rfl, by omega, by go_num, hR7, hrb7, hB7⟩
            · have HY := Lib.hid (show sgY ys k = [] by unfold sgY; rw [if_neg hy])
              refine seg_ [14, 15, 16, 17, 18, 19, 20, 21, 22, 23, 24, 25, 26, 27, 28] 16 _ (by kernel_rfl) (by kernel_rfl) (by kernel_rfl) (by simp only [pickOps, mask, plain, List.getElem?_toArray, List.getElem?_cons_zero, List.getElem?_cons_succ, if_true, if_false, Bool.false_eq_true]; rfl) ?_
              repeat (go_big_quiet_step (fail))
              refine wpQuiet_nil ?_
              have hR5 : Rdr w4 g A3 c3 L (putB xs ys ps k ++ sgX xs k ++ sgY ys k).length 0 := by rw [HY.out, List.append_nil]; exact hR4
              have hB5 := hB4
              have hrb5 := hrb4
              have hgl5 := hgl4
              clear hR4 hB4 hrb4
              by_cases hp : k < ps.length
              · obtain ⟨bp, offp, rfl, hbp, hcp, hrbp⟩ := hin.p k hp
                have HP0 := Lib.hid (show sgP ps k = blk ps[k].l by unfold sgP; rw [dif_pos hp])
                have hsm := HSM.out k hp
                obtain ⟨q, hq⟩ : ∃ q, ps[k] = q := ⟨_, rfl⟩
                rw [hq] at hcp hrbp HP0 hsm
                clear hq
                obtain ⟨Aq, cq, m⟩ := q
                simp only at hcp hrbp HP0 hsm
                have hcpl : ∀ p : Later S1 w4, p.w.cell? ⟨bp, offp + k, none⟩ = some (.slice Aq m.length cq) := fun p => ((hB5.trans (p.bel (g := g) (fun i h => ((HS1.out i).1 h).1) (by omega) hB5.size)).cell hbp).trans hcp
                have hs1 : ∀ p : Later S1 w4, (convert 24 9 (.slice Aq m.length cq)).run Try.prog p.w = .ok (.string (strOfNums m)) p.w := fun p => str_rb _ _ Aq cq _ _ (hrbp.below (hB5.trans (p.bel (g := g) (fun i h => ((HS1.out i).1 h).1) (by omega) hB5.size))) rfl
                clear hcp
                refine seg_ [29, 30, 31, 32, 33, 34, 37, 38, 39, 40, 41] 5 _ (by kernel_rfl) (by kernel_rfl) (by kernel_rfl) (by simp only [pickOps, mask, plain, List.getElem?_toArray, List.getElem?_cons_zero, List.getElem?_cons_succ, if_true, if_false, Bool.false_eq_true]; rfl) ?_
                repeat (go_big_quiet_step (fail))
                refine wpQuiet_nil ?_
                clear hcpl hs1
                refine callx_ (i := 35) rfl (by kernel_rfl) (by kernel_rfl) ?_
                intro kn
                unfold Oper.does
                go_simp
                have hbk := rblock_any g A3 c3 L _ 0 _ (hR5.same (w' := { w4 with drawn := kn }) rfl)
                rw [block_at L (putB xs ys ps k ++ sgX xs k ++ sgY ys k) t m (by omega) (by rw [HLK.out, HP0.out])] at hbk
                refine hbk.mono ?_
                rintro e w6 ⟨A6, c6, rfl, ho6, hR6, hg6⟩
                refine ⟨_, rfl, turn_ (S1 := fun _ => False) (Save.drawn _ _ _) (Save.of_grown hg6 ((HS1.out g).2 ⟨rfl, .inr hp⟩)) (fun i _ h => h.elim) ?_⟩
                have hg6' : w4.grownBy w6 (some g) := ⟨hg6.os, hg6.tape, hg6.output, hg6.size, hg6.block⟩
                have hB6 := hB5.trans (below_grownG hg6' (by omega) hB5.size)
                have hrb6 : RB w6 B2 A c L := hrb5.below (below_grownG hg6' hg (by omega))
                clear hg6 hg6' hR5 hB5 hrb5 hbk
                have hs2 : ∀ p : Later (fun _ => False) w6, (convert 24 9 (.slice A6 m.length c6)).run Try.prog p.w = .ok (.string (strOfNums m)) p.w := fun p => str_rb _ _ A6 c6 _ _ (ho6.rb.belowH p.ok.all) rfl
                refine seg_ [36, 42, 43, 44] 0 _ (by kernel_rfl) (by kernel_rfl) (by kernel_rfl) (by simp only [pickOps, mask, plain, List.getElem?_toArray, List.getElem?_cons_zero, List.getElem?_cons_succ, if_true, if_false, Bool.false_eq_true]; rfl) ?_
                repeat (go_big_quiet_step (fail))
                refine wpQuiet_nil ?_
                clear hs2
                refine end_ (by kernel_rfl) ?_
                intro w7 hE
                have hE := hE.all
                rw [← HP0.out] at hR6
                have hR7 := hR6.below hE hR6.lt
                have hB7 := hB6.trans (hE.mono hB6.size)
                have hrb7 : RB w7 B2 A c L := hrb6.below (hE.mono (by have := hR6.lt; omega))
                clear hE
                go_wp2_with fail
                go_roundg (50 - (k + 1))
                case measure => omega
                case rel => exact ⟨k + 1, rfl, by omega, by go_num, hR7, hrb7, hB7⟩
              · have HP := Lib.hid (show sgP ps k = [] by unfold sgP; rw [dif_neg hp])
                refine seg_ [29, 30, 31, 32, 33, 34, 35, 36, 37, 38, 39, 40, 41, 42, 43, 44] 0 _ (by kernel_rfl) (by kernel_rfl) (by kernel_rfl) (by simp only [pickOps, mask, plain, List.getElem?_toArray, List.getElem?_cons_zero, List.getElem?_cons_succ, if_true, if_false, Bool.false_eq_true]; rfl) ?_
                repeat (go_big_quiet_step (fail))
                refine wpQuiet_nil ?_
                refine end_ (by kernel_rfl) ?_
                intro w7 hE
                have hE := hE.none (fun i h => (((HS1.out i).1 h).2.elim hy hp))
                have hR6 : Rdr w4 g A3 c3 L (putB xs ys ps k ++ sgX xs k ++ sgY ys k ++ sgP ps k).length 0 := by rw [HP.out, List.append_nil]; exact hR5
                have hB6 := hB5
                have hrb6 := hrb5
                clear hR5 hB5 hrb5
                have hR7 := hR6.below hE hR6.lt
                have hB7 := hB6.trans (hE.mono hB6.size)
                have hrb7 : RB w7 B2 A c L := hrb6.below (hE.mono (by have := hR6.lt; omega))
                clear hE
                go_wp2_with fail
                go_roundg (50 - (k + 1))
                case measure => omega
                case rel => exact ⟨k + 1, rfl, by omega, by go_num, hR7, hrb7, hB7⟩
          · have HX := Lib.hid (show sgX xs k = [] by unfold sgX; rw [if_neg hx])
            refine seg_ [0, 1, 2, 3, 4, 5, 6, 7, 8, 9, 10, 11, 12, 13] 31 _ (by kernel_rfl) (by kernel_rfl) (by kernel_rfl) (by simp only [pickOps, mask, plain, List.getElem?_toArray, List.getElem?_cons_zero, List.getElem?_cons_succ, if_true, if_false, Bool.false_eq_true]; rfl) ?_
            repeat (go_big_quiet_step (fail))
            refine wpQuiet_nil ?_
            have hR4 : Rdr wr g A3 c3 L (putB xs ys ps k ++ sgX xs k).length 0 := by rw [HX.out, List.append_nil]; exact hR
            have hB4 := hB
            have hrb4 := hrb
            have hgl4 := hgl
            clear hR hB hrb
            by_cases hy : k < ys.length
            · obtain ⟨by_, offy, rfl, hbby, hcy⟩ := hin.y k hy
              obtain ⟨hy0, hy1⟩ := hin.yb k hy
              have HY := Lib.hid (show sgY ys k = numB (foldZ (ys.getD k 0)) by unfold sgY; rw [if_pos hy])
              obtain ⟨y, hyy⟩ : ∃ y, ys.getD k 0 = y := ⟨_, rfl⟩
              rw [hyy] at hcy hy0 hy1 HY
              have hcyl : ∀ p : Later S0 wr, p.w.cell? ⟨by_, offy + k, none⟩ = some (.int .i64 y) := fun p => ((hB4.trans (p.bel (g := g) (fun i h => ((HS0.out i).1 h).1) (by omega) hB4.size)).cell hbby).trans hcy
              have hyv : (y != y) = false := by simp
              clear hyy hcy
              refine seg_ [14, 15, 16, 17, 18, 19, 21, 22, 23, 24] 21 _ (by kernel_rfl) (by kernel_rfl) (by kernel_rfl) (by simp only [pickOps, mask, plain, List.getElem?_toArray, List.getElem?_cons_zero, List.getElem?_cons_succ, if_true, if_false, Bool.false_eq_true]; rfl) ?_
              repeat (go_big_quiet_step (fail))
              refine wpQuiet_nil ?_
              clear hcyl
              refine callx_ (i := 20) rfl (by kernel_rfl) (by kernel_rfl) ?_
              intro kn
              unfold Oper.does
              go_simp
              refine (rsigned_any g A3 c3 L _ 0 _ (hR4.same (w' := { wr with drawn := kn }) rfl)).mono ?_
              rintro e w5 ⟨he, hR5, hg5⟩
              rw [num_at L (putB xs ys ps k ++ sgX xs k) (sgP ps k ++ t) (foldZ y) (foldZ_lt y hy0 hy1) (by rw [HLK.out, HY.out]; simp [List.append_assoc])] at he hR5
              simp only [unfold_fold] at he hR5
              subst he
              refine ⟨_, rfl, turn_ (S1 := S2) (Save.drawn _ _ _) (Save.of_grown hg5 ((HS0.out g).2 ⟨rfl, .inr (.inl hy)⟩)) (fun i _ h => (HS0.out i).2 ⟨((HS2.out i).1 h).1, .inr (.inr ((HS2.out i).1 h).2)⟩) ?_⟩
              have hg5' : wr.grownBy w5 (some g) := ⟨hg5.os, hg5.tape, hg5.output, hg5.size, hg5.block⟩
              have hB5 := hB4.trans (below_grownG hg5' (by omega) hB4.size)
              have hrb5 : RB w5 B2 A c L := hrb4.below (below_grownG hg5' hg (by omega))
              have hgl5 := hR5.lt
              clear hg5 hg5' hR4 hB4 hrb4
              rw [← HY.out] at hR5
              refine seg_ [25, 26, 27, 28] 16 _ (by kernel_rfl) (by kernel_rfl) (by kernel_rfl) (by simp only [pickOps, mask, plain, List.getElem?_toArray, List.getElem?_cons_zero, List.getElem?_cons_succ, if_true, if_false, Bool.false_eq_true]; rfl) ?_
              repeat (go_big_quiet_step (fail))
              refine wpQuiet_nil ?_
              by_cases hp : k < ps.length
              · obtain ⟨bp, offp, rfl, hbp, hcp, hrbp⟩ := hin.p k hp
                have HP0 := Lib.hid (show sgP ps k = blk ps[k].l by unfold sgP; rw [dif_pos hp])
                have hsm := HSM.out k hp
                obtain ⟨q, hq⟩ : ∃ q, ps[k] = q := ⟨_, rfl⟩
                rw [hq] at hcp hrbp HP0 hsm
                clear hq
                obtain ⟨Aq, cq, m⟩ := q
                simp only at hcp hrbp HP0 hsm
                have hcpl : ∀ p : Later S2 w5, p.w.cell? ⟨bp, offp + k, none⟩ = some (.slice Aq m.length cq) := fun p => ((hB5.trans (p.bel (g := g) (fun i h => ((HS2.out i).1 h).1) (by omega) hB5.size)).cell hbp).trans hcp
                have hs1 : ∀ p : Later S2 w5, (convert 24 9 (.slice Aq m.length cq)).run Try.prog p.w = .ok (.string (strOfNums m)) p.w := fun p => str_rb _ _ Aq cq _ _ (hrbp.below (hB5.trans (p.bel (g := g) (fun i h => ((HS2.out i).1 h).1) (by omega) hB5.size))) rfl
                clear hcp
                refine seg_ [29, 30, 31, 32, 33, 34, 37, 38, 39, 40, 41] 5 _ (by kernel_rfl) (by kernel_rfl) (by kernel_rfl) (by simp only [pickOps, mask, plain, List.getElem?_toArray, List.getElem?_cons_zero, List.getElem?_cons_succ, if_true, if_false, Bool.false_eq_true]; rfl) ?_
                repeat (go_big_quiet_step (fail))
                refine wpQuiet_nil ?_
                clear hcpl hs1
                refine callx_ (i := 35) rfl (by kernel_rfl) (by kernel_rfl) ?_
                intro kn
                unfold Oper.does
                go_simp
                have hbk := rblock_any g A3 c3 L _ 0 _ (hR5.same (w' := { w5 with drawn := kn }) rfl)
                rw [block_at L (putB xs ys ps k ++ sgX xs k ++ sgY ys k) t m (by omega) (by rw [HLK.out, HP0.out])] at hbk
                refine hbk.mono ?_
                rintro e w6 ⟨A6, c6, rfl, ho6, hR6, hg6⟩
                refine ⟨_, rfl, turn_ (S1 := fun _ => False) (Save.drawn _ _ _) (Save.of_grown hg6 ((HS2.out g).2 ⟨rfl, hp⟩)) (fun i _ h => h.elim) ?_⟩
                have hg6' : w5.grownBy w6 (some g) := ⟨hg6.os, hg6.tape, hg6.output, hg6.size, hg6.block⟩
                have hB6 := hB5.trans (below_grownG hg6' (by omega) hB5.size)
                have hrb6 : RB w6 B2 A c L := hrb5.below (below_grownG hg6' hg (by omega))
                clear hg6 hg6' hR5 hB5 hrb5 hbk
                have hs2 : ∀ p : Later (fun _ => False) w6, (convert 24 9 (.slice A6 m.length c6)).run Try.prog p.w = .ok (.string (strOfNums m)) p.w := fun p => str_rb _ _ A6 c6 _ _ (ho6.rb.belowH p.ok.all) rfl
                refine seg_ [36, 42, 43, 44] 0 _ (by kernel_rfl) (by kernel_rfl) (by kernel_rfl) (by simp only [pickOps, mask, plain, List.getElem?_toArray, List.getElem?_cons_zero, List.getElem?_cons_succ, if_true, if_false, Bool.false_eq_true]; rfl) ?_
                repeat (go_big_quiet_step (fail))
                refine wpQuiet_nil ?_
                clear hs2
                refine end_ (by kernel_rfl) ?_
                intro w7 hE
                have hE := hE.all
                rw [← HP0.out] at hR6
                have hR7 := hR6.below hE hR6.lt
                have hB7 := hB6.trans (hE.mono hB6.size)
                have hrb7 : RB w7 B2 A c L := hrb6.below (hE.mono (by have := hR6.lt; omega))
                clear hE
                go_wp2_with fail
                go_roundg (50 - (k + 1))
                case measure => omega
                case rel => exact ⟨k + 1, rfl, by omega, by go_num, hR7, hrb7, hB7⟩
              · have HP := Lib.hid (show sgP ps k = [] by unfold sgP; rw [dif_neg hp])
                refine seg_ [29, 30, 31, 32, 33, 34, 35, 36, 37, 38, 39, 40, 41, 42, 43, 44] 0 _ (by kernel_rfl) (by kernel_rfl) (by kernel_rfl) (by simp only [pickOps, mask, plain, List.getElem?_toArray, List.getElem?_cons_zero, List.getElem?_cons_succ, if_true, if_false, Bool.false_eq_true]; rfl) ?_
                repeat (go_big_quiet_step (fail))
                refine wpQuiet_nil ?_
                refine end_ (by kernel_rfl) ?_
                intro w7 hE
                have hE := hE.none (fun i h => hp ((HS2.out i).1 h).2)
                have hR6 : Rdr w5 g A3 c3 L (putB xs ys ps k ++ sgX xs k ++ sgY ys k ++ sgP ps k).length 0 := by rw [HP.out, List.append_nil]; exact hR5
                have hB6 := hB5
                have hrb6 := hrb5
                clear hR5 hB5 hrb5
                have hR7 := hR6.below hE hR6.lt
                have hB7 := hB6.trans (hE.mono hB6.size)
                have hrb7 : RB w7 B2 A c L := hrb6.below (hE.mono (by have := hR6.lt; omega))
                clear hE
                go_wp2_with fail
                go_roundg (50 - (k + 1))
                case measure => omega
                case rel => exact ⟨k + 1, rfl, by omega, by go_num, hR7, hrb7, hB7⟩
            · have HY := Lib.hid (show sgY ys k = [] by unfold sgY; rw [if_neg hy])
              refine seg_ [14, 15, 16, 17, 18, 19, 20, 21, 22, 23, 24, 25, 26, 27, 28] 16 _ (by kernel_rfl) (by kernel_rfl) (by kernel_rfl) (by simp only [pickOps, mask, plain, List.getElem?_toArray, List.getElem?_cons_zero, List.getElem?_cons_succ, if_true, if_false, Bool.false_eq_true]; rfl) ?_
              repeat (go_big_quiet_step (fail))
              refine wpQuiet_nil ?_
              have hR5 : Rdr wr g A3 c3 L (putB xs ys ps k ++ sgX xs k ++ sgY ys k).length 0 := by rw [HY.out, List.append_nil]; exact hR4
              have hB5 := hB4
              have hrb5 := hrb4
              have hgl5 := hgl4
              clear hR4 hB4 hrb4
              by_cases hp : k < ps.length
              · obtain ⟨bp, offp, rfl, hbp, hcp, hrbp⟩ := hin.p k hp
                have HP0 := Lib.hid (show sgP ps k = blk ps[k].l by unfold sgP; rw [dif_pos hp])
                have hsm := HSM.out k hp
                obtain ⟨q, hq⟩ : ∃ q, ps[k] = q := ⟨_, rfl⟩
                rw [hq] at hcp hrbp HP0 hsm
                clear hq
                obtain ⟨Aq, cq, m⟩ := q
                simp only at hcp hrbp HP0 hsm
                have hcpl : ∀ p : Later S0 wr, p.w.cell? ⟨bp, offp + k, none⟩ = some (.slice Aq m.length cq) := fun p => ((hB5.trans (p.bel (g := g) (fun i h => ((HS0.out i).1 h).1) (by omega) hB5.size)).cell hbp).trans hcp
                have hs1 : ∀ p : Later S0 wr, (convert 24 9 (.slice Aq m.length cq)).run Try.prog p.w = .ok (.string (strOfNums m)) p.w := fun p => str_rb _ _ Aq cq _ _ (hrbp.below (hB5.trans (p.bel (g := g) (fun i h => ((HS0.out i).1 h).1) (by omega) hB5.size))) rfl
                clear hcp
                refine seg_ [29, 30, 31, 32, 33, 34, 37, 38, 39, 40, 41] 5 _ (by kernel_rfl) (by kernel_rfl) (by kernel_rfl) (by simp only [pickOps, mask, plain, List.getElem?_toArray, List.getElem?_cons_zero, List.getElem?_cons_succ, if_true, if_false, Bool.false_eq_true]; rfl) ?_
                repeat (go_big_quiet_step (fail))
                refine wpQuiet_nil ?_
                clear hcpl hs1
                refine callx_ (i := 35) rfl (by kernel_rfl) (by kernel_rfl) ?_
                intro kn
                unfold Oper.does
                go_simp
                have hbk := rblock_any g A3 c3 L _ 0 _ (hR5.same (w' := { wr with drawn := kn }) rfl)
                rw [block_at L (putB xs ys ps k ++ sgX xs k ++ sgY ys k) t m (by omega) (by rw [HLK.out, HP0.out])] at hbk
                refine hbk.mono ?_
                rintro e w6 ⟨A6, c6, rfl, ho6, hR6, hg6⟩
                refine ⟨_, rfl, turn_ (S1 := fun _ => False) (Save.drawn _ _ _) (Save.of_grown hg6 ((HS0.out g).2 ⟨rfl, .inr (.inr hp)⟩)) (fun i _ h => h.elim) ?_⟩
                have hg6' : wr.grownBy w6 (some g) := ⟨hg6.os, hg6.tape, hg6.output, hg6.size, hg6.block⟩
                have hB6 := hB5.trans (below_grownG hg6' (by omega) hB5.size)
                have hrb6 : RB w6 B2 A c L := hrb5.below (below_grownG hg6' hg (by omega))
                clear hg6 hg6' hR5 hB5 hrb5 hbk
                have hs2 : ∀ p : Later (fun _ => False) w6, (convert 24 9 (.slice A6 m.length c6)).run Try.prog p.w = .ok (.string (strOfNums m)) p.w := fun p => str_rb _ _ A6 c6 _ _ (ho6.rb.belowH p.ok.all) rfl
                refine seg_ [36, 42, 43, 44] 0 _ (by kernel_rfl) (by kernel_rfl) (by kernel_rfl) (by simp only [pickOps, mask, plain, List.getElem?_toArray, List.getElem?_cons_zero, List.getElem?_cons_succ, if_true, if_false, Bool.false_eq_true]; rfl) ?_
                repeat (go_big_quiet_step (fail))
                refine wpQuiet_nil ?_
                clear hs2
                refine end_ (by kernel_rfl) ?_
                intro w7 hE
                have hE := hE.all
                rw [← HP0.out] at hR6
                have hR7 := hR6.below hE hR6.lt
                have hB7 := hB6.trans (hE.mono hB6.size)
                have hrb7 : RB w7 B2 A c L := hrb6.below (hE.mono (by have := hR6.lt; omega))
                clear hE
                go_wp2_with fail
                go_roundg (50 - (k + 1))
                case measure => omega
                case rel => exact ⟨k + 1, rfl, by omega, by go_num, hR7, hrb7, hB7⟩
              · have HP := Lib.hid (show sgP ps k = [] by unfold sgP; rw [dif_neg hp])
                refine seg_ [29, 30, 31, 32, 33, 34, 35, 36, 37, 38, 39, 40, 41, 42, 43, 44] 0 _ (by kernel_rfl) (by kernel_rfl) (by kernel_rfl) (by simp only [pickOps, mask, plain, List.getElem?_toArray, List.getElem?_cons_zero, List.getElem?_cons_succ, if_true, if_false, Bool.false_eq_true]; rfl) ?_
                repeat (go_big_quiet_step (fail))
                refine wpQuiet_nil ?_
                refine end_ (by kernel_rfl) ?_
                intro w7 hE
                have hE := hE.none (fun i h => (((HS0.out i).1 h).2.elim hx (fun h => h.elim hy hp)))
                have hR6 : Rdr wr g A3 c3 L (putB xs ys ps k ++ sgX xs k ++ sgY ys k ++ sgP ps k).length 0 := by rw [HP.out, List.append_nil]; exact hR5
                have hB6 := hB5
                have hrb6 := hrb5
                clear hR5 hB5 hrb5
                have hR7 := hR6.below hE hR6.lt
                have hB7 := hB6.trans (hE.mono hB6.size)
                have hrb7 : RB w7 B2 A c L := hrb6.below (hE.mono (by have := hR6.lt; omega))
                clear hE
                go_wp2_with fail
                go_roundg (50 - (k + 1))
                case measure => omega
                case rel => exact ⟨k + 1, rfl, by omega, by go_num, hR7, hrb7, hB7⟩
        · have hkN := (show k = 50 by omega).trans HN.out.symm
          subst hkN
          rw [HL.out] at hR
          go_wp2_with fail
          refine (rend_any g A3 c3 L _ 0 wr hR).mono ?_
          rintro e w3 ⟨he, hR3, hg3⟩
          have hend : endSt L L.length 0 = 0 := by unfold endSt; rw [if_neg (by omega)]
          rw [hend] at he hR3
          clear hend
          subst he
          have hB3 := hB.trans (below_grownG hg3 (by omega) hB.size)
          have hrb3 : RB w3 B2 A c L := hrb.below (below_grownG hg3 hg (by have := hR.lt; omega))
          clear hg3 hR hB hrb
          by_cases hL0 : L.length = 0
          · have hL0' : (L.length : Int) = 0 := by omega
            go_wp2_with fail
            refine (rend_any g A3 c3 L _ 0 w3 hR3).mono ?_
            rintro e w4 ⟨he, hR4, hg4⟩
            have hend : endSt L L.length 0 = 0 := by unfold endSt; rw [if_neg (by omega)]
            rw [hend] at he hR4
            subst he
            go_wp2_with fail
            go_ret
            exact ⟨rfl, hB3.trans (below_grownG hg4 (by omega) hB3.size)⟩
          · obtain ⟨b, off, rfl, hbb, _⟩ := hrb3.pos (by omega)
            obtain ⟨mm, hmm⟩ : ∃ mm, L.length = mm + 1 := ⟨L.length - 1, by omega⟩
            have hm1 : (L.length : Int) - 1 = (mm : Int) := by omega
            have hlc := hrb3.le
            have hcm : c ≤ 9223372036854775807 := by have := hrb3.cap; unfold maxLen at this; omega
            have hL0b : ((L.length : Int) == 0) = false := by rw [beq_eq_false_iff_ne]; omega
            have hpre := hrb3.pre mm (by omega)
            have hHL : (L.take mm) = L.take (L.length - 1) := by rw [hmm]; rfl
            have HM := Lib.hid hmm
            have HHL := Lib.hid hHL
            have hmle : mm ≤ c := by omega
            clear hmm hHL
            go_wp2_with fail
            refine (new_any (some ⟨b, off, none⟩) c _ (L.take mm) w3 B2 (by rw [List.length_take, HM.out]; omega) hpre (by have := hR3.lt; omega) (by rw [List.length_take]; omega)).mono ?_
            rintro e w4 ⟨g4, A4, c4, rfl, hR4, hb4, hg4, ha4⟩
            clear ha4
            have hB4 := hB3.trans (hb4.mono hB3.size)
            have hgw : w.heap.size ≤ g4 := by have := hB3.size; omega
            clear hb4 hB3 hR3 hrb3 hpre hg4
            rw [HHL.out] at hR4
            have hLne : L ≠ [] := fun h => hL0 (by rw [h]; rfl)
            have hcut0 : CutS L (putB xs ys ps 0) 0 0 := .inr ⟨rfl, rfl, L, hLne, rfl⟩
            clear hm1 hlc hcm hL0b hmle hLne hL0
            go_wp2_with fail
            go_loopg [12] 50 (fun gh i wr => ∃ (k p : Nat) (e : Int), gh = 50 - k ∧ k ≤ 50 ∧ i = .int .i64 k ∧ Rdr wr g4 A4 c4 (L.take (L.length - 1)) p e ∧ CutS L (putB xs ys ps k) p e ∧ Below w.heap.size w wr)
            case atStart => exact ⟨0, 0, 0, rfl, by omega, rfl, hR4, hcut0, hB4⟩
            case round =>
              clear hR4 hcut0 hB4
              obtain ⟨k, p, e, rfl, hk, rfl, hR, hC, hB⟩ := hrel
              by_cases hlt : k < 50
              · obtain ⟨t, hL⟩ := putB_parts xs ys ps k hlt
                rw [← HN.out, HL.out] at hL
                have HLK := Lib.hid hL
                clear hL
                have HC := Lib.hid hC
                clear hC
                go_upto_if 147 with fail
                go_cut [] (fun wc => ∃ (p : Nat) (e : Int), Rdr wc g4 A4 c4 (L.take (L.length - 1)) p e ∧ CutS L (putB xs ys ps k ++ sgX xs k) p e ∧ Below w.heap.size w wc)
                case first =>
                  by_cases hx : k < xs.length
                  · obtain ⟨v, hv, hv2⟩ := hin.xb k hx
                    have HX := Lib.hid (show sgX xs k = numB v by unfold sgX; rw [if_pos hx, hv, Int.toNat_natCast])
                    clear hv
                    go_wp2_with fail
                    refine (rnumber_any g4 A4 c4 _ p e wr hR).mono ?_
                    rintro e9 w5 ⟨rfl, hR5, hg5⟩
                    have HC5 := Lib.hid (num_cut L (putB xs ys ps k) (sgY ys k ++ sgP ps k ++ t) v hv2 (by rw [HLK.out, HX.out]; simp [List.append_assoc]) p e HC.out)
                    go_wp2_with fail
                    go_meet
                    rw [HX.out]
                    exact ⟨_, _, hR5, HC5.out, hB.trans (below_grownG hg5 hgw hB.size)⟩
                  · have HX := Lib.hid (show sgX xs k = [] by unfold sgX; rw [if_neg hx])
                    go_wp2_with fail
                    go_meet
                    rw [HX.out, List.append_nil]
                    exact ⟨_, _, hR, HC.out, hB⟩
                case rest =>
                  clear hR HC hB
                  obtain ⟨p, e, hR, hC, hB⟩ := hcut
                  have HC := Lib.hid hC
                  clear hC
                  go_upto_if 153 with fail
                  go_cut [] (fun wc => ∃ (p : Nat) (e : Int), Rdr wc g4 A4 c4 (L.take (L.length - 1)) p e ∧ CutS L (putB xs ys ps k ++ sgX xs k ++ sgY ys k) p e ∧ Below w.heap.size w wc)
                  case first =>
                    by_cases hy : k < ys.length
                    · obtain ⟨hy0, hy1⟩ := hin.yb k hy
                      have HY := Lib.hid (show sgY ys k = numB (foldZ (ys.getD k 0)) by unfold sgY; rw [if_pos hy])
                      have hflt := foldZ_lt _ hy0 hy1
                      go_wp2_with fail
                      refine (rsigned_any g4 A4 c4 _ p e wc hR).mono ?_
                      rintro e9 w5 ⟨rfl, hR5, hg5⟩
                      have HC5 := Lib.hid (num_cut L (putB xs ys ps k ++ sgX xs k) (sgP ps k ++ t) (foldZ (ys.getD k 0)) hflt (by rw [HLK.out, HY.out]; simp [List.append_assoc]) p e HC.out)
                      go_wp2_with fail
                      go_meet
                      rw [HY.out]
                      exact ⟨_, _, hR5, HC5.out, hB.trans (below_grownG hg5 hgw hB.size)⟩
                    · have HY := Lib.hid (show sgY ys k = [] by unfold sgY; rw [if_neg hy])
                      go_wp2_with fail
                      go_meet
                      rw [HY.out, List.append_nil]
                      exact ⟨_, _, hR, HC.out, hB⟩
                  case rest =>
                    clear hR HC hB
                    obtain ⟨p, e, hR, hC, hB⟩ := hcut
                    have HC := Lib.hid hC
                    clear hC
                    by_cases hp : k < ps.length
                    · have HP := Lib.hid (show sgP ps k = blk ps[k].l by unfold sgP; rw [dif_pos hp])
                      have HM2 := Lib.hid (HSM.out k hp)
                      go_wp2_with fail
                      refine (rblock_any g4 A4 c4 _ p e wc hR).mono ?_
                      rintro e9 w5 ⟨A9, c9, rfl, ho9, hR5, hg5⟩
                      have HC5 := Lib.hid (block_cut L (putB xs ys ps k ++ sgX xs k ++ sgY ys k) t ps[k].l (by have := HM2.out; omega) (by rw [HLK.out, HP.out]) p e HC.out)
                      go_wp2_with fail
                      go_roundg (50 - (k + 1))
                      case measure => omega
                      case rel => exact ⟨k + 1, _, _, rfl, by omega, by go_num, hR5, by simp only [putB]; rw [HP.out]; exact HC5.out, hB.trans (below_grownG hg5 hgw hB.size)⟩
                    · have HP := Lib.hid (show sgP ps k = [] by unfold sgP; rw [dif_neg hp])
                      go_wp2_with fail
                      go_roundg (50 - (k + 1))
                      case measure => omega
                      case rel => exact ⟨k + 1, _, _, rfl, by omega, by go_num, hR, by simp only [putB]; rw [HP.out, List.append_nil]; exact HC.out, hB⟩
              · have hkN := (show k = 50 by omega).trans HN.out.symm
                rw [hkN, HL.out] at hC
                clear hkN
                obtain rfl : e = 5 := by
                  rcases hC with h | ⟨_, _, r, hr, hLL⟩
                  · exact h
                  · have h1 := congrArg List.length hLL
                    rw [List.length_append] at h1
                    exact absurd (List.length_eq_zero_iff.1 (by omega)) hr
                go_wp2_with fail
                refine (err_any g4 5 wr hR.c0 hR.c3).mono ?_
                rintro e w5 ⟨rfl, rfl⟩
                go_wp2_with fail
                go_ret
                exact ⟨rfl, hB⟩

theorem walk_OctetBack (w : World) (A0 : Option Addr) (c0 n0 : Nat) (xs : List Int) (e0 : n0 = xs.length) (h0 : IR w w.heap.size A0 .u64 xs ∧ n0 ≤ c0 ∧ c0 ≤ maxLen ∧ ∀ n ∈ xs, (Lit.int .u64 n).wf = true)
    (A1 : Option Addr) (c1 n1 : Nat) (ys : List Int) (e1 : n1 = ys.length) (h1 : IR w w.heap.size A1 .i64 ys ∧ n1 ≤ c1 ∧ c1 ≤ maxLen ∧ ∀ n ∈ ys, (Lit.int .i64 n).wf = true)
    (A2 : Option Addr) (c2 n2 : Nat) (ps : List Piece) (e2 : n2 = ps.length) (h2 : PR w w.heap.size A2 ps ∧ n2 ≤ c2 ∧ c2 ≤ maxLen) :
    Calls Try.prog 6 #[.slice A0 n0 c0, .slice A1 n1 c1, .slice A2 n2 c2] w fun e w' => e = .returned (.bool true) ∧ Below w.heap.size w w' := by
  by_cases hbig : 50 < n0 ∨ 50 < n1 ∨ 50 < n2
  · exact octback_big w A0 A1 A2 c0 c1 c2 n0 n1 n2 hbig
  · subst e0 e1 e2
    obtain ⟨hx, kx, mx, bx⟩ := h0
    obtain ⟨hy, ky, my, by_⟩ := h1
    obtain ⟨hp, kp, mp⟩ := h2
    unfold maxLen at mx my mp
    exact octback_ok w A0 A1 A2 c0 c1 c2 xs ys ps ⟨hx, hy, hp,
      fun i hi => by
        have := bounds_u64 (bx _ (List.getElem_mem hi))
        rw [getD_lt hi]
        exact ⟨(xs[i]).toNat, by omega, by omega⟩,
      fun i hi => by
        have := bounds_i64 (by_ _ (List.getElem_mem hi))
        rw [getD_lt hi]
        omega⟩ (by omega) (by omega) (by omega) kx ky kp (by omega) (by omega) (by omega)
end Go.Proofs.Ythimgmcekhgclaa
