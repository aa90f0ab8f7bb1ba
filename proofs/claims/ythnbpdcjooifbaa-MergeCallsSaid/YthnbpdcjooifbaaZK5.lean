/-  -/
import Derived.Test.YthnbpdcjooifbaaJ7
namespace Go.Proofs.Ythnbpdcjooifbaa
open Go.RowKit
set_option linter.unusedSimpArgs false
set_option linter.unusedVariables false

def DownTo (w : World) (B p c n : Nat) (A : Option Addr) (H : List Hd) (e : Ending) (wr : World) : Prop :=
  ∃ (b : Bool) (H' : List Hd), e = .returned (.bool b) ∧ HM wr B p A c H' ∧ H'.Perm H ∧ Hp.Heap Hd.none hle H' n ∧ (∀ i, n ≤ i → H'.getD i Hd.none = H.getD i Hd.none) ∧ Save (OB2 A) w wr
def DnRel (w : World) (B p c n : Nat) (A : Option Addr) (H : List Hd) (k : Nat) (wr : World) : Prop :=
  ∃ H' : List Hd, HM wr B p A c H' ∧ (k < n ∨ k = 0) ∧ Hp.DnI Hd.none hle H' n k ∧ H'.Perm H ∧ (∀ i, n ≤ i → H'.getD i Hd.none = H.getD i Hd.none) ∧ Save (OB2 A) w wr

theorem par_two {i k : Nat} (h0 : 0 < i) (h : Hp.par i = k) : i = 2 * k + 1 ∨ i = 2 * k + 2 := by unfold Hp.par at h; omega

set_option maxRecDepth 100000 in
set_option maxHeartbeats 1000000 in
theorem down_any (w : World) (B p c n : Nat) (N : Int) (hN : N = n) (A : Option Addr) (H : List Hd) (h : HM w B p A c H) (hn : H.length ≤ 4611686018427387903) (hnl : n ≤ H.length) (hu : Hp.DnI Hd.none hle H n 0) :
    Calls Try.prog 87 #[hpV p, .int .i64 0, .int .i64 N] w (DownTo w B p c n A H) := by
  subst hN
  unfold hpV
  have HN := Lib.hid hn
  have HNL := Lib.hid hnl
  have hnn : n ≤ 4611686018427387903 := Nat.le_trans hnl hn
  clear hn hnl
  go_enter Try.func87, Try.ntmps87
  go_wp2_with fail
  go_loopw [7] (fun i wr => ∃ k : Nat, i = .int .i64 k ∧ DnRel w B p c n A H k wr) (fun i _ => n - (intOf i).toNat)
  case atStart => exact ⟨0, rfl, H, h, .inr rfl, hu, .refl _, fun _ _ => rfl, Save.refl _ _⟩
  case round =>
    obtain ⟨k, rfl, H', hm, hk, hu', hp, hrest, hs⟩ := hrel
    have hn' : H'.length ≤ 4611686018427387904 := by rw [hp.length_eq]; have := HN.out; omega
    have hnl' : n ≤ H'.length := by rw [hp.length_eq]; exact HNL.out
    have HR := Lib.hid hrest
    have HP := Lib.hid hp
    have HU := Lib.hid hu'
    clear hp hu h hu' hrest
    have hk62 : k ≤ 4611686018427387903 := by omega
    by_cases h1 : n ≤ 2 * k + 1
    · clear hk
      go_wp2_with fail
      go_ret
      exact ⟨_, H', rfl, hm, HP.out, HU.out.done fun i i0 hi hpi => absurd (par_two i0 hpi) (by omega), HR.out, hs⟩
    · have h1' : 2 * k + 1 < n := by omega
      clear h1 hk
      have c1 := meth_less hm.c0
      by_cases h2 : n ≤ 2 * k + 2
      · have HO := Lib.hid (show ∀ i, 0 < i → i < n → Hp.par i = k → hle (H'.getD (2 * k + 1) Hd.none) (H'.getD i Hd.none) from fun i i0 hi hpi => by
          obtain rfl : i = 2 * k + 1 := by rcases par_two i0 hpi with h | h <;> omega
          exact hle_refl _)
        go_wp2_with fail
        by_cases hlt : ordE (H'.getD (2 * k + 1) Hd.none).hd (H'.getD k Hd.none).hd < 0
        · have HL := Lib.hid hlt
          clear hlt
          refine (less_hm wr B p c A H' hm hn' (2 * k + 1) k _ _ (by omega) (by omega) (by omega) (by omega) true (decide_eq_true HL.out)).mono ?_
          rintro e w1 ⟨rfl, hm1, hb1⟩
          clear c1
          have c2 := meth_swap hm1.c0
          go_wp2_with fail
          refine (swap_hm w1 B p c A H' hm1 hn' k (2 * k + 1) _ _ (by omega) (by omega) (by omega) (by omega)).mono ?_
          rintro e w2 ⟨rfl, hm2, hs2⟩
          clear c2
          go_wp2_with fail
          go_roundw
          case rel =>
            refine ⟨2 * k + 1, by go_num, _, hm2, .inl (by omega), HU.out.step hnl' (by omega) (by omega) (by unfold Hp.par; omega) (by unfold hle; exact Int.le_of_lt HL.out) HO.out, (Hp.swp_perm _ _ _ _ (by omega) (by omega)).trans HP.out, ?_, (hs.trans (Save.of_below hb1)).trans hs2⟩
            intro i hi
            rw [Hp.swp_getD _ _ _ _ _ (by omega) (by omega), if_neg (by omega), if_neg (by omega)]
            exact HR.out i hi
          case measure => simp [intOf]; omega
        · have HL := Lib.hid hlt
          clear hlt
          refine (less_hm wr B p c A H' hm hn' (2 * k + 1) k _ _ (by omega) (by omega) (by omega) (by omega) false (decide_eq_false (by simpa using HL.out))).mono ?_
          rintro e w1 ⟨rfl, hm1, hb1⟩
          clear c1
          go_wp2_with fail
          go_ret
          exact ⟨_, H', rfl, hm1, HP.out, HU.out.done fun i i0 hi hpi => hle_trans _ _ _ (hle_not (by simpa using HL.out)) (HO.out i i0 hi hpi), HR.out, (hs.trans (Save.of_below hb1))⟩
      · have h2' : 2 * k + 2 < n := by omega
        clear h2
        by_cases hl2 : ordE (H'.getD (2 * k + 2) Hd.none).hd (H'.getD (2 * k + 1) Hd.none).hd < 0
        · have H2 := Lib.hid hl2
          clear hl2
          have HO := Lib.hid (show ∀ i, 0 < i → i < n → Hp.par i = k → hle (H'.getD (2 * k + 2) Hd.none) (H'.getD i Hd.none) from fun i i0 hi hpi => by
            rcases par_two i0 hpi with rfl | rfl
            · unfold hle; exact Int.le_of_lt H2.out
            · exact hle_refl _)
          go_wp2_with fail
          refine (less_hm wr B p c A H' hm hn' (2 * k + 2) (2 * k + 1) _ _ (by omega) (by omega) (by omega) (by omega) true (decide_eq_true H2.out)).mono ?_
          rintro e w0 ⟨rfl, hm0, hb0⟩
          clear c1
          have c1 := meth_less hm0.c0
          go_wp2_with fail
          by_cases hlt : ordE (H'.getD (2 * k + 2) Hd.none).hd (H'.getD k Hd.none).hd < 0
          · have HL := Lib.hid hlt
            clear hlt
            refine (less_hm w0 B p c A H' hm0 hn' (2 * k + 2) k _ _ (by omega) (by omega) (by omega) (by omega) true (decide_eq_true HL.out)).mono ?_
            rintro e w1 ⟨rfl, hm1, hb1⟩
            clear c1
            have c2 := meth_swap hm1.c0
            go_wp2_with fail
            refine (swap_hm w1 B p c A H' hm1 hn' k (2 * k + 2) _ _ (by omega) (by omega) (by omega) (by omega)).mono ?_
            rintro e w2 ⟨rfl, hm2, hs2⟩
            clear c2
            go_wp2_with fail
            go_roundw
            case rel =>
              refine ⟨2 * k + 2, by go_num, _, hm2, .inl (by omega), HU.out.step hnl' (by omega) (by omega) (by unfold Hp.par; omega) (by unfold hle; exact Int.le_of_lt HL.out) HO.out, (Hp.swp_perm _ _ _ _ (by omega) (by omega)).trans HP.out, ?_, ((hs.trans (Save.of_below hb0)).trans (Save.of_below hb1)).trans hs2⟩
              intro i hi
              rw [Hp.swp_getD _ _ _ _ _ (by omega) (by omega), if_neg (by omega), if_neg (by omega)]
              exact HR.out i hi
            case measure => simp [intOf]; omega
          · have HL := Lib.hid hlt
            clear hlt
            refine (less_hm w0 B p c A H' hm0 hn' (2 * k + 2) k _ _ (by omega) (by omega) (by omega) (by omega) false (decide_eq_false (by simpa using HL.out))).mono ?_
            rintro e w1 ⟨rfl, hm1, hb1⟩
            clear c1
            go_wp2_with fail
            go_ret
            exact ⟨_, H', rfl, hm1, HP.out, HU.out.done fun i i0 hi hpi => hle_trans _ _ _ (hle_not (by simpa using HL.out)) (HO.out i i0 hi hpi), HR.out, ((hs.trans (Save.of_below hb0)).trans (Save.of_below hb1))⟩
        · have H2 := Lib.hid hl2
          clear hl2
          have HO := Lib.hid (show ∀ i, 0 < i → i < n → Hp.par i = k → hle (H'.getD (2 * k + 1) Hd.none) (H'.getD i Hd.none) from fun i i0 hi hpi => by
            rcases par_two i0 hpi with rfl | rfl
            · exact hle_refl _
            · exact hle_not (by simpa using H2.out))
          go_wp2_with fail
          refine (less_hm wr B p c A H' hm hn' (2 * k + 2) (2 * k + 1) _ _ (by omega) (by omega) (by omega) (by omega) false (decide_eq_false (by simpa using H2.out))).mono ?_
          rintro e w0 ⟨rfl, hm0, hb0⟩
          clear c1
          have c1 := meth_less hm0.c0
          go_wp2_with fail
          by_cases hlt : ordE (H'.getD (2 * k + 1) Hd.none).hd (H'.getD k Hd.none).hd < 0
          · have HL := Lib.hid hlt
            clear hlt
            refine (less_hm w0 B p c A H' hm0 hn' (2 * k + 1) k _ _ (by omega) (by omega) (by omega) (by omega) true (decide_eq_true HL.out)).mono ?_
            rintro e w1 ⟨rfl, hm1, hb1⟩
            clear c1
            have c2 := meth_swap hm1.c0
            go_wp2_with fail
            refine (swap_hm w1 B p c A H' hm1 hn' k (2 * k + 1) _ _ (by omega) (by omega) (by omega) (by omega)).mono ?_
            rintro e w2 ⟨rfl, hm2, hs2⟩
            clear c2
            go_wp2_with fail
            go_roundw
            case rel =>
              refine ⟨2 * k + 1, by go_num, _, hm2, .inl (by omega), HU.out.step hnl' (by omega) (by omega) (by unfold Hp.par; omega) (by unfold hle; exact Int.le_of_lt HL.out) HO.out, (Hp.swp_perm _ _ _ _ (by omega) (by omega)).trans HP.out, ?_, ((hs.trans (Save.of_below hb0)).trans (Save.of_below hb1)).trans hs2⟩
              intro i hi
              rw [Hp.swp_getD _ _ _ _ _ (by omega) (by omega), if_neg (by omega), if_neg (by omega)]
              exact HR.out i hi
            case measure => simp [intOf]; omega
          · have HL := Lib.hid hlt
            clear hlt
            refine (less_hm w0 B p c A H' hm0 hn' (2 * k + 1) k _ _ (by omega) (by omega) (by omega) (by omega) false (decide_eq_false (by simpa using HL.out))).mono ?_
            rintro e w1 ⟨rfl, hm1, hb1⟩
            clear c1
            go_wp2_with fail
            go_ret
            exact ⟨_, H', rfl, hm1, HP.out, HU.out.done fun i i0 hi hpi => hle_trans _ _ _ (hle_not (by simpa using HL.out)) (HO.out i i0 hi hpi), HR.out, ((hs.trans (Save.of_below hb0)).trans (Save.of_below hb1))⟩
end Go.Proofs.Ythnbpdcjooifbaa
