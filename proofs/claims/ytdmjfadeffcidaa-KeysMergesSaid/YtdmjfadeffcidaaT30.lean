
/- slices: the stable sort. -/
import Derived.Test.YtdmjfadeffcidaaT29
namespace Go.Proofs.Ytdmjfadeffcidaa
open Go.RowKit
set_option linter.unusedSimpArgs false
set_option linter.unusedVariables false
set_option maxRecDepth 100000

theorem blk_step {D N : List Tc} {t a b : Nat} (h : BlkTo D 20 t) (hs : Sorts D N a b) (ha : a = t * 20) (h1 : a + 20 ≤ b) (h2 : b ≤ a + 20) : BlkTo N 20 (t + 1) ∧ b = (t + 1) * 20 := by
  obtain rfl : b = a + 20 := by omega
  subst ha
  exact ⟨h.step hs, by omega⟩
theorem blk_last {D N : List Tc} {t a L : Nat} (h : BlkTo D 20 t) (hs : Sorts D N a L) (ha : a = t * 20) (hL : D.length = L) (h1 : L < a + 20) : Blk N 20 := by
  subst ha; subst hL
  exact h.last hs h1
theorem half_two {D : List Tc} {s t a b : Nat} (h : Half D s t) (ha : a = t * (2 * s)) (h1 : a + 2 * s ≤ b) (h2 : b ≤ a + 2 * s) (hb : b ≤ D.length) : Two D a (a + s) b := by
  obtain rfl : b = a + 2 * s := by omega
  subst ha
  exact h.two hb
theorem half_step {D N : List Tc} {s t a b : Nat} (h : Half D s t) (hs : Sorts D N a b) (ha : a = t * (2 * s)) (h1 : a + 2 * s ≤ b) (h2 : b ≤ a + 2 * s) : Half N s (t + 1) ∧ b = (t + 1) * (2 * s) := by
  obtain rfl : b = a + 2 * s := by omega
  subst ha
  exact ⟨h.step hs, by rw [Nat.add_mul, Nat.one_mul]⟩
theorem half_two2 {D : List Tc} {s t a L : Nat} (h : Half D s t) (ha : a = t * (2 * s)) (hL : D.length = L) (h1 : a + s < L) (h2 : L < a + 2 * s) : Two D a (a + s) L := by
  subst ha; subst hL
  exact h.two2 h1 h2
theorem half_last {D N : List Tc} {s t a L : Nat} (h : Half D s t) (hs : Sorts D N a L) (ha : a = t * (2 * s)) (hL : D.length = L) (h1 : L < a + 2 * s) : Blk N (2 * s) := by
  subst ha; subst hL
  exact h.last hs h1
theorem half_done {D : List Tc} {s t a L : Nat} (h : Half D s t) (ha : a = t * (2 * s)) (hL : D.length = L) (h1 : L ≤ a + s) (h2 : L < a + 2 * s) : Blk D (2 * s) := by
  subst ha; subst hL
  exact h.done h1 h2
/-- What the stable sort leaves. -/
def Stable (D N : List Tc) : Prop := Same D N ∧ N.length = D.length
theorem Stable.refl (D : List Tc) : Stable D D := ⟨Same.refl _, rfl⟩
theorem Stable.sorts {D M N : List Tc} {a b : Nat} (h : Stable D M) (hs : Sorts M N a b) : Stable D N := ⟨h.1.trans hs.at.2.1, hs.at.1.trans h.2⟩

set_option maxHeartbeats 8000000 in
theorem stable_any (w : World) (g c L : Nat) (X : List Value) (D : List Tc) (h : SW w g X D) (hL : D.length = L) (hLc : L ≤ c) (hL1 : L ≤ 1000000) :
    Calls Try.prog 66 #[.slice (some ⟨g, 0, none⟩) L c, .int .i64 L, lessV] w fun e w' => e = .returned (.tuple #[]) ∧ ∃ N, Stable D N ∧ Rising N ∧ SW w' g X N ∧ Save (· = g) w w' := by
  have Hs0 := Lib.hid h
  have HDL := Lib.hid hL
  have hgl := h.lt
  have HIns := Lib.hid (fun (w1 : World) (D1 : List Tc) (h1 : SW w1 g X D1) (h2 : D1.length = L) (a b : Nat) (hab : a ≤ b) (hb : b ≤ L) => insertion_any w1 g c L X D1 h1 h2 hLc hL1 a b hab hb)
  have HSym := Lib.hid (fun (w1 : World) (D1 : List Tc) (a m b : Nat) (h1 : SW w1 g X D1) (h2 : D1.length = L) (ham : a < m) (hmb : m < b) (h3 : Two D1 a m b) => symmerge_any g c L X hLc hL1 b a m b (by omega) w1 D1 h1 h2 ham hmb h3)
  clear h hL
  go_enter Try.func66, Try.ntmps66
  go_wp2_with fail
  go_loopw [7, 8] (fun s7 s8 wr => ∃ (t a b : Nat) (N : List Tc), s7 = .int .i64 a ∧ s8 = .int .i64 b ∧ a ≤ L ∧ a + 20 ≤ b ∧ b ≤ a + 20 ∧ Hid (a = t * 20) ∧ Hid (BlkTo N 20 t) ∧ Hid (Stable D N) ∧ SW wr g X N ∧ Save (· = g) w wr) (fun s7 _ _ => L - (intOf s7).toNat)
  case atStart => exact ⟨0, 0, 20, D, rfl, rfl, by omega, by omega, by omega, Lib.hid (by omega), Lib.hid (BlkTo.zero _ _), Lib.hid (Stable.refl _), Hs0.out, Save.refl _ _⟩
  case round =>
    rename World => wr
    obtain ⟨t, a, b, N, rfl, rfl, haL, hb1, hb2, HA, HBk, HSt, hs, hsv⟩ := hrel
    have HN := Lib.hid hs
    have HV := Lib.hid hsv
    clear hs hsv Hs0
    by_cases hbL : b ≤ L
    · have HC := Lib.hid (HIns.out wr N HN.out (HSt.out.2.trans HDL.out) a b (by omega) hbL)
      clear HIns HSym
      go_wp2_with fail
      refine HC.out.mono ?_
      rintro e w1 ⟨rfl, N1, hso, hs, hsv⟩
      obtain ⟨k1, k2⟩ := blk_step HBk.out hso HA.out hb1 hb2
      have HBk1 := Lib.hid k1
      have HA1 := Lib.hid k2
      have HSt1 := Lib.hid (HSt.out.sorts hso)
      have HN1 := Lib.hid hs
      have HV1 := Lib.hid (HV.out.trans hsv)
      clear hs hsv hso k1 k2 HC HN HV HBk HA HSt
      go_wp2_with fail
      exact ⟨⟨t + 1, b, b + 20, N1, rfl, by go_num, hbL, by omega, by omega, HA1, HBk1, HSt1, HN1.out, HV1.out⟩, by simp [intOf]; omega⟩
    · have HC := Lib.hid (HIns.out wr N HN.out (HSt.out.2.trans HDL.out) a L haL (Nat.le_refl _))
      clear HIns
      go_wp2_with fail
      refine HC.out.mono ?_
      rintro e w1 ⟨rfl, N1, hso, hs, hsv⟩
      have HBk1 := Lib.hid (blk_last HBk.out hso HA.out (HSt.out.2.trans HDL.out) (by omega))
      have HSt1 := Lib.hid (HSt.out.sorts hso)
      have HN1 := Lib.hid hs
      have HV1 := Lib.hid (HV.out.trans hsv)
      clear hs hsv hso HC HN HV HBk HA HSt
      go_wp2_with fail
      go_loopw [6, 7, 8, 9] (fun s6 s7 s8 s9 wr => ∃ (s : Nat) (N : List Tc), s6 = .int .i64 s ∧ 20 ≤ s ∧ s ≤ 2000000 ∧ Hid (Blk N s) ∧ Hid (Stable D N) ∧ SW wr g X N ∧ Save (· = g) w wr) (fun s6 _ _ _ _ => L - (intOf s6).toNat)
      case atStart => exact ⟨20, N1, rfl, by omega, by omega, HBk1, HSt1, HN1.out, HV1.out⟩
      case round =>
        rename World => wq
        clear HBk1 HSt1 HN1 HV1
        obtain ⟨s, N, rfl, hs1, hs2, HBk, HSt, hs, hsv⟩ := hrel
        have HN := Lib.hid hs
        have HV := Lib.hid hsv
        clear hs hsv
        by_cases hsL : s < L
        · go_wp2_with fail
          go_loopw [7, 8] (fun s7 s8 wr => ∃ (t a b : Nat) (N : List Tc), s7 = .int .i64 a ∧ s8 = .int .i64 b ∧ a ≤ L ∧ a + 2 * s ≤ b ∧ b ≤ a + 2 * s ∧ Hid (a = t * (2 * s)) ∧ Hid (Half N s t) ∧ Hid (Stable D N) ∧ SW wr g X N ∧ Save (· = g) w wr) (fun s7 _ _ => L - (intOf s7).toNat)
          case atStart => exact ⟨0, 0, 2 * s, N, rfl, by go_num, by omega, by omega, by omega, Lib.hid (by omega), Lib.hid HBk.out.half, HSt, HN.out, HV.out⟩
          case round =>
            rename World => wi
            clear HBk HSt HN HV
            obtain ⟨t, a, b, N, rfl, rfl, haL, hb1, hb2, HA, HBk, HSt, hs, hsv⟩ := hrel
            have HN := Lib.hid hs
            have HV := Lib.hid hsv
            clear hs hsv
            by_cases hbL : b ≤ L
            · have HC := Lib.hid (HSym.out wi N a (a + s) b HN.out (HSt.out.2.trans HDL.out) (by omega) (by omega) (half_two HBk.out HA.out hb1 hb2 (by rw [HSt.out.2, HDL.out]; exact hbL)))
              rw [show ((a + s : Nat) : Int) = (a : Int) + s by omega] at HC
              clear HSym
              go_wp2_with fail
              refine HC.out.mono ?_
              rintro e w2 ⟨rfl, N2, hso, hs, hsv⟩
              obtain ⟨k1, k2⟩ := half_step HBk.out hso HA.out hb1 hb2
              have HBk1 := Lib.hid k1
              have HA1 := Lib.hid k2
              have HSt1 := Lib.hid (HSt.out.sorts hso)
              have HN1 := Lib.hid hs
              have HV1 := Lib.hid (HV.out.trans hsv)
              clear hs hsv hso k1 k2 HC HN HV HBk HA HSt
              go_wp2_with fail
              exact ⟨⟨t + 1, b, b + 2 * s, N2, rfl, by go_num, hbL, by omega, by omega, HA1, HBk1, HSt1, HN1.out, HV1.out⟩, by simp [intOf]; omega⟩
            · by_cases hm : a + s < L
              · have HC := Lib.hid (HSym.out wi N a (a + s) L HN.out (HSt.out.2.trans HDL.out) (by omega) hm (half_two2 HBk.out HA.out (HSt.out.2.trans HDL.out) hm (by omega)))
                rw [show ((a + s : Nat) : Int) = (a : Int) + s by omega] at HC
                clear HSym
                go_wp2_with fail
                refine HC.out.mono ?_
                rintro e w2 ⟨rfl, N2, hso, hs, hsv⟩
                have HBk1 := Lib.hid (half_last HBk.out hso HA.out (HSt.out.2.trans HDL.out) (by omega))
                have HSt1 := Lib.hid (HSt.out.sorts hso)
                have HN1 := Lib.hid hs
                have HV1 := Lib.hid (HV.out.trans hsv)
                clear hs hsv hso HC HN HV HBk HA HSt
                go_wp2_with fail
                exact ⟨⟨2 * s, N2, by go_num, by omega, by omega, HBk1, HSt1, HN1.out, HV1.out⟩, by simp [intOf]; omega⟩
              · have HBk1 := Lib.hid (half_done HBk.out HA.out (HSt.out.2.trans HDL.out) (by omega) (by omega))
                clear HBk HA HSym
                go_wp2_with fail
                exact ⟨⟨2 * s, N, by go_num, by omega, by omega, HBk1, HSt, HN.out, HV.out⟩, by simp [intOf]; omega⟩
        · have HR := Lib.hid (HBk.out.all (by rw [HSt.out.2, HDL.out]; omega))
          clear HBk HSym
          go_wp2_with fail
          go_end0
          exact ⟨rfl, N, HSt.out, HR.out, HN.out, HV.out⟩
end Go.Proofs.Ytdmjfadeffcidaa
