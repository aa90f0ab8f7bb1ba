
/- light: are lists short? -/
import Derived.Test.YtileglkimbkkgaaK16
namespace Go.Proofs.Ytileglkimbkkgaa
open Go.RowKit
set_option linter.unusedSimpArgs false
set_option linter.unusedVariables false

def lightB (L : List Ls) : Bool := decide (L.length ≤ 10 ∧ (allOf L).length ≤ 120)

set_option maxRecDepth 100000 in
set_option maxHeartbeats 1000000 in
theorem light_any (w : World) (c : Nat) (O : Option Addr) (L : List Ls) (h : LL w w.heap.size O c L) :
    Calls Try.prog 14 #[.slice O L.length c] w fun e w' => e = .returned (.bool (lightB L)) ∧ w = w' := by
  have hc := h.le
  have hm := h.cap
  unfold maxLen at hm
  go_enter Try.func14, Try.ntmps14
  go_wp2_with fail
  go_loop [3, 4] (fun n i => ∃ (k m : Nat), k ≤ L.length ∧ k ≤ 11 ∧ i = .int .i64 k ∧ n = .int .i64 m ∧ m ≤ k * 121 ∧ (m ≤ 120 ∨ (allOf (L.take k)).length ≤ 120 → m = (allOf (L.take k)).length)) (fun _ i => L.length - (intOf i).toNat)
  case atStart => exact ⟨0, 0, Nat.zero_le _, by omega, rfl, rfl, by omega, fun _ => rfl⟩
  case round =>
    obtain ⟨k, m, hk, hk11, rfl, rfl, hm1, hm2⟩ := hrel
    by_cases hlt : k < L.length ∧ k ≤ 10
    · obtain ⟨hlt, hk10⟩ := hlt
      obtain ⟨b, o, rfl, hb1, hc1⟩ := h.at_ (by omega)
      have hcell := hc1 k hlt
      have hmem : L.getD k Ls.none ∈ L := by rw [List.getD_eq_getElem?_getD, List.getElem?_eq_getElem hlt]; exact List.getElem_mem hlt
      have hrow := h.rows _ hmem
      have htake := all_take hlt
      obtain ⟨x, hx⟩ : ∃ x, L.getD k Ls.none = x := ⟨_, rfl⟩
      rw [hx] at hcell hrow htake
      have hxl := hrow.le
      have hxc := hrow.cap
      unfold maxLen at hxc
      unfold Ls.val at hcell
      have HT := Lib.hid htake
      have HM := Lib.hid hm2
      obtain ⟨q, hq⟩ : ∃ q : Nat, min (x.l.length : Int) 121 = q := ⟨min x.l.length 121, by omega⟩
      have HQ := Lib.hid hq
      have hq1 : q ≤ 121 := by omega
      clear htake hm2 hx hmem hc1
      go_wp2_with fail
      refine ⟨⟨k + 1, m + q, by omega, by omega, by go_num, by go_num, by omega, ?_⟩, by simp [intOf]; omega⟩
      intro hor
      have h1 := HT.out
      have h2 := HM.out
      have h3 := HQ.out
      omega
    · have HM := Lib.hid hm2
      clear hm2
      by_cases hl : L.length ≤ 10
      · obtain rfl : k = L.length := by omega
        clear hlt hk hk11
        have hk2 : (L.length : Int) ≤ 10 := by omega
        have hF : lightB L = decide ((m : Int) ≤ 120) := by
          unfold lightB
          rw [Bool.eq_iff_iff]
          simp only [decide_eq_true_eq]
          constructor
          · intro hc
            have := HM.out (.inr (by rw [List.take_length]; exact hc.2))
            rw [List.take_length] at this
            omega
          · intro hc
            have := HM.out (.inl (by omega))
            rw [List.take_length] at this
            exact ⟨hl, by omega⟩
        have HF := Lib.hid hF
        clear hF
        go_wp2_with fail
        go_ret
        rw [HF.out]
        exact ⟨rfl, rfl⟩
      · obtain rfl : k = 11 := by omega
        have hF : lightB L = false := decide_eq_false fun hc => hl hc.1
        have HF := Lib.hid hF
        have hl11 : 11 ≤ L.length := by omega
        clear hF hl hlt hk hk11
        by_cases e : 11 < L.length
        all_goals
          go_wp2_with fail
          go_ret
          rw [HF.out]
          exact ⟨rfl, rfl⟩
end Go.Proofs.Ytileglkimbkkgaa
