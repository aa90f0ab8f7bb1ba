
/- The reference's Press; KeysPress. -/
import Derived.Test.YtdmjfadeffcidaaT7
import Derived.Test.YtdmjfadeffcidaaT9
import Derived.Test.YtdmjfadeffcidaaT13
namespace Go.Proofs.Ytdmjfadeffcidaa
open Go.RowKit
set_option linter.unusedSimpArgs false
set_option linter.unusedVariables false
set_option maxRecDepth 100000

set_option maxHeartbeats 4000000 in
theorem rpress_any (w : World) (A : Option Addr) (c : Nat) (ks : List Int) (t u : Int) (hk : NsAt w w.heap.size A ks) (hn : ks.length ≤ 60) :
    Calls Try.prog 31 #[.int .i64 t, .int .i64 u, .slice A ks.length c] w (ListE w (errL (pressL t u ks)) (pressL t u ks)) := by
  obtain ⟨i0, hi, hz0, hz1, hz2⟩ := info_parts info_tc
  have HL := Lib.hid hk
  have HS1 := Lib.hid (fun (k : Nat) (h : k < ks.length) => mkT_more t true h)
  have HS2 := Lib.hid (fun (k : Nat) (h : k < ks.length) => mkT_more u false h)
  have HT := Lib.hid mkT_len
  have H01 := Lib.hid (show mkT t true (ks.take 0) = [] from by simp [mkT])
  have H02 := Lib.hid (show mkT u false (ks.take 0) = [] from by simp [mkT])
  have HE1 : Hid (mkT t true (ks.take ks.length) = mkT t true ks) := Lib.hid (by rw [List.take_length])
  have HE2 : Hid (mkT u false (ks.take ks.length) = mkT u false ks) := Lib.hid (by rw [List.take_length])
  have HP := Lib.hid (show pressL t u ks = mkT t true ks ++ mkT u false ks from rfl)
  have HPl := Lib.hid (pressL_len t u ks)
  clear hk
  generalize pressL t u ks = pl at *
  go_enter Try.func31, Try.ntmps31
  go_wp2_with fail
  go_loopw [8, 9] (fun v i wr => ∃ k : Nat, k ≤ ks.length ∧ i = .int .i64 k ∧ OwnT wr w.heap.size v (mkT t true (ks.take k)) ∧ Below w.heap.size w wr) (fun _ i _ => ks.length - (intOf i).toNat)
  case atStart => exact ⟨0, Nat.zero_le _, rfl, by rw [H01.out]; exact World.ownsRow_nil _ _ _ _, Below.refl _ _⟩
  case round =>
    rename World => wr
    obtain ⟨k, hk, rfl, ho, hb⟩ := hrel
    have HO := Lib.hid ho
    have HB := Lib.hid hb
    clear ho hb
    by_cases hlt : k < ks.length
    · obtain ⟨b, o, hA, hb1, hat⟩ := HL.out.at_ (by omega)
      have hc := (HB.out.cell hb1).trans (hat k hlt)
      have HSk := Lib.hid (HS1.out k hlt)
      have HLk : Hid ((mkT t true (ks.take k)).length = k) := Lib.hid (by rw [HT.out]; simp; omega)
      clear hat HS1 HS2 HE1 HE2 HP
      generalize ks.getD k 0 = y at *
      subst hA
      go_wp2_with (at_builtin; refine wpList_append_own _ rfl (.tmp 18) (.tmp 25) 22 rfl w.heap.size 47 i0 _ 4 32 Try.underlying22 hi hz0 hz1 hz2 rfl (by decide) _ (mkT t true (ks.take k)).length (rowT (mkT t true (ks.take k))) rfl (HO.out.alloc _) ⟨wr.heap.size, 0, none⟩ 1 1 (Tc.cells ⟨t, 1, y, true⟩) rfl rfl (new_tc wr ⟨t, 1, y, true⟩) (cells_one _) (by rw [HLk.out]; unfold maxLen; omega) (by rw [HLk.out]; omega) (by have := HB.out.size; simp; omega) ?_; intro v' w' hown hg5 _; have HO2 := Lib.hid hown; have HG2 := Lib.hid hg5; clear hown hg5)
      refine ⟨⟨k + 1, by omega, by go_num, ?_, ?_⟩, by simp [intOf]; omega⟩
      · rw [HSk.out]
        unfold OwnT
        rw [rowT_snoc, List.length_append]
        exact HO2.out
      · exact HB.out.trans ((((Below.refl w.heap.size wr).alloc HB.out.size _).grown HG2.out (by have := HB.out.size; simp; omega) (fun j hj => (HO.out.lt j hj).1)))
    · obtain rfl : k = ks.length := by omega
      have hF := HO.out
      rw [HE1.out] at hF
      have HF := Lib.hid hF
      have HBF := Lib.hid HB.out
      clear HO HS1 H01 HE1 hF HB
      have HM := Lib.hid (HT.out t true ks)
      generalize mkT t true ks = m1 at *
      go_wp2_with fail
      go_loopw [8, 10] (fun v i wr => ∃ k : Nat, k ≤ ks.length ∧ i = .int .i64 k ∧ OwnT wr w.heap.size v (m1 ++ mkT u false (ks.take k)) ∧ Below w.heap.size w wr) (fun _ i _ => ks.length - (intOf i).toNat)
      case atStart => exact ⟨0, Nat.zero_le _, rfl, by rw [H02.out, List.append_nil]; exact HF.out, HBF.out⟩
      case round =>
        rename World => wr
        obtain ⟨k, hk, rfl, ho, hb⟩ := hrel
        have HO := Lib.hid ho
        have HB := Lib.hid hb
        clear ho hb HF HBF
        by_cases hlt : k < ks.length
        · obtain ⟨b, o, hA, hb1, hat⟩ := HL.out.at_ (by omega)
          have hc := (HB.out.cell hb1).trans (hat k hlt)
          have HSk := Lib.hid (HS2.out k hlt)
          have HLk : Hid ((m1 ++ mkT u false (ks.take k)).length = ks.length + k) := Lib.hid (by rw [List.length_append, HT.out, HM.out]; simp; omega)
          clear hat HS2 HE2 HP
          generalize ks.getD k 0 = y at *
          subst hA
          go_wp2_with (at_builtin; refine wpList_append_own _ rfl (.tmp 33) (.tmp 40) 22 rfl w.heap.size 47 i0 _ 4 32 Try.underlying22 hi hz0 hz1 hz2 rfl (by decide) _ (m1 ++ mkT u false (ks.take k)).length (rowT (m1 ++ mkT u false (ks.take k))) rfl (HO.out.alloc _) ⟨wr.heap.size, 0, none⟩ 1 1 (Tc.cells ⟨u, 1, y, false⟩) rfl rfl (new_tc wr ⟨u, 1, y, false⟩) (cells_one _) (by rw [HLk.out]; unfold maxLen; omega) (by rw [HLk.out]; omega) (by have := HB.out.size; simp; omega) ?_; intro v' w' hown hg5 _; have HO2 := Lib.hid hown; have HG2 := Lib.hid hg5; clear hown hg5)
          refine ⟨⟨k + 1, by omega, by go_num, ?_, ?_⟩, by simp [intOf]; omega⟩
          · rw [HSk.out, ← List.append_assoc]
            unfold OwnT
            rw [rowT_snoc, List.length_append]
            exact HO2.out
          · exact HB.out.trans ((((Below.refl w.heap.size wr).alloc HB.out.size _).grown HG2.out (by have := HB.out.size; simp; omega) (fun j hj => (HO.out.lt j hj).1)))
        · obtain rfl : k = ks.length := by omega
          have hF := HO.out
          rw [HE2.out, ← HP.out] at hF
          obtain ⟨A3, c3, rfl, -, l3, k3⟩ := hF.shape0
          have HF := Lib.hid hF
          have HK := Lib.hid (rcheck17_any wr A3 c3 pl hF.ts (by omega))
          clear HO HS2 H02 HE2 HP hF l3 k3
          have hpl : pl.length ≤ 120 := by have := HPl.out; omega
          generalize errL pl = er at *
          go_wp2_with fail
          refine HK.out.mono ?_
          rintro e w4 ⟨rfl, hb4⟩
          have HO4 := Lib.hid (HF.out.below hb4)
          have HB4 := Lib.hid (HB.out.trans (hb4.mono HB.out.size))
          clear hb4 HF HB HK
          by_cases hz : er = 0
          · subst hz
            go_wp2_with fail
            go_ret2
            exact ⟨⟨_, rfl, HO4.out⟩, HB4.out⟩
          · have hn : (er != 0) = true := by simpa using hz
            have HZ := Lib.hid hz
            clear hz
            go_wp2_with fail
            go_ret2
            exact ⟨⟨_, rfl, by rw [if_neg HZ.out]; exact World.ownsRow_nil _ _ _ _⟩, HB4.out⟩
end Go.Proofs.Ytdmjfadeffcidaa
