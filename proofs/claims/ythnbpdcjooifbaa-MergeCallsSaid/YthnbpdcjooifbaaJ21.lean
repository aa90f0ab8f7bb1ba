/-    -/
import Derived.Maps.AppendAt
import Derived.Test.YthnbpdcjooifbaaJ18
import Derived.Test.YthnbpdcjooifbaaJ16
import Derived.Test.YthnbpdcjooifbaaJ20
namespace Go.Proofs.Ythnbpdcjooifbaa
open Go.RowKit
set_option linter.unusedSimpArgs false
set_option linter.unusedVariables false

theorem grown_apart {w : World} {b1 e1 s1 n1 : Nat} {u v v' : Value} {xs : List Value} (hu : w.ownsRow b1 e1 s1 u n1 xs) (hat : v'.ownBlock = v.ownBlock ∨ v'.ownBlock = some w.heap.size) (ha : u.ownBlock = none ∨ u.ownBlock ≠ v.ownBlock) : (u.ownBlock = none ∨ u.ownBlock ≠ v'.ownBlock) ∧ (v'.ownBlock = none ∨ v'.ownBlock ≠ u.ownBlock) := by
  cases hub : u.ownBlock with
  | none =>
    refine ⟨.inl rfl, ?_⟩
    cases v'.ownBlock with
    | none => exact .inl rfl
    | some g => exact .inr (by simp)
  | some k =>
    have hlt := (hu.lt k hub).2
    rcases hat with h | h
    · rw [h]
      have h2 : u.ownBlock ≠ v.ownBlock := ha.resolve_left (by rw [hub]; simp)
      rw [hub] at h2
      exact ⟨.inr h2, .inr fun e => h2 e.symm⟩
    · rw [h]
      have h2 : some k ≠ some w.heap.size := fun e => by have := Option.some.inj e; omega
      exact ⟨.inr h2, .inr fun e => h2 e.symm⟩

set_option maxRecDepth 100000 in
set_option maxHeartbeats 2000000 in
theorem rpart_any (w : World) (x : Ls) (chip : Int) (h : LsAt w w.heap.size x) (hN : x.l.length ≤ 1048576) :
    Calls Try.prog 29 #[x.val, .int .i64 chip] w (ListTo w (x.l.filter (onChip chip))) := by
  have hcap := h.cap
  have hle := h.le
  unfold maxLen at hcap
  obtain ⟨i0, hi, hz0, hz1, hz2⟩ := info_parts info_ev
  have HL := Lib.hid h
  unfold Ls.val
  clear h
  go_enter Try.func29, Try.ntmps29
  go_wp2_with fail
  go_loopw [5, 6] (fun v i wr => ∃ k : Nat, k ≤ x.l.length ∧ i = .int .i64 k ∧ wr.ownsRow w.heap.size 23 6 v ((x.l.take k).filter (onChip chip)).length (rowV ((x.l.take k).filter (onChip chip))) ∧ Below w.heap.size w wr) (fun _ i _ => x.l.length - (intOf i).toNat)
  case atStart => exact ⟨0, Nat.zero_le _, rfl, World.ownsRow_nil _ _ _ _, Below.refl _ _⟩
  case round =>
    obtain ⟨k, hk, rfl, ho, hb⟩ := hrel
    have hlen : ((x.l.take k).filter (onChip chip)).length ≤ k := Nat.le_trans (List.length_filter_le _ _) (by simp; omega)
    by_cases hlt : k < x.l.length
    · have hft := filter_take (onChip chip) x.l k hlt
      obtain ⟨b, o, hA, hb1, hat⟩ := HL.out.at_ (by omega)
      have hu := (hat k hlt).keep (hb.block b hb1)
      obtain ⟨y, hy⟩ : ∃ y, x.l.getD k evZ = y := ⟨_, rfl⟩
      rw [hy] at hft
      rw [show x.l.getD k ⟨0, 0, 0, 0, 0, 0⟩ = y from hy] at hu
      obtain ⟨d0, d1, d2, d3, d4, d5⟩ := hu
      have hsz := hb.size
      obtain ⟨D, hD⟩ : ∃ D, (x.l.take k).filter (onChip chip) = D := ⟨_, rfl⟩
      rw [hD] at ho hlen hft
      have HO := Lib.hid ho
      have HF := Lib.hid hft
      rw [hA]
      clear hat hy hft ho hD
      by_cases hq : y.chip = chip
      · have hqb : (y.chip == chip) = true := by simpa using hq
        have HQ := Lib.hid (show onChip chip y = true from hqb)
        clear hq
        go_wp2_with (at_builtin; refine wpList_append_own_at _ rfl (.tmp 20) (.tmp 25) 25 rfl w.heap.size 23 i0 _ 6 48 Try.underlying25 hi hz0 hz1 hz2 rfl (by decide) _ D.length (rowV D) rfl (HO.out.alloc _) ⟨wr.heap.size, 0, none⟩ 1 1 y.cells rfl rfl (new_ev _ _) (cells_one _) (by unfold maxLen; omega) (by omega) (by simp; omega) ?_; intro v' w1 ho1 hg1 _ hat1; have HAT := Lib.hid hat1; have HO1 := Lib.hid ho1; have HG1 := Lib.hid hg1; clear ho1 hg1 hat1)
        have hb2 : Below w.heap.size w w1 := (hb.alloc hsz (evO y)).grown HG1.out (by simp; omega) (fun j hj => (HO.out.lt j hj).1)
        refine ⟨⟨k + 1, by omega, by go_num, ?_, hb2⟩, by simp [intOf]; omega⟩
        rw [HF.out, if_pos HQ.out, rowV_snoc, List.length_append]
        exact HO1.out
      · have hqb : (y.chip == chip) = false := by simpa using hq
        have HQ := Lib.hid (show onChip chip y = false from hqb)
        clear hq
        go_wp2_with fail
        refine ⟨⟨k + 1, by omega, by go_num, ?_, hb⟩, by simp [intOf]; omega⟩
        rw [HF.out, if_neg (by rw [HQ.out]; decide), List.append_nil]
        exact HO.out
    · obtain rfl : k = x.l.length := by omega
      rw [List.take_length] at ho
      obtain ⟨y, h1, h2, h3⟩ := row_to_ls ho
      have HF := Lib.hid (show ListTo w (x.l.filter (onChip chip)) (.returned _) wr from ⟨y, congrArg Ending.returned h1, h2, h3, hb⟩)
      clear ho h1 h2 h3
      go_wp2_with fail
      go_ret
      exact HF.out

set_option maxRecDepth 100000 in
set_option maxHeartbeats 4000000 in
theorem rcut_any (w : World) (x : Ls) (t : Int) (h : LsAt w w.heap.size x) (hN : x.l.length ≤ 1048576) :
    Calls Try.prog 22 #[x.val, .int .i64 t] w (CutTo w x.l t) := by
  have hcap := h.cap
  have hle := h.le
  unfold maxLen at hcap
  obtain ⟨i0, hi, hz0, hz1, hz2⟩ := info_parts info_ev
  have HL := Lib.hid h
  unfold Ls.val
  clear h
  go_enter Try.func22, Try.ntmps22
  go_wp2_with fail
  go_loopw [6, 7, 8] (fun v u i wr => ∃ k : Nat, k ≤ x.l.length ∧ i = .int .i64 k ∧ wr.ownsRow w.heap.size 23 6 v ((x.l.take k).filter (aheadOf t)).length (rowV ((x.l.take k).filter (aheadOf t))) ∧
      wr.ownsRow w.heap.size 23 6 u ((x.l.take k).filter (behindOf t)).length (rowV ((x.l.take k).filter (behindOf t))) ∧ (v.ownBlock = none ∨ v.ownBlock ≠ u.ownBlock) ∧ (u.ownBlock = none ∨ u.ownBlock ≠ v.ownBlock) ∧ Below w.heap.size w wr) (fun _ _ i _ => x.l.length - (intOf i).toNat)
  case atStart => exact ⟨0, Nat.zero_le _, rfl, World.ownsRow_nil _ _ _ _, World.ownsRow_nil _ _ _ _, .inl rfl, .inl rfl, Below.refl _ _⟩
  case round =>
    obtain ⟨k, hk, rfl, ho, hp, hvu, huv, hb⟩ := hrel
    have hlen : ((x.l.take k).filter (aheadOf t)).length ≤ k := Nat.le_trans (List.length_filter_le _ _) (by simp; omega)
    have hlen2 : ((x.l.take k).filter (behindOf t)).length ≤ k := Nat.le_trans (List.length_filter_le _ _) (by simp; omega)
    by_cases hlt : k < x.l.length
    · have hft := filter_take (aheadOf t) x.l k hlt
      have hft2 := filter_take (behindOf t) x.l k hlt
      obtain ⟨b, o, hA, hb1, hat⟩ := HL.out.at_ (by omega)
      have hu := (hat k hlt).keep (hb.block b hb1)
      obtain ⟨y, hy⟩ : ∃ y, x.l.getD k evZ = y := ⟨_, rfl⟩
      rw [hy] at hft hft2
      rw [show x.l.getD k ⟨0, 0, 0, 0, 0, 0⟩ = y from hy] at hu
      obtain ⟨d0, d1, d2, d3, d4, d5⟩ := hu
      have hsz := hb.size
      obtain ⟨D, hD⟩ : ∃ D, (x.l.take k).filter (aheadOf t) = D := ⟨_, rfl⟩
      obtain ⟨E, hE⟩ : ∃ E, (x.l.take k).filter (behindOf t) = E := ⟨_, rfl⟩
      rw [hD] at ho hlen hft
      rw [hE] at hp hlen2 hft2
      have HO := Lib.hid ho
      have HP := Lib.hid hp
      have HF := Lib.hid hft
      have HF2 := Lib.hid hft2
      have HVU := Lib.hid hvu
      have HUV := Lib.hid huv
      rw [hA]
      clear hat hy hft hft2 ho hp hD hE hvu huv
      by_cases hq : y.time < t
      · have HQ := Lib.hid (show aheadOf t y = true from decide_eq_true hq)
        have HQ2 := Lib.hid (show behindOf t y = false from decide_eq_false (by omega))
        go_wp2_with (at_builtin; refine wpList_append_own_at _ rfl (.tmp 22) (.tmp 27) 25 rfl w.heap.size 23 i0 _ 6 48 Try.underlying25 hi hz0 hz1 hz2 rfl (by decide) _ D.length (rowV D) rfl (HO.out.alloc _) ⟨wr.heap.size, 0, none⟩ 1 1 y.cells rfl rfl (new_ev _ _) (cells_one _) (by unfold maxLen; omega) (by omega) (by simp; omega) ?_; intro v' w1 ho1 hg1 _ hat1; have HAT := Lib.hid hat1; have HO1 := Lib.hid ho1; have HG1 := Lib.hid hg1; clear ho1 hg1 hat1)
        have hb2 : Below w.heap.size w w1 := (hb.alloc hsz (evO y)).grown HG1.out (by simp; omega) (fun j hj => (HO.out.lt j hj).1)
        have hp1 := (HP.out.alloc (evO y)).kept HG1.out HUV.out
        have hap := grown_apart (HP.out.alloc (evO y)) HAT.out HUV.out
        refine ⟨⟨k + 1, by omega, by go_num, ?_, ?_, hap.2, hap.1, hb2⟩, by simp [intOf]; omega⟩
        · rw [HF.out, if_pos HQ.out, rowV_snoc, List.length_append]
          exact HO1.out
        · rw [HF2.out, if_neg (by rw [HQ2.out]; decide), List.append_nil]
          exact hp1
      · have HQ := Lib.hid (show aheadOf t y = false from decide_eq_false hq)
        have HQ2 := Lib.hid (show behindOf t y = true from decide_eq_true (by omega))
        go_wp2_with (at_builtin; refine wpList_append_own_at _ rfl (.tmp 29) (.tmp 34) 25 rfl w.heap.size 23 i0 _ 6 48 Try.underlying25 hi hz0 hz1 hz2 rfl (by decide) _ E.length (rowV E) rfl (HP.out.alloc _) ⟨wr.heap.size, 0, none⟩ 1 1 y.cells rfl rfl (new_ev _ _) (cells_one _) (by unfold maxLen; omega) (by omega) (by simp; omega) ?_; intro v' w1 ho1 hg1 _ hat1; have HAT := Lib.hid hat1; have HO1 := Lib.hid ho1; have HG1 := Lib.hid hg1; clear ho1 hg1 hat1)
        have hb2 : Below w.heap.size w w1 := (hb.alloc hsz (evO y)).grown HG1.out (by simp; omega) (fun j hj => (HP.out.lt j hj).1)
        have hp1 := (HO.out.alloc (evO y)).kept HG1.out HVU.out
        have hap := grown_apart (HO.out.alloc (evO y)) HAT.out HVU.out
        refine ⟨⟨k + 1, by omega, by go_num, ?_, ?_, hap.1, hap.2, hb2⟩, by simp [intOf]; omega⟩
        · rw [HF.out, if_neg (by rw [HQ.out]; decide), List.append_nil]
          exact hp1
        · rw [HF2.out, if_pos HQ2.out, rowV_snoc, List.length_append]
          exact HO1.out
    · obtain rfl : k = x.l.length := by omega
      rw [List.take_length] at ho hp
      obtain ⟨y, h1, h2, h3, h4⟩ := row_to_ls ho
      obtain ⟨z, k1, k2, k3, k4⟩ := row_to_ls hp
      have HF := Lib.hid (show CutTo w x.l t (.returned (.tuple #[_, _])) wr from ⟨y, z, by rw [← h1, ← k1], h2, k2, h3, k3, hb, h4, k4⟩)
      clear ho hp h1 h2 h3 h4 k1 k2 k3 k4 hvu huv
      go_wp2_with fail
      go_ret2
      exact HF.out
end Go.Proofs.Ythnbpdcjooifbaa
namespace Go.Proofs.Ythnbpdcjooifbaa
open Go.RowKit
set_option linter.unusedSimpArgs false
set_option linter.unusedVariables false

set_option maxRecDepth 100000 in
set_option maxHeartbeats 4000000 in
theorem rdiffer_any (w : World) (x y : Ls) (hx : LsAt w w.heap.size x) (hy : LsAt w w.heap.size y) : Calls Try.prog 30 #[x.val, y.val] w fun e w' => e = .returned (.int .i64 (differL x.l y.l 0)) ∧ Below w.heap.size w w' := by
  have hxl := hx.le
  have hxc := hx.cap
  have hyl := hy.le
  have hyc := hy.cap
  unfold maxLen at hxc hyc
  unfold Ls.val
  obtain ⟨n, hn⟩ : ∃ n, min x.l.length y.l.length = n := ⟨_, rfl⟩
  have hnx : n ≤ x.l.length := by omega
  have hny : n ≤ y.l.length := by omega
  have HN := Lib.hid hn
  clear hn
  go_enter Try.func30, Try.ntmps30
  go_wp2_with fail
  go_loopw [5] (fun i wr => ∃ k : Nat, k ≤ n ∧ i = .int .i64 k ∧ (∀ j, j < k → x.l.getD j evZ = y.l.getD j evZ) ∧ Below w.heap.size w wr) (fun i _ => n - (intOf i).toNat)
  case atStart => exact ⟨0, Nat.zero_le _, rfl, fun j hj => by omega, Below.refl _ _⟩
  case round =>
    obtain ⟨k, hk, rfl, he, hb⟩ := hrel
    have HE := Lib.hid he
    clear he
    by_cases hlt : k < n
    · obtain ⟨b, o, hA, hu⟩ := hx.ev hb (k := k) (by omega)
      obtain ⟨b2, o2, hA2, hv⟩ := hy.ev hb (k := k) (by omega)
      obtain ⟨u, hgu⟩ : ∃ u, x.l.getD k evZ = u := ⟨_, rfl⟩
      obtain ⟨v, hgv⟩ : ∃ v, y.l.getD k evZ = v := ⟨_, rfl⟩
      rw [hgu] at hu
      rw [hgv] at hv
      have HU := Lib.hid hgu
      have HV := Lib.hid hgv
      rw [hA, hA2]
      clear hgu hgv hA hA2
      obtain ⟨c0, c1, c2, c3, c4, c5⟩ := hu
      obtain ⟨d0, d1, d2, d3, d4, d5⟩ := hv
      have hkx : k < x.l.length := by omega
      have hky : k < y.l.length := by omega
      by_cases huv : u = v
      · subst huv
        have hq := fun w => neq_same u w
        unfold Ev.val at hq
        go_wp2_with fail
        go_quiet (fail)
        go_wp2_with fail
        refine ⟨⟨k + 1, by omega, by go_num, fun j hj => ?_, ⟨hb.os, hb.tape, hb.output, hb.size, hb.block⟩⟩, by simp [intOf]; omega⟩
        by_cases e : j = k
        · subst e; rw [HU.out, HV.out]
        · exact HE.out j (by omega)
      · have hq := fun w => neq_other u v huv w
        have H := Lib.hid huv
        unfold Ev.val at hq
        clear huv
        go_wp2_with fail
        go_quiet (fail)
        go_wp2_with fail
        go_ret
        rw [differ_at hkx hky HE.out (by rw [HU.out, HV.out]; exact H.out)]
        exact ⟨rfl, ⟨hb.os, hb.tape, hb.output, hb.size, hb.block⟩⟩
    · obtain rfl : k = n := by omega
      have hd := differ_end (l := x.l) (m := y.l) (fun j hj => HE.out j (by rw [HN.out] at hj; exact hj))
      rw [HN.out] at hd
      have hmn : min (x.l.length : Int) (y.l.length : Int) = (k : Int) := by have := HN.out; omega
      have HMN := Lib.hid hmn
      clear hmn
      by_cases hl : x.l.length = y.l.length
      · rw [if_pos hl] at hd
        have HD := Lib.hid hd
        have hkl : k = y.l.length := by have := HN.out; omega
        have hl2 : ((x.l.length : Int) == (y.l.length : Int)) = true := by simp; omega
        have hk2 : ¬ k < x.l.length := by omega
        have H := Lib.hid hl
        clear hd hl hkl
        rw [H.out]
        rw [H.out] at hl2 hk2
        go_wp2_with fail
        go_ret
        rw [HD.out]
        exact ⟨rfl, hb⟩
      · rw [if_neg hl] at hd
        have HD := Lib.hid hd
        have hl2 : ((x.l.length : Int) == (y.l.length : Int)) = false := by simp; omega
        rcases Nat.lt_or_ge k x.l.length with h5 | h5
        · have h6 : k = y.l.length := by have := HN.out; omega
          have h7 : ¬ k < y.l.length := by omega
          clear hd hl h6
          go_wp2_with fail
          go_ret
          rw [HD.out]
          exact ⟨ret_i64 HMN.out, hb⟩
        · have h6 : k = x.l.length := by omega
          clear hd hl h6
          go_wp2_with fail
          go_ret
          rw [HD.out]
          exact ⟨ret_i64 HMN.out, hb⟩

set_option maxRecDepth 100000 in
set_option maxHeartbeats 2000000 in
theorem rcount2_any (w : World) (x : Ls) (h : LsAt w w.heap.size x) (hN : x.l.length ≤ 1048576) :
    Calls Try.prog 32 #[x.val] w fun e w' => e = .returned (ctV (cntF x.l)) ∧ Below w.heap.size w w' := by
  have hcap := h.cap
  have hle := h.le
  unfold maxLen at hcap
  unfold Ls.val
  go_enter Try.func32, Try.ntmps32
  go_wp2_with fail
  have hz0 : CT ((w.alloc (.cells (ctA fun _ => 0) 45)).alloc (.cells (ctA fun _ => 0) 45)) w.heap.size (fun _ => 0) := (CT.laid w _).more _
  have hz1 : CT ((w.alloc (.cells (ctA fun _ => 0) 45)).alloc (.cells (ctA fun _ => 0) 45)) (w.heap.size + 1) (fun _ => 0) := by have := CT.laid (w.alloc (.cells (ctA fun _ => 0) 45)) (fun _ => 0); rwa [World.size_alloc] at this
  have hbz : Below w.heap.size w ((w.alloc (.cells (ctA fun _ => 0) 45)).alloc (.cells (ctA fun _ => 0) 45)) := ((Below.refl _ w).alloc (Nat.le_refl _) _).alloc (by simp) _
  unfold ctA at hz0 hz1 hbz
  have HZ0 := Lib.hid hz0
  have HZ1 := Lib.hid hz1
  have HBZ := Lib.hid hbz
  clear hz0 hz1 hbz
  go_loopw [4] (fun i wr => ∃ k : Nat, k ≤ x.l.length ∧ i = .int .i64 k ∧ CT wr w.heap.size (fun _ => 0) ∧ CT wr (w.heap.size + 1) (cntF (x.l.take k)) ∧ Below w.heap.size w wr) (fun i _ => x.l.length - (intOf i).toNat)
  case atStart => exact ⟨0, Nat.zero_le _, rfl, HZ0.out, HZ1.out.ext (fun i hi => rfl), HBZ.out⟩
  case round =>
    clear HZ0 HZ1 HBZ
    obtain ⟨k, hk, rfl, hz, hc, hb⟩ := hrel
    by_cases hlt : k < x.l.length
    · have hft := fun i => cntF_take x.l k i hlt
      obtain ⟨b, o, hA, hb1, hat⟩ := h.at_ (by omega)
      have hu := (hat k hlt).keep (hb.block b hb1)
      obtain ⟨y, hy⟩ : ∃ y, x.l.getD k evZ = y := ⟨_, rfl⟩
      rw [show x.l.getD k ⟨0, 0, 0, 0, 0, 0⟩ = y from hy] at hu
      simp only [hy] at hft
      obtain ⟨d0, d1, d2, d3, d4, d5⟩ := hu
      have hle2 := cntF_le (x.l.take k)
      have hlen : (x.l.take k).length ≤ k := by simp; omega
      have HF := Lib.hid hft
      have HZ := Lib.hid hz
      have HC := Lib.hid hc
      clear hft hy hat
      rw [hA]
      by_cases hk0 : chipOf y.kind = 0
      · have hne : (chipOf y.kind != 0) = false := by simp [hk0]
        have HK := Lib.hid hne
        clear hk0 hz hc hle2
        go_wp2_with (go_at_call 37; refine (rchip_any _ _).mono ?_; rintro e w' ⟨rfl, rfl⟩)
        go_roundw
        case rel =>
          refine ⟨k + 1, by omega, by go_num, HZ.out, HC.out.ext fun i hi => ?_, hb⟩
          rw [HF.out, if_neg (by simp [isK, HK.out]), Int.add_zero]
        case measure => simp [intOf]; omega
      · have hne : (chipOf y.kind != 0) = true := by simp [hk0]
        obtain ⟨m, hm, hm13⟩ : ∃ m : Nat, y.kind = m ∧ m < 13 := by
          have : 1 ≤ y.kind ∧ y.kind ≤ 12 := by unfold chipOf at hk0; (repeat' split at hk0) <;> omega
          exact ⟨y.kind.toNat, by omega, by omega⟩
        have HM := Lib.hid hm
        have hce := hc.at_ m hm13
        have hfr := hc.free m
        have hv := hle2 m
        rw [hm] at d3 hne
        have HK := Lib.hid hne
        have hml := hm13
        obtain ⟨v, hvd⟩ : ∃ v, cntF (x.l.take k) m = v := ⟨_, rfl⟩
        rw [hvd] at hce hv
        have HV := Lib.hid hvd
        clear hk0 hz hc hle2 hm hvd
        go_wp2_with (go_at_call 37; refine (rchip_any _ _).mono ?_; rintro e w' ⟨rfl, rfl⟩)
        refine ⟨⟨k + 1, by omega, by go_num, HZ.out.other (by omega) m _, ?_, hb.setCell (p := ⟨w.heap.size + 1, m, none⟩) (by simp) _⟩, by simp [intOf]; omega⟩
        refine (HC.out.put m hml (v + 1)).ext fun i hi => ?_
        rw [HF.out]
        unfold upF
        by_cases e : i = m
        · subst e
          rw [if_pos rfl, HV.out, if_pos (by simp [isK, HM.out, HK.out])]
        · rw [if_neg e, if_neg (by simp [isK, HM.out]; intro h1; omega), Int.add_zero]
    · obtain rfl : k = x.l.length := by omega
      rw [List.take_length] at hc
      have HC := Lib.hid hc
      have hlen := cntF_le x.l
      obtain ⟨f, hf⟩ : ∃ f, cntF x.l = f := ⟨_, rfl⟩
      rw [hf] at hc HC
      have c0 := hc.at_ 0 (by decide)
      have c1 := hc.at_ 1 (by decide)
      have c2 := hc.at_ 2 (by decide)
      have c3 := hc.at_ 3 (by decide)
      have c4 := hc.at_ 4 (by decide)
      have c5 := hc.at_ 5 (by decide)
      have c6 := hc.at_ 6 (by decide)
      have c7 := hc.at_ 7 (by decide)
      have c8 := hc.at_ 8 (by decide)
      have c9 := hc.at_ 9 (by decide)
      have c10 := hc.at_ 10 (by decide)
      have c11 := hc.at_ 11 (by decide)
      have c12 := hc.at_ 12 (by decide)
      have z0 := hz.free 0
      have z1 := hz.free 1
      have z2 := hz.free 2
      have z3 := hz.free 3
      have z4 := hz.free 4
      have z5 := hz.free 5
      have z6 := hz.free 6
      have z7 := hz.free 7
      have z8 := hz.free 8
      have z9 := hz.free 9
      have z10 := hz.free 10
      have z11 := hz.free 11
      have z12 := hz.free 12
      have y0 := hz.at_ 0 (by decide)
      have y1 := hz.at_ 1 (by decide)
      have y2 := hz.at_ 2 (by decide)
      have y3 := hz.at_ 3 (by decide)
      have y4 := hz.at_ 4 (by decide)
      have y5 := hz.at_ 5 (by decide)
      have y6 := hz.at_ 6 (by decide)
      have y7 := hz.at_ 7 (by decide)
      have y8 := hz.at_ 8 (by decide)
      have y9 := hz.at_ 9 (by decide)
      have y10 := hz.at_ 10 (by decide)
      have y11 := hz.at_ 11 (by decide)
      have y12 := hz.at_ 12 (by decide)
      have HZ := Lib.hid hz
      have HFF := Lib.hid hf
      clear hc hz hf hlen
      have HCT := Lib.hid ((((((((((((((HZ.out.put 0 (by decide) (f 0)).put 1 (by decide) (f 1)).put 2 (by decide) (f 2)).put 3 (by decide) (f 3)).put 4 (by decide) (f 4)).put 5 (by decide) (f 5)).put 6 (by decide) (f 6)).put 7 (by decide) (f 7)).put 8 (by decide) (f 8)).put 9 (by decide) (f 9)).put 10 (by decide) (f 10)).put 11 (by decide) (f 11)).put 12 (by decide) (f 12)).ext (g := f) fun i hi => match i, hi with | 0, _ | 1, _ | 2, _ | 3, _ | 4, _ | 5, _ | 6, _ | 7, _ | 8, _ | 9, _ | 10, _ | 11, _ | 12, _ => rfl)
      have HBB := Lib.hid ((((((((((((((hb.setCell (p := ⟨w.heap.size, 0, none⟩) (Nat.le_refl _) (.int .i64 (f 0))).setCell (p := ⟨w.heap.size, 1, none⟩) (Nat.le_refl _) (.int .i64 (f 1))).setCell (p := ⟨w.heap.size, 2, none⟩) (Nat.le_refl _) (.int .i64 (f 2))).setCell (p := ⟨w.heap.size, 3, none⟩) (Nat.le_refl _) (.int .i64 (f 3))).setCell (p := ⟨w.heap.size, 4, none⟩) (Nat.le_refl _) (.int .i64 (f 4))).setCell (p := ⟨w.heap.size, 5, none⟩) (Nat.le_refl _) (.int .i64 (f 5))).setCell (p := ⟨w.heap.size, 6, none⟩) (Nat.le_refl _) (.int .i64 (f 6))).setCell (p := ⟨w.heap.size, 7, none⟩) (Nat.le_refl _) (.int .i64 (f 7))).setCell (p := ⟨w.heap.size, 8, none⟩) (Nat.le_refl _) (.int .i64 (f 8))).setCell (p := ⟨w.heap.size, 9, none⟩) (Nat.le_refl _) (.int .i64 (f 9))).setCell (p := ⟨w.heap.size, 10, none⟩) (Nat.le_refl _) (.int .i64 (f 10))).setCell (p := ⟨w.heap.size, 11, none⟩) (Nat.le_refl _) (.int .i64 (f 11))).setCell (p := ⟨w.heap.size, 12, none⟩) (Nat.le_refl _) (.int .i64 (f 12))))
      go_wp2_with fail
      refine bodyPost_ret (results_ct rfl _ _ w.heap.size f rfl HCT.out) rfl ?_
      rw [HFF.out]
      exact ⟨rfl, HBB.out⟩
end Go.Proofs.Ythnbpdcjooifbaa
namespace Go.Proofs.Ythnbpdcjooifbaa
open Go.RowKit
set_option linter.unusedSimpArgs false
set_option linter.unusedVariables false

theorem numL_take (l : List Ev) (k : Nat) (hk : k < l.length) : (numL l).take (k + 1) = (numL l).take k ++ [numAt l k] := by
  have h : k < (numL l).length := by rw [numL_len]; exact hk
  rw [List.take_succ_eq_append_getElem h]
  have := numL_at l k hk
  rw [List.getD_eq_getElem?_getD, List.getElem?_eq_getElem h] at this
  rw [← this]; rfl

set_option maxRecDepth 100000 in
set_option maxHeartbeats 4000000 in
theorem rnumber2_any (w : World) (x : Ls) (h : LsAt w w.heap.size x) (hN : x.l.length ≤ 1048576) :
    Calls Try.prog 34 #[x.val] w (ListTo w (numL x.l)) := by
  have hcap := h.cap
  have hle := h.le
  unfold maxLen at hcap
  obtain ⟨i0, hi, hz0, hz1, hz2⟩ := info_parts info_ev
  have HL := Lib.hid h
  unfold Ls.val
  clear h
  go_enter Try.func34, Try.ntmps34
  go_wp2_with fail
  go_loopw [3, 4] (fun v i wr => ∃ k : Nat, k ≤ x.l.length ∧ i = .int .i64 k ∧ wr.ownsRow w.heap.size 23 6 v k (rowV ((numL x.l).take k)) ∧ Below w.heap.size w wr) (fun _ i _ => x.l.length - (intOf i).toNat)
  case atStart => exact ⟨0, Nat.zero_le _, rfl, World.ownsRow_nil _ _ _ _, Below.refl _ _⟩
  case round =>
    obtain ⟨k, hk, rfl, ho, hb⟩ := hrel
    by_cases hlt : k < x.l.length
    · obtain ⟨b, o, hA, hb1, hat⟩ := HL.out.at_ (by omega)
      have hu := (hat k hlt).keep (hb.block b hb1)
      obtain ⟨y, hy⟩ : ∃ y, x.l.getD k evZ = y := ⟨_, rfl⟩
      rw [show x.l.getD k ⟨0, 0, 0, 0, 0, 0⟩ = y from hy] at hu
      have hnt := numL_take x.l k hlt
      have hna : numAt x.l k = { y with seq := cc (x.l.take k) y.chip } := by unfold numAt; rw [hy]
      obtain ⟨d0, d1, d2, d3, d4, d5⟩ := hu
      have hsz := hb.size
      have HO := Lib.hid ho
      have HNT := Lib.hid hnt
      have HNA := Lib.hid hna
      have HAT := Lib.hid hat
      have HB1 := Lib.hid hb1
      rw [hA]
      clear hat hy hnt hna ho
      go_wp2_with fail
      obtain ⟨W, hW⟩ : ∃ W, (wr.alloc (.cells #[.int .i64 y.time, .int .i64 y.chip, .int .i64 0, .int .i64 y.kind, .int .i64 y.a, .int .i64 y.b] 23)) = W := ⟨_, rfl⟩
      have hE0 : EW W wr.heap.size { y with seq := 0 } := by rw [← hW]; exact EW.laid wr { y with seq := 0 }
      have hbW : Below wr.heap.size wr W := by rw [← hW]; exact (Below.refl _ _).alloc (Nat.le_refl _) _
      rw [hW]
      have HE0 := Lib.hid hE0
      have HBW := Lib.hid hbW
      clear hW hE0 hbW d0 d1 d2 d3 d4 d5
      obtain ⟨wo, hwo⟩ : ∃ wo, wo = wr := ⟨_, rfl⟩
      subst hwo
      go_loopw [6] (fun i wr2 => ∃ j : Nat, j ≤ k ∧ i = .int .i64 j ∧ EW wr2 wo.heap.size { y with seq := cc (x.l.take j) y.chip } ∧ Below wo.heap.size wo wr2) (fun i _ => k - (intOf i).toNat)
      case atStart => exact ⟨0, Nat.zero_le _, rfl, by simpa [cc] using HE0.out, HBW.out⟩
      case round =>
        clear HE0 HBW
        obtain ⟨j, hj, rfl, hE, hb2⟩ := hrel
        have hbw := hb.trans (hb2.mono hsz)
        by_cases hjk : j < k
        · have hv := (HAT.out j (by omega)).keep (hbw.block b HB1.out)
          obtain ⟨z, hz⟩ : ∃ z, x.l.getD j evZ = z := ⟨_, rfl⟩
          rw [show x.l.getD j ⟨0, 0, 0, 0, 0, 0⟩ = z from hz] at hv
          have hct := cc_take x.l j y.chip (by omega)
          rw [hz] at hct
          have hcl := cc_le (x.l.take j) y.chip
          have htl : (x.l.take j).length ≤ 1048576 := by simp; omega
          obtain ⟨q, hq⟩ : ∃ q, cc (x.l.take j) y.chip = q := ⟨_, rfl⟩
          rw [hq] at hE hct hcl
          obtain ⟨e0, e1, e2, e3, e4, e5⟩ := hE.ev
          obtain ⟨f0, f1, f2, f3, f4, f5⟩ := hv
          have hfz := hE.free 2
          have HE := Lib.hid hE
          have HC := Lib.hid hct
          have hjl : j < x.l.length := by omega
          dsimp only at e0 e1 e2 e3 e4 e5
          clear hz hct hE hq
          by_cases hch : z.chip = y.chip
          · have hcb : (z.chip == y.chip) = true := by simpa using hch
            have HCH := Lib.hid hch
            clear hch
            go_upto_region 10 with fail
            go_quiet (fail)
            go_wp2_with fail
            refine ⟨⟨j + 1, by omega, by go_num, ?_, ?_⟩, by simp [intOf]; omega⟩
            · rw [HC.out, if_pos HCH.out]
              exact HE.out.put2 (q + 1)
            · refine Below.setCell (p := ⟨wo.heap.size, 2, none⟩) ?_ (Nat.le_refl _) (.int .i64 (q + 1))
              exact ⟨hb2.os, hb2.tape, hb2.output, hb2.size, hb2.block⟩
          · have hcb : (z.chip == y.chip) = false := by simpa using hch
            have HCH := Lib.hid hch
            clear hch
            go_upto_region 10 with fail
            go_quiet (fail)
            go_wp2_with fail
            refine ⟨⟨j + 1, by omega, by go_num, ?_, ⟨hb2.os, hb2.tape, hb2.output, hb2.size, hb2.block⟩⟩, by simp [intOf]; omega⟩
            rw [HC.out, if_neg HCH.out, Int.add_zero]
            exact HE.out
        · obtain rfl : j = k := by omega
          obtain ⟨q, hq⟩ : ∃ q, cc (x.l.take j) y.chip = q := ⟨_, rfl⟩
          have hna := HNA.out
          rw [hq] at hE hna
          obtain ⟨e0, e1, e2, e3, e4, e5⟩ := hE.ev
          dsimp only at e0 e1 e2 e3 e4 e5
          have HO2 := Lib.hid (row_below HO.out hb2 (Nat.le_refl _))
          have hswr := hbw.size
          have HNA2 := Lib.hid hna
          clear hq hna hE
          go_wp2_with (at_builtin; refine wpList_append_own _ rfl (.tmp 35) (.tmp 37) 25 rfl w.heap.size 23 i0 _ 6 48 Try.underlying25 hi hz0 hz1 hz2 rfl (by decide) _ j (rowV ((numL x.l).take j)) rfl (HO2.out.alloc _) ⟨wr.heap.size, 0, none⟩ 1 1 ({ y with seq := q } : Ev).cells rfl rfl (new_ev _ { y with seq := q }) (cells_one _) (by unfold maxLen; omega) (by omega) (by simp; omega) ?_; intro v' w1 ho1 hg1 _; have HO1 := Lib.hid ho1; have HG1 := Lib.hid hg1; clear ho1 hg1)
          have hbf : Below w.heap.size w w1 := (hbw.alloc hswr (evO { y with seq := q })).grown HG1.out (by simp; omega) (fun i hi => (HO2.out.lt i hi).1)
          refine ⟨⟨j + 1, by omega, by go_num, ?_, hbf⟩, by simp [intOf]; omega⟩
          rw [HNT.out, rowV_snoc, HNA2.out]
          exact HO1.out
    · obtain rfl : k = x.l.length := by omega
      have hl2 : (numL x.l).length = x.l.length := numL_len x.l
      have ho2 := ho
      rw [show (numL x.l).take x.l.length = numL x.l from List.take_of_length_le (by omega)] at ho2
      rw [← hl2] at ho2
      obtain ⟨y, h1, h2, h3⟩ := row_to_ls ho2
      have HF := Lib.hid (show ListTo w (numL x.l) (.returned _) wr from ⟨y, congrArg Ending.returned h1, h2, h3, hb⟩)
      clear ho ho2 h1 h2 h3 hl2
      go_wp2_with fail
      go_ret
      exact HF.out
end Go.Proofs.Ythnbpdcjooifbaa
