/-   -/
import Derived.ChangeKeysEq
import Derived.Test.YthnbpdcjooifbaaJ15
import Derived.Test.YthnbpdcjooifbaaJ12
namespace Go.Proofs.Ythnbpdcjooifbaa
open Go.RowKit
set_option linter.unusedSimpArgs false
set_option linter.unusedVariables false

theorem errs_zero : ∀ {L : List Ls}, errs L = 0 → ∀ x ∈ L, chk x.l = 0
  | [], _, x, hx => by cases hx
  | y :: t, h, x, hx => by
    unfold errs at h
    by_cases h0 : chk y.l = 0
    · rw [if_pos h0] at h
      rcases List.mem_cons.1 hx with rfl | hx
      · exact h0
      · exact errs_zero h x hx
    · rw [if_neg h0] at h
      exact absurd h h0
theorem allOf_may {L : List Ls} (h : errs L = 0) : ∀ e ∈ allOf L, e.May := by
  intro e he
  unfold allOf at he
  obtain ⟨l, hl, hel⟩ := List.mem_flatten.1 he
  obtain ⟨x, hx, rfl⟩ := List.mem_map.1 hl
  exact good_may (chk_good (errs_zero h x hx)).1 e hel

theorem cntF_append (A B : List Ev) (i : Nat) : cntF (A ++ B) i = cntF A i + cntF B i := by unfold cntF; rw [List.countP_append]; omega
theorem cntF_perm {A B : List Ev} (h : A.Perm B) (i : Nat) : cntF A i = cntF B i := by unfold cntF; rw [h.countP_eq]
theorem cntF_all (L : List Ls) (k i : Nat) (hk : k < L.length) : cntF (allOf (L.take (k + 1))) i = cntF (allOf (L.take k)) i + cntF (L.getD k Ls.none).l i := by
  have : L.take (k + 1) = L.take k ++ [L.getD k Ls.none] := by
    rw [List.take_succ_eq_append_getElem hk, List.getD_eq_getElem?_getD, List.getElem?_eq_getElem hk]; rfl
  rw [this]
  unfold allOf
  rw [List.map_append, List.flatten_append, cntF_append]
  simp
theorem cntF_zero (M : List Ev) : cntF M 0 = 0 := by
  unfold cntF
  have : M.countP (isK 0) = 0 := List.countP_eq_zero.2 fun y _ => by
    unfold isK
    by_cases h : y.kind = ((0 : Nat) : Int)
    · rw [h]; decide
    · have h2 : y.kind ≠ 0 := h
      simp [h2]
  omega
/-- A part has its chip's kinds alone, and all of them. -/
theorem cntF_part {M : List Ev} (hM : ∀ e ∈ M, e.May) (c : Int) (i : Nat) (h : cntF (M.filter (onChip c)) i ≠ 0) : cntF (M.filter (onChip c)) i = cntF M i ∧ chipOf i = c := by
  have h1 : 0 < (M.filter (onChip c)).countP (isK i) := by unfold cntF at h; omega
  obtain ⟨y, hy, hk⟩ := List.countP_pos_iff.1 h1
  rw [List.mem_filter] at hy
  have hkind : y.kind = i ∧ chipOf y.kind ≠ 0 := by unfold isK at hk; simpa using hk
  have hchip : y.chip = c := by have := hy.2; unfold onChip at this; simpa using this
  have hmay := hM y hy.1
  have hci : chipOf i = c := by rw [← hkind.1, ← hmay.2.1, hchip]
  refine ⟨?_, hci⟩
  unfold cntF
  rw [List.countP_filter]
  congr 1
  refine List.countP_congr fun z hz => ?_
  have hzm := hM z hz
  unfold isK onChip
  constructor
  · intro h3; simp at h3 ⊢; exact h3.1
  · intro h3
    simp at h3 ⊢
    exact ⟨h3, by rw [hzm.2.1, h3.1, hci]⟩

set_option maxHeartbeats 1000000 in
theorem rchip_any (k : Int) (w : World) : Calls Try.prog 37 #[.int .i64 k] w fun e w' => e = .returned (.int .i64 (chipOf k)) ∧ w = w' := by
  go_enter Try.func37, Try.ntmps37
  go_wp2
  all_goals
    go_ret
    exact ⟨ret_i64 (by unfold chipOf; (try simp only [beq_iff_eq, beq_eq_false_iff_ne, ne_eq, Bool.not_eq_true, Bool.or_eq_true, Bool.or_eq_false_iff] at *); (repeat' split) <;> omega), rfl⟩

set_option maxRecDepth 100000 in
theorem eqct_same (f : Nat → Int) (w : World) : (binOp .eql 45 (ctV f) (ctV f)).run Try.prog w = .ok (.bool true) w := by
  have hx : (Try.prog.info? 3).isSome = true := by kernel_rfl
  obtain ⟨i, hi⟩ := Option.isSome_iff_exists.1 hx
  have hC : Try.prog.cellsOf 3 = 1 := by kernel_rfl
  unfold ctV
  rw [run_eql_struct, run_equalIn_array w 9999 (ctA f) (ctA f) Try.underlying45 hi, hC, show List.range 13 = [0, 1, 2, 3, 4, 5, 6, 7, 8, 9, 10, 11, 12] from rfl]
  unfold ctA
  simp only [Op.eqItems]
  go_simp
set_option maxRecDepth 100000 in
theorem eqct_run (f : Nat → Int) (w : World) : (Op.equalIn 10000 45 (ctV f) (ctV f)).run Try.prog w = .ok true w := by
  have hx : (Try.prog.info? 3).isSome = true := by kernel_rfl
  obtain ⟨i, hi⟩ := Option.isSome_iff_exists.1 hx
  have hC : Try.prog.cellsOf 3 = 1 := by kernel_rfl
  unfold ctV
  rw [run_equalIn_array w 9999 (ctA f) (ctA f) Try.underlying45 hi, hC, show List.range 13 = [0, 1, 2, 3, 4, 5, 6, 7, 8, 9, 10, 11, 12] from rfl]
  unfold ctA
  simp only [Op.eqItems]
  go_simp
end Go.Proofs.Ythnbpdcjooifbaa
namespace Go.Proofs.Ythnbpdcjooifbaa
open Go.RowKit
set_option linter.unusedSimpArgs false
set_option linter.unusedVariables false

theorem ll_later {w w' : World} {c : Nat} {O : Option Addr} {L : List Ls} (h : LL w w.heap.size O c L) (hb : Below w.heap.size w w') : LL w' w'.heap.size O c L := (h.keep hb.block).more hb.size
theorem at_later2 {w w' : World} {x : Ls} (h : LsAt w w.heap.size x) (hb : Below w.heap.size w w') : LsAt w' w'.heap.size x := (h.keep hb.block).more hb.size
theorem light_all {L : List Ls} (h : lightB L = true) : L.length ≤ 10 ∧ (allOf L).length ≤ 120 := by unfold lightB at h; simpa using h
theorem len_all {L : List Ls} : ∀ x ∈ L, x.l.length ≤ (allOf L).length := by
  intro x hx
  unfold allOf
  obtain ⟨s, t, rfl⟩ := List.append_of_mem hx
  simp
  omega

set_option maxRecDepth 100000 in
set_option maxHeartbeats 4000000 in
theorem walk_MergeCounts (w : World) (A : Option Addr) (c n : Nat) (L : List Ls) (en : n = L.length) (h : LL w w.heap.size A c L ∧ (∀ x ∈ L, (∀ e ∈ x.l, e.wf) ∧ (x.A = none → x.c = 0))) :
    Calls Try.prog 8 #[.slice A n c] w fun e w' => e = .returned (.bool true) ∧ Below w.heap.size w w' := by
  subst en
  obtain ⟨h0, hw⟩ := h
  have HN := Lib.hid (fun x hx => (hw x hx).2)
  clear hw
  go_enter Try.func8, Try.ntmps8
  go_wp2_with fail
  refine (lives4_any w).mono ?_
  rintro e w1 ⟨rfl, b1⟩
  have h1 := ll_later h0 b1
  have hli := light_any w1 c A L h1
  obtain ⟨q, hq⟩ : ∃ q, lightB L = q := ⟨_, rfl⟩
  rw [hq] at hli
  have HLI := Lib.hid hli
  have HQ := Lib.hid hq
  have H1 := Lib.hid h1
  clear hli hq h1
  cases q
  case false =>
    go_wp2_with fail
    refine HLI.out.mono ?_
    rintro e w2 ⟨rfl, rfl⟩
    go_wp2_with fail
    go_ret
    exact ⟨rfl, b1⟩
  case true =>
    go_wp2_with fail
    refine HLI.out.mono ?_
    rintro e w2 ⟨rfl, rfl⟩
    obtain ⟨hl10, hl120⟩ := light_all HQ.out
    go_wp2_with fail
    refine (copies_any w1 c A L H1.out HN.out hl10 (fun x hx => by have := len_all (L := L) x hx; omega)).mono ?_
    rintro e w2 ⟨A2, c2, L2, rfl, hL2, hm2, b2⟩
    have hll : L2.length = L.length := by have := congrArg List.length hm2; simpa using this
    have hal : allOf L2 = allOf L := by unfold allOf; rw [hm2]
    have HL2 := Lib.hid hL2
    have HAL := Lib.hid hal
    have HLL := Lib.hid hll
    clear hL2 hm2 hal hll
    go_wp2_with fail
    refine (merge_any w2 c2 A2 L2 HL2.out (by have := HLL.out; omega)).mono ?_
    rintro e w3 ⟨b3, hcase⟩
    have b13 : Below w.heap.size w w3 := (b1.trans (b2.mono b1.size)).trans (b3.mono (by have := b1.size; have := b2.size; omega))
    rcases hcase with ⟨hne, rfl⟩ | ⟨_, _, rfl⟩ | ⟨_, _, _, rfl⟩ | ⟨he, _, _, M, g, cg, _, hp, rfl, how⟩
    · unfold nilE
      have hb : (errs L2 != 0) = true := by simpa using hne
      clear hne
      go_wp2_with fail
      go_ret
      exact ⟨rfl, b13⟩
    · unfold nilE
      go_wp2_with fail
      go_ret
      exact ⟨rfl, b13⟩
    · unfold nilE
      go_wp2_with fail
      go_ret
      exact ⟨rfl, b13⟩
    · rw [HAL.out] at hp
      have hlen : M.length ≤ 120 := by rw [hp.length_eq]; exact hl120
      have hms := own_ls how M.length (Nat.le_refl _)
      rw [List.take_length] at hms
      have hmay : ∀ e ∈ M, e.May := fun e hm => allOf_may he e (by rw [HAL.out]; exact hp.mem_iff.1 hm)
      have HP := Lib.hid hp
      have HMS := Lib.hid hms
      have HMAY := Lib.hid hmay
      have HCNT := Lib.hid (fun (W : World) (hb : Below w3.heap.size w3 W) => count_any W ⟨some ⟨g, 0, none⟩, cg, M⟩ (at_later2 hms hb) (by show M.length ≤ _; omega))
      clear hp hms hmay how he HL2
      unfold Ls.val at HCNT
      go_wp2_with fail
      refine (HCNT.out w3 (Below.refl _ _)).mono ?_
      rintro e w4 ⟨rfl, b4⟩
      obtain ⟨f, hf⟩ : ∃ f, cntF M = f := ⟨_, rfl⟩
      have hfle : ∀ i, 0 ≤ f i ∧ f i ≤ 120 := fun i => by have := cntF_le M i; rw [← hf]; omega
      have hz1 : CT ((w4.alloc (.cells (ctA f) 45)).alloc (.cells (ctA fun _ => 0) 45)) w4.heap.size f := (CT.laid w4 f).more _
      have hz2 : CT ((w4.alloc (.cells (ctA f) 45)).alloc (.cells (ctA fun _ => 0) 45)) (w4.heap.size + 1) (fun _ => 0) := by have := CT.laid (w4.alloc (.cells (ctA f) 45)) (fun _ => 0); rwa [World.size_alloc] at this
      have hz3 : Below w3.heap.size w3 ((w4.alloc (.cells (ctA f) 45)).alloc (.cells (ctA fun _ => 0) 45)) := (b4.alloc b4.size _).alloc (by have := b4.size; simp; omega) _
      rw [hf]
      have HF := Lib.hid hf
      have HFL := Lib.hid hfle
      unfold ctA at hz1 hz2 hz3
      have HZ1 := Lib.hid hz1
      have HZ2 := Lib.hid hz2
      have HZ3 := Lib.hid hz3
      have h34 := b4.size
      have h03 := b13.size
      have H0 := Lib.hid h0
      clear hf hfle hz1 hz2 hz3 HCNT H1 HLI h0
      unfold ctV ctA
      go_wp2_with fail
      go_loopw [7] (fun i wr => ∃ k : Nat, k ≤ L.length ∧ i = .int .i64 k ∧ CT wr w4.heap.size f ∧ CT wr (w4.heap.size + 1) (cntF (allOf (L.take k))) ∧ Below w3.heap.size w3 wr) (fun i _ => L.length - (intOf i).toNat)
      case atStart => exact ⟨0, Nat.zero_le _, rfl, HZ1.out, HZ2.out.ext (fun i hi => rfl), HZ3.out⟩
      case round =>
        clear HZ1 HZ2 HZ3
        obtain ⟨k, hk, rfl, hF, hS, hb⟩ := hrel
        have hbw : Below w.heap.size w wr := b13.trans (hb.mono h03)
        by_cases hlt : k < L.length
        · obtain ⟨b, o, rfl, hb1, hc1⟩ := H0.out.at_ (by omega)
          have hcell := (World.cell?_of_block (hbw.block b hb1)).trans (hc1 k hlt)
          have hmem : L.getD k Ls.none ∈ L := by rw [List.getD_eq_getElem?_getD, List.getElem?_eq_getElem hlt]; exact List.getElem_mem hlt
          have htake := fun i => cntF_all L k i hlt
          have hrow := at_later2 (H0.out.rows _ hmem) hbw
          have hxl := len_all _ hmem
          obtain ⟨x, hx⟩ : ∃ x, L.getD k Ls.none = x := ⟨_, rfl⟩
          simp only [hx] at htake
          rw [hx] at hcell hrow hxl
          obtain ⟨S, hSd⟩ : ∃ S, cntF (allOf (L.take k)) = S := ⟨_, rfl⟩
          have hSle : ∀ i, 0 ≤ S i ∧ S i ≤ 120 := fun i => by
            have h1 := cntF_le (allOf (L.take k)) i
            have h2 : (allOf (L.take k)).length ≤ (allOf L).length := by
              have h3 : allOf L = allOf (L.take k) ++ allOf (L.drop k) := by
                unfold allOf
                rw [← List.flatten_append, ← List.map_append, List.take_append_drop]
              rw [h3, List.length_append]; omega
            rw [← hSd]; omega
          have hne := fun i => cntF_le x.l i
          rw [hSd] at hS
          simp only [hSd] at htake
          have HT := Lib.hid htake
          have HS := Lib.hid hS
          have HFF := Lib.hid hF
          have HSL := Lib.hid hSle
          have HC := Lib.hid (count_any wr x hrow (by omega))
          unfold Ls.val at hcell HC
          obtain ⟨N, hN⟩ : ∃ N, cntF x.l = N := ⟨_, rfl⟩
          simp only [hN] at hne
          have hNle : ∀ i, 0 ≤ N i ∧ N i ≤ 120 := fun i => by have := hne i; omega
          have HN2 := Lib.hid hN
          have HNL := Lib.hid hNle
          clear htake hS hF hSle hne hN hNle hc1 hmem hrow hSd hx
          go_wp2_with fail
          refine HC.out.mono ?_
          rintro e w5 ⟨rfl, b5⟩
          rw [HN2.out]
          have h5 := b5.size
          have hwr := hb.size
          have hb5 : Below w3.heap.size w3 (w5.alloc (.cells (ctA N) 45)) := (hb.trans (b5.mono hwr)).alloc (by omega) _
          have hlt4 := HFF.out.lt
          have hlt5 := HS.out.lt
          have i1 : CT (w5.alloc (.cells (ctA N) 45)) w4.heap.size f := (HFF.out.below b5 hlt4).more _
          have i2 : CT (w5.alloc (.cells (ctA N) 45)) (w4.heap.size + 1) S := (HS.out.below b5 hlt5).more _
          have i3 : CT (w5.alloc (.cells (ctA N) 45)) w5.heap.size N := CT.laid _ _
          unfold ctA at hb5 i1 i2 i3
          have I0 := Lib.hid hb5
          have I1 := Lib.hid i1
          have I2 := Lib.hid i2
          have I3 := Lib.hid i3
          clear hb5 i1 i2 i3
          unfold ctV ctA
          go_wp2_with fail
          go_loopw [9] (fun j wr2 => ∃ m : Nat, m ≤ 13 ∧ j = .int .i64 m ∧ CT wr2 w4.heap.size f ∧ CT wr2 (w4.heap.size + 1) (fun i => if i < m then S i + N i else S i) ∧ CT wr2 w5.heap.size N ∧ Below w3.heap.size w3 wr2) (fun j _ => 13 - (intOf j).toNat)
          case atStart => exact ⟨0, by omega, rfl, I1.out, I2.out.ext (fun i hi => by rw [if_neg (Nat.not_lt_zero i)]), I3.out, I0.out⟩
          case round =>
            clear I0 I1 I2 I3
            obtain ⟨m, hm, rfl, j1, j2, j3, j4⟩ := hrel
            by_cases hm13 : m < 13
            · have s1 := j2.at_ m hm13
              have s2 := j3.at_ m hm13
              have s3 := j2.free m
              simp only [Nat.lt_irrefl, if_false] at s1
              obtain ⟨u, hu⟩ : ∃ u, S m = u := ⟨_, rfl⟩
              obtain ⟨v, hv⟩ : ∃ v, N m = v := ⟨_, rfl⟩
              have hu2 := HSL.out m
              have hv2 := HNL.out m
              rw [hu] at s1 hu2
              rw [hv] at s2 hv2
              have HU := Lib.hid hu
              have HV := Lib.hid hv
              have J1 := Lib.hid j1
              have J2 := Lib.hid j2
              have J3 := Lib.hid j3
              clear hu hv j1 j2 j3
              go_wp2_with fail
              go_region
              go_wp2_with fail
              refine ⟨⟨m + 1, by omega, by go_num, ?_, ?_, ?_, ?_⟩, by simp [intOf]; omega⟩
              · exact J1.out.other (by omega) m _
              · refine CT.ext (J2.out.put m hm13 (u + v)) fun i hi => ?_
                show upF _ m (u + v) i = _
                unfold upF
                show (if i = m then u + v else (if i < m then S i + N i else S i)) = _
                by_cases e : i = m
                · subst e
                  rw [if_pos rfl, if_pos (by omega), HU.out, HV.out]
                · rw [if_neg e]
                  by_cases e2 : i < m
                  · rw [if_pos e2, if_pos (by omega)]
                  · rw [if_neg e2, if_neg (by omega)]
              · exact J3.out.other (by omega) m _
              · exact (j4.setCell (p := ⟨w4.heap.size + 1, m, none⟩) (by simp; omega) (.int .i64 (u + v))).drew
            · obtain rfl : m = 13 := by omega
              have J1 := Lib.hid j1
              have J2 := Lib.hid j2
              clear j1 j2 j3
              go_wp2_with fail
              go_roundw
              case rel =>
                refine ⟨k + 1, by omega, by go_num, J1.out, J2.out.ext fun i hi => ?_, j4⟩
                rw [if_pos hi, HT.out, HN2.out]
              case measure => simp [intOf]; omega
        · obtain rfl : k = L.length := by omega
          rw [List.take_length] at hS
          have hS2 : CT wr (w4.heap.size + 1) f := by rw [← HF.out]; exact hS.ext fun i hi => (cntF_perm HP.out i).symm
          have F1 := Lib.hid hF
          have F2 := Lib.hid hS2
          clear hF hS hS2
          go_wp2_with fail
          go_loopw [10] (fun i wr => ∃ q : Nat, q ≤ 5 ∧ 1 ≤ q ∧ i = .int .i64 q ∧ CT wr w4.heap.size f ∧ CT wr (w4.heap.size + 1) f ∧ Below w3.heap.size w3 wr) (fun i _ => 5 - (intOf i).toNat)
          case atStart => exact ⟨1, by omega, by omega, rfl, F1.out, F2.out, hb⟩
          case round =>
            clear F1 F2 hb hbw
            obtain ⟨q, hq5, hq1, rfl, g1, g2, hb⟩ := hrel
            by_cases hq : q < 5
            · have hx := at_later2 HMS.out hb
              have HPT := Lib.hid (part_any wr ⟨some ⟨g, 0, none⟩, cg, M⟩ q hx (by show M.length ≤ _; omega))
              unfold Ls.val at HPT
              have G1 := Lib.hid g1
              have G2 := Lib.hid g2
              clear g1 g2 hx
              go_wp2_with fail
              refine HPT.out.mono ?_
              rintro e w5 ⟨y, rfl, hy, hyl, b5⟩
              obtain ⟨N, hN⟩ : ∃ N, cntF y.l = N := ⟨_, rfl⟩
              have hNf : ∀ i, N i = 0 ∨ (N i = f i ∧ chipOf i = q) := fun i => by
                by_cases e : N i = 0
                · exact .inl e
                · right
                  rw [← hN, hy] at e
                  have h3 := cntF_part HMAY.out q i e
                  rw [← hN, hy, ← HF.out]
                  exact h3
              have hfl : y.l.length ≤ 1048576 := by
                rw [hy]
                have : (M.filter (onChip q)).length ≤ M.length := List.length_filter_le _ _
                show (M.filter (onChip q)).length ≤ _
                omega
              have HC := Lib.hid (count_any w5 y hyl.1 hfl)
              rw [hN] at HC
              have HNF := Lib.hid hNf
              clear hN hNf hfl hy hyl
              unfold Ls.val at HC
              unfold Ls.val
              go_wp2_with fail
              refine HC.out.mono ?_
              rintro e w6 ⟨rfl, b6⟩
              have h5 := b5.size
              have h6 := b6.size
              have hwr := hb.size
              have hb6 : Below w3.heap.size w3 (w6.alloc (.cells (ctA N) 45)) := ((hb.trans (b5.mono hwr)).trans (b6.mono (by omega))).alloc (by omega) _
              have hlt4 := G1.out.lt
              have hlt5 := G2.out.lt
              have i1 : CT (w6.alloc (.cells (ctA N) 45)) w4.heap.size f := ((G1.out.below b5 hlt4).below b6 (by omega)).more _
              have i2 : CT (w6.alloc (.cells (ctA N) 45)) (w4.heap.size + 1) f := ((G2.out.below b5 hlt5).below b6 (by omega)).more _
              have i3 : CT (w6.alloc (.cells (ctA N) 45)) w6.heap.size N := CT.laid _ _
              unfold ctA at hb6 i1 i2 i3
              have I0 := Lib.hid hb6
              have I1 := Lib.hid i1
              have I2 := Lib.hid i2
              have I3 := Lib.hid i3
              clear hb6 i1 i2 i3 G1 G2 b5 b6
              unfold ctV ctA
              go_wp2_with fail
              go_loopw [12] (fun j wr2 => ∃ m : Nat, m ≤ 13 ∧ j = .int .i64 m ∧ CT wr2 w4.heap.size f ∧ CT wr2 (w4.heap.size + 1) f ∧ CT wr2 w6.heap.size N ∧ Below w3.heap.size w3 wr2) (fun j _ => 13 - (intOf j).toNat)
              case atStart => exact ⟨0, by omega, rfl, I1.out, I2.out, I3.out, I0.out⟩
              case round =>
                clear I0 I1 I2 I3
                obtain ⟨m, hm, rfl, j1, j2, j3, j4⟩ := hrel
                by_cases hm13 : m < 13
                · have s1 := j1.at_ m hm13
                  have s3 := j3.at_ m hm13
                  have J1 := Lib.hid j1
                  have J2 := Lib.hid j2
                  have J3 := Lib.hid j3
                  have hcs := HNF.out m
                  clear j1 j2 j3
                  rcases hcs with h7 | ⟨h7, h8⟩
                  · rw [h7] at s3
                    clear h7
                    go_upto_region 25 with fail
                    go_quiet (fail)
                    go_wp2_with fail
                    refine ⟨⟨m + 1, by omega, by go_num, J1.out, J2.out, J3.out, j4.trans ⟨rfl, rfl, rfl, Nat.le_refl _, fun _ _ => rfl⟩⟩, by simp [intOf]; omega⟩
                  · by_cases h9 : f m = 0
                    · rw [h7, h9] at s3
                      clear h7 h8 h9
                      go_upto_region 25 with fail
                      go_quiet (fail)
                      go_wp2_with fail
                      refine ⟨⟨m + 1, by omega, by go_num, J1.out, J2.out, J3.out, j4.trans ⟨rfl, rfl, rfl, Nat.le_refl _, fun _ _ => rfl⟩⟩, by simp [intOf]; omega⟩
                    · rw [h7] at s3
                      obtain ⟨v, hv⟩ : ∃ v, f m = v := ⟨_, rfl⟩
                      rw [hv] at s1 s3 h9
                      have hvb : (v != 0) = true := by simpa using h9
                      have hvv : (v != v) = false := by simp
                      have HCH := Lib.hid (fun W => rchip_any m W)
                      rw [h8] at HCH
                      have t1 := fun p : Later (fun _ => False) wr => p.cell s1 (fun h => h)
                      have t3 := fun p : Later (fun _ => False) wr => p.cell s3 (fun h => h)
                      clear h7 h8 h9 hv s1 s3
                      go_upto_region 25 with fail
                      refine Go.Proofs.Ythnbpdcjooifbaa.L.region_ (fun _ => False) (by kernel_rfl) ?_
                      refine Go.Proofs.Ythnbpdcjooifbaa.L.seg_ [0, 1, 2, 3, 4, 5, 6, 7, 8, 9, 10, 11, 12, 13, 15] 4 _ (by kernel_rfl) (by kernel_rfl) (by kernel_rfl) (by simp only [pickOps, mask, plain, List.getElem?_toArray, List.getElem?_cons_zero, List.getElem?_cons_succ, if_true]; rfl) ?_
                      repeat (go_big_quiet_step (fail))
                      refine wpQuiet_nil ?_
                      clear t1 t3
                      refine Go.Proofs.Ythnbpdcjooifbaa.L.calm_ (i := 14) (.int .i64 q) rfl (by kernel_rfl) (by kernel_rfl) (by kernel_rfl) (by kernel_rfl) ?_ ?_
                      · intro wz _
                        unfold Oper.does
                        go_simp
                        exact (HCH.out wz).mono fun e w' ⟨he, hw⟩ => ⟨_, he, rfl, hw ▸ Save.refl _ _⟩
                      go_simp
                      refine Go.Proofs.Ythnbpdcjooifbaa.L.seg_ [16, 17, 18] 0 _ (by kernel_rfl) (by kernel_rfl) (by kernel_rfl) (by simp only [pickOps, mask, plain, List.getElem?_toArray, List.getElem?_cons_zero, List.getElem?_cons_succ, if_true]; rfl) ?_
                      repeat (go_big_quiet_step (fail))
                      refine wpQuiet_nil ?_
                      refine Go.Proofs.Ythnbpdcjooifbaa.L.end_ (by kernel_rfl) ?_
                      intro wc sc
                      have hwr2 := j4.size
                      have k1 : CT wc w4.heap.size f := J1.out.below sc.all J1.out.lt
                      have k2 : CT wc (w4.heap.size + 1) f := J2.out.below sc.all J2.out.lt
                      have k3 : CT wc w6.heap.size N := J3.out.below sc.all J3.out.lt
                      have k4 := j4.trans (sc.all.mono hwr2)
                      have K1 := Lib.hid k1
                      have K2 := Lib.hid k2
                      have K3 := Lib.hid k3
                      clear k1 k2 k3 sc
                      go_wp2_with fail
                      exact ⟨⟨m + 1, by omega, by go_num, K1.out, K2.out, K3.out, k4⟩, by simp [intOf]; omega⟩
                · obtain rfl : m = 13 := by omega
                  have J1 := Lib.hid j1
                  have J2 := Lib.hid j2
                  clear j1 j2 j3
                  go_wp2_with fail
                  go_roundw
                  case rel => exact ⟨q + 1, by omega, by omega, by go_num, J1.out, J2.out, j4⟩
                  case measure => simp [intOf]; omega
            · obtain rfl : q = 5 := by omega
              have c0 := g1.at_ 0 (by decide)
              have c1 := g1.at_ 1 (by decide)
              have c2 := g1.at_ 2 (by decide)
              have c3 := g1.at_ 3 (by decide)
              have c4 := g1.at_ 4 (by decide)
              have c5 := g1.at_ 5 (by decide)
              have c6 := g1.at_ 6 (by decide)
              have c7 := g1.at_ 7 (by decide)
              have c8 := g1.at_ 8 (by decide)
              have c9 := g1.at_ 9 (by decide)
              have c10 := g1.at_ 10 (by decide)
              have c11 := g1.at_ 11 (by decide)
              have c12 := g1.at_ 12 (by decide)
              have d0 := g2.at_ 0 (by decide)
              have d1 := g2.at_ 1 (by decide)
              have d2 := g2.at_ 2 (by decide)
              have d3 := g2.at_ 3 (by decide)
              have d4 := g2.at_ 4 (by decide)
              have d5 := g2.at_ 5 (by decide)
              have d6 := g2.at_ 6 (by decide)
              have d7 := g2.at_ 7 (by decide)
              have d8 := g2.at_ 8 (by decide)
              have d9 := g2.at_ 9 (by decide)
              have d10 := g2.at_ 10 (by decide)
              have d11 := g2.at_ 11 (by decide)
              have d12 := g2.at_ 12 (by decide)
              have hE := eqct_run f wr
              have hf0 : f 0 = 0 := by rw [← HF.out]; exact cntF_zero M
              rw [hf0] at c0 d0
              unfold ctV ctA at hE
              rw [hf0] at hE
              clear hf0
              have HB := Lib.hid (b13.trans (hb.mono h03))
              clear g1 g2 hb
              go_wp2_with fail
              go_ret
              exact ⟨rfl, HB.out⟩
end Go.Proofs.Ythnbpdcjooifbaa
