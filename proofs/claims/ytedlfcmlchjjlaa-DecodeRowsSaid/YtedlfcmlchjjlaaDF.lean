
/- Instructions (chapter 9): lists compared; the walk of DecodeRows. -/
import Derived.Test.YtedlfcmlchjjlaaDE
namespace Go.Proofs.Ytedlfcmlchjjlaa
open Go.RowKit
set_option linter.unusedSimpArgs false
set_option linter.unusedVariables false
set_option maxRecDepth 100000

theorem allI_cons {l : List Int} (hb : AllB l) {y : In} {T : List In} (h : (allI l).1 = y :: T) : ofI l = some y ∧ T = (allI (l.drop y.n.toNat)).1 ∧ (allI l).2 = y.n.toNat + (allI (l.drop y.n.toNat)).2 := by
  cases hy : ofI l with
  | none => rw [allI_none hy] at h; cases h
  | some z =>
    rw [allI_some hb hy] at h ⊢
    simp only [List.cons.injEq] at h
    obtain ⟨rfl, h2⟩ := h
    exact ⟨rfl, h2.symm, rfl⟩
theorem allI_nil {l : List Int} (hb : AllB l) (h : (allI l).1 = []) : (allI l).2 = 0 := by
  cases hy : ofI l with
  | none => rw [allI_none hy]
  | some z => rw [allI_some hb hy] at h; cases h
theorem in_neq (i : In) (w : World) : (binOp .neq 44 i.val i.val).run Try.prog w = .ok (.bool false) w := by
  unfold In.val In.cells
  go_simp
theorem IL.tail {w : World} {B b off c : Nat} {M : List In} (h : IL w B (some ⟨b, off, none⟩) c M) (j : Nat) (hj : j < M.length) : IL w B (some ⟨b, off + j * 6, none⟩) (c - j) (M.drop j) := by
  have h1 := h.le
  have h2 := h.cap
  refine ⟨by rw [List.length_drop]; omega, by omega, fun h0 => ?_⟩
  obtain ⟨b', o', e, hb, hat⟩ := h.at_ (by omega)
  simp only [Option.some.injEq, Addr.mk.injEq, and_true] at e
  obtain ⟨rfl, rfl⟩ := e
  refine ⟨_, _, rfl, hb, fun i hi => ?_⟩
  rw [List.length_drop] at hi
  have := hat (j + i) (by omega)
  rw [show off + j * 6 + i * 6 = off + (j + i) * 6 by omega]
  have e2 : (M.drop j).getD i zeroI = M.getD (j + i) zeroI := by simp [List.getD_eq_getElem?_getD]
  rw [e2]
  exact this

set_option maxHeartbeats 4000000 in
theorem insn_same (A1 A2 : Option Addr) (c1 c2 n1 n2 : Nat) (Z : List In) (w : World) (hn1 : n1 = Z.length) (hn2 : n2 = Z.length) (h1 : IL w w.heap.size A1 c1 Z) (h2 : IL w w.heap.size A2 c2 Z) (hl : Z.length ≤ 1000) :
    Calls Try.prog 41 #[.slice A1 n1 c1, .slice A2 n2 c2] w fun e w' => e = .returned (.bool true) ∧ Below w.heap.size w w' := by
  subst hn1 hn2
  have H1 := Lib.hid h1
  have H2 := Lib.hid h2
  clear h1 h2
  go_enter Try.func41, Try.ntmps41
  go_wp2_with fail
  go_loopw [5] (fun i wr => ∃ k : Nat, k ≤ Z.length ∧ i = .int .i64 k ∧ Below w.heap.size w wr) (fun i _ => Z.length - (intOf i).toNat)
  case atStart => exact ⟨0, Nat.zero_le _, rfl, Below.refl _ _⟩
  case round =>
    obtain ⟨k, hk, rfl, hb⟩ := hrel
    by_cases hlt : k < Z.length
    · obtain ⟨b1, o1, rfl, hb1, ha1⟩ := H1.out.at_ (by omega)
      obtain ⟨b2, o2, rfl, hb2, ha2⟩ := H2.out.at_ (by omega)
      have u1 := (ha1 k hlt).keep (hb.block b1 hb1)
      have u2 := (ha2 k hlt).keep (hb.block b2 hb2)
      generalize Z.getD k zeroI = y at *
      have l1 : b1 < wr.heap.size := Nat.lt_of_lt_of_le hb1 hb.size
      have l2 : b2 < wr.heap.size := Nat.lt_of_lt_of_le hb2 hb.size
      have v1 := fun p : M.Of (M.Base wr) => u1.keep (p.ok.2.block b1 l1)
      have v2 := fun p : M.Of (M.Base wr) => u2.keep (p.ok.2.block b2 l2)
      have d0 := fun p => (v1 p).c0
      have d1 := fun p => (v1 p).c1
      have d2 := fun p => (v1 p).c2
      have d3 := fun p => (v1 p).c3
      have d4 := fun p => (v1 p).c4
      have d5 := fun p => (v1 p).c5
      have e0 := fun p => (v2 p).c0
      have e1 := fun p => (v2 p).c1
      have e2 := fun p => (v2 p).c2
      have e3 := fun p => (v2 p).c3
      have e4 := fun p => (v2 p).c4
      have e5 := fun p => (v2 p).c5
      have hq := fun w => in_neq y w
      unfold In.val In.cells at hq
      clear ha1 ha2 u1 u2 v1 v2 l1 l2
      go_upto_region 6 with fail
      refine M.region_ (by kernel_rfl) ?_
      refine M.seg_ [0, 1, 2, 3, 4, 5, 6, 7, 8] 0 _ _ (M.Base.refl _) (by kernel_rfl) (by kernel_rfl) (by kernel_rfl) (by simp only [pickOps, mask, plain, List.getElem?_toArray, List.getElem?_cons_zero, List.getElem?_cons_succ, if_true, Bool.false_eq_true, if_false]; rfl) ?_
      repeat (go_big_quiet_step (fail))
      refine wpQuiet_nil ?_
      clear d0 d1 d2 d3 d4 d5 e0 e1 e2 e3 e4 e5 hq
      refine M.end_ (by kernel_rfl) ?_
      intro wc sc
      have hBc := hb.trans (sc.2.mono hb.size)
      clear sc
      go_wp2_with fail
      go_roundw
      case rel => exact ⟨k + 1, by omega, by go_num, hBc⟩
      case measure => simp [intOf]; omega
    · obtain rfl : k = Z.length := by omega
      go_wp2_with fail
      go_ret
      exact ⟨rfl, hb⟩
theorem pick_any (a m : Int) (w : World) (wa : (Lit.int .i64 a).wf = true) (m0 : 1 ≤ m) (m1 : m ≤ 1000) : Calls Try.prog 40 #[.int .i64 a, .int .i64 m] w fun e w' => (∃ k : Int, e = .returned (.int .i64 k)) ∧ w = w' := by
  have hm0 : m ≠ 0 := by omega
  have ha := bounds_i64 wa
  go_enter Try.func40, Try.ntmps40
  go_wp2
  all_goals
    go_ret
    exact ⟨⟨_, rfl⟩, rfl⟩
theorem drop_cons {Z : List In} {j : Nat} (hj : j < Z.length) : Z.drop j = Z.getD j zeroI :: Z.drop (j + 1) := by
  rw [List.drop_eq_getElem_cons hj]
  simp [List.getD_eq_getElem?_getD, hj]

set_option maxHeartbeats 4000000 in
theorem rows9_long (w : World) (at9 : Int) (A : Option Addr) (c n : Nat) (h1 : 500 < n) : Calls Try.prog 6 #[.slice A n c, .int .i64 at9] w fun e w' => e = .returned (.bool true) ∧ Below w.heap.size w w' := by
  go_enter Try.func6, Try.ntmps6
  go_wp2_with fail
  refine (lives9_any _).mono ?_
  rintro e w1 ⟨rfl, hb⟩
  go_wp2_with fail
  go_ret
  exact ⟨rfl, hb⟩

theorem all_ob {w : World} {B c : Nat} {A : Option Addr} {l : List Int} (h : OB w B A c l) (hl : l.length ≤ 500) (n : Nat) (hn : n = l.length) : Calls Try.prog 39 #[.slice A n c] w (AllTo w l) := by
  rcases h.addr with ⟨rfl, rfl, rfl⟩ | ⟨g, rfl⟩
  · subst hn; exact c9_all_nil w
  · exact c9_all g 0 c n l w hn h.rb hl

set_option maxHeartbeats 16000000 in
theorem walk_DecodeRows (w : World) (A : Option Addr) (c n : Nat) (l : List Int) (hn : n = l.length) (h : RB w w.heap.size A c l) (at9 : Int) (wat : (Lit.int .i64 at9).wf = true) :
    Calls Try.prog 6 #[.slice A n c, .int .i64 at9] w fun e w' => e = .returned (.bool true) ∧ Below w.heap.size w w' := by
  subst hn
  by_cases h500 : 500 < l.length
  · exact rows9_long w at9 A c _ h500
  have hby := h.bytes
  have hle := h.le
  have hmax := h.cap
  unfold maxLen at hmax
  go_enter Try.func6, Try.ntmps6
  go_wp2_with fail
  refine (lives9_any _).mono ?_
  rintro e w1 ⟨rfl, hb1⟩
  have h1 := (h.below hb1).more hb1.size
  go_wp2_with fail
  refine (own_any A c _ l w1 _ rfl h1 (Nat.le_refl _) (by omega)).mono ?_
  rintro e w2 ⟨A2, c2, rfl, ho2, hb⟩
  have hB2 := hb1.trans (hb.mono hb1.size)
  clear hb hb1 h1
  go_wp2_with fail
  refine (all_ob ho2 (by omega) _ rfl).mono ?_
  rintro e w3 ⟨⟨A3, c3, rfl, ho3⟩, hb⟩
  have hB3 := hB2.trans (hb.mono hB2.size)
  clear hb hB2 ho2
  obtain ⟨q1, q2, q3⟩ := allI_left _ l (Nat.le_refl _) hby
  have hIL := IL.own ho3
  have hZ : (allI l).1 = (allI (l.drop 0)).1 := by rw [List.drop_zero]
  have hQ : (allI l).2 = 0 + (allI (l.drop 0)).2 := by rw [List.drop_zero, Nat.zero_add]
  generalize (allI l).1 = Z at *
  generalize (allI l).2 = q at *
  have hRB := h.below hB3
  have HB3 := Lib.hid hB3
  have HIL := Lib.hid hIL
  have HZ := Lib.hid hZ
  have HQ := Lib.hid hQ
  have HRB := Lib.hid (hRB.more hB3.size)
  clear hB3 hIL hZ hQ hRB ho3 h
  have t1 : decide ((l.length : Int) < (q : Int)) = false := decide_eq_false (by omega)
  have t2 : decide ((3 : Int) < (l.length : Int) - (q : Int)) = false := decide_eq_false (by omega)
  go_wp2_with fail
  refine (pick_any at9 _ _ wat (by omega) (by omega)).mono ?_
  rintro e w' ⟨⟨kk, rfl⟩, rfl⟩
  clear t1 t2
  go_wp2_with fail
  go_loopw [8, 9] (fun ps i wr => ∃ j p : Nat, ps = .int .i64 p ∧ i = .int .i64 j ∧ j ≤ Z.length ∧ p ≤ l.length ∧ Z.drop j = (allI (l.drop p)).1 ∧ q = p + (allI (l.drop p)).2 ∧ Below w3.heap.size w3 wr) (fun _ i _ => Z.length - (intOf i).toNat)
  case atStart => exact ⟨0, 0, rfl, rfl, by omega, by omega, HZ.out, HQ.out, Below.refl _ _⟩
  case round =>
    obtain ⟨j, p, rfl, rfl, hjl, hpl, hd, hqp, hb⟩ := hrel
    by_cases hj : j < Z.length
    · obtain ⟨y, hy⟩ : ∃ y, Z.getD j zeroI = y := ⟨_, rfl⟩
      have hc := drop_cons hj
      rw [hy] at hc
      have hbd := hby.drop p
      obtain ⟨e1, e2, e3⟩ := allI_cons hbd (hd.symm.trans hc)
      have hg := of_got hbd e1
      obtain ⟨k, hk, k1, k2, k3, hbY⟩ := hg.nat
      have wY := hg.wf
      have mY := hg.may
      rw [hk, Int.toNat_natCast, List.drop_drop] at e2 e3
      have hrest : Z.drop (j + 1) = (allI (l.drop (p + k))).1 := e2
      have hqq : q = (p + k) + (allI (l.drop (p + k))).2 := by omega
      have hql : p + k ≤ q := by omega
      rw [List.length_drop] at k3
      have hTl : ((l.drop p).take k).length = k := by rw [List.length_take, List.length_drop]; omega
      have hcp : c ≠ p := by omega
      obtain ⟨bb, off, rfl, hbb, -⟩ := HRB.out.pos (by omega)
      have hZd := Lib.hid hd
      obtain ⟨b3, o3, rfl, hb3, hat⟩ := HIL.out.at_ (by omega)
      have HAT := Lib.hid hat
      clear hat
      have HQA := Lib.hid hqp
      have HY := Lib.hid hy
      have HK := Lib.hid hk
      have HBY := Lib.hid hbY
      have hrest' := Lib.hid hrest
      have hqq' := Lib.hid hqq
      clear hy hc e1 e2 e3 hg hk hbY hd hrest hqq hqp
      have u1 : decide ((4 : Int) < (k : Int)) = false := decide_eq_false (by omega)
      have u2 : decide ((q : Int) < (p : Int) + (k : Int)) = false := decide_eq_false (by omega)
      by_cases hkk : (j : Int) = kk
      · subst hkk
        have g1 : ((j : Int) == (j : Int)) = true := beq_self_eq_true _
        have hRp : RB wr w3.heap.size (some ⟨bb, off + p, none⟩) (c - p) (l.drop p) := by
          have := (HRB.out.below hb).sub p (l.length - p) (by omega)
          rwa [List.take_of_length_le (by rw [List.length_drop]; omega)] at this
        have hdl : (l.drop p).length = l.length - p := List.length_drop
        have HRp := Lib.hid hRp
        have HDl := Lib.hid hdl
        clear hRp hdl
        go_wp2_with fail
        refine (own_any _ _ _ (l.drop p) wr _ HDl.out.symm HRp.out hb.size (by rw [HDl.out]; omega)).mono ?_
        rintro e w4 ⟨A4, c4, rfl, ho4, hb4⟩
        have hB4 := hb.trans (hb4.mono hb.size)
        clear hb hb4 HRp
        rw [HDl.out]
        go_wp2_with fail
        refine (all_ob ho4 (by rw [HDl.out]; omega) _ HDl.out.symm).mono ?_
        rintro e w5 ⟨⟨A5, c5, rfl, ho5⟩, hb5⟩
        have hB5 := hB4.trans (hb5.mono hB4.size)
        clear hB4 hb5 ho4
        rw [← hZd.out] at ho5 ⊢
        have hI5 := IL.own ho5
        have hqr : (q : Int) - (p : Int) = ((allI (l.drop p)).2 : Nat) := by have := HQA.out; omega
        clear HQA
        generalize (allI (l.drop p)).2 = a2 at *
        have hqn : ((a2 : Int) != (q : Int) - (p : Int)) = false := by rw [hqr]; exact bne_self_eq_false _
        clear hqr
        have hI3 := ((HIL.out.below hB5).tail j hj).more hB5.size
        have hzl : (Z.drop j).length = Z.length - j := List.length_drop
        have HI := Lib.hid (insn_same A5 _ c5 _ _ _ (Z.drop j) w5 hzl.symm hzl.symm hI5 hI3 (by rw [hzl]; omega))
        have hcj : c3 ≠ j := by have := HIL.out.le; omega
        have hcl := HIL.out.le
        have hcm := HIL.out.cap
        unfold maxLen at hcm
        clear ho5 hI5 hI3 hzl
        go_wp2_with fail
        refine (HI.out).mono ?_
        rintro e w6 ⟨rfl, hb6⟩
        have hWW := hB5.trans (hb6.mono hB5.size)
        clear hb6 hB5 HI
        -- the instruction's own bytes
        have hu := (HAT.out j hj).keep (hWW.block b3 hb3)
        rw [HY.out] at hu
        obtain ⟨d0, d1, d2, d3, d4, d5⟩ := hu
        go_wp2_with fail
        refine (c9_bytes_may y wY mY _).mono ?_
        rintro e w7 ⟨⟨A7, c7, rfl, ho7⟩, hb7⟩
        clear d0 d1 d2 d3 d4 d5
        have hB37 : Below w3.heap.size w3 w7 := hWW.trans (hb7.mono hWW.size)
        have hB7 := HB3.out.trans (hB37.mono HB3.out.size)
        have h7 := (HRB.out.below hB37).more hB37.size
        clear hb7 hWW
        rw [HBY.out] at ho7 ⊢
        rw [hTl]
        have s1 : ∀ p' : M.Of (M.Base w7), (convert 25 9 (.slice A7 k c7)).run Try.prog p'.w = .ok (.string (strOfNums ((l.drop p).take k))) p'.w := fun p' => str_rb p'.w _ A7 c7 k _ (ho7.rb.below p'.ok.2) hTl.symm
        have s2 : ∀ p' : M.Of (M.Base w7), (convert 25 9 (.slice (some ⟨bb, off + p, none⟩) k (c - p))).run Try.prog p'.w = .ok (.string (strOfNums ((l.drop p).take k))) p'.w := fun p' => str_rb p'.w _ (some ⟨bb, off + p, none⟩) (c - p) k _ ((h7.sub p k (by omega)).below p'.ok.2) hTl.symm
        generalize strOfNums ((l.drop p).take k) = S at *
        clear ho7
        go_upto_region 18 with fail
        refine M.region_ (by kernel_rfl) ?_
        refine M.seg_ [0, 1, 2, 3, 4, 5, 6, 7, 8, 9, 10, 11, 12, 13, 14, 15, 16, 17, 18, 19, 20, 21, 22, 23, 24, 25, 26, 27] 0 _ _ (M.Base.refl _) (by kernel_rfl) (by kernel_rfl) (by kernel_rfl) (by simp only [pickOps, mask, plain, List.getElem?_toArray, List.getElem?_cons_zero, List.getElem?_cons_succ, if_true, Bool.false_eq_true, if_false]; rfl) ?_
        repeat (go_big_quiet_step (fail))
        refine wpQuiet_nil ?_
        clear s1 s2
        refine M.end_ (by kernel_rfl) ?_
        intro wc sc
        have hB38 := hB37.trans (sc.2.mono hB37.size)
        clear sc
        go_wp2_with fail
        go_roundw
        case rel => exact ⟨j + 1, p + k, by go_num, by go_num, by omega, by omega, hrest'.out, hqq'.out, hB38⟩
        case measure => simp [intOf]; omega
      · have g1 : ((j : Int) == kk) = false := beq_eq_false_iff_ne.2 hkk
        have hWW := hb
        clear hb
        -- the instruction's own bytes
        have hu := (HAT.out j hj).keep (hWW.block b3 hb3)
        rw [HY.out] at hu
        obtain ⟨d0, d1, d2, d3, d4, d5⟩ := hu
        go_wp2_with fail
        refine (c9_bytes_may y wY mY _).mono ?_
        rintro e w7 ⟨⟨A7, c7, rfl, ho7⟩, hb7⟩
        clear d0 d1 d2 d3 d4 d5
        have hB37 : Below w3.heap.size w3 w7 := hWW.trans (hb7.mono hWW.size)
        have hB7 := HB3.out.trans (hB37.mono HB3.out.size)
        have h7 := (HRB.out.below hB37).more hB37.size
        clear hb7 hWW
        rw [HBY.out] at ho7 ⊢
        rw [hTl]
        have s1 : ∀ p' : M.Of (M.Base w7), (convert 25 9 (.slice A7 k c7)).run Try.prog p'.w = .ok (.string (strOfNums ((l.drop p).take k))) p'.w := fun p' => str_rb p'.w _ A7 c7 k _ (ho7.rb.below p'.ok.2) hTl.symm
        have s2 : ∀ p' : M.Of (M.Base w7), (convert 25 9 (.slice (some ⟨bb, off + p, none⟩) k (c - p))).run Try.prog p'.w = .ok (.string (strOfNums ((l.drop p).take k))) p'.w := fun p' => str_rb p'.w _ (some ⟨bb, off + p, none⟩) (c - p) k _ ((h7.sub p k (by omega)).below p'.ok.2) hTl.symm
        generalize strOfNums ((l.drop p).take k) = S at *
        clear ho7
        go_upto_region 18 with fail
        refine M.region_ (by kernel_rfl) ?_
        refine M.seg_ [0, 1, 2, 3, 4, 5, 6, 7, 8, 9, 10, 11, 12, 13, 14, 15, 16, 17, 18, 19, 20, 21, 22, 23, 24, 25, 26, 27] 0 _ _ (M.Base.refl _) (by kernel_rfl) (by kernel_rfl) (by kernel_rfl) (by simp only [pickOps, mask, plain, List.getElem?_toArray, List.getElem?_cons_zero, List.getElem?_cons_succ, if_true, Bool.false_eq_true, if_false]; rfl) ?_
        repeat (go_big_quiet_step (fail))
        refine wpQuiet_nil ?_
        clear s1 s2
        refine M.end_ (by kernel_rfl) ?_
        intro wc sc
        have hB38 := hB37.trans (sc.2.mono hB37.size)
        clear sc
        go_wp2_with fail
        go_roundw
        case rel => exact ⟨j + 1, p + k, by go_num, by go_num, by omega, by omega, hrest'.out, hqq'.out, hB38⟩
        case measure => simp [intOf]; omega
    · obtain rfl : j = Z.length := by omega
      have hz0 : (allI (l.drop p)).1 = [] := by rw [← hd]; exact List.drop_length
      have hq0 := allI_nil (hby.drop p) hz0
      rw [hq0] at hqp
      obtain rfl : q = p := hqp
      go_wp2_with fail
      go_ret
      exact ⟨rfl, HB3.out.trans (hb.mono HB3.out.size)⟩

end Go.Proofs.Ytedlfcmlchjjlaa
