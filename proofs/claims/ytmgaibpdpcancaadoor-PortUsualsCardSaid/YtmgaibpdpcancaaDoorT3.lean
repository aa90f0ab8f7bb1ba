
/- The kit's comparison of two lists of numbers; lives; PortNames. -/
import Derived.Test.YtmgaibpdpcancaaDoorT2
import Derived.Test.YtmgaibpdpcancaaDoorQ3
import Derived.Deep.CutRange
namespace Go.Proofs.YtmgaibpdpcancaaDoor
open Go.RowKit
set_option linter.unusedSimpArgs false
set_option linter.unusedVariables false
set_option maxRecDepth 100000

theorem lists_same {l1 l2 : List Int} (hn : l1.length = l2.length) (h : ∀ i, i < l1.length → l1.getD i 0 = l2.getD i 0) : l1 = l2 := by
  apply List.ext_getElem hn
  intro i h1 h2
  have := h i h1
  rwa [List.getD_eq_getElem?_getD, List.getD_eq_getElem?_getD, List.getElem?_eq_getElem h1, List.getElem?_eq_getElem h2] at this

set_option maxHeartbeats 4000000 in
theorem ints_any (A1 A2 : Option Addr) (c1 c2 n1 n2 : Nat) (l1 l2 : List Int) (w : World) (hn1 : n1 = l1.length) (hn2 : n2 = l2.length) (h1 : LI w w.heap.size A1 l1) (h2 : LI w w.heap.size A2 l2) (hl : l1.length ≤ 1000 ∧ l2.length ≤ 1000) :
    Calls Tryd.prog 11 #[.slice A1 n1 c1, .slice A2 n2 c2] w fun e w' => e = .returned (.bool (decide (l1 = l2))) ∧ Below w.heap.size w w' := by
  subst hn1 hn2
  have H1 := Lib.hid h1
  have H2 := Lib.hid h2
  clear h1 h2
  obtain ⟨hl1, hl2⟩ := hl
  by_cases hlen : l1.length = l2.length
  · have HL := Lib.hid hlen
    have HL2 : Hid (l1 = l2 → True) := Lib.hid fun _ => trivial
    obtain ⟨n, hn⟩ : ∃ n, l1.length = n := ⟨_, rfl⟩
    obtain ⟨z, hz⟩ : ∃ z, decide (l1 = l2) = z := ⟨_, rfl⟩
    have HZ := Lib.hid hz
    have HN := Lib.hid hn
    rw [← hlen, hn, hz]
    rw [hn] at hl1
    clear hl2 hlen hn hz
    go_enter Tryd.func11, Tryd.ntmps11
    go_wp2_with fail
    go_loopw [5] (fun i wr => ∃ k : Nat, k ≤ n ∧ i = .int .i64 k ∧ Below w.heap.size w wr ∧ Hid (∀ i, i < k → l1.getD i 0 = l2.getD i 0)) (fun i _ => n - (intOf i).toNat)
    case atStart => exact ⟨0, Nat.zero_le _, rfl, Below.refl _ _, Lib.hid fun i hi => absurd hi (by omega)⟩
    case round =>
      obtain ⟨k, hk, rfl, hb, HS⟩ := hrel
      by_cases hlt : k < n
      · have hk1 : k < l1.length := by rw [HN.out]; exact hlt
        have hk2 : k < l2.length := by rw [← HL.out]; exact hk1
        obtain ⟨b1, o1, rfl, hb1, ha1⟩ := H1.out.at_ (by omega)
        obtain ⟨b2, o2, rfl, hb2, ha2⟩ := H2.out.at_ (by omega)
        have u1 := (World.cell?_of_block (hb.block b1 hb1)).trans (ha1 k hk1)
        have u2 := (World.cell?_of_block (hb.block b2 hb2)).trans (ha2 k hk2)
        obtain ⟨x, hx⟩ : ∃ x, l1.getD k 0 = x := ⟨_, rfl⟩
        obtain ⟨y, hy⟩ : ∃ y, l2.getD k 0 = y := ⟨_, rfl⟩
        rw [hx] at u1
        rw [hy] at u2
        have HX := Lib.hid hx
        have HY := Lib.hid hy
        have HK := Lib.hid hk1
        have HK2 := Lib.hid hk2
        clear hx hy hk1 hk2
        have ll1 : b1 < wr.heap.size := Nat.lt_of_lt_of_le hb1 hb.size
        have ll2 : b2 < wr.heap.size := Nat.lt_of_lt_of_le hb2 hb.size
        have v1 := fun p : M.Of (M.Base wr) => (World.cell?_of_block (p.ok.2.block b1 ll1)).trans u1
        have v2 := fun p : M.Of (M.Base wr) => (World.cell?_of_block (p.ok.2.block b2 ll2)).trans u2
        clear ha1 ha2 u1 u2 ll1 ll2
        go_upto_region 6 with fail
        refine M.region_ (by kernel_rfl) ?_
        refine M.seg_ [0, 1, 2, 3, 4, 5, 6, 7, 8] 0 _ _ (M.Base.refl _) (by kernel_rfl) (by kernel_rfl) (by kernel_rfl) (by simp only [pickOps, mask, plain, List.getElem?_toArray, List.getElem?_cons_zero, List.getElem?_cons_succ, if_true, Bool.false_eq_true, if_false]; rfl) ?_
        repeat (go_big_quiet_step (fail))
        refine wpQuiet_nil ?_
        refine M.end_ (by kernel_rfl) ?_
        intro wc sc
        have hbc := hb.trans (sc.2.mono hb.size)
        clear sc
        by_cases hxy : x = y
        · have b3 : (x != y) = false := by rw [bne_eq_false_iff_eq]; exact hxy
          have HXY := Lib.hid hxy
          clear hxy
          go_wp2_with fail
          exact ⟨⟨k + 1, by omega, by go_num, hbc, Lib.hid fun i hi => by
            rcases Nat.lt_or_ge i k with h | h
            · exact HS.out i h
            · obtain rfl : i = k := by omega
              rw [HX.out, HY.out, HXY.out]⟩, by simp [intOf]; omega⟩
        · have b3 : (x != y) = true := by rw [bne_iff_ne]; exact hxy
          have hzf : z = false := by
            rw [← HZ.out, decide_eq_false_iff_not]
            intro h
            apply hxy
            rw [← HX.out, ← HY.out, h]
          subst hzf
          clear hxy
          go_wp2_with fail
          go_ret
          exact ⟨rfl, hbc⟩
      · have hke : k = n := by omega
        subst hke
        have hzt : z = true := by
          rw [← HZ.out, decide_eq_true_eq]
          exact lists_same HL.out fun i hi => HS.out i (by rw [← HN.out]; exact hi)
        subst hzt
        go_wp2_with fail
        go_ret
        exact ⟨rfl, hb⟩
  · have hd : decide (l1 = l2) = false := by
      rw [decide_eq_false_iff_not]
      intro h
      exact hlen (by rw [h])
    rw [hd]
    clear hd
    have e1 : ((l1.length : Int) != (l2.length : Int)) = true := by rw [bne_iff_ne]; omega
    clear hlen
    go_enter Tryd.func11, Tryd.ntmps11
    go_wp2_with fail
    go_ret
    exact ⟨rfl, Below.refl _ _⟩

/-- A list and a literal. -/
theorem ints_lit (A : Option Addr) (c n m g : Nat) (l Z : List Int) (w : World) (o : Obj) (t : TypeId) (fr : Nat × Nat) (ho : o = .cells (Z.map (Value.int .i64)).toArray t fr) (hg : g = w.heap.size) (hn : n = l.length) (hm : m = Z.length) (h : LI w w.heap.size A l) (hl : l.length ≤ 1000 ∧ Z.length ≤ 1000) :
    Calls Tryd.prog 11 #[.slice A n c, .slice (some ⟨g, 0, none⟩) m m] (w.alloc o) fun e w' => e = .returned (.bool (decide (l = Z))) ∧ Below w.heap.size w w' := by
  subst ho hg
  have hb := Below.alloc (Below.refl w.heap.size w) (Nat.le_refl _) (.cells (Z.map (Value.int .i64)).toArray t fr)
  refine (ints_any A _ c m n m l Z _ hn hm ((h.below hb).more hb.size) (LI.lit (heap_alloc_new w _) (by simp)) hl).mono ?_
  rintro e w' ⟨rfl, h2⟩
  exact ⟨rfl, hb.trans (h2.mono hb.size)⟩

set_option maxHeartbeats 4000000 in
theorem lives14 (w : World) (hV : RV w) : Calls Tryd.prog 7 #[] w fun e w' => e = .returned (.bool true) ∧ Below w.heap.size w w' := by
  have O1 := Lib.hid (fun w hV => of_any 254 w hV)
  have O2 := Lib.hid (fun w hV => of_any 32765 w hV)
  have O3 := Lib.hid (fun w hV => of_any 16384 w hV)
  have R1 := Lib.hid (fun w hV => read_any 255 w hV)
  have R2 := Lib.hid (fun w hV => read_any 65533 w hV)
  have R3 := Lib.hid (fun w hV => read_any 12285 w hV)
  rw [show clsL (hasC 254) 7 = [1] by decide +kernel] at O1
  rw [show clsL (hasC 32765) 7 = [2] by decide +kernel] at O2
  rw [show clsL (hasC 16384) 7 = [1, 2] by decide +kernel] at O3
  rw [show rdI 255 = 8 by decide +kernel] at R1
  rw [show rdI 65533 = 4 by decide +kernel] at R2
  rw [show rdI 12285 = 6 by decide +kernel] at R3
  have HV := Lib.hid hV
  clear hV
  go_enter Tryd.func7, Tryd.ntmps7
  go_wp2_with fail
  refine (O1.out _ HV.out).mono ?_
  rintro e w1 ⟨⟨A, c, rfl, hA⟩, hb1⟩
  go_wp2_with fail
  refine (ints_lit A c _ _ _ [1] [1] w1 _ _ _ rfl rfl rfl rfl hA ⟨by decide, by decide⟩).mono ?_
  rintro e w2 ⟨rfl, hb2⟩
  have hb2 := hb1.trans (hb2.mono hb1.size)
  rw [show decide (([1] : List Int) = [1]) = true by decide]
  clear hA
  go_wp2_with fail
  refine (O2.out _ (HV.out.on hb2)).mono ?_
  rintro e w1 ⟨⟨A, c, rfl, hA⟩, hb1⟩
  have hb1 := hb2.trans (hb1.mono hb2.size)
  go_wp2_with fail
  refine (ints_lit A c _ _ _ [2] [2] w1 _ _ _ rfl rfl rfl rfl hA ⟨by decide, by decide⟩).mono ?_
  rintro e w2 ⟨rfl, hb2⟩
  have hb2 := hb1.trans (hb2.mono hb1.size)
  rw [show decide (([2] : List Int) = [2]) = true by decide]
  clear hA
  go_wp2_with fail
  refine (O3.out _ (HV.out.on hb2)).mono ?_
  rintro e w1 ⟨⟨A, c, rfl, hA⟩, hb1⟩
  have hb1 := hb2.trans (hb1.mono hb2.size)
  go_wp2_with fail
  refine (ints_lit A c _ _ _ [1, 2] [1, 2] w1 _ _ _ rfl rfl rfl rfl hA ⟨by decide, by decide⟩).mono ?_
  rintro e w2 ⟨rfl, hb2⟩
  have hb2 := hb1.trans (hb2.mono hb1.size)
  rw [show decide (([1, 2] : List Int) = [1, 2]) = true by decide]
  clear hA
  go_wp2_with fail
  refine (R1.out _ (HV.out.on hb2)).mono ?_
  rintro e w1 ⟨rfl, hb1⟩
  have hb1 := hb2.trans (hb1.mono hb2.size)
  go_wp2_with fail
  refine (R2.out _ (HV.out.on hb1)).mono ?_
  rintro e w2 ⟨rfl, hb2⟩
  have hb2 := hb1.trans (hb2.mono hb1.size)
  go_wp2_with fail
  refine (R3.out _ (HV.out.on hb2)).mono ?_
  rintro e w1 ⟨rfl, hb1⟩
  have hb1 := hb2.trans (hb1.mono hb2.size)
  go_wp2_with fail
  go_ret
  exact ⟨rfl, hb1⟩

theorem text_none : nmB 8 = ⟨#[110, 111, 110, 101]⟩ := rfl
set_option maxHeartbeats 4000000 in
theorem walk_PortNames (w : World) (hV : PV w) : Calls Tryd.prog 3 #[] w fun e w' => e = .returned (.bool true) ∧ Below w.heap.size w w' := by
  have H0 := Lib.hid (lives14 w hV.rv)
  have N8 := Lib.hid (fun w hV => pname_any 8 w hV)
  rw [show nameI 8 = ⟨#[110, 111, 110, 101]⟩ from rfl] at N8
  have N0 := Lib.hid (fun w hV => pname_any 0 w hV)
  rw [show nameI 0 = ⟨#[]⟩ from rfl] at N0
  have U6 := Lib.hid (fun w hV => pusual_any 6 w hV)
  rw [show usualI 6 = 12285 by decide +kernel] at U6
  have C4 := Lib.hid (fun w => pchip_any 4 w)
  rw [show chipI 4 = 3 by decide +kernel] at C4
  have C9 := Lib.hid (fun w => pchip_any 9 w)
  rw [show chipI 9 = 0 by decide +kernel] at C9
  have HV := Lib.hid hV
  clear hV
  go_enter Tryd.func3, Tryd.ntmps3
  go_wp2_with fail
  refine H0.out.mono ?_
  rintro e w1 ⟨rfl, hb⟩
  have HV1 := Lib.hid (HV.out.on hb)
  go_wp2_with fail
  refine (N8.out _ HV1.out).mono ?_
  rintro e w' ⟨rfl, rfl⟩
  go_wp2_with fail
  refine (N0.out _ HV1.out).mono ?_
  rintro e w' ⟨rfl, rfl⟩
  go_wp2_with fail
  refine (U6.out _ HV1.out).mono ?_
  rintro e w' ⟨rfl, rfl⟩
  go_wp2_with fail
  refine (C4.out _).mono ?_
  rintro e w' ⟨rfl, rfl⟩
  go_wp2_with fail
  refine (C9.out _).mono ?_
  rintro e w' ⟨rfl, rfl⟩
  go_wp2_with fail
  go_ret
  exact ⟨rfl, hb⟩
end Go.Proofs.YtmgaibpdpcancaaDoor
