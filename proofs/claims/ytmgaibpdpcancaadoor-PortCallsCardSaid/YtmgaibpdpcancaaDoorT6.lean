
/- Layer 14 of the reference: lists, what is told of a class; PortCalls. -/
import Derived.Test.YtmgaibpdpcancaaDoorT5
namespace Go.Proofs.YtmgaibpdpcancaaDoor
open Go.RowKit
set_option linter.unusedSimpArgs false
set_option linter.unusedVariables false
set_option maxRecDepth 100000

theorem among_split (a : Int) (Z : List Int) (z : Bool) (hz : decide (a ∈ Z) = z) (k : Nat) (hk : k < Z.length) (h : Z.getD k 0 = a) : z = true := by
  rw [← hz, decide_eq_true_eq, ← h, List.getD_eq_getElem?_getD, List.getElem?_eq_getElem hk]
  exact List.getElem_mem hk
theorem among_none (a : Int) (Z : List Int) (z : Bool) (hz : decide (a ∈ Z) = z) (h : ∀ i, i < Z.length → Z.getD i 0 ≠ a) : z = false := by
  rw [← hz, decide_eq_false_iff_not]
  intro hm
  obtain ⟨i, hi, he⟩ := List.mem_iff_getElem.1 hm
  apply h i hi
  rw [List.getD_eq_getElem?_getD, List.getElem?_eq_getElem hi]
  exact he
set_option maxHeartbeats 4000000 in
theorem among_any (a : Int) (A : Option Addr) (c n : Nat) (Z : List Int) (w : World) (hn : n = Z.length) (h1 : LI w w.heap.size A Z) (hl : Z.length ≤ 1000) :
    Calls Tryd.prog 27 #[.int .i64 a, .slice A n c] w fun e w' => e = .returned (.bool (decide (a ∈ Z))) ∧ w = w' := by
  have HN := Lib.hid hn
  have H1 := Lib.hid h1
  obtain ⟨z, hz⟩ : ∃ z, decide (a ∈ Z) = z := ⟨_, rfl⟩
  have HZ := Lib.hid hz
  rw [hz]
  have hl2 : n ≤ 1000 := by omega
  clear hz h1 hn hl
  go_enter Tryd.func27, Tryd.ntmps27
  go_wp2_with fail
  go_loop [5] (fun i => ∃ k : Nat, i = .int .i64 k ∧ k ≤ n ∧ Hid (∀ i, i < k → Z.getD i 0 ≠ a)) (fun i => n - (intOf i).toNat)
  case atStart => exact ⟨0, rfl, Nat.zero_le _, Lib.hid fun i hi => absurd hi (by omega)⟩
  case round =>
    obtain ⟨k, rfl, hk, HS⟩ := hrel
    by_cases hlt : k < n
    · obtain ⟨b1, o1, rfl, hb1, ha1⟩ := H1.out.at_ (by have := HN.out; omega)
      have hkl : k < Z.length := by have := HN.out; omega
      have u1 := ha1 k hkl
      have HK := Lib.hid hkl
      clear ha1 hkl
      obtain ⟨x, hx⟩ : ∃ x, Z.getD k 0 = x := ⟨_, rfl⟩
      have HX := Lib.hid hx
      rw [hx] at u1
      clear hx
      by_cases hxa : x = a
      · obtain rfl := among_split a Z z HZ.out k HK.out (HX.out.trans hxa)
        subst hxa
        go_wp2_with fail
        go_ret
        exact ⟨rfl, rfl⟩
      · have e1 : (x == a) = false := by rw [beq_eq_false_iff_ne]; exact hxa
        have HXA := Lib.hid hxa
        clear hxa
        go_wp2_with fail
        go_round
        case rel => exact ⟨k + 1, by go_num, by omega, Lib.hid fun i hi => by
            rcases Nat.lt_or_ge i k with h | h
            · exact HS.out i h
            · obtain rfl : i = k := by omega
              rw [HX.out]
              exact HXA.out⟩
        case measure => simp [intOf]; omega
    · obtain rfl := among_none a Z z HZ.out (fun i hi => HS.out i (by have := HN.out; omega))
      go_wp2_with fail
      go_ret
      exact ⟨rfl, rfl⟩

/-- Of some classes those a port is of. -/
def thC (p : Int) (Z : List Int) (k : Nat) : Bool := hasC p k && decide (((k + 1 : Nat) : Int) ∈ Z)
set_option maxHeartbeats 4000000 in
theorem those_any (p : Int) (A : Option Addr) (c n : Nat) (Z : List Int) (w : World) (h0 : 0 ≤ p) (h1 : p < 65536) (hn : n = Z.length) (hL : LI w w.heap.size A Z) (hl : Z.length ≤ 1000) :
    Calls Tryd.prog 26 #[.int .u16 p, .slice A n c] w (GivesL w (clsL (thC p Z) 7)) := by
  obtain ⟨i1, hi, hz0, hz1, hz2⟩ := info_parts info_int
  obtain ⟨f, hf⟩ : ∃ f, thC p Z = f := ⟨_, rfl⟩
  have HF := Lib.hid (fun k => (congrFun hf k : _))
  have HI := Lib.hid (fun (c : Int) (h8 : c ≠ 8) (w : World) => ris_any c p w h0 h1 h8)
  have HA := Lib.hid (fun (a : Int) (w' : World) (hb : Below w.heap.size w w') => among_any a A c n Z w' hn ((hL.below hb).more hb.size) hl)
  rw [hf]
  clear hf h0 h1 hn hL hl
  unfold GivesL
  go_enter Tryd.func26, Tryd.ntmps26
  go_wp2_with fail
  go_loopw [5, 6] (fun v i wr => ∃ (k : Nat), i = .int .i64 ((k + 1 : Nat) : Int) ∧ k ≤ 7 ∧ wr.ownsRow w.heap.size 3 1 v (clsL f k).length ((clsL f k).map (Value.int .i64)) ∧ Below w.heap.size w wr) (fun _ i _ => 8 - (intOf i).toNat)
  case atStart => exact ⟨0, rfl, by omega, World.ownsRow_nil _ _ _ _, Below.refl _ _⟩
  case round =>
    rename World => wr
    obtain ⟨k, rfl, hk, ho, hb⟩ := hrel
    have HO := Lib.hid ho
    have HB := Lib.hid hb
    clear ho hb
    by_cases hlt : k < 7
    · have hl := clsL_len f k
      have hfk : f k = (hasC p k && decide (((k + 1 : Nat) : Int) ∈ Z)) := (HF.out k).symm
      have HI1 := Lib.hid (HI.out ((k + 1 : Nat) : Int) (by omega))
      rw [show isI ((k + 1 : Nat) : Int) p = hasC p k by unfold isI; rw [if_neg (by omega), if_pos (by omega), show ((k + 1 : Nat) : Int).toNat - 1 = k by omega]] at HI1
      have HA1 := Lib.hid (HA.out ((k + 1 : Nat) : Int))
      cases hw : hasC p k with
      | false =>
        rw [hw] at hfk HI1
        have HY := Lib.hid (clsL_no (f := f) (k := k) hfk)
        clear hw hfk
        go_wp2_with fail
        refine (HI1.out _).mono ?_
        rintro e w' ⟨rfl, rfl⟩
        go_wp2_with fail
        exact ⟨⟨k + 1, by go_num, by omega, by rw [HY.out]; exact HO.out, HB.out⟩, by simp [intOf]; omega⟩
      | true =>
      rw [hw] at hfk HI1
      cases hc : decide (((k + 1 : Nat) : Int) ∈ Z) with
      | true =>
        rw [hc] at hfk HA1
        have HY := Lib.hid (clsL_yes (f := f) (k := k) hfk)
        clear hc hw hfk
        generalize clsL f k = out at *
        go_wp2_with fail
        refine (HI1.out _).mono ?_
        rintro e w' ⟨rfl, rfl⟩
        go_wp2_with fail
        refine (HA1.out _ HB.out).mono ?_
        rintro e w' ⟨rfl, rfl⟩
        go_wp2_with (at_builtin; refine wpList_append_own _ rfl (.tmp 19) (.tmp 21) 28 rfl w.heap.size 3 i1 (.int .i64 0) 1 8 Tryd.underlying28 hi hz0 hz1 hz2 rfl (by decide) _ out.length (out.map (Value.int .i64)) rfl (HO.out.alloc _) ⟨wr.heap.size, 0, none⟩ 1 1 [_] rfl rfl (new_one wr _ _) (fun u hu => by obtain rfl := List.mem_singleton.1 hu; rfl) (by unfold maxLen; omega) (by omega) (by have := HB.out.size; simp; omega) ?_; intro v' w' hown hg5 _; have HO2 := Lib.hid hown; have HG2 := Lib.hid hg5; clear hown hg5)
        refine ⟨⟨k + 1, by go_num, by omega, ?_, ?_⟩, by simp [intOf]; omega⟩
        · rw [HY.out, List.length_append, List.map_append]; exact HO2.out
        · have hB := HB.out
          exact (hB.alloc hB.size _).grown HG2.out (by have := hB.size; simp; omega) (fun k hk => (HO.out.lt k hk).1)
      | false =>
        rw [hc] at hfk HA1
        have HY := Lib.hid (clsL_no (f := f) (k := k) hfk)
        clear hc hw hfk
        go_wp2_with fail
        refine (HI1.out _).mono ?_
        rintro e w' ⟨rfl, rfl⟩
        go_wp2_with fail
        refine (HA1.out _ HB.out).mono ?_
        rintro e w' ⟨rfl, rfl⟩
        go_wp2_with fail
        exact ⟨⟨k + 1, by go_num, by omega, by rw [HY.out]; exact HO.out, HB.out⟩, by simp [intOf]; omega⟩
    · obtain rfl : k = 7 := by omega
      obtain ⟨A, c, rfl⟩ := int_shape HO.out
      go_wp2_with fail
      go_ret
      exact ⟨⟨A, c, rfl, LI.own HO.out⟩, HB.out⟩
theorem clsL_congr {f g : Nat → Bool} : ∀ k, (∀ i, i < k → f i = g i) → clsL f k = clsL g k
  | 0, _ => rfl
  | k + 1, h => by
    have h1 := clsL_congr k fun i hi => h i (by omega)
    have h2 := h k (by omega)
    simp only [clsL]
    rw [h1, h2]
theorem th_all (p : Int) : clsL (thC p [1, 2, 3, 4, 5, 6, 7]) 7 = clsL (hasC p) 7 := clsL_congr 7 fun i hi => by
  match i, hi with
  | 0, _ => exact Bool.and_true _
  | 1, _ => exact Bool.and_true _
  | 2, _ => exact Bool.and_true _
  | 3, _ => exact Bool.and_true _
  | 4, _ => exact Bool.and_true _
  | 5, _ => exact Bool.and_true _
  | 6, _ => exact Bool.and_true _
theorem th_wr (p : Int) : clsL (thC p [1, 2, 3, 4, 5, 7]) 7 = clsL (wrC p) 7 := clsL_congr 7 fun i hi => by
  match i, hi with
  | 0, _ => exact Bool.and_true _
  | 1, _ => exact Bool.and_true _
  | 2, _ => exact Bool.and_true _
  | 3, _ => exact Bool.and_true _
  | 4, _ => exact Bool.and_true _
  | 5, _ => exact Bool.and_false _
  | 6, _ => exact Bool.and_true _
theorem rof_any (p : Int) (w : World) (h0 : 0 ≤ p) (h1 : p < 65536) : Calls Tryd.prog 13 #[.int .u16 p] w (GivesL w (clsL (hasC p) 7)) := by
  rw [← th_all]
  have hb : Below w.heap.size w (w.alloc (.cells (([1, 2, 3, 4, 5, 6, 7] : List Int).map (Value.int .i64)).toArray 3)) := (Below.refl _ _).alloc (Nat.le_refl _) _
  have HT := Lib.hid (those_any p (some ⟨w.heap.size, 0, none⟩) 7 7 [1, 2, 3, 4, 5, 6, 7] (w.alloc (.cells (([1, 2, 3, 4, 5, 6, 7] : List Int).map (Value.int .i64)).toArray 3)) h0 h1 rfl (LI.lit (heap_alloc_new w _) (by simp)) (by decide))
  have HB := Lib.hid hb
  generalize clsL (thC p [1, 2, 3, 4, 5, 6, 7]) 7 = L at *
  clear hb h0 h1
  unfold GivesL at *
  go_enter Tryd.func13, Tryd.ntmps13
  go_wp2_with fail
  refine HT.out.mono ?_
  rintro e w1 ⟨⟨A, c, rfl, hA⟩, hb1⟩
  go_wp2_with fail
  go_ret
  exact ⟨⟨A, c, rfl, hA⟩, HB.out.trans (hb1.mono HB.out.size)⟩
theorem rwritten_any (p : Int) (w : World) (h0 : 0 ≤ p) (h1 : p < 65536) : Calls Tryd.prog 15 #[.int .u16 p] w (GivesL w (clsL (wrC p) 7)) := by
  rw [← th_wr]
  have hb : Below w.heap.size w (w.alloc (.cells (([1, 2, 3, 4, 5, 7] : List Int).map (Value.int .i64)).toArray 3)) := (Below.refl _ _).alloc (Nat.le_refl _) _
  have HT := Lib.hid (those_any p (some ⟨w.heap.size, 0, none⟩) 6 6 [1, 2, 3, 4, 5, 7] (w.alloc (.cells (([1, 2, 3, 4, 5, 7] : List Int).map (Value.int .i64)).toArray 3)) h0 h1 rfl (LI.lit (heap_alloc_new w _) (by simp)) (by decide))
  have HB := Lib.hid hb
  generalize clsL (thC p [1, 2, 3, 4, 5, 7]) 7 = L at *
  clear hb h0 h1
  unfold GivesL at *
  go_enter Tryd.func15, Tryd.ntmps15
  go_wp2_with fail
  refine HT.out.mono ?_
  rintro e w1 ⟨⟨A, c, rfl, hA⟩, hb1⟩
  go_wp2_with fail
  go_ret
  exact ⟨⟨A, c, rfl, hA⟩, HB.out.trans (hb1.mono HB.out.size)⟩

theorem rchip_any (c : Int) (w : World) : Calls Tryd.prog 20 #[.int .i64 c] w fun e w' => e = .returned (.int .i64 (chipI c)) ∧ Below w.heap.size w w' := by
  by_cases h : 1 ≤ c ∧ c ≤ 8
  · have hc : c = 1 ∨ c = 2 ∨ c = 3 ∨ c = 4 ∨ c = 5 ∨ c = 6 ∨ c = 7 ∨ c = 8 := by omega
    clear h
    rcases hc with rfl | rfl | rfl | rfl | rfl | rfl | rfl | rfl
    all_goals
      go_enter Tryd.func20, Tryd.ntmps20
      go_wp2
      go_ret
      exact ⟨rfl, (Below.refl _ _).alloc (Nat.le_refl _) _⟩
  · have hn : chipI c = 0 := by unfold chipI; rw [if_neg h]
    rw [hn]
    by_cases h1 : c < 1
    · clear hn h
      go_enter Tryd.func20, Tryd.ntmps20
      go_wp2
      go_ret
      exact ⟨rfl, Below.refl _ _⟩
    · have h2 : 8 < c := by omega
      clear hn h
      go_enter Tryd.func20, Tryd.ntmps20
      go_wp2
      go_ret
      exact ⟨rfl, Below.refl _ _⟩
theorem rname_any (c : Int) (w : World) : Calls Tryd.prog 21 #[.int .i64 c] w fun e w' => e = .returned (.string (nameI c)) ∧ Below w.heap.size w w' := by
  by_cases h : 1 ≤ c ∧ c ≤ 8
  · have hc : c = 1 ∨ c = 2 ∨ c = 3 ∨ c = 4 ∨ c = 5 ∨ c = 6 ∨ c = 7 ∨ c = 8 := by omega
    clear h
    rcases hc with rfl | rfl | rfl | rfl | rfl | rfl | rfl | rfl
    all_goals
      go_enter Tryd.func21, Tryd.ntmps21
      go_wp2
      go_ret
      exact ⟨rfl, (Below.refl _ _).alloc (Nat.le_refl _) _⟩
  · have hn : nameI c = ⟨#[]⟩ := by unfold nameI; rw [if_neg h]
    rw [hn]
    by_cases h1 : c < 1
    · clear hn h
      go_enter Tryd.func21, Tryd.ntmps21
      go_wp2
      go_ret
      exact ⟨rfl, Below.refl _ _⟩
    · have h2 : 8 < c := by omega
      clear hn h
      go_enter Tryd.func21, Tryd.ntmps21
      go_wp2
      go_ret
      exact ⟨rfl, Below.refl _ _⟩
theorem rusual_any (c : Int) (w : World) : Calls Tryd.prog 22 #[.int .i64 c] w fun e w' => e = .returned (.int .u16 (usualI c)) ∧ Below w.heap.size w w' := by
  by_cases h : 1 ≤ c ∧ c ≤ 8
  · have hc : c = 1 ∨ c = 2 ∨ c = 3 ∨ c = 4 ∨ c = 5 ∨ c = 6 ∨ c = 7 ∨ c = 8 := by omega
    clear h
    rcases hc with rfl | rfl | rfl | rfl | rfl | rfl | rfl | rfl
    all_goals
      go_enter Tryd.func22, Tryd.ntmps22
      go_wp2
      go_ret
      exact ⟨rfl, (Below.refl _ _).alloc (Nat.le_refl _) _⟩
  · have hn : usualI c = 0 := by unfold usualI; rw [if_neg h]
    rw [hn]
    by_cases h1 : c < 1
    · clear hn h
      go_enter Tryd.func22, Tryd.ntmps22
      go_wp2
      go_ret
      exact ⟨rfl, Below.refl _ _⟩
    · have h2 : 8 < c := by omega
      clear hn h
      go_enter Tryd.func22, Tryd.ntmps22
      go_wp2
      go_ret
      exact ⟨rfl, Below.refl _ _⟩

set_option maxHeartbeats 4000000 in
theorem walk_PortCalls (w : World) (hV : PV w) (p : Int) (wp : (Lit.int .u16 p).wf = true) (c : Int) (_ : (Lit.int .i64 c).wf = true) : Calls Tryd.prog 4 #[.int .u16 p, .int .i64 c] w fun e w' => e = .returned (.bool true) ∧ Below w.heap.size w w' := by
  have hp : 0 ≤ p ∧ p < 65536 := by
    simp [Lit.wf, IntKind.min, IntKind.max, IntKind.signed, IntKind.bits] at wp
    omega
  obtain ⟨p0, p1⟩ := hp
  have H0 := Lib.hid (lives14 w hV.rv)
  have O1 := Lib.hid (fun w hV => of_any p w hV)
  have O2 := Lib.hid (fun w => rof_any p w p0 p1)
  have W1 := Lib.hid (fun w hV => written_any p w hV)
  have W2 := Lib.hid (fun w => rwritten_any p w p0 p1)
  have R1 := Lib.hid (fun w hV => read_any p w hV)
  have R2 := Lib.hid (fun w => rread_any p w p0 p1)
  have S1 := Lib.hid (fun w hV => is_any c p w hV)
  have S2 := Lib.hid (fun w => ris_all c p w p0 p1)
  have C1 := Lib.hid (fun w => pchip_any c w)
  have C2 := Lib.hid (fun w => rchip_any c w)
  have N1 := Lib.hid (fun w hV => pname_any c w hV)
  have N2 := Lib.hid (fun w => rname_any c w)
  have U1 := Lib.hid (fun w hV => pusual_any c w hV)
  have U2 := Lib.hid (fun w => rusual_any c w)
  have hlo := clsL_len (hasC p) 7
  have hlw := clsL_len (wrC p) 7
  have HV := Lib.hid hV
  clear hV p0 p1 wp
  generalize clsL (hasC p) 7 = L1 at *
  generalize clsL (wrC p) 7 = L2 at *
  generalize rdI p = r at *
  generalize isI c p = b at *
  generalize chipI c = ch at *
  generalize nameI c = nm at *
  generalize usualI c = us at *
  go_enter Tryd.func4, Tryd.ntmps4
  go_wp2_with fail
  refine H0.out.mono ?_
  rintro e w1 ⟨rfl, hb1⟩
  go_wp2_with fail
  refine (O1.out _ (HV.out.rv.on hb1)).mono ?_
  rintro e w2 ⟨⟨A, c1, rfl, hA⟩, hb2⟩
  have hb2' := hb1.trans (hb2.mono hb1.size)
  go_wp2_with fail
  refine (O2.out _).mono ?_
  rintro e w3 ⟨⟨A2, c2, rfl, hA2⟩, hb3⟩
  have hb3' := hb2'.trans (hb3.mono hb2'.size)
  go_wp2_with fail
  refine (ints_any A A2 c1 c2 _ _ L1 L1 w3 rfl rfl ((hA.below hb3).more hb3.size) hA2 ⟨by omega, by omega⟩).mono ?_
  rintro e w4 ⟨rfl, hb4⟩
  have hb4' := hb3'.trans (hb4.mono hb3'.size)
  rw [show decide (L1 = L1) = true by simp]
  clear hA hA2
  go_wp2_with fail
  refine (W1.out _ (HV.out.rv.on hb4')).mono ?_
  rintro e w5 ⟨⟨A5, c5, rfl, hA⟩, hb5⟩
  have hb5' := hb4'.trans (hb5.mono hb4'.size)
  go_wp2_with fail
  refine (W2.out _).mono ?_
  rintro e w6 ⟨⟨A6, c6, rfl, hA2⟩, hb6⟩
  have hb6' := hb5'.trans (hb6.mono hb5'.size)
  go_wp2_with fail
  refine (ints_any A5 A6 c5 c6 _ _ L2 L2 w6 rfl rfl ((hA.below hb6).more hb6.size) hA2 ⟨by omega, by omega⟩).mono ?_
  rintro e w7 ⟨rfl, hb7⟩
  have hb7' := hb6'.trans (hb7.mono hb6'.size)
  rw [show decide (L2 = L2) = true by simp]
  clear hA hA2
  have HB7 := Lib.hid hb7'
  clear hb1 hb2 hb2' hb3 hb3' hb4 hb4' hb5 hb5' hb6 hb6' hb7 hb7'
  go_wp2_with fail
  refine (R1.out _ (HV.out.rv.on HB7.out)).mono ?_
  rintro e w8 ⟨rfl, hb8⟩
  have HB8 := Lib.hid (HB7.out.trans (hb8.mono HB7.out.size))
  clear hb8
  go_wp2_with fail
  refine (R2.out _).mono ?_
  rintro e w9 ⟨rfl, hb9⟩
  have HB9 := Lib.hid (HB8.out.trans (hb9.mono HB8.out.size))
  clear hb9
  go_wp2_with fail
  refine (S1.out _ (HV.out.rv.on HB9.out)).mono ?_
  rintro e w10 ⟨rfl, hb10⟩
  have HB10 := Lib.hid (HB9.out.trans (hb10.mono HB9.out.size))
  clear hb10
  go_wp2_with fail
  refine (S2.out _).mono ?_
  rintro e w11 ⟨rfl, hb11⟩
  have HB11 := Lib.hid (HB10.out.trans (hb11.mono HB10.out.size))
  clear hb11
  go_wp2_with fail
  refine (C1.out _).mono ?_
  rintro e w' ⟨rfl, rfl⟩
  go_wp2_with fail
  refine (C2.out _).mono ?_
  rintro e w12 ⟨rfl, hb12⟩
  have HB12 := Lib.hid (HB11.out.trans (hb12.mono HB11.out.size))
  clear hb12
  go_wp2_with fail
  refine (N1.out _ (HV.out.on HB12.out)).mono ?_
  rintro e w' ⟨rfl, rfl⟩
  go_wp2_with fail
  refine (N2.out _).mono ?_
  rintro e w13 ⟨rfl, hb13⟩
  have HB13 := Lib.hid (HB12.out.trans (hb13.mono HB12.out.size))
  clear hb13
  go_wp2_with fail
  refine (U1.out _ (HV.out.on HB13.out)).mono ?_
  rintro e w' ⟨rfl, rfl⟩
  go_wp2_with fail
  refine (U2.out _).mono ?_
  rintro e w14 ⟨rfl, hb14⟩
  have HB14 := Lib.hid (HB13.out.trans (hb14.mono HB13.out.size))
  clear hb14
  go_wp2_with fail
  go_ret
  exact ⟨rfl, HB14.out⟩
end Go.Proofs.YtmgaibpdpcancaaDoor
