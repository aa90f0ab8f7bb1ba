/-    -/
import Derived.Test.YtofenjloieagaaaZT13
import Derived.Laws.Rows
import Derived.Laws.Tables
import Derived.Test.YtofenjloieagaaaZT33
namespace Go.Proofs.Ytofenjloieagaaa
open Go.RowKit
set_option linter.unusedSimpArgs false
set_option linter.unusedVariables false
set_option maxRecDepth 100000

set_option maxHeartbeats 4000000 in
theorem runtil_any (w : World) (A : Option Addr) (c : Nat) (l : List Tc) (t : Int) (hl : TsAt w w.heap.size A l) (hc : l.length ≤ maxLen) :
    Calls Try.prog 23 #[.slice A l.length c, .int .i64 t] w fun e w' => e = .returned (.int .i64 (untilN l t)) ∧ Below w.heap.size w w' := by
  have HL := Lib.hid hl
  have HCk := Lib.hid (fun (w1 : World) (hb : Below w.heap.size w w1) => rcheck17_any w1 A c l (hl.on hb hb.size) hc)
  unfold maxLen at hc
  clear hl
  by_cases hg : Good l
  · have HIs := Lib.hid (fun (n : Nat) hn h1 h2 => @untilN_is l t hg n hn h1 h2)
    have hu0 := untilN_le l t
    rw [errL_zero.2 hg] at HCk
    clear hg
    generalize untilN l t = u at *
    go_enter Try.func23, Try.ntmps23
    go_wp2_with fail
    go_loopw [5] (fun s wr => ∃ k : Nat, s = .int .i64 k ∧ k ≤ l.length ∧ Hid (∀ i, i < k → (l.getD i tcZ).time ≤ t) ∧ Below w.heap.size w wr) (fun s _ => l.length - (intOf s).toNat)
    case atStart => exact ⟨0, rfl, Nat.zero_le _, Lib.hid (fun i h => absurd h (Nat.not_lt_zero i)), Below.refl _ _⟩
    case round =>
      rename World => wr
      obtain ⟨k, rfl, hk, HE, hb⟩ := hrel
      have HB := Lib.hid hb
      clear hb
      go_wp2_with fail
      refine (HCk.out wr HB.out).mono ?_
      rintro e w1 ⟨rfl, hb⟩
      have HB1 := Lib.hid (HB.out.trans (hb.mono HB.out.size))
      clear hb HB HCk
      by_cases hlt : k < l.length
      · obtain ⟨b, o, hA, hb1, hat⟩ := HL.out.at_ (by omega)
        have hU := (hat k hlt).below HB1.out hb1
        clear hat
        obtain ⟨x, hx⟩ : ∃ x, l.getD k tcZ = x := ⟨_, rfl⟩
        rw [hx] at hU
        have HX := Lib.hid hx
        clear hx
        obtain ⟨c0, c1, c2, c3⟩ := hU
        subst hA
        by_cases hxt : x.time ≤ t
        · have HE1 := Lib.hid (show ∀ i, i < k + 1 → (l.getD i tcZ).time ≤ t from fun i hi => by
            by_cases e : i = k
            · rw [e, HX.out]; exact hxt
            · exact HE.out i (by omega))
          have hd : decide (x.time ≤ t) = true := decide_eq_true hxt
          clear HE hxt HIs
          go_wp2_with fail
          exact ⟨⟨k + 1, by go_num, by omega, HE1, HB1.out⟩, by simp [intOf]; omega⟩
        · have hu := Lib.hid (HIs.out k hk HE.out (fun _ => by rw [HX.out]; omega))
          have hd : decide (x.time ≤ t) = false := decide_eq_false hxt
          clear HE hxt HIs
          go_wp2_with fail
          go_ret
          exact ⟨by rw [hu.out]; rfl, HB1.out⟩
      · have hu := Lib.hid (HIs.out k hk HE.out (fun h => absurd h hlt))
        clear HE HIs
        go_wp2_with fail
        go_ret
        exact ⟨by rw [hu.out]; rfl, HB1.out⟩
  · have hz : errL l ≠ 0 := fun h => hg (errL_zero.1 h)
    rw [untilN_no hg]
    clear hg
    generalize errL l = z at *
    have hzb : (z == 0) = false := by simpa using hz
    clear hz
    go_enter Try.func23, Try.ntmps23
    go_wp2_with fail
    go_loopw [5] (fun s wr => s = .int .i64 0 ∧ Below w.heap.size w wr) (fun s _ => 0)
    case atStart => exact ⟨rfl, Below.refl _ _⟩
    case round =>
      rename World => wr
      obtain ⟨rfl, hb⟩ := hrel
      have HB := Lib.hid hb
      clear hb
      go_wp2_with fail
      refine (HCk.out wr HB.out).mono ?_
      rintro e w1 ⟨rfl, hb⟩
      have HB1 := Lib.hid (HB.out.trans (hb.mono HB.out.size))
      clear hb HB HCk
      go_wp2_with fail
      go_ret
      exact ⟨rfl, HB1.out⟩
end Go.Proofs.Ytofenjloieagaaa
namespace Go.Proofs.Ytofenjloieagaaa
open Go.RowKit
set_option linter.unusedSimpArgs false
set_option linter.unusedVariables false
set_option maxRecDepth 100000

/-- A row of Bools in a block of its own. -/
def AB (w : World) (g : Nat) (S : List Bool) : Prop := w.heap[g]? = some (.cells (S.map Value.bool).toArray 72 (0, 0))
def setS (S : List Bool) (x : Tc) : List Bool := S.set (if x.what = 2 then 40 else x.key.toNat) x.on
def zS : List Bool := List.replicate 41 false
def stS (l : List Tc) : List Bool := l.foldl setS zS
theorem stS_more {l : List Tc} {k : Nat} (hk : k < l.length) : stS (l.take (k + 1)) = setS (stS (l.take k)) (l.getD k tcZ) := by
  unfold stS
  rw [tc_take_more hk, List.foldl_append]
  rfl
theorem setS_len (S : List Bool) (x : Tc) : (setS S x).length = S.length := by unfold setS; rw [List.length_set]
theorem stS_len (l : List Tc) : (stS l).length = 41 := by
  unfold stS
  suffices h : ∀ (l : List Tc) (S : List Bool), (l.foldl setS S).length = S.length from (h l zS).trans (by decide)
  intro l
  induction l with
  | nil => intro S; rfl
  | cons x l ih => intro S; rw [List.foldl_cons, ih, setS_len]
theorem ab_info (S : List Bool) (h : S.length = 41) : (Try.prog.info? 72).map (·.size) = some ((S.map Value.bool).toArray).size := by
  rw [List.size_toArray, List.length_map, h]; kernel_rfl
theorem ab_one (S : List Bool) : ((S.map Value.bool).toArray).all (·.oneCell') = true := by
  simp [Value.oneCell']
theorem AB.keep {w w' : World} {g B : Nat} {S : List Bool} (h : AB w g S) (hb : Below B w w') (hg : g < B) : AB w' g S := (hb.block _ hg).trans h
theorem AB.at_ {w : World} {g : Nat} {S : List Bool} (h : AB w g S) {k : Nat} (hk : k < S.length) : w.cell? ⟨g, k, none⟩ = some (.bool (S.getD k false)) ∧ w.frozen? ⟨g, k, none⟩ = false := by
  refine ⟨?_, frozen_of_row w g k _ _ h⟩
  rw [cell_of_row w g k _ _ _ h]
  simp [List.getD_eq_getElem?_getD, hk]
theorem AB.set {w : World} {g : Nat} {S : List Bool} (h : AB w g S) (k : Nat) (b : Bool) : AB (w.setCell ⟨g, k, none⟩ (.bool b)) g (S.set k b) := by
  unfold AB
  have := heap_setCell_same w g k _ _ (.bool b) h
  rw [this]
  simp [List.map_set]
theorem below_set {w w' : World} {B g : Nat} (h : Below B w w') (k : Nat) (v : Value) (hg : B ≤ g) : Below B w (w'.setCell ⟨g, k, none⟩ v) :=
  h.trans ⟨rfl, rfl, rfl, by simp, fun j hj => heap_setCell_other _ _ _ _ (by simp; omega)⟩

theorem below_row {w w' : World} {g : Nat} (h : Below g w w') (cs : Array Value) : Below g w (w'.setRow g cs) :=
  h.trans ⟨rfl, rfl, rfl, by simp, fun j hj => by simp only [World.setRow, Array.getElem?_modify]; rw [if_neg (by omega)]⟩

set_option maxHeartbeats 4000000 in
theorem rstate_any (w : World) (A : Option Addr) (c : Nat) (l : List Tc) (t : Int) (hl : TsAt w w.heap.size A l) (hc : l.length ≤ maxLen) :
    Calls Try.prog 47 #[.slice A l.length c, .int .i64 t] w fun e w' => e = .returned (.agg ((stS (l.take (untilN l t))).map Value.bool).toArray) ∧ Below w.heap.size w w' := by
  have HL := Lib.hid hl
  have HCk := Lib.hid (fun (w1 : World) (hb : Below w.heap.size w w1) => rcheck17_any w1 A c l (hl.on hb hb.size) hc)
  unfold maxLen at hc
  clear hl
  by_cases hg : Good l
  · obtain ⟨hu1, hu2⟩ := untilN_in (t := t) hg
    have hu0 := untilN_le l t
    have HF := Lib.hid (fun (i : Nat) (hi : i < l.length) => (hg.2 i hi).1)
    have HU1 := Lib.hid hu1
    have HU2 := Lib.hid hu2
    rw [errL_zero.2 hg] at HCk
    clear hg hu1 hu2
    generalize untilN l t = u at *
    go_enter Try.func47, Try.ntmps47
    go_wp2_with fail
    refine (HCk.out _ (((Below.refl _ _).alloc (Nat.le_refl _) _).alloc (by simp) _)).mono ?_
    rintro e w1 ⟨rfl, hb⟩
    have h0 : AB w1 w.heap.size zS := (hb.block _ (by simp; omega)).trans (heap_alloc2_old _ _ _)
    have h1 : AB w1 (w.heap.size + 1) (stS (l.take 0)) := (hb.block _ (by simp)).trans (heap_alloc2_new _ _ _)
    have HB1 : Hid (Below w.heap.size w w1) := Lib.hid ((((Below.refl _ _).alloc (Nat.le_refl _) _).alloc (by simp) _).trans (hb.mono (by simp; omega)))
    have H0 := Lib.hid h0
    have H1 := Lib.hid h1
    clear hb HCk h0 h1
    go_wp2_with fail
    go_loopw [6, 7] (fun s _ wr => ∃ k : Nat, s = .int .i64 k ∧ k ≤ u ∧ AB wr w.heap.size zS ∧ AB wr (w.heap.size + 1) (stS (l.take k)) ∧ Below w.heap.size w wr) (fun s _ _ => u - (intOf s).toNat)
    case atStart => exact ⟨0, rfl, Nat.zero_le _, H0.out, H1.out, HB1.out⟩
    case round =>
      rename World => wr
      clear H0 H1 HB1
      obtain ⟨k, rfl, hk, h0, h1, hb⟩ := hrel
      have H0 := Lib.hid h0
      have H1 := Lib.hid h1
      have HB := Lib.hid hb
      have hs1 : w.heap.size + 1 < wr.heap.size := (Array.getElem?_eq_some_iff.1 h1).1
      clear h0 h1 hb
      by_cases hku : k < u
      · have hlt : k < l.length := by omega
        obtain ⟨b, o, hA, hb1, hat⟩ := HL.out.at_ (by omega)
        have hX := (hat k hlt).below HB.out hb1
        have hxt := HU1.out k hku
        have hfine := HF.out k hlt
        have HM := Lib.hid (stS_more hlt)
        have hSl := stS_len (l.take k)
        clear hat HF HU1 HU2
        generalize l.getD k tcZ = x at *
        obtain ⟨c0, c1, c2, c3⟩ := hX
        have htd : decide (x.time ≤ t) = true := decide_eq_true hxt
        obtain ⟨kk, hkk⟩ : ∃ kk, (if x.what = 2 then 40 else x.key.toNat) = kk := ⟨_, rfl⟩
        have hkk41 : kk < 41 := by
          rw [← hkk]
          rcases hfine with ⟨h, _, h3, h4⟩ | ⟨h, _, _⟩
          · rw [if_neg (by omega)]; omega
          · rw [if_pos h]; omega
        obtain ⟨d0, d1⟩ := H1.out.at_ (k := kk) (by omega)
        have hset := H1.out.set kk x.on
        have hM := HM.out
        unfold setS at hM
        rw [hkk] at hM
        rw [← hM] at hset
        have HS := Lib.hid hset
        have HBs := Lib.hid (below_set HB.out kk (.bool x.on) (Nat.le_succ w.heap.size))
        have H0s : Hid (AB (wr.setCell ⟨w.heap.size + 1, kk, none⟩ (.bool x.on)) w.heap.size zS) := Lib.hid (((heap_setCell_other wr ⟨w.heap.size + 1, kk, none⟩ w.heap.size (.bool x.on) (by simp)).trans H0.out))
        generalize (stS (l.take k)).getD kk false = old at *
        clear hset hM HM H0 H1 HB hSl hxt
        subst hA
        rcases hfine with ⟨h, _, h3, h4⟩ | ⟨h, _, _⟩
        · have hw2 : (x.what == 2) = false := by simp; omega
          have hkey : x.key = (kk : Int) := by rw [← hkk, if_neg (by omega)]; omega
          rw [hkey] at c2
          clear h hkey hkk
          go_wp2_with fail
          exact ⟨⟨k + 1, by go_num, by omega, H0s.out, HS.out, HBs.out⟩, by simp [intOf]; omega⟩
        · have hw2 : (x.what == 2) = true := by simpa using h
          obtain rfl : kk = 40 := by rw [← hkk, if_pos h]
          clear h hkk
          go_wp2_with fail
          exact ⟨⟨k + 1, by go_num, by omega, H0s.out, HS.out, HBs.out⟩, by simp [intOf]; omega⟩
      · obtain rfl : k = u := by omega
        have h0 := H0.out
        have h1 := H1.out
        have hSl := stS_len (l.take k)
        have hi := ab_info _ hSl
        have ho := ab_one (stS (l.take k))
        have hzl : ((zS.map Value.bool).toArray).size = (((stS (l.take k)).map Value.bool).toArray).size := by simp [hSl, zS]
        unfold AB at h0 h1
        obtain ⟨cs, hcs⟩ : ∃ cs, ((stS (l.take k)).map Value.bool).toArray = cs := ⟨_, rfl⟩
        obtain ⟨cz, hcz⟩ : ∃ cz, (zS.map Value.bool).toArray = cz := ⟨_, rfl⟩
        rw [hcs] at h1 hi ho hzl
        rw [hcz] at h0 hzl
        have HE := Lib.hid hcs
        clear hcs hcz hSl H0 H1
        by_cases hlt : k < l.length
        · obtain ⟨b, o, hA, hb1, hat⟩ := HL.out.at_ (by omega)
          have hX := (hat k hlt).below HB.out hb1
          have hxt := HU2.out hlt
          clear hat HF HU1 HU2
          generalize l.getD k tcZ = x at *
          obtain ⟨c0, c1, c2, c3⟩ := hX
          have htd : decide (x.time ≤ t) = false := decide_eq_false (by omega)
          subst hA
          go_wp2_with (first | (refine wpList_load_row rfl 72 _ rfl (w.heap.size + 1) rfl _ _ (0, 0) _ h1 Try.underlying72 rfl hi ?_) | (refine wpList_store_row rfl 72 _ _ rfl w.heap.size cs rfl rfl _ _ h0 hi hzl ho ?_))
          exact bodyPost_ret (results_cell_row rfl _ _ _ _ _ (0, 0) _ rfl (setRow_heap _ _ _ _ _ _ h0) Try.underlying72 rfl hi) rfl ⟨by rw [HE.out], below_row HB.out _⟩
        · clear HF HU1 HU2
          go_wp2_with (first | (refine wpList_load_row rfl 72 _ rfl (w.heap.size + 1) rfl _ _ (0, 0) _ h1 Try.underlying72 rfl hi ?_) | (refine wpList_store_row rfl 72 _ _ rfl w.heap.size cs rfl rfl _ _ h0 hi hzl ho ?_))
          exact bodyPost_ret (results_cell_row rfl _ _ _ _ _ (0, 0) _ rfl (setRow_heap _ _ _ _ _ _ h0) Try.underlying72 rfl hi) rfl ⟨by rw [HE.out], below_row HB.out _⟩
  · have hz : errL l ≠ 0 := fun h => hg (errL_zero.1 h)
    rw [untilN_no hg, List.take_zero]
    clear hg
    generalize errL l = z at *
    have hzb : (z != 0) = true := by simpa using hz
    clear hz
    have hzs : stS [] = zS := rfl
    rw [hzs]
    clear hzs
    go_enter Try.func47, Try.ntmps47
    go_wp2_with fail
    refine (HCk.out _ (((Below.refl _ _).alloc (Nat.le_refl _) _).alloc (by simp) _)).mono ?_
    rintro e w1 ⟨rfl, hb⟩
    have h0 : AB w1 w.heap.size zS := (hb.block _ (by simp; omega)).trans (heap_alloc2_old _ _ _)
    have h1 : AB w1 (w.heap.size + 1) zS := (hb.block _ (by simp)).trans (heap_alloc2_new _ _ _)
    have HB1 : Hid (Below w.heap.size w w1) := Lib.hid ((((Below.refl _ _).alloc (Nat.le_refl _) _).alloc (by simp) _).trans (hb.mono (by simp; omega)))
    have hi := ab_info zS (by decide)
    have ho := ab_one zS
    unfold AB at h0 h1
    clear hb HCk
    obtain ⟨cs, hcs⟩ : ∃ cs, (zS.map Value.bool).toArray = cs := ⟨_, rfl⟩
    rw [hcs] at h0 h1 hi ho
    have HE := Lib.hid hcs
    clear hcs
    go_wp2_with (first | (refine wpList_load_row rfl 72 _ rfl (w.heap.size + 1) rfl _ _ (0, 0) _ h1 Try.underlying72 rfl hi ?_) | (refine wpList_store_row rfl 72 _ _ rfl w.heap.size cs rfl rfl _ _ h0 hi rfl ho ?_))
    exact bodyPost_ret (results_cell_row rfl _ _ _ _ _ (0, 0) _ rfl (setRow_heap _ _ _ _ _ _ h0) Try.underlying72 rfl hi) rfl ⟨by rw [HE.out], below_row HB1.out _⟩
end Go.Proofs.Ytofenjloieagaaa
namespace Go.Proofs.Ytofenjloieagaaa
open Go.RowKit
set_option linter.unusedSimpArgs false
set_option linter.unusedVariables false
set_option maxRecDepth 100000

theorem stS_is : ∀ (l : List Tc) (S : List Bool), S.length = 41 → AllFine l → ∀ i, i < 41 → (l.foldl setS S).getD i false = (if i = 40 then l.foldl (fun b x => if x.what = 2 then x.on else b) (S.getD 40 false) else l.foldl (fun b x => stepK x (i : Int) b) (S.getD i false)) := by
  intro l
  induction l with
  | nil => intro S _ _ i hi; simp only [List.foldl_nil]; split <;> simp_all
  | cons x l ih =>
    intro S hS hf i hi
    have hl : (setS S x).length = 41 := by rw [setS_len, hS]
    rw [List.foldl_cons, ih (setS S x) hl (fun y hy => hf y (List.mem_cons_of_mem _ hy)) i hi, List.foldl_cons, List.foldl_cons]
    have hx := hf x (List.mem_cons_self ..)
    have set_getD : ∀ (k j : Nat) (b : Bool), k < 41 → (S.set k b).getD j false = if k = j then b else S.getD j false := fun k j b hk => by
      simp only [List.getD_eq_getElem?_getD, List.getElem?_set]
      by_cases e : k = j
      · subst e
        rw [if_pos rfl, if_pos (by omega), if_pos rfl]; rfl
      · rw [if_neg e, if_neg e]
    rcases hx with ⟨h1, _, h3, h4⟩ | ⟨h1, _, _⟩
    · have e2 : ¬ x.what = 2 := by omega
      have es : setS S x = S.set x.key.toNat x.on := by unfold setS; rw [if_neg e2]
      split
      · rename_i h40
        rw [es, set_getD _ _ _ (by omega)]
        simp only [if_neg e2, if_neg (show ¬ x.key.toNat = 40 by omega)]
      · rw [es, set_getD _ _ _ (by omega)]
        congr 1
        unfold stepK
        by_cases e : x.key.toNat = i
        · rw [if_pos e, if_pos ⟨h1, by omega⟩]
        · rw [if_neg e, if_neg (fun h => e (by omega))]
    · have es : setS S x = S.set 40 x.on := by unfold setS; rw [if_pos h1]
      split
      · rw [es, set_getD _ _ _ (by omega)]
        simp only [if_pos h1, if_true]
      · rename_i h40
        rw [es, set_getD _ _ _ (by omega), if_neg (fun h => h40 h.symm)]
        congr 1
        unfold stepK
        rw [if_neg (fun h => by omega)]
theorem stS_key {l : List Tc} (hf : AllFine l) (i : Nat) (hi : i < 40) : (stS l).getD i false = downB l i := by
  unfold stS downB
  rw [stS_is l zS (by decide) hf i (by omega), if_neg (by omega)]
  congr 1
  unfold zS
  rw [List.getD_eq_getElem?_getD, List.getElem?_replicate, if_pos (by omega)]
  rfl
theorem stS_ear {l : List Tc} (hf : AllFine l) : (stS l).getD 40 false = earB l := by
  unfold stS earB
  rw [stS_is l zS (by decide) hf 40 (by omega), if_pos rfl]
  rfl
theorem fine_until {l : List Tc} (t : Int) : AllFine (l.take (untilN l t)) := by
  by_cases hg : Good l
  · intro x hx
    have := (good_iff.1 hg).2.2 x (List.mem_of_mem_take hx)
    exact this.1
  · rw [untilN_no hg, List.take_zero]; intro x hx; cases hx

theorem rear_any (w : World) (A : Option Addr) (c : Nat) (l : List Tc) (t : Int) (hl : TsAt w w.heap.size A l) (hc : l.length ≤ maxLen) :
    Calls Try.prog 19 #[.slice A l.length c, .int .i64 t] w fun e w' => e = .returned (.bool (earAt l t)) ∧ Below w.heap.size w w' := by
  have HS := Lib.hid (rstate_any w A c l t hl hc)
  have hE := stS_ear (fine_until (l := l) t)
  have hlen := stS_len (l.take (untilN l t))
  unfold earAt
  generalize stS (l.take (untilN l t)) = S at *
  generalize earB (l.take (untilN l t)) = er at *
  have hix : ∀ w, (Instr.index 72 (.agg (S.map Value.bool).toArray) (.int .i64 40)).run Try.prog w = .ok (.bool er) w := fun w => by
    have h40 : (S.map Value.bool).toArray[40]? = some (.bool er) := by
      rw [← hE]
      simp [List.getD_eq_getElem?_getD, List.getElem?_eq_getElem (show 40 < S.length by omega)]
    have hsz : (S.map Value.bool).toArray.size = 41 := by simp [hlen]
    generalize (S.map Value.bool).toArray = cs at *
    have h41 := (Array.getElem?_eq_some_iff.1 h40).choose_spec
    unfold Instr.index
    go_simp
  clear hE hlen hl hc
  go_enter Try.func19, Try.ntmps19
  go_wp2_with fail
  refine HS.out.mono ?_
  rintro e w1 ⟨rfl, hb⟩
  have HB := Lib.hid hb
  clear hb HS
  generalize (S.map Value.bool).toArray = cs at *
  go_wp2_with fail
  go_ret
  exact ⟨rfl, HB.out⟩
end Go.Proofs.Ytofenjloieagaaa
