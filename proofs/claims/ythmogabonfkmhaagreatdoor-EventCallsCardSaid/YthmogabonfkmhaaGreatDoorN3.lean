
/- The reference's Parse. -/
import Derived.Test.YthmogabonfkmhaaGreatDoorG0
import Derived.Test.YthmogabonfkmhaaGreatDoorN2
import Derived.Test.YthmogabonfkmhaaGreatDoorN8
import Derived.Test.YthmogabonfkmhaaGreatDoorF6
import Derived.Test.YthmogabonfkmhaaGreatDoorN6
import Derived.Laws.OwnMore
import Derived.Laws.DeepStrings4
import Derived.OwnWalk
import Derived.Deep.AppendLies
namespace Go.Proofs.YthmogabonfkmhaaGreatDoor
open Go.RowKit
set_option linter.unusedSimpArgs false
set_option linter.unusedVariables false
set_option maxRecDepth 100000

def strs (ws : List (List UInt8)) : List Value := ws.map fun l => Value.string ⟨l.toArray⟩
theorem strs_len (ws : List (List UInt8)) : (strs ws).length = ws.length := by simp [strs]
theorem strs_at (ws : List (List UInt8)) (j : Nat) (h : j < ws.length) : (strs ws)[j]? = some (.string (wb ws j)) := by
  unfold strs wb
  rw [List.getElem?_map, List.getElem?_eq_getElem h, List.getD_eq_getElem?_getD, List.getElem?_eq_getElem h]; rfl
theorem info_str : (Tryz.prog.info? 9).map (fun i => (i.zero, i.size, i.bytes)) = some (some (.string ⟨#[]⟩), 1, 16) := by kernel_rfl
theorem new_str (w : World) (v : Value) (t : TypeId) : ∀ j u, [v][j]? = some u → (w.alloc (.cells #[v] t)).cell? ((⟨w.heap.size, 0, none⟩ : Addr).add j) = some u := by
  intro j u hu
  cases j with
  | zero =>
    obtain rfl : v = u := by simpa using hu
    show (w.alloc (.cells #[v] t)).cell? ⟨w.heap.size, 0, none⟩ = some v
    rw [World.cell?_alloc_at _ _ _ _ rfl]
    first | done | rfl
  | succ j => simp at hu
theorem last_parts (ws : List (List UInt8)) (m : Nat) (h : ws.length = m + 1) : ∃ p x, ws = p ++ [x] ∧ p.length = m ∧ ws.dropLast = p ∧ ws.getLastD [] = x := by
  rcases List.eq_nil_or_concat ws with rfl | ⟨p, x, rfl⟩
  · simp at h
  · refine ⟨p, x, by rw [List.concat_eq_append], by simpa using h, by rw [List.concat_eq_append]; simp, by rw [List.concat_eq_append]; simp⟩
theorem strs_last (p : List (List UInt8)) (x : List UInt8) : (strs (p ++ [x]))[p.length]? = some (.string ⟨x.toArray⟩) := by
  unfold strs; simp
theorem wall_last : ∀ (n : Nat) (l : List UInt8), l.length = n → ((wall l).getLastD []).length ≤ n
  | 0, l, h => by obtain rfl := List.eq_nil_of_length_eq_zero h; simp [wall]
  | n + 1, l, h => by
    rcases List.eq_nil_or_concat l with rfl | ⟨p, c, rfl⟩
    · simp at h
    · rw [List.concat_eq_append] at h ⊢
      rw [wall_snoc]
      have h1 := wall_last n p (by simpa using h)
      unfold wstep
      split
      · simp
      · simp only [List.getLastD_eq_getLast?, List.getLast?_concat, Option.getD_some, List.length_append, List.length_cons, List.length_nil] at h1 ⊢
        omega
theorem one_byte (s : ByteArray) (k : Nat) (h : k < s.size) : s.extract k (k + 1) = ⟨#[s[k]]⟩ := by
  apply ByteArray.ext
  rw [ByteArray.data_extract]
  apply Array.ext
  · simp; have : s.data.size = s.size := rfl; omega
  · intro i h1 h2
    obtain rfl : i = 0 := by simp at h2; omega
    simp
    rfl
theorem strs_set (p : List (List UInt8)) (x y : List UInt8) : (strs (p ++ [x])).set p.length (.string ⟨y.toArray⟩) = strs (p ++ [y]) := by
  unfold strs; simp

/-- The words so far: a row of the call's own. -/
def WR (w : World) (s : ByteArray) (k : Nat) (v : Value) (wr : World) : Prop :=
  wr.ownsRow (w.heap.size + 1) 9 1 v (wall (s.data.toList.take k)).length (strs (wall (s.data.toList.take k))) ∧ Below (w.heap.size + 1) (w.alloc (evO zeroE)) wr

def RParsePost (s : ByteArray) (B : Nat) (w : World) (e : Ending) (w' : World) : Prop :=
  ((ToldR s.data.toList ∧ e = .returned (.tuple #[(sayR (wall s.data.toList)).val, .int .i64 0])) ∨ (¬ ToldR s.data.toList ∧ e = .returned (.tuple #[zeroE.val, .int .i64 4]))) ∧ Below B w w'

set_option maxHeartbeats 3200000 in
theorem rparse_any (s : ByteArray) (w : World) (hs : s.size ≤ 1000) : Calls Tryz.prog 11 #[.string s] w (RParsePost s w.heap.size w) := by
  have hsz : s.data.toList.length = s.size := Array.length_toList
  obtain ⟨i1, hi, hz0, hz1, hz2⟩ := info_parts info_str
  go_enter Tryz.func11, Tryz.ntmps11
  go_wp2_with fail
  go_loopw [4, 5] (fun v i wr => ∃ k : Nat, k ≤ s.size ∧ i = .int .i64 k ∧ WR w s k v wr) (fun _ i _ => s.size - (intOf i).toNat)
  case atStart =>
    refine ⟨0, by omega, rfl, ?_, (Below.refl _ _).alloc (by simp) _⟩
    have := World.ownsRow_lit (base := w.heap.size + 1) (e := 9) (size := 1) (w.alloc (evO zeroE)) #[.string ⟨#[]⟩] 1 (by simp) (by decide) rfl
    rw [show (w.alloc (evO zeroE)).heap.size = w.heap.size + 1 by simp] at this
    exact this
  case round =>
    obtain ⟨k, hk, rfl, hR⟩ := hrel
    by_cases hlt : k < s.size
    · have hlk : k < s.data.toList.length := by omega
      have htk : s.data.toList.take (k + 1) = s.data.toList.take k ++ [s[k]] := List.take_succ_eq_append_getElem hlk
      have hw1 : wall (s.data.toList.take (k + 1)) = wstep (wall (s.data.toList.take k)) s[k] := by rw [htk, wall_snoc]
      have hwl := wall_len (s.data.toList.take k)
      have hwm := wall_le k (s.data.toList.take k) (by simp; omega)
      obtain ⟨hO, hB⟩ := hR
      have hBs := hB.size
      simp at hBs
      by_cases h32 : s[k] = 32
      · have hc : s[k].toNat = 32 := by rw [h32]; rfl
        have hst : wstep (wall (s.data.toList.take k)) s[k] = wall (s.data.toList.take k) ++ [[]] := by unfold wstep; rw [if_pos h32]
        rw [hst] at hw1
        have HW := Lib.hid hw1
        have HO := Lib.hid hO
        have HB := Lib.hid hB
        clear hst hw1 htk h32 hO hB hsz
        generalize wall (s.data.toList.take k) = ws at *
        go_wp2_with (at_builtin; refine wpList_append_own _ rfl (.tmp 20) (.tmp 21) 51 rfl (w.heap.size + 1) 9 i1 (.string ⟨#[]⟩) 1 16 Tryz.underlying51 hi hz0 hz1 hz2 rfl (by decide) _ ws.length (strs ws) rfl (HO.out.alloc _) ⟨wr.heap.size, 0, none⟩ 1 1 [.string ⟨#[]⟩] rfl rfl (new_str wr _ _) (fun u hu => by obtain rfl := List.mem_singleton.1 hu; rfl) (by unfold maxLen; omega) (by omega) (by simp; omega) ?_; intro v' w' hown hg _; have HO2 := Lib.hid hown; have HG2 := Lib.hid hg; clear hown hg)
        refine ⟨⟨k + 1, by omega, by go_num, ?_, ?_⟩, by simp [intOf]; omega⟩
        · rw [HW.out]
          have := HO2.out
          simpa [strs] using this
        · exact (HB.out.alloc (by omega) _).grown HG2.out (by simp; omega) (fun k hk => (HO.out.lt k hk).1)
      · have hne : ¬ s[k].toNat = 32 := fun e => h32 (UInt8.toNat_inj.1 (by rw [e]; rfl))
        have hst : wstep (wall (s.data.toList.take k)) s[k] = (wall (s.data.toList.take k)).dropLast ++ [(wall (s.data.toList.take k)).getLastD [] ++ [s[k]]] := by unfold wstep; rw [if_neg h32]
        rw [hst] at hw1
        have hll := wall_last k (s.data.toList.take k) (by simp; omega)
        have hb1 := one_byte s k hlt
        obtain ⟨m, hm⟩ : ∃ m, (wall (s.data.toList.take k)).length = m + 1 := ⟨(wall (s.data.toList.take k)).length - 1, by omega⟩
        obtain ⟨p, x, hpx, hpm, hpd, hpl⟩ := last_parts _ m hm
        rw [hpd, hpl] at hw1
        rw [hpl] at hll
        rw [hm, hpx] at hO
        obtain ⟨g, cap, rfl, hg1, hg2⟩ := hO.form (by omega)
        have c0 := (hO.cellAt m (by omega)).trans (show (strs (p ++ [x]))[m]? = some (.string ⟨x.toArray⟩) by rw [← hpm]; exact strs_last p x)
        have f0 := hO.frozenAt m
        have ad := add_run ⟨x.toArray⟩ ⟨#[s[k]]⟩ (by have h1 : (⟨x.toArray⟩ : ByteArray).size = x.length := List.size_toArray; have h2 : (⟨#[s[k]]⟩ : ByteArray).size = 1 := rfl; omega)
        have sl := hb1
        have HS := Lib.hid (hO.stored m (.string ⟨(x ++ [s[k]]).toArray⟩))
        have hmk : m ≤ 1000 := by omega
        have hj : (⟨x.toArray⟩ : ByteArray) ++ ⟨#[s[k]]⟩ = ⟨(x ++ [s[k]]).toArray⟩ := by apply ByteArray.ext; simp
        have HW := Lib.hid hw1
        have HO := Lib.hid hO
        have HB := Lib.hid hB
        have HP := Lib.hid hpm
        clear hst hw1 htk h32 hO hB hsz hpx hpd hpl hm hwl hwm hll hb1 hpm
        go_wp2_with fail
        go_region
        go_wp2_with fail
        refine ⟨⟨k + 1, by omega, by go_num, ?_, ?_⟩, by simp [intOf]; omega⟩
        · rw [HW.out, show (p ++ [x ++ [s[k]]]).length = m + 1 by have := HP.out; simp; omega, ← strs_set p x, HP.out]
          exact HS.out.1.drew
        · exact (HB.out.grown HS.out.2 (by omega) (fun k hk => by obtain rfl := Option.some.inj hk; exact hg1)).drew
    · obtain rfl : k = s.size := by omega
      obtain ⟨hO, hB⟩ := hR
      rw [show s.data.toList.take s.size = s.data.toList by rw [← hsz, List.take_length]] at hO
      have hE1 := EW.laid w zeroE
      have hE3 := hE1.below (hB.mono (show w.heap.size + 1 ≤ w.heap.size + 1 from Nat.le_refl _)) (Nat.lt_succ_self _)
      have hB3 : Below w.heap.size w wr := ((Below.refl _ _).alloc (Nat.le_refl _) _).trans (hB.mono (Nat.le_succ _))
      have hz3 : w.heap.size < wr.heap.size := hE3.lt
      clear hE1 hB hk
      have hwe := wall_len s.data.toList
      have hwl := wall_le _ s.data.toList hsz
      by_cases hA : s.size ≤ 100
      · by_cases h5 : (wall s.data.toList).length = 5
        · have HTR := Lib.hid (show ToldR s.data.toList ↔ (sayR (wall s.data.toList)).May ∧ textE (sayR (wall s.data.toList)) = s.data.toList from ⟨fun h => h.2.2, fun h => ⟨by omega, h5, h⟩⟩)
          obtain ⟨g, cap, rfl, hg1, hg2⟩ := hO.form (by omega)
          have hcs : ∀ j, j < 5 → wr.cell? ⟨g, j, none⟩ = some (.string (wb (wall s.data.toList) j)) := fun j hj => (hO.cellAt j (by omega)).trans (strs_at _ j (by omega))
          have hq : ∃ p0 p1 p2 p3 p4, wr.cell? ⟨g, 0, none⟩ = some (.string p0) ∧ wr.cell? ⟨g, 1, none⟩ = some (.string p1) ∧ wr.cell? ⟨g, 2, none⟩ = some (.string p2) ∧ wr.cell? ⟨g, 3, none⟩ = some (.string p3) ∧ wr.cell? ⟨g, 4, none⟩ = some (.string p4) ∧
              ∃ v0 kk v2 v3 v4, numR p0.data.toList = v0 ∧ kindG p1 12 = kk ∧ numR p2.data.toList = v2 ∧ numR p3.data.toList = v3 ∧ numR p4.data.toList = v4 ∧ sayR (wall s.data.toList) = ⟨v0, chipOf kk, v2, kk, v3, v4⟩ :=
            ⟨_, _, _, _, _, hcs 0 (by decide), hcs 1 (by decide), hcs 2 (by decide), hcs 3 (by decide), hcs 4 (by decide), _, _, _, _, _, rfl, rfl, rfl, rfl, rfl, rfl⟩
          clear hcs
          rw [h5] at hO ⊢
          obtain ⟨p0, p1, p2, p3, p4, a0, a1, a2, a3, a4, v0, kk, v2, v3, v4, hv0, hkk, hv2, hv3, hv4, hsay⟩ := hq
          have HY := Lib.hid hsay
          have W0 := Lib.hid (fun w => hv0 ▸ p3number_any p0 w)
          have W2 := Lib.hid (fun w => hv2 ▸ p3number_any p2 w)
          have W3 := Lib.hid (fun w => hv3 ▸ p3number_any p3 w)
          have W4 := Lib.hid (fun w => hv4 ▸ p3number_any p4 w)
          have HK := Lib.hid hkk
          have HN := Lib.hid (⟨a0, a2, a3, a4⟩ : _ ∧ _ ∧ _ ∧ _)
          have H5 := Lib.hid h5
          clear hv0 hv2 hv3 hv4 hkk hsay h5 hO hwe hwl hsz a0 a2 a3 a4
          go_wp2_with fail
          obtain ⟨w3, rfl⟩ : ∃ x, x = wr := ⟨_, rfl⟩
          go_loopw [6, 7] (fun kd i w2 => ∃ j : Nat, j ≤ 12 ∧ i = .int .i64 ((j : Int) + 1) ∧ kd = .int .i64 (kindG p1 j) ∧ Below w3.heap.size w3 w2) (fun _ i _ => 13 - (intOf i).toNat)
          case atStart => exact ⟨0, by omega, rfl, rfl, Below.refl _ _⟩
          case round =>
            obtain ⟨j, hj, rfl, rfl, hb2⟩ := hrel
            have hsz2 := hb2.size
            by_cases hlt : j < 12
            · have cw : wr.cell? ⟨g, 1, none⟩ = some (.string p1) := (hb2.cell (p := ⟨g, 1, none⟩) hg2).trans a1
              have hgw : g < wr.heap.size := by omega
              have hkn : kindG p1 (j + 1) = if nameB (j + 1) = p1 then ((j + 1 : Nat) : Int) else kindG p1 j := rfl
              have HKN := Lib.hid hkn
              have HA1 := Lib.hid a1
              clear hkn a1
              have y1 : ∀ p : Later (fun _ => False) wr, p.w.cell? ⟨g, 1, none⟩ = some (.string p1) := fun p => p.cell cw (fun h => h)
              clear cw
              by_cases he : nameB (j + 1) = p1
              · have b2 : ((nameB (j + 1)).toList == p1.toList) = true := by rw [he]; exact beq_self_eq_true _
                have HE := Lib.hid he
                clear he
                go_upto_region 14 with fail
                refine L.region_ (fun _ => False) (by kernel_rfl) ?_
                refine L.seg_ [1, 4, 5, 6] 4 _ (by kernel_rfl) (by kernel_rfl) (by kernel_rfl) (by simp only [pickOps, mask, plain, List.getElem?_toArray, List.getElem?_cons_zero, List.getElem?_cons_succ, if_true]; rfl) ?_
                repeat (go_big_quiet_step (fail))
                refine wpQuiet_nil ?_
                clear y1
                refine L.call_ (i := 0) rfl (by kernel_rfl) (by kernel_rfl) ?_
                intro wa sa
                unfold Oper.does
                go_simp
                refine (rnames_any wa).mono ?_
                rintro e w' ⟨rfl, rfl⟩
                refine ⟨_, rfl, same_ sa (Save.of_below ((Below.refl _ _).alloc (Nat.le_refl _) _)) ?_⟩
                have hBa : Below w3.heap.size w3 (wa.alloc names13) := (hb2.trans (sa.all.mono hsz2)).alloc (Nat.le_trans hsz2 sa.all.size) _
                have y2 : ∀ p : Later (fun _ => False) (wa.alloc names13), p.w.cell? ⟨wa.heap.size, j + 1, none⟩ = some (.string (nameB (j + 1))) := fun p => p.cell (names13_at wa (j + 1) (by omega)) (fun h => h)
                clear sa
                go_simp
                refine L.seg_ [2, 3, 7] 0 _ (by kernel_rfl) (by kernel_rfl) (by kernel_rfl) (by simp only [pickOps, mask, plain, List.getElem?_toArray, List.getElem?_cons_zero, List.getElem?_cons_succ, if_true]; rfl) ?_
                repeat (go_big_quiet_step (fail))
                refine wpQuiet_nil ?_
                clear y2
                refine L.end_ (by kernel_rfl) ?_
                intro wc sc
                have hBd := hBa.trans (sc.all.mono hBa.size)
                go_wp2_with fail
                refine ⟨⟨j + 1, by omega, by go_num, by rw [HKN.out, if_pos HE.out]; go_num, hBd⟩, by simp [intOf]; omega⟩
              · have b2 : ((nameB (j + 1)).toList == p1.toList) = false := tl_ne he
                have HE := Lib.hid he
                clear he
                go_upto_region 14 with fail
                refine L.region_ (fun _ => False) (by kernel_rfl) ?_
                refine L.seg_ [1, 4, 5, 6] 4 _ (by kernel_rfl) (by kernel_rfl) (by kernel_rfl) (by simp only [pickOps, mask, plain, List.getElem?_toArray, List.getElem?_cons_zero, List.getElem?_cons_succ, if_true]; rfl) ?_
                repeat (go_big_quiet_step (fail))
                refine wpQuiet_nil ?_
                clear y1
                refine L.call_ (i := 0) rfl (by kernel_rfl) (by kernel_rfl) ?_
                intro wa sa
                unfold Oper.does
                go_simp
                refine (rnames_any wa).mono ?_
                rintro e w' ⟨rfl, rfl⟩
                refine ⟨_, rfl, same_ sa (Save.of_below ((Below.refl _ _).alloc (Nat.le_refl _) _)) ?_⟩
                have hBa : Below w3.heap.size w3 (wa.alloc names13) := (hb2.trans (sa.all.mono hsz2)).alloc (Nat.le_trans hsz2 sa.all.size) _
                have y2 : ∀ p : Later (fun _ => False) (wa.alloc names13), p.w.cell? ⟨wa.heap.size, j + 1, none⟩ = some (.string (nameB (j + 1))) := fun p => p.cell (names13_at wa (j + 1) (by omega)) (fun h => h)
                clear sa
                go_simp
                refine L.seg_ [2, 3, 7] 0 _ (by kernel_rfl) (by kernel_rfl) (by kernel_rfl) (by simp only [pickOps, mask, plain, List.getElem?_toArray, List.getElem?_cons_zero, List.getElem?_cons_succ, if_true]; rfl) ?_
                repeat (go_big_quiet_step (fail))
                refine wpQuiet_nil ?_
                clear y2
                refine L.end_ (by kernel_rfl) ?_
                intro wc sc
                have hBd := hBa.trans (sc.all.mono hBa.size)
                go_wp2_with fail
                refine ⟨⟨j + 1, by omega, by go_num, by rw [HKN.out, if_neg HE.out], hBd⟩, by simp [intOf]; omega⟩
            · obtain rfl : j = 12 := by omega
              rw [HK.out]
              obtain ⟨w5, rfl⟩ : ∃ x, x = wr := ⟨_, rfl⟩
              have hg5 : g < w5.heap.size := by omega
              have hE5 := hE3.below hb2 hz3
              have hB5' := hB3.trans (hb2.mono hB3.size)
              have hz5 : w.heap.size < w5.heap.size := hE5.lt
              have f0 : ∀ p : M.Of (M.Base w5), p.w.cell? ⟨g, 0, none⟩ = some (.string p0) := fun p => (p.ok.2.cell (p := ⟨g, 0, none⟩) hg5).trans ((hb2.cell (p := ⟨g, 0, none⟩) hg2).trans HN.out.1)
              have f2 : ∀ p : M.Of (M.Base w5), p.w.cell? ⟨g, 2, none⟩ = some (.string p2) := fun p => (p.ok.2.cell (p := ⟨g, 2, none⟩) hg5).trans ((hb2.cell (p := ⟨g, 2, none⟩) hg2).trans HN.out.2.1)
              have f3 : ∀ p : M.Of (M.Base w5), p.w.cell? ⟨g, 3, none⟩ = some (.string p3) := fun p => (p.ok.2.cell (p := ⟨g, 3, none⟩) hg5).trans ((hb2.cell (p := ⟨g, 3, none⟩) hg2).trans HN.out.2.2.1)
              have f4 : ∀ p : M.Of (M.Base w5), p.w.cell? ⟨g, 4, none⟩ = some (.string p4) := fun p => (p.ok.2.cell (p := ⟨g, 4, none⟩) hg5).trans ((hb2.cell (p := ⟨g, 4, none⟩) hg2).trans HN.out.2.2.2)
              clear a1 hE3 hB3
              go_upto_region 16 with fail
              refine M.region_ (by kernel_rfl) ?_
              refine M.seg_ [0, 1, 2, 4, 6, 7, 8, 10, 11, 12, 13, 15, 16, 17] 8 _ w5 (M.Base.refl _) (by kernel_rfl) (by kernel_rfl) (by kernel_rfl) (by simp only [pickOps, mask, plain, List.getElem?_toArray, List.getElem?_cons_zero, List.getElem?_cons_succ, if_true]; rfl) ?_
              repeat (go_big_quiet_step (fail))
              refine wpQuiet_nil ?_
              clear f0 f2 f3 f4
              refine M.calm_ (i := 3) (.int .i64 v0) rfl (by kernel_rfl) (by kernel_rfl) (by kernel_rfl) (by kernel_rfl) ?_ ?_
              · intro wz sz
                unfold Oper.does
                go_simp
                exact (W0.out wz).mono fun e w' ⟨he, hw⟩ => ⟨_, he, rfl, hw ▸ Save.refl _ _⟩
              refine M.calm_ (i := 5) (.int .i64 (chipOf kk)) rfl (by kernel_rfl) (by kernel_rfl) (by kernel_rfl) (by kernel_rfl) ?_ ?_
              · intro wz sz
                unfold Oper.does
                go_simp
                exact (rchip_any kk wz).mono fun e w' ⟨he, hw⟩ => ⟨_, he, rfl, hw ▸ Save.refl _ _⟩
              refine M.calm_ (i := 9) (.int .i64 v2) rfl (by kernel_rfl) (by kernel_rfl) (by kernel_rfl) (by kernel_rfl) ?_ ?_
              · intro wz sz
                unfold Oper.does
                go_simp
                exact (W2.out wz).mono fun e w' ⟨he, hw⟩ => ⟨_, he, rfl, hw ▸ Save.refl _ _⟩
              refine M.calm_ (i := 14) (.int .i64 v3) rfl (by kernel_rfl) (by kernel_rfl) (by kernel_rfl) (by kernel_rfl) ?_ ?_
              · intro wz sz
                unfold Oper.does
                go_simp
                exact (W3.out wz).mono fun e w' ⟨he, hw⟩ => ⟨_, he, rfl, hw ▸ Save.refl _ _⟩
              refine M.calm_ (i := 18) (.int .i64 v4) rfl (by kernel_rfl) (by kernel_rfl) (by kernel_rfl) (by kernel_rfl) ?_ ?_
              · intro wz sz
                unfold Oper.does
                go_simp
                exact (W4.out wz).mono fun e w' ⟨he, hw⟩ => ⟨_, he, rfl, hw ▸ Save.refl _ _⟩
              refine M.calm_ (i := 19) (.agg #[.int .i64 v0, .int .i64 (chipOf kk), .int .i64 v2, .int .i64 kk, .int .i64 v3, .int .i64 v4]) rfl (by kernel_rfl) (by kernel_rfl) (by kernel_rfl) (by kernel_rfl) ?_ ?_
              · intro wz sz
                unfold Oper.does
                go_simp
                exact Save.refl _ _
              refine M.call_ (i := 20) rfl (by kernel_rfl) (by kernel_rfl) ?_
              intro wa sa
              unfold Oper.does
              go_simp
              have hna : w5.heap.size ≤ wa.heap.size := sa.1
              refine ⟨fun w' => M.Base w5 w' ∧ EW w' wa.heap.size zeroE, ⟨sa.below ((Below.refl _ _).alloc sa.1 _), EW.laid wa zeroE⟩, closed_ev _ _ _, fun w' h => h.1, ?_⟩
              clear sa
              generalize wa.heap.size = n at hna ⊢
              refine M.call_ (i := 21) rfl (by kernel_rfl) (by kernel_rfl) ?_
              rintro wb ⟨sb, hE⟩
              obtain ⟨c0, c1, c2, c3, c4, c5⟩ := hE.ev
              have g0 := hE.free 0
              have g1 := hE.free 1
              have g2 := hE.free 2
              have g3 := hE.free 3
              have g4 := hE.free 4
              have g5 := hE.free 5
              unfold Oper.does
              go_simp
              clear c0 c1 c2 c3 c4 c5 g0 g1 g2 g3 g4 g5
              refine ⟨fun w' => M.Base w5 w' ∧ EW w' n ⟨v0, chipOf kk, v2, kk, v3, v4⟩, ⟨sb.below (putEv_below wb n ⟨v0, chipOf kk, v2, kk, v3, v4⟩ hna), putEv_ew hE ⟨v0, chipOf kk, v2, kk, v3, v4⟩⟩, closed_ev _ _ _, fun w' h => h.1, ?_⟩
              clear sb hE
              refine M.end_ (by kernel_rfl) ?_
              rintro wc ⟨sc, hEc⟩
              rw [← HY.out] at hEc
              have hZ := hE5.below sc.2 hz5
              have hBc := hB5'.trans (sc.2.mono hB5'.size)
              clear hE5 hB5' sc
              obtain ⟨x, hx⟩ : ∃ x, sayR (wall s.data.toList) = x := ⟨_, rfl⟩
              have HT2 := HTR.out
              clear HTR
              rw [hx] at hEc HT2
              have HX := Lib.hid hx
              clear hx
              have hnl : n < wc.heap.size := hEc.lt
              have hn2 : w.heap.size < n := by omega
              have HC := Lib.hid (fun w => r3check_any w x)
              have hval : x.val = .agg #[.int .i64 x.time, .int .i64 x.chip, .int .i64 x.seq, .int .i64 x.kind, .int .i64 x.a, .int .i64 x.b] := rfl
              have HV := Lib.hid hval
              clear hval
              by_cases hm : x.May
              · by_cases ht : textE x = s.data.toList
                · have HR := Lib.hid (fun w => rtext_may w x hm)
                  have HS := Lib.hid (show (⟨(textE x).toArray⟩ : ByteArray) = s by rw [ht])
                  have HT := Lib.hid (HT2.2 ⟨hm, ht⟩)
                  have HM := Lib.hid hm
                  clear HT2 ht hm
                  obtain ⟨c0, c1, c2, c3, c4, c5⟩ := hEc.ev
                  go_wp2_with fail
                  rw [← HV.out]
                  clear c0 c1 c2 c3 c4 c5
                  refine (HC.out _).mono ?_
                  rintro e w4 ⟨he, hb⟩
                  have he0 : e = .returned (.int .i64 0) := by
                    rcases he with ⟨he, _⟩ | ⟨_, hn⟩
                    · exact he
                    · exact absurd HM.out hn
                  subst he0
                  clear he
                  have hE4 := hEc.below hb hnl
                  have hZ4 := hZ.below hb hZ.lt
                  have hB4 := hBc.trans (hb.mono hBc.size)
                  have hn4 : n < w4.heap.size := hE4.lt
                  clear hb hEc hZ hBc
                  obtain ⟨c0, c1, c2, c3, c4, c5⟩ := hE4.ev
                  go_wp2_with fail
                  rw [← HV.out]
                  clear c0 c1 c2 c3 c4 c5
                  refine (HR.out _).mono ?_
                  rintro e w6 ⟨he, hb⟩
                  rw [HS.out] at he
                  subst he
                  have hE6 := hE4.below hb hn4
                  have hZ6 := hZ4.below hb hZ4.lt
                  have hB6 := hB4.trans (hb.mono hB4.size)
                  clear hb hE4 hZ4 hB4
                  obtain ⟨c0, c1, c2, c3, c4, c5⟩ := hE6.ev
                  obtain ⟨d0, d1, d2, d3, d4, d5⟩ := hZ6.ev
                  have g0 := hZ6.free 0
                  have g1 := hZ6.free 1
                  have g2 := hZ6.free 2
                  have g3 := hZ6.free 3
                  have g4 := hZ6.free 4
                  have g5 := hZ6.free 5
                  go_wp2_with fail
                  (try simp only [Exit.inBlock, Exit.then])
                  exact bodyPost_ret (v := .tuple #[x.val, .int .i64 0]) (results_ev rfl _ _ _ x _ rfl rfl (putEv_ew hZ6 x)) rfl ⟨Or.inl ⟨HT.out, by rw [HX.out]⟩, hB6.trans (putEv_below _ _ x (Nat.le_refl _))⟩
                · obtain ⟨T, hT⟩ : ∃ T, (⟨(textE x).toArray⟩ : ByteArray) = T := ⟨_, rfl⟩
                  have hTn : T ≠ s := fun h => ht (by rw [← hT] at h; rw [← h])
                  have hR := fun w => rtext_may w x hm
                  rw [hT] at hR
                  have HR := Lib.hid hR
                  have HT := Lib.hid (fun h => ht (HT2.1 h).2)
                  have HM := Lib.hid hm
                  have b1 := tl_ne hTn
                  have b2 : (T.toList != s.toList) = true := by unfold bne; rw [b1]; rfl
                  clear HT2 ht hm hR hT hTn
                  obtain ⟨c0, c1, c2, c3, c4, c5⟩ := hEc.ev
                  go_wp2_with fail
                  rw [← HV.out]
                  clear c0 c1 c2 c3 c4 c5
                  refine (HC.out _).mono ?_
                  rintro e w4 ⟨he, hb⟩
                  have he0 : e = .returned (.int .i64 0) := by
                    rcases he with ⟨he, _⟩ | ⟨_, hn⟩
                    · exact he
                    · exact absurd HM.out hn
                  subst he0
                  clear he
                  have hE4 := hEc.below hb hnl
                  have hZ4 := hZ.below hb hZ.lt
                  have hB4 := hBc.trans (hb.mono hBc.size)
                  have hn4 : n < w4.heap.size := hE4.lt
                  clear hb hEc hZ hBc
                  obtain ⟨c0, c1, c2, c3, c4, c5⟩ := hE4.ev
                  go_wp2_with fail
                  rw [← HV.out]
                  clear c0 c1 c2 c3 c4 c5
                  refine (HR.out _).mono ?_
                  rintro e w6 ⟨rfl, hb⟩
                  have hZ5 := hZ4.below hb hZ4.lt
                  have hB5 := hB4.trans (hb.mono hB4.size)
                  clear hb hE4 hZ4 hB4
                  obtain ⟨d0, d1, d2, d3, d4, d5⟩ := hZ5.ev
                  have g0 := hZ5.free 0
                  have g1 := hZ5.free 1
                  have g2 := hZ5.free 2
                  have g3 := hZ5.free 3
                  have g4 := hZ5.free 4
                  have g5 := hZ5.free 5
                  go_wp2_with fail
                  (try simp only [Exit.inBlock, Exit.then])
                  exact bodyPost_ret (v := .tuple #[zeroE.val, .int .i64 4]) (results_ev rfl _ _ _ zeroE _ rfl rfl (putEv_ew hZ5 zeroE)) rfl ⟨Or.inr ⟨HT.out, rfl⟩, hB5.trans (putEv_below _ _ zeroE (Nat.le_refl _))⟩
              · have HT := Lib.hid (fun h => hm (HT2.1 h).1)
                have HM := Lib.hid hm
                clear HT2 hm
                obtain ⟨c0, c1, c2, c3, c4, c5⟩ := hEc.ev
                go_wp2_with fail
                rw [← HV.out]
                clear c0 c1 c2 c3 c4 c5
                refine (HC.out _).mono ?_
                rintro e w4 ⟨he, hb⟩
                have he0 : e = .returned (.int .i64 2) := by
                  rcases he with ⟨_, hn⟩ | ⟨he, _⟩
                  · exact absurd hn HM.out
                  · exact he
                subst he0
                clear he
                have hZ5 := hZ.below hb hZ.lt
                have hB5 := hBc.trans (hb.mono hBc.size)
                clear hb hEc hZ hBc
                obtain ⟨d0, d1, d2, d3, d4, d5⟩ := hZ5.ev
                have g0 := hZ5.free 0
                have g1 := hZ5.free 1
                have g2 := hZ5.free 2
                have g3 := hZ5.free 3
                have g4 := hZ5.free 4
                have g5 := hZ5.free 5
                go_wp2_with fail
                (try simp only [Exit.inBlock, Exit.then])
                exact bodyPost_ret (v := .tuple #[zeroE.val, .int .i64 4]) (results_ev rfl _ _ _ zeroE _ rfl rfl (putEv_ew hZ5 zeroE)) rfl ⟨Or.inr ⟨HT.out, rfl⟩, hB5.trans (putEv_below _ _ zeroE (Nat.le_refl _))⟩
        · have HT := Lib.hid (show ¬ ToldR s.data.toList from fun h => h5 h.2.1)
          obtain ⟨n, hn⟩ : ∃ n, (wall s.data.toList).length = n := ⟨_, rfl⟩
          rw [hn] at hO h5 hwe hwl
          obtain ⟨g, cap, rfl, hg1, hg2⟩ := hO.form (by omega)
          have b1 : ((n : Int) != 5) = true := by simp only [bne_iff_ne, ne_eq]; omega
          have b3 : ((n : Int) == 5) = false := by simp only [beq_eq_false_iff_ne, ne_eq]; omega
          clear hn h5 hO hsz
          obtain ⟨d0, d1, d2, d3, d4, d5⟩ := hE3.ev
          have g0 := hE3.free 0
          have g1 := hE3.free 1
          have g2 := hE3.free 2
          have g3 := hE3.free 3
          have g4 := hE3.free 4
          have g5 := hE3.free 5
          go_wp2_with fail
          (try simp only [Exit.inBlock, Exit.then])
          exact bodyPost_ret (v := .tuple #[zeroE.val, .int .i64 4]) (results_ev rfl _ _ _ zeroE _ rfl rfl (putEv_ew hE3 zeroE)) rfl ⟨Or.inr ⟨HT.out, rfl⟩, hB3.trans (putEv_below _ _ zeroE (Nat.le_refl _))⟩
      · have HT := Lib.hid (show ¬ ToldR s.data.toList from fun h => hA (by have := h.1; omega))
        have hA2 : 100 < s.size := by omega
        clear hA hO hsz hwe hwl
        obtain ⟨d0, d1, d2, d3, d4, d5⟩ := hE3.ev
        have g0 := hE3.free 0
        have g1 := hE3.free 1
        have g2 := hE3.free 2
        have g3 := hE3.free 3
        have g4 := hE3.free 4
        have g5 := hE3.free 5
        go_wp2_with fail
        (try simp only [Exit.inBlock, Exit.then])
        exact bodyPost_ret (v := .tuple #[zeroE.val, .int .i64 4]) (results_ev rfl _ _ _ zeroE _ rfl rfl (putEv_ew hE3 zeroE)) rfl ⟨Or.inr ⟨HT.out, rfl⟩, hB3.trans (putEv_below _ _ zeroE (Nat.le_refl _))⟩
end Go.Proofs.YthmogabonfkmhaaGreatDoor
