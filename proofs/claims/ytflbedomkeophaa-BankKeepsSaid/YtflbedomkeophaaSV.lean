
/- Package bank: stretches, walked. -/
import Derived.Test.YtflbedomkeophaaSS
import Derived.Test.YtflbedomkeophaaSI
import Derived.Deep.DeepCutAuto
namespace Go.Proofs.Ytflbedomkeophaa
open Go.RowKit
set_option linter.unusedSimpArgs false
set_option linter.unusedVariables false
set_option maxRecDepth 100000

/-- A list of patches of the call's own, with this data. -/
def PatTo (w : World) (B : Nat) (ds : List PP) (e : Ending) (w' : World) : Prop :=
  ∃ v ps, e = .returned v ∧ OPs w' B v ps ∧ ps.map Pt.pp = ds ∧ (∀ x ∈ ps, 0 ≤ x.b ∧ x.b < 1000000 ∧ 0 ≤ x.p ∧ x.p < 1000000 ∧ x.l.length ≤ 140737488355328) ∧ Below w.heap.size w w'
/-- A piece of a bank, as bytes. -/
theorem bank_rb {w : World} {g : Nat} {L : List Int} (h : w.heap[g]? = bankC L) (hl : L.length = 16384) (ha : AllB L) (p n : Nat) (hn : p + n ≤ 16384) (hp : p < 16384) : RB w w.heap.size (some ⟨g, p, none⟩) (16384 - p) ((L.drop p).take n) := by
  have hlen : ((L.drop p).take n).length = n := by rw [List.length_take, List.length_drop]; omega
  refine ⟨by rw [hlen]; omega, by unfold maxLen; omega, (ha.drop _).take _, .inr ⟨_, rfl, fun h0 => ⟨rfl, (Array.getElem?_eq_some_iff.1 h).1, fun i hi => ?_⟩⟩⟩
  rw [hlen] at hi
  show w.cell? ⟨g, p + i, none⟩ = _
  rw [cell_of_row _ _ _ _ _ _ h]
  have e : ((L.drop p).take n).getD i 0 = L.getD (p + i) 0 := by
    simp only [List.getD_eq_getElem?_getD]
    rw [List.getElem?_take, if_pos hi, List.getElem?_drop]
  rw [e]
  have hl2 : p + i < L.length := by omega
  simp [List.getD_eq_getElem?_getD, List.getElem?_eq_getElem hl2]
/-- stretches, while it goes. -/
structure Sw (w wr : World) (b g : Nat) (L : List Int) (v : Value) (ps : List Pt) (ds : List PP) : Prop where
  ops : OPs wr w.heap.size v ps
  data : ps.map Pt.pp = ds
  good : ∀ x ∈ ps, 0 ≤ x.b ∧ x.b < 1000000 ∧ 0 ≤ x.p ∧ x.p < 1000000 ∧ x.l.length ≤ 140737488355328
  bel : Below w.heap.size w wr
theorem new_pt2 (w : World) (y : Pt) : ∀ j u, y.cells[j]? = some u → (w.alloc y.obj).cell? ((⟨w.heap.size, 0, none⟩ : Addr).add j) = some u := by
  intro j u hu
  have hadd : (⟨w.heap.size, 0, none⟩ : Addr).add j = ⟨w.heap.size, j, none⟩ := by unfold Addr.add; split <;> simp_all
  rw [hadd, cell_of_row _ _ _ _ _ (0, 0) (heap_alloc_new _ _), ← hu]
  simp [Pt.cells]
/-- One more patch, whose bytes were just laid. -/
theorem Sw.push {w wr w1 w2 : World} {b g : Nat} {L : List Int} {v v' : Value} {ps : List Pt} {ds : List PP} (t : Sw w wr b g L v ps ds) (hb : Below wr.heap.size wr w1) (y : Pt) (hy : OB w1 w.heap.size y.A y.c y.l)
    (hg : 0 ≤ y.b ∧ y.b < 1000000 ∧ 0 ≤ y.p ∧ y.p < 1000000 ∧ y.l.length ≤ 140737488355328)
    (ho : w2.ownsRow w.heap.size 29 3 v' (ps.length + 1) (cellsP ps ++ y.cells)) (hw : (w1.alloc y.obj).grownBy w2 v.ownBlock) : Sw w w2 b g L v' (ps ++ [y]) (ds ++ [y.pp]) := by
  have hbA : Below w1.heap.size w1 (w1.alloc y.obj) := (Below.refl _ _).alloc (Nat.le_refl _) _
  have hb1 := t.bel.trans (hb.mono t.bel.size)
  have hb2 := hb1.alloc hb1.size y.obj
  have h1 := (t.ops.below hb).below hbA
  refine ⟨h1.pushed (qs := [y]) (fun x hx => by obtain rfl := List.mem_singleton.1 hx; exact hy.below hbA (Nat.le_refl _)) ho hw, by rw [List.map_append, t.data]; rfl, fun x hx => ?_, hb2.grown hw hb2.size (fun k e => (t.ops.row.lt k e).1)⟩
  rcases List.mem_append.1 hx with h2 | h2
  · exact t.good x h2
  · obtain rfl := List.mem_singleton.1 h2; exact hg
theorem Sw.twin {w wr wt : World} {b g : Nat} {L : List Int} {v : Value} {ps : List Pt} {ds : List PP} (t : Sw w wr b g L v ps ds) (hb : Below wr.heap.size wr wt) : Sw w wt b g L v ps ds :=
  ⟨t.ops.below hb, t.data, t.good, t.bel.trans (hb.mono t.bel.size)⟩
theorem ouK_len (L : List Int) (k : Nat) : (ouK L k).length ≤ k := by have := ouK_few L k; have := frK_le L k; omega

set_option maxHeartbeats 4000000 in
theorem stretches_any (w : World) (b g : Nat) (L : List Int) (hb12 : b < 12) (hh : w.heap[g]? = bankC L) (hl : L.length = 16384) (ha : AllB L) :
    Calls Try.prog 31 #[.int .i64 b, .pointer (some ⟨g, 0, none⟩)] w (PatTo w w.heap.size (bankP b L)) := by
  have HH := Lib.hid hh
  have HA := Lib.hid ha
  have HL := Lib.hid hl
  obtain ⟨i0, hi, hz0, hz1, hz2⟩ := info_parts info_patch
  have HI := Lib.hid (And.intro hi (And.intro hz0 (And.intro hz1 hz2)))
  have hS0 : Sw w w b g L (.slice none 0 0) [] [] := ⟨OPs.nil _ _, rfl, (fun x hx => by cases hx), Below.refl _ _⟩
  have HS0 := Lib.hid hS0
  clear hh ha hl hi hz0 hz1 hz2 hS0
  go_enter Try.func31, Try.ntmps31
  go_wp2_with fail
  go_loopw [5, 6, 10] (fun v f i wr => ∃ (k : Nat) (ps : List Pt), i = .int .i64 k ∧ k ≤ 16384 ∧ f = .int .i64 (frK L k : Nat) ∧ Hid (Sw w wr b g L v ps ((ouK L k).map fun x => (b, x.1, x.2)))) (fun _ _ i _ => 16384 - (intOf i).toNat)
  case atStart => exact ⟨0, [], rfl, by omega, rfl, HS0⟩
  case round =>
    rename World => wr
    obtain ⟨k, ps, rfl, hk, rfl, HS⟩ := hrel
    by_cases hlt : k < 16384
    · have hc : wr.cell? ⟨g, k, none⟩ = some (.int .u8 (L.getD k 0)) := by
        rw [cell_of_row _ _ _ _ _ _ ((HS.out.bel.block _ (Array.getElem?_eq_some_iff.1 HH.out).1).trans HH.out)]
        have hl2 : k < L.length := by have := HL.out; omega
        simp [List.getD_eq_getElem?_getD, List.getElem?_eq_getElem hl2]
      have hf := frK_le L k
      have HG1 := Lib.hid ((HS.out.bel.block _ (Array.getElem?_eq_some_iff.1 HH.out).1).trans HH.out)
      replace HS := Lib.hid (HS.out.twin (Below.drew (Below.refl _ _)))
      obtain ⟨v0, hv0⟩ : ∃ v0, L.getD k 0 = v0 := ⟨_, rfl⟩
      rw [hv0] at hc
      have HV := Lib.hid hv0
      clear hv0
      go_upto_region 5 with fail
      go_region_law (fail)
      obtain ⟨wd, hwd⟩ : ∃ wd, wr.drew = wd := ⟨_, rfl⟩
      rw [hwd] at HS ⊢
      replace HG1 : Hid (wd.heap[g]? = bankC L) := by rw [← hwd]; exact HG1
      clear hwd hc
      by_cases h0 : v0 = 0
      · subst h0
        have HF1 := Lib.hid (show frK L (k + 1) = k + 1 by rw [frK, if_pos HV.out])
        by_cases h1 : frK L k < k
        · have HO1 := Lib.hid (show ouK L (k + 1) = ouK L k ++ [(frK L k, (L.drop (frK L k)).take (k - frK L k))] by rw [ouK, if_pos ⟨HV.out, h1⟩])
          have HRB := Lib.hid (bank_rb HG1.out HL.out HA.out (frK L k) (k - frK L k) (by omega) (by omega))
          have HLen := Lib.hid (show ((L.drop (frK L k)).take (k - frK L k)).length = k - frK L k by rw [List.length_take, List.length_drop, HL.out]; omega)
          have hps : ps.length ≤ 16384 := by
            have h1 := congrArg List.length HS.out.data
            have h2 := ouK_len L k
            rw [List.length_map, List.length_map] at h1
            omega
          generalize frK L k = f at *
          obtain ⟨m, hm⟩ : ∃ m, (L.drop f).take (k - f) = m := ⟨_, rfl⟩
          rw [hm] at HO1 HRB HLen
          clear hm HV
          have t1 : ((f : Nat) : Int) < ((k : Nat) : Int) := by omega
          have t2 : ((f : Nat) : Int) ≤ ((k : Nat) : Int) := by omega
          have t3 : ((k : Nat) : Int) ≤ 16384 := by omega
          go_wp2_with fail
          refine (clone_any _ _ _ m _ _ (by rw [HLen.out]) HRB.out (Nat.le_refl _) (by rw [HLen.out]; omega)).mono ?_
          rintro e w1 ⟨A1, c1, rfl, ho1, hb1⟩
          have hlt1 := hb1.size
          have hbw := HS.out.bel.size
          have HOB := Lib.hid (ho1.mono hbw)
          have HB1 := Lib.hid hb1
          have HO := Lib.hid ((HS.out.ops.below hb1).row.alloc (Pt.obj ⟨b, f, A1, c1, m⟩))
          have HNP := Lib.hid (new_pt2 w1 ⟨b, f, A1, c1, m⟩)
          have HC1 := Lib.hid (cellsP_one [⟨b, f, A1, c1, m⟩])
          clear ho1 hb1
          unfold Pt.obj at HO HNP
          unfold Pt.cells at HNP
          go_wp2_with (at_builtin; refine w_append rfl (.tmp 21) (.tmp 31) 30 rfl w.heap.size 29 i0 _ 3 40 Try.underlying30 HI.out.1 HI.out.2.1 HI.out.2.2.1 HI.out.2.2.2 rfl (by decide) _ ps.length (cellsP ps) rfl HO.out ⟨w1.heap.size, 0, none⟩ 1 1 [.int .i64 (b : Nat), .int .i64 (f : Nat), .slice A1 m.length c1] rfl rfl HNP.out HC1.out (by unfold maxLen; omega) (by omega) (by simp; omega) ?_; intro v' w8 hown' hgrow; have HT3 := Lib.hid (HS.out.push HB1.out ⟨b, f, A1, c1, m⟩ HOB.out ⟨show (0 : Int) ≤ (b : Nat) by omega, show ((b : Nat) : Int) < 1000000 by omega, show (0 : Int) ≤ (f : Nat) by omega, show ((f : Nat) : Int) < 1000000 by omega, show m.length ≤ 140737488355328 by rw [HLen.out]; omega⟩ hown' hgrow); clear hown' hgrow)
          exact ⟨⟨k + 1, _, by go_num, by omega, by rw [HF1.out]; go_num, by rw [HO1.out, List.map_append]; exact HT3⟩, by simp [intOf]; omega⟩
        · have HO1 := Lib.hid (show ouK L (k + 1) = ouK L k by rw [ouK, if_neg (fun h => h1 h.2)])
          generalize frK L k = f at *
          have t1 : ¬ ((f : Nat) : Int) < ((k : Nat) : Int) := by omega
          go_wp2_with fail
          exact ⟨⟨k + 1, ps, by go_num, by omega, by rw [HF1.out]; go_num, by rw [HO1.out]; exact HS⟩, by simp [intOf]; omega⟩
      · have HF1 := Lib.hid (show frK L (k + 1) = frK L k by rw [frK, if_neg (fun h => h0 (HV.out.symm.trans h))])
        have HO1 := Lib.hid (show ouK L (k + 1) = ouK L k by rw [ouK, if_neg (fun h => h0 (HV.out.symm.trans h.1))])
        generalize frK L k = f at *
        go_wp2_with fail
        exact ⟨⟨k + 1, ps, by go_num, by omega, by rw [HF1.out], by rw [HO1.out]; exact HS⟩, by simp [intOf]; omega⟩
    · obtain rfl : k = 16384 := by omega
      have hf := frK_le L 16384
      have hps : ps.length ≤ 16384 := by
        have h1 := congrArg List.length HS.out.data
        have h2 := ouK_len L 16384
        rw [List.length_map, List.length_map] at h1
        omega
      have HG1 := Lib.hid ((HS.out.bel.block _ (Array.getElem?_eq_some_iff.1 HH.out).1).trans HH.out)
      by_cases h1 : frK L 16384 < 16384
      · have HO1 := Lib.hid (show stL L = ouK L 16384 ++ [(frK L 16384, L.drop (frK L 16384))] by unfold stL; rw [HL.out, if_pos h1])
        have HRB := Lib.hid (bank_rb HG1.out HL.out HA.out (frK L 16384) (16384 - frK L 16384) (by omega) (by omega))
        have hdl : (L.drop (frK L 16384)).length = 16384 - frK L 16384 := by rw [List.length_drop, HL.out]
        have htk : (L.drop (frK L 16384)).take (16384 - frK L 16384) = L.drop (frK L 16384) := List.take_of_length_le (by omega)
        rw [htk] at HRB
        have HLen := Lib.hid hdl
        clear htk hdl
        generalize frK L 16384 = f at *
        obtain ⟨m, hm⟩ : ∃ m, L.drop f = m := ⟨_, rfl⟩
        rw [hm] at HO1 HRB HLen
        clear hm
        have t1 : ((f : Nat) : Int) < 16384 := by omega
        have t2 : ((f : Nat) : Int) ≤ 16384 := by omega
        have t3 : ¬ (16384 : Nat) = f := by omega
        go_wp2_with fail
        refine (clone_any _ _ _ m _ _ (by rw [HLen.out]) HRB.out (Nat.le_refl _) (by rw [HLen.out]; omega)).mono ?_
        rintro e w1 ⟨A1, c1, rfl, ho1, hb1⟩
        have hlt1 := hb1.size
        have hbw := HS.out.bel.size
        have HOB := Lib.hid (ho1.mono hbw)
        have HB1 := Lib.hid hb1
        have HO := Lib.hid ((HS.out.ops.below hb1).row.alloc (Pt.obj ⟨b, f, A1, c1, m⟩))
        have HNP := Lib.hid (new_pt2 w1 ⟨b, f, A1, c1, m⟩)
        have HC1 := Lib.hid (cellsP_one [⟨b, f, A1, c1, m⟩])
        clear ho1 hb1
        unfold Pt.obj at HO HNP
        unfold Pt.cells at HNP
        go_wp2_with (at_builtin; refine w_append rfl (.tmp 38) (.tmp 47) 30 rfl w.heap.size 29 i0 _ 3 40 Try.underlying30 HI.out.1 HI.out.2.1 HI.out.2.2.1 HI.out.2.2.2 rfl (by decide) _ ps.length (cellsP ps) rfl HO.out ⟨w1.heap.size, 0, none⟩ 1 1 [.int .i64 (b : Nat), .int .i64 (f : Nat), .slice A1 m.length c1] rfl rfl HNP.out HC1.out (by unfold maxLen; omega) (by omega) (by simp; omega) ?_; intro v' w8 hown' hgrow; have HT3 := Lib.hid (HS.out.push HB1.out ⟨b, f, A1, c1, m⟩ HOB.out ⟨show (0 : Int) ≤ (b : Nat) by omega, show ((b : Nat) : Int) < 1000000 by omega, show (0 : Int) ≤ (f : Nat) by omega, show ((f : Nat) : Int) < 1000000 by omega, show m.length ≤ 140737488355328 by rw [HLen.out]; omega⟩ hown' hgrow); clear hown' hgrow)
        go_ret
        exact ⟨v', _, rfl, HT3.out.ops, by rw [HT3.out.data]; unfold bankP; rw [HO1.out, List.map_append]; rfl, HT3.out.good, HT3.out.bel⟩
      · have HO1 := Lib.hid (show stL L = ouK L 16384 by unfold stL; rw [HL.out, if_neg h1])
        generalize frK L 16384 = f at *
        have t1 : ¬ ((f : Nat) : Int) < 16384 := by omega
        go_wp2_with fail
        go_ret
        exact ⟨_, _, rfl, HS.out.ops, by rw [HS.out.data]; unfold bankP; rw [HO1.out], HS.out.good, HS.out.bel⟩
end Go.Proofs.Ytflbedomkeophaa
