/-     -/
import Derived.Test.YtgaihekapakoeaaGreatDoorJ7
import Derived.Deep.DeepCutAuto
set_option linter.unusedVariables false
set_option linter.unusedSimpArgs false
namespace Go.Proofs.YtgaihekapakoeaaGreatDoor
open Go.RowKit


set_option maxRecDepth 100000

theorem wt_open {w : World} {B b : Nat} {i : In} {bare : Bool} {bs : List UInt8} (h : WT w B b i bare bs) (hl : bs.length ≤ 1000000) : ∃ (T : TypeId) (rest : List Value),
  Nonempty (M.Of (WC w B b T rest)) ∧ WE w B b T rest bs w ∧ (∀ n, WE w B b T rest bs { w with drawn := n }) ∧
  (∀ (wz : World) (s : ByteArray) (l : List UInt8), s = ⟨l.toArray⟩ → l.length ≤ 60 → WE w B b T rest bs wz → Calls Tryz.prog 72 #[.pointer (some ⟨b, 0, none⟩), .string s] wz fun e w' => e = .returned (.tuple #[.int .i64 s.size, .nilIface]) ∧ WE w B b T rest (bs ++ l) w') ∧
  (∀ (wc : World) (l : List UInt8), WE w B b T rest (bs ++ l) wc → Writes w B b i bare bs l (.returned (.tuple #[])) wc) ∧
  (∀ (j : Nat) (v : Value), (restW i bare)[j]? = some v → ∀ p : M.Of (WC w B b T rest), p.w.cell? ⟨b, j + 2, none⟩ = some v) := by
 obtain ⟨T, hT⟩ : ∃ T, 101 = T := ⟨_, rfl⟩
 obtain ⟨rest, hr⟩ : ∃ rest, restW i bare = rest := ⟨_, rfl⟩
 have hw : WE w B b T rest bs w := hT ▸ hr ▸ WB.we h
 refine ⟨T, rest, ⟨⟨w, hw.1⟩⟩, hw, hT ▸ hr ▸ WE.start h, ?_, fun wc l hc => ⟨rfl, by unfold WT; rw [hT, hr]; exact hc.2.1, hc.1.2.1⟩, fun j v hv p => (p.ok.at_ j).trans (hr ▸ hv)⟩
 intro wz s l hs h20 hz
 refine (wt_string wz B b i bare bs (by unfold WT; rw [hT, hr]; exact hz.2.1) s l hs (by omega) (by omega)).mono ?_
 rintro e w' ⟨he, hW, hb⟩
 refine ⟨he, hz.write (by rw [← hT, ← hr]; exact hW) hb⟩

theorem w_stack (w : World) (B b : Nat) (i : In) (bare : Bool) (bs : List UInt8) (hV : VT w B) (h : WT w B b i bare bs) (x0 : 0 ≤ i.x) (x1 : i.x < 3) (c : Int) (c0 : 0 ≤ c) (c1 : c < 4) (hl : bs.length ≤ 100000) :
  Calls Tryz.prog 159 #[.pointer (some ⟨b, 0, none⟩), .int .i64 c] w (Writes w B b i bare bs (if c = 3 then [65, 70] else if c = 2 then nth indexL3 i.x else nth pairL4 c)) := by
 by_cases hc : c = 3
 ·subst hc
  rw [if_pos rfl]
  have HS := z_ (wt_string w B b i bare bs h ⟨#[65, 70]⟩ [65, 70] rfl (by decide) (by omega))
  go_enter Tryz.func159, Tryz.ntmps159
  go_wp2_with fail
  refine HS.out.mono ?_
  rintro e w' ⟨rfl, hW, hb⟩
  go_wp2_with fail
  go_end0
  exact ⟨rfl, hW, hb⟩
 ·rw [if_neg hc]
  have HP := z_ (w_pair w B b i bare bs hV h x0 x1 c c0 c1 hl)
  clear h hV
  generalize (if c = 2 then nth indexL3 i.x else nth pairL4 c) = out at *
  go_enter Tryz.func159, Tryz.ntmps159
  go_wp2_with fail
  refine HP.out.mono ?_
  rintro e w' ⟨rfl, hW, hb⟩
  go_wp2_with fail
  go_end0
  exact ⟨rfl, hW, hb⟩

theorem signT_len (bare : Bool) (v : Int) (h0 : -9223372036854775808 ≤ v) (h1 : v ≤ 9223372036854775807) : (signT bare v).length ≤ 22 := by
 have := Lib.itoa_length_le v h0 h1
 unfold signT
 split
 ·simp
 ·split
  ·simp; omega
  ·omega
theorem wf_in {v : Int} (h : (Lit.int .i64 v).wf = true) : -9223372036854775808 ≤ v ∧ v ≤ 9223372036854775807 := by
 simp only [Lit.wf, Bool.and_eq_true, decide_eq_true_eq] at h
 exact h

theorem w_memory (w : World) (B b : Nat) (i : In) (hi : i.Wf) (bare : Bool) (bs : List UInt8) (hV : VT w B) (h : WT w B b i bare bs) (x0 : 0 ≤ i.x) (x1 : i.x < 3) (hl : bs.length ≤ 10000) :
  Calls Tryz.prog 157 #[.pointer (some ⟨b, 0, none⟩)] w (Writes w B b i bare bs ([40] ++ (nth indexL3 i.x ++ (signT bare i.d ++ [41])))) := by
 have hd := wf_in hi.d
 have hsh := nth_short (L := indexL3) (by decide) i.x
 have h1 := z_ (wt_byte w B b i bare bs h 40 40 rfl (by omega))
 have h2 := z_ (fun (w1 : World) hV1 hW1 => w_pair w1 B b i bare (bs ++ [40]) hV1 hW1 x0 x1 2 (by decide) (by decide) (by simp; omega))
 have h3 := z_ (fun (w1 : World) hV1 hW1 => w_signed w1 B b i bare (bs ++ [40] ++ nth indexL3 i.x) hV1 hW1 i.d hd.1 hd.2 (by simp; omega))
 have h4 := z_ (fun (w1 : World) hW1 => wt_byte w1 B b i bare (bs ++ [40] ++ nth indexL3 i.x ++ signT bare i.d) hW1 41 41 rfl (by have := signT_len bare i.d hd.1 hd.2; simp; omega))
 obtain ⟨d, hde⟩ : ∃ d, i.d = d := ⟨_, rfl⟩
 have f3 : ∀ {w1 : World} {bs1 : List UInt8}, WT w1 B b i bare bs1 → w1.cell? ⟨b, 5, none⟩ = some (.int .i64 d) := fun k => hde ▸ k.g 3 _ rfl
 have F3 := z_ (fun (w1 : World) (bs1 : List UInt8) (k : WT w1 B b i bare bs1) => f3 k)
 clear f3
 rw [hde] at h3 h4 ⊢
 rw [if_pos rfl] at h2
 clear hde
 go_enter Tryz.func157, Tryz.ntmps157
 go_wp2_with fail
 refine h1.out.mono ?_
 rintro e w1 ⟨rfl, hW1, hb1⟩
 go_wp2_with fail
 refine (h2.out w1 (hV.below hb1) hW1).mono ?_
 rintro e w2 ⟨rfl, hW2, hb2⟩
 have g3 := F3.out w2 _ hW2
 go_wp2_with fail
 refine (h3.out w2 ((hV.below hb1).below hb2) hW2).mono ?_
 rintro e w3 ⟨rfl, hW3, hb3⟩
 go_wp2_with fail
 refine (h4.out w3 hW3).mono ?_
 rintro e w4 ⟨rfl, hW4, hb4⟩
 go_wp2_with fail
 go_end0
 exact Writes.then (e1 := .returned (.tuple #[])) ⟨rfl, hW1, hb1⟩ (Writes.then (e1 := .returned (.tuple #[])) ⟨rfl, hW2, hb2⟩ (Writes.then (e1 := .returned (.tuple #[])) ⟨rfl, hW3, hb3⟩ ⟨rfl, hW4, hb4⟩))

theorem two_texts (a c : List UInt8) (h : a.length + c.length ≤ 2000) : ∀ w, (Op.stringOp .add (⟨a.toArray⟩ : ByteArray) ⟨c.toArray⟩).run Tryz.prog w = .ok (.string ((⟨a.toArray⟩ : ByteArray) ++ ⟨c.toArray⟩)) w := fun w => run_string_add_sum w _ _ (by simp [ByteArray.size]; omega)

set_option maxHeartbeats 4000000 in
theorem w_byteOf (w : World) (B b : Nat) (i : In) (hi : i.Wf) (bare : Bool) (bs : List UInt8) (hV : VT w B) (h : WT w B b i bare bs) (x0 : 0 ≤ i.x) (x1 : i.x < 3) (k : Nat) (hk : k < 8) (hl : bs.length ≤ 10000) :
  Calls Tryz.prog 156 #[.pointer (some ⟨b, 0, none⟩), .int .i64 (k : Int)] w (Writes w B b i bare bs (if k = 6 ∧ needD i.s i.x i.o = true then [40] ++ (nth indexL3 i.x ++ (signT bare i.d ++ [41])) else if (k = 4 ∨ k = 5) ∧ needD i.s i.x i.o = false ∧ i.x ≠ 0 then nth indexL3 i.x ++ nth nameL8 k else nth nameL8 k)) := by
 have HM := z_ (fun (w1 : World) hV1 hW1 => w_memory w1 B b i hi bare bs hV1 hW1 x0 x1 hl)
 have HN := z_ (fun w => c9_needs i.s i.x i.o w)
 obtain ⟨d, hd⟩ : ∃ d, needD i.s i.x i.o = d := ⟨_, rfl⟩
 obtain ⟨m, hm⟩ : ∃ m, needN i.s i.x i.o = m := ⟨_, rfl⟩
 rw [hd] at HN ⊢
 rw [hm] at HN
 clear hd hm
 obtain ⟨out, hout⟩ : ∃ out, (if k = 6 ∧ d = true then [40] ++ (nth indexL3 i.x ++ (signT bare i.d ++ [41])) else if (k = 4 ∨ k = 5) ∧ d = false ∧ i.x ≠ 0 then nth indexL3 i.x ++ nth nameL8 k else nth nameL8 k) = out := ⟨_, rfl⟩
 rw [hout]
 have HZ := z_ hout
 clear hout
 have HX := z_ (show ∃ (T : TypeId) (rest : List Value), _ from wt_open h (by omega))
 obtain ⟨T, rest, hne, hw, hst, hR, hO, hF⟩ := wt_open h (by omega)
 obtain ⟨s, hs⟩ : ∃ s, i.s = s := ⟨_, rfl⟩
 obtain ⟨x, hx⟩ : ∃ x, i.x = x := ⟨_, rfl⟩
 obtain ⟨o, ho⟩ : ∃ o, i.o = o := ⟨_, rfl⟩
 have g0 : ∀ p : M.Of (WC w B b T rest), p.w.cell? ⟨b, 2, none⟩ = some (.int .i64 s) := hs ▸ hF 0 _ rfl
 have g1 : ∀ p : M.Of (WC w B b T rest), p.w.cell? ⟨b, 3, none⟩ = some (.int .i64 x) := hx ▸ hF 1 _ rfl
 have g2 : ∀ p : M.Of (WC w B b T rest), p.w.cell? ⟨b, 4, none⟩ = some (.int .i64 o) := ho ▸ hF 2 _ rfl
 rw [hs, hx, ho] at HN
 haveI := hne
 have HOW := z_ (fun wc (hc : WE w B b T rest bs wc) => hO wc [] (by rw [List.append_nil]; exact hc))
 have HXX := z_ hx
 clear hs hx ho hF hR hO h HX
 go_enter Tryz.func156, Tryz.ntmps156
 go_upto_region 0 with fail
 refine M.regionE_ (WC w B b T rest) (WE w B b T rest bs) (closed_we _ _ _ _ _ _) (fun _ h => h.1) hst (by kernel_rfl) ?_
 refine M.sx [0, 1, 2, 3, 4, 5, 6, 7, 8, 9, 10, 11, 12, 13, 14] 6 (hw.1) ?_
 repeat (go_big_quiet_step (fail))
 refine wpQuiet_nil ?_
 clear g0 g1 g2
 refine M.cm 15 (.tuple #[.bool d, .int .i64 m]) ?_ ?_
 ·intro wz sz
  unfold Oper.does
  go_simp
  exact (HN.out wz).mono fun e w' ⟨he, hw⟩ => ⟨_, he, rfl, hw ▸ Save.refl _ _⟩
 go_simp
 refine M.sx [16, 17, 18, 19, 20] 0 (hw.1) ?_
 repeat (go_big_quiet_step (fail))
 refine wpQuiet_nil ?_
 refine M.en ?_
 intro wc sc
 have hW0 := HOW.out wc sc
 have hWc : WT wc B b i bare bs := by have := hW0.2.1; rwa [List.append_nil] at this
 have hVc := hV.below hW0.2.2
 have HB := z_ hW0.2.2
 clear hW0 sc hst hw HN HOW hne this hV T rest
 by_cases h6 : k = 6
 ·subst h6
  cases d with
  | true =>
   have ho := HZ.out
   rw [if_pos ⟨rfl, rfl⟩] at ho
   subst ho
   go_wp2_with fail
   refine (HM.out wc hVc hWc).mono ?_
   rintro e w2 ⟨rfl, hW2, hb2⟩
   go_wp2_with fail
   go_end0
   exact ⟨rfl, hW2, HB.out.trans hb2⟩
  | false =>
   have ho := HZ.out
   rw [if_neg (by rintro ⟨_, h⟩; cases h), if_neg (by omega)] at ho
   obtain ⟨T, rest, hne, hw, hst, hR, hO, hF⟩ := wt_open hWc (by omega)
   have HR := z_ hR
   have HO := z_ hO
   haveI := hne
   have hV2 : ∀ p : M.Of (WC wc B b T rest), VT p.w B := fun p => hVc.below p.ok.2.1
   clear hR hO
   have f2 : ∀ p : M.Of (WC wc B b T rest), p.w.cell? ⟨5, 6, none⟩ = some (.string ⟨(nameL8.getD 6 []).toArray⟩) := fun p => (hV2 p).names.2 6 (by decide)
   have hsh : (nameL8.getD 6 []).length ≤ 60 := Nat.le_trans (nth_short (L := nameL8) (by decide) (6 : Nat)) (by decide)
   rw [show nth nameL8 ((6 : Nat) : Int) = nameL8.getD 6 [] from rfl] at ho
   generalize nameL8.getD 6 [] = l at *
   have HZ2 := z_ ho
   clear ho HZ
   clear hV2 hF hVc hWc
   go_upto_region 2 with fail
   refine M.regionE_ (WC wc B b T rest) (WE wc B b T rest bs) (closed_we _ _ _ _ _ _) (fun _ h => h.1) hst (by kernel_rfl) ?_
   refine M.sx [0, 1, 2, 3, 4, 5] 1 (hw.1) ?_
   repeat (go_big_quiet_step (fail))
   refine wpQuiet_nil ?_
   refine M.cl 6 ?_
   intro wz sz
   unfold Oper.does
   go_simp
   refine (HR.out wz _ l rfl hsh sz).mono ?_
   rintro e w3 ⟨rfl, hW⟩
   refine ⟨_, rfl, WE wc B b T rest (bs ++ l), hW, closed_we _ _ _ _ _ _, fun _ h => h.1, ?_⟩
   clear sz hW f2
   refine M.en ?_
   intro wc sc
   go_wp2
   go_end0
   exact HZ2.out ▸ ⟨rfl, (HO.out _ _ sc).2.1, HB.out.trans (HO.out _ _ sc).2.2⟩
 ·have ho := HZ.out
  rw [if_neg (by omega)] at ho
  by_cases h45 : (k = 4 ∨ k = 5) ∧ d = false ∧ i.x ≠ 0
  ·rw [if_pos h45] at ho
   obtain ⟨h45, rfl, hx0⟩ := h45
   obtain ⟨j, hx⟩ : ∃ j : Nat, i.x = j := ⟨i.x.toNat, by omega⟩
   rcases h45 with rfl | rfl
   ·clear h6
    obtain ⟨T, rest, hne, hw, hst, hR, hO, hF⟩ := wt_open hWc (by omega)
    have HR := z_ hR
    have HO := z_ hO
    haveI := hne
    have hV2 : ∀ p : M.Of (WC wc B b T rest), VT p.w B := fun p => hVc.below p.ok.2.1
    clear hR hO
    have f1 : ∀ p : M.Of (WC wc B b T rest), p.w.cell? ⟨b, 3, none⟩ = some (.int .i64 (j : Int)) := hx ▸ hF 1 _ rfl
    have f3 : ∀ p : M.Of (WC wc B b T rest), p.w.cell? ⟨0, j, none⟩ = some (.string ⟨(indexL3.getD j []).toArray⟩) := fun p => (hV2 p).index.2 j (by show j < 3; omega)
    have f2 : ∀ p : M.Of (WC wc B b T rest), p.w.cell? ⟨5, 4, none⟩ = some (.string ⟨(nameL8.getD 4 []).toArray⟩) := fun p => (hV2 p).names.2 4 (by decide)
    have hsh : (nameL8.getD 4 []).length ≤ 20 := by decide
    have hsj : (indexL3.getD j []).length ≤ 20 := nth_short (L := indexL3) (by decide) j
    rw [show nth nameL8 ((4 : Nat) : Int) = nameL8.getD 4 [] from rfl, hx, nth_nat] at ho
    have hadd := two_texts (indexL3.getD j []) (nameL8.getD 4 []) (by omega)
    generalize nameL8.getD 4 [] = l at *
    generalize indexL3.getD j [] = lj at *
    have HZ2 := z_ ho
    clear ho HZ
    have hj3 : (j : Int) < 3 := by omega
    have g3 : wc.cell? ⟨b, 3, none⟩ = some (.int .i64 (j : Int)) := hx ▸ hWc.g 1 _ rfl
    have hj0 : (j : Int) ≠ 0 := by omega
    clear hV2 hF hVc hWc hx
    go_upto_region 6 with fail
    refine M.regionE_ (WC wc B b T rest) (WE wc B b T rest bs) (closed_we _ _ _ _ _ _) (fun _ h => h.1) hst (by kernel_rfl) ?_
    refine M.sx [0, 1, 2, 3, 4, 5, 6, 7, 8, 9, 10, 11, 12, 13] 1 (hw.1) ?_
    repeat (go_big_quiet_step (fail))
    refine wpQuiet_nil ?_
    refine M.cl 14 ?_
    intro wz sz
    unfold Oper.does
    go_simp
    refine (HR.out wz _ (lj ++ l) (by apply ByteArray.ext; simp) (by simp; omega) sz).mono ?_
    rintro e w3 ⟨rfl, hW⟩
    refine ⟨_, rfl, WE wc B b T rest (bs ++ (lj ++ l)), hW, closed_we _ _ _ _ _ _, fun _ h => h.1, ?_⟩
    clear sz hW f2 f1 f3 hadd g3
    refine M.en ?_
    intro wc sc
    go_wp2
    go_end0
    exact HZ2.out ▸ ⟨rfl, (HO.out _ _ sc).2.1, HB.out.trans (HO.out _ _ sc).2.2⟩
   ·clear h6
    obtain ⟨T, rest, hne, hw, hst, hR, hO, hF⟩ := wt_open hWc (by omega)
    have HR := z_ hR
    have HO := z_ hO
    haveI := hne
    have hV2 : ∀ p : M.Of (WC wc B b T rest), VT p.w B := fun p => hVc.below p.ok.2.1
    clear hR hO
    have f1 : ∀ p : M.Of (WC wc B b T rest), p.w.cell? ⟨b, 3, none⟩ = some (.int .i64 (j : Int)) := hx ▸ hF 1 _ rfl
    have f3 : ∀ p : M.Of (WC wc B b T rest), p.w.cell? ⟨0, j, none⟩ = some (.string ⟨(indexL3.getD j []).toArray⟩) := fun p => (hV2 p).index.2 j (by show j < 3; omega)
    have f2 : ∀ p : M.Of (WC wc B b T rest), p.w.cell? ⟨5, 5, none⟩ = some (.string ⟨(nameL8.getD 5 []).toArray⟩) := fun p => (hV2 p).names.2 5 (by decide)
    have hsh : (nameL8.getD 5 []).length ≤ 20 := by decide
    have hsj : (indexL3.getD j []).length ≤ 20 := nth_short (L := indexL3) (by decide) j
    rw [show nth nameL8 ((5 : Nat) : Int) = nameL8.getD 5 [] from rfl, hx, nth_nat] at ho
    have hadd := two_texts (indexL3.getD j []) (nameL8.getD 5 []) (by omega)
    generalize nameL8.getD 5 [] = l at *
    generalize indexL3.getD j [] = lj at *
    have HZ2 := z_ ho
    clear ho HZ
    have hj3 : (j : Int) < 3 := by omega
    have g3 : wc.cell? ⟨b, 3, none⟩ = some (.int .i64 (j : Int)) := hx ▸ hWc.g 1 _ rfl
    have hj0 : (j : Int) ≠ 0 := by omega
    clear hV2 hF hVc hWc hx
    go_upto_region 6 with fail
    refine M.regionE_ (WC wc B b T rest) (WE wc B b T rest bs) (closed_we _ _ _ _ _ _) (fun _ h => h.1) hst (by kernel_rfl) ?_
    refine M.sx [0, 1, 2, 3, 4, 5, 6, 7, 8, 9, 10, 11, 12, 13] 1 (hw.1) ?_
    repeat (go_big_quiet_step (fail))
    refine wpQuiet_nil ?_
    refine M.cl 14 ?_
    intro wz sz
    unfold Oper.does
    go_simp
    refine (HR.out wz _ (lj ++ l) (by apply ByteArray.ext; simp) (by simp; omega) sz).mono ?_
    rintro e w3 ⟨rfl, hW⟩
    refine ⟨_, rfl, WE wc B b T rest (bs ++ (lj ++ l)), hW, closed_we _ _ _ _ _ _, fun _ h => h.1, ?_⟩
    clear sz hW f2 f1 f3 hadd g3
    refine M.en ?_
    intro wc sc
    go_wp2
    go_end0
    exact HZ2.out ▸ ⟨rfl, (HO.out _ _ sc).2.1, HB.out.trans (HO.out _ _ sc).2.2⟩
  ·rw [if_neg h45] at ho
   have e6 : ((k : Int) == 6) = false := by rw [beq_eq_false_iff_ne]; omega
   by_cases h4 : k = 4 ∨ k = 5
   ·cases d with
    | true =>
     clear h45
     rcases h4 with rfl | rfl
     ·clear h6 e6
      obtain ⟨T, rest, hne, hw, hst, hR, hO, hF⟩ := wt_open hWc (by omega)
      have HR := z_ hR
      have HO := z_ hO
      haveI := hne
      have hV2 : ∀ p : M.Of (WC wc B b T rest), VT p.w B := fun p => hVc.below p.ok.2.1
      clear hR hO
      have f2 : ∀ p : M.Of (WC wc B b T rest), p.w.cell? ⟨5, 4, none⟩ = some (.string ⟨(nameL8.getD 4 []).toArray⟩) := fun p => (hV2 p).names.2 4 (by decide)
      have hsh : (nameL8.getD 4 []).length ≤ 60 := Nat.le_trans (nth_short (L := nameL8) (by decide) (4 : Nat)) (by decide)
      rw [show nth nameL8 ((4 : Nat) : Int) = nameL8.getD 4 [] from rfl] at ho
      generalize nameL8.getD 4 [] = l at *
      have HZ2 := z_ ho
      clear ho HZ
      clear hV2 hF hVc hWc
      go_upto_region 2 with fail
      refine M.regionE_ (WC wc B b T rest) (WE wc B b T rest bs) (closed_we _ _ _ _ _ _) (fun _ h => h.1) hst (by kernel_rfl) ?_
      refine M.sx [0, 1, 2, 3, 4, 5] 1 (hw.1) ?_
      repeat (go_big_quiet_step (fail))
      refine wpQuiet_nil ?_
      refine M.cl 6 ?_
      intro wz sz
      unfold Oper.does
      go_simp
      refine (HR.out wz _ l rfl hsh sz).mono ?_
      rintro e w3 ⟨rfl, hW⟩
      refine ⟨_, rfl, WE wc B b T rest (bs ++ l), hW, closed_we _ _ _ _ _ _, fun _ h => h.1, ?_⟩
      clear sz hW f2
      refine M.en ?_
      intro wc sc
      go_wp2
      go_end0
      exact HZ2.out ▸ ⟨rfl, (HO.out _ _ sc).2.1, HB.out.trans (HO.out _ _ sc).2.2⟩
     ·clear h6 e6
      obtain ⟨T, rest, hne, hw, hst, hR, hO, hF⟩ := wt_open hWc (by omega)
      have HR := z_ hR
      have HO := z_ hO
      haveI := hne
      have hV2 : ∀ p : M.Of (WC wc B b T rest), VT p.w B := fun p => hVc.below p.ok.2.1
      clear hR hO
      have f2 : ∀ p : M.Of (WC wc B b T rest), p.w.cell? ⟨5, 5, none⟩ = some (.string ⟨(nameL8.getD 5 []).toArray⟩) := fun p => (hV2 p).names.2 5 (by decide)
      have hsh : (nameL8.getD 5 []).length ≤ 60 := Nat.le_trans (nth_short (L := nameL8) (by decide) (5 : Nat)) (by decide)
      rw [show nth nameL8 ((5 : Nat) : Int) = nameL8.getD 5 [] from rfl] at ho
      generalize nameL8.getD 5 [] = l at *
      have HZ2 := z_ ho
      clear ho HZ
      clear hV2 hF hVc hWc
      go_upto_region 2 with fail
      refine M.regionE_ (WC wc B b T rest) (WE wc B b T rest bs) (closed_we _ _ _ _ _ _) (fun _ h => h.1) hst (by kernel_rfl) ?_
      refine M.sx [0, 1, 2, 3, 4, 5] 1 (hw.1) ?_
      repeat (go_big_quiet_step (fail))
      refine wpQuiet_nil ?_
      refine M.cl 6 ?_
      intro wz sz
      unfold Oper.does
      go_simp
      refine (HR.out wz _ l rfl hsh sz).mono ?_
      rintro e w3 ⟨rfl, hW⟩
      refine ⟨_, rfl, WE wc B b T rest (bs ++ l), hW, closed_we _ _ _ _ _ _, fun _ h => h.1, ?_⟩
      clear sz hW f2
      refine M.en ?_
      intro wc sc
      go_wp2
      go_end0
      exact HZ2.out ▸ ⟨rfl, (HO.out _ _ sc).2.1, HB.out.trans (HO.out _ _ sc).2.2⟩
    | false =>
     have hx0 : i.x = 0 := by
      rcases Decidable.em (i.x = 0) with h | h
      ·exact h
      ·exact absurd ⟨h4, rfl, h⟩ h45
     clear h45
     rcases h4 with rfl | rfl
     ·clear h6 e6
      have g1 : wc.cell? ⟨b, 3, none⟩ = some (.int .i64 0) := hx0 ▸ hWc.g 1 _ rfl
      obtain ⟨T, rest, hne, hw, hst, hR, hO, hF⟩ := wt_open hWc (by omega)
      have HR := z_ hR
      have HO := z_ hO
      haveI := hne
      have hV2 : ∀ p : M.Of (WC wc B b T rest), VT p.w B := fun p => hVc.below p.ok.2.1
      clear hR hO
      have f2 : ∀ p : M.Of (WC wc B b T rest), p.w.cell? ⟨5, 4, none⟩ = some (.string ⟨(nameL8.getD 4 []).toArray⟩) := fun p => (hV2 p).names.2 4 (by decide)
      have hsh : (nameL8.getD 4 []).length ≤ 60 := Nat.le_trans (nth_short (L := nameL8) (by decide) (4 : Nat)) (by decide)
      rw [show nth nameL8 ((4 : Nat) : Int) = nameL8.getD 4 [] from rfl] at ho
      generalize nameL8.getD 4 [] = l at *
      have HZ2 := z_ ho
      clear ho HZ
      clear hV2 hF hVc hWc
      go_upto_region 2 with fail
      refine M.regionE_ (WC wc B b T rest) (WE wc B b T rest bs) (closed_we _ _ _ _ _ _) (fun _ h => h.1) hst (by kernel_rfl) ?_
      refine M.sx [0, 1, 2, 3, 4, 5] 1 (hw.1) ?_
      repeat (go_big_quiet_step (fail))
      refine wpQuiet_nil ?_
      refine M.cl 6 ?_
      intro wz sz
      unfold Oper.does
      go_simp
      refine (HR.out wz _ l rfl hsh sz).mono ?_
      rintro e w3 ⟨rfl, hW⟩
      refine ⟨_, rfl, WE wc B b T rest (bs ++ l), hW, closed_we _ _ _ _ _ _, fun _ h => h.1, ?_⟩
      clear sz hW f2 g1
      refine M.en ?_
      intro wc sc
      go_wp2
      go_end0
      exact HZ2.out ▸ ⟨rfl, (HO.out _ _ sc).2.1, HB.out.trans (HO.out _ _ sc).2.2⟩
     ·clear h6 e6
      have g1 : wc.cell? ⟨b, 3, none⟩ = some (.int .i64 0) := hx0 ▸ hWc.g 1 _ rfl
      obtain ⟨T, rest, hne, hw, hst, hR, hO, hF⟩ := wt_open hWc (by omega)
      have HR := z_ hR
      have HO := z_ hO
      haveI := hne
      have hV2 : ∀ p : M.Of (WC wc B b T rest), VT p.w B := fun p => hVc.below p.ok.2.1
      clear hR hO
      have f2 : ∀ p : M.Of (WC wc B b T rest), p.w.cell? ⟨5, 5, none⟩ = some (.string ⟨(nameL8.getD 5 []).toArray⟩) := fun p => (hV2 p).names.2 5 (by decide)
      have hsh : (nameL8.getD 5 []).length ≤ 60 := Nat.le_trans (nth_short (L := nameL8) (by decide) (5 : Nat)) (by decide)
      rw [show nth nameL8 ((5 : Nat) : Int) = nameL8.getD 5 [] from rfl] at ho
      generalize nameL8.getD 5 [] = l at *
      have HZ2 := z_ ho
      clear ho HZ
      clear hV2 hF hVc hWc
      go_upto_region 2 with fail
      refine M.regionE_ (WC wc B b T rest) (WE wc B b T rest bs) (closed_we _ _ _ _ _ _) (fun _ h => h.1) hst (by kernel_rfl) ?_
      refine M.sx [0, 1, 2, 3, 4, 5] 1 (hw.1) ?_
      repeat (go_big_quiet_step (fail))
      refine wpQuiet_nil ?_
      refine M.cl 6 ?_
      intro wz sz
      unfold Oper.does
      go_simp
      refine (HR.out wz _ l rfl hsh sz).mono ?_
      rintro e w3 ⟨rfl, hW⟩
      refine ⟨_, rfl, WE wc B b T rest (bs ++ l), hW, closed_we _ _ _ _ _ _, fun _ h => h.1, ?_⟩
      clear sz hW f2 g1
      refine M.en ?_
      intro wc sc
      go_wp2
      go_end0
      exact HZ2.out ▸ ⟨rfl, (HO.out _ _ sc).2.1, HB.out.trans (HO.out _ _ sc).2.2⟩
   ·have e4 : ((k : Int) == 4) = false := by rw [beq_eq_false_iff_ne]; omega
    have e5 : ((k : Int) == 5) = false := by rw [beq_eq_false_iff_ne]; omega
    clear h45 h4 h6
    have hk8 : (k : Int) < 8 := by omega
    obtain ⟨T, rest, hne, hw, hst, hR, hO, hF⟩ := wt_open hWc (by omega)
    have HR := z_ hR
    have HO := z_ hO
    haveI := hne
    have hV2 : ∀ p : M.Of (WC wc B b T rest), VT p.w B := fun p => hVc.below p.ok.2.1
    clear hR hO
    have f2 : ∀ p : M.Of (WC wc B b T rest), p.w.cell? ⟨5, k, none⟩ = some (.string ⟨(nameL8.getD k []).toArray⟩) := fun p => (hV2 p).names.2 k (by show k < 8; omega)
    have hsh : (nameL8.getD k []).length ≤ 60 := Nat.le_trans (nth_short (L := nameL8) (by decide) k) (by decide)
    rw [nth_nat] at ho
    generalize nameL8.getD k [] = l at *
    have HZ2 := z_ ho
    clear ho HZ
    clear hV2 hF hVc hWc
    go_upto_region 2 with fail
    refine M.regionE_ (WC wc B b T rest) (WE wc B b T rest bs) (closed_we _ _ _ _ _ _) (fun _ h => h.1) hst (by kernel_rfl) ?_
    refine M.sx [0, 1, 2, 3, 4, 5] 1 (hw.1) ?_
    repeat (go_big_quiet_step (fail))
    refine wpQuiet_nil ?_
    refine M.cl 6 ?_
    intro wz sz
    unfold Oper.does
    go_simp
    refine (HR.out wz _ l rfl hsh sz).mono ?_
    rintro e w3 ⟨rfl, hW⟩
    refine ⟨_, rfl, WE wc B b T rest (bs ++ l), hW, closed_we _ _ _ _ _ _, fun _ h => h.1, ?_⟩
    clear sz hW f2
    refine M.en ?_
    intro wc sc
    go_wp2
    go_end0
    exact HZ2.out ▸ ⟨rfl, (HO.out _ _ sc).2.1, HB.out.trans (HO.out _ _ sc).2.2⟩
end Go.Proofs.YtgaihekapakoeaaGreatDoor
namespace Go.Proofs.YtgaihekapakoeaaGreatDoor
open Go.RowKit


set_option maxRecDepth 100000

theorem itoa_lt8 (k : Nat) (h : k < 8) : Lib.itoa (k : Int) = [UInt8.ofNat (48 + k)] := by
 unfold Lib.itoa
 rw [if_neg (by omega), Int.toNat_natCast, Lib.decDigits_one (by omega)]
def tensT (k : Nat) : List UInt8 := (tensL.getD k []).map UInt8.ofNat
theorem itoa_tens (k : Nat) (h : k < 8) : Lib.itoa (8 * (k : Int)) = tensT k := by
 unfold Lib.itoa
 rw [if_neg (by omega), show (8 * (k : Int)).toNat = 8 * k by omega]
 match k, h with
 | 0, _ => rw [Lib.decDigits_one (by decide)]; rfl
 | 1, _ => rw [Lib.decDigits_one (by decide)]; rfl
 | 2, _ | 3, _ | 4, _ | 5, _ | 6, _ | 7, _ => rw [Lib.decDigits_two (by decide) (by decide)]; rfl
theorem rend_one (bare : Bool) (d m : Int) (t : Nat) (h : t < 256) : rend bare d m [t] = [UInt8.ofNat t] := by
 unfold rend rendT
 rw [List.flatMap_cons, List.flatMap_nil, if_neg (by omega), if_neg (by omega), if_neg (by omega)]
 rfl
theorem rend_tens (bare : Bool) (d m : Int) (k : Nat) (h : k < 8) : rend bare d m (tensL.getD k []) = tensT k := by
 match k, h with
 | 0, _ | 1, _ | 2, _ | 3, _ | 4, _ | 5, _ | 6, _ | 7, _ => rfl
theorem rend_memK (bare : Bool) (d m x : Int) : rend bare d m (memK x) = [40] ++ (nth indexL3 x ++ (signT bare d ++ [41])) := by
 unfold memK
 rw [rend_add, rend_add, rend_tk, rend_add]
 have h1 : rend bare d m [40] = [40] := rfl
 have h2 : rend bare d m [41] = [41] := rfl
 have h3 : rend bare d m [258] = signT bare d := by
  unfold rend rendT
  rw [List.flatMap_cons, List.flatMap_nil, if_neg (by decide), if_neg (by decide), if_pos rfl, List.append_nil]
 rw [h1, h2, h3]
theorem rend_byteK (bare : Bool) (i : In) (k : Nat) : rend bare i.d i.m (byteK i.s i.x i.o (k : Int)) = (if k = 6 ∧ needD i.s i.x i.o = true then [40] ++ (nth indexL3 i.x ++ (signT bare i.d ++ [41])) else if (k = 4 ∨ k = 5) ∧ needD i.s i.x i.o = false ∧ i.x ≠ 0 then nth indexL3 i.x ++ nth nameL8 k else nth nameL8 k) := by
 unfold byteK
 by_cases h6 : k = 6 ∧ needD i.s i.x i.o = true
 ·rw [if_pos h6, if_pos ⟨by omega, h6.2⟩, rend_memK]
 ·rw [if_neg h6, if_neg (by rintro ⟨h, k2⟩; exact h6 ⟨by omega, k2⟩)]
  by_cases h45 : (k = 4 ∨ k = 5) ∧ needD i.s i.x i.o = false ∧ i.x ≠ 0
  ·rw [if_pos h45, if_pos ⟨by have := h45.1; omega, h45.2⟩, rend_add, rend_tk, rend_tk]
  ·rw [if_neg h45, if_neg (by rintro ⟨h, k2⟩; exact h45 ⟨by omega, k2⟩), rend_tk]
theorem rend_pairK (bare : Bool) (d m x c : Int) : rend bare d m (pairK x c) = if c = 2 then nth indexL3 x else nth pairL4 c := by
 unfold pairK
 split <;> rw [rend_tk]
theorem rend_stackK (bare : Bool) (d m x c : Int) : rend bare d m (stackK x c) = if c = 3 then [65, 70] else if c = 2 then nth indexL3 x else nth pairL4 c := by
 unfold stackK
 split
 ·rfl
 ·rw [rend_pairK]
theorem rend_imm (bare : Bool) (d m : Int) : rend bare d m [256] = if bare = true then [] else Lib.itoa m := by
 unfold rend rendT
 rw [List.flatMap_cons, List.flatMap_nil, if_pos rfl, List.append_nil]
theorem rend_way (bare : Bool) (d m : Int) : rend bare d m [257] = signT bare m := by
 unfold rend rendT
 rw [List.flatMap_cons, List.flatMap_nil, if_neg (by decide), if_pos rfl, List.append_nil]

theorem byte_ne {c : UInt8} {k : UInt8} (h : c ≠ k) : (((c.toNat : Nat) : Int) == (k.toNat : Int)) = false := by
 rw [beq_eq_false_iff_ne]
 intro e
 exact h (UInt8.toNat_inj.1 (by omega))

set_option maxHeartbeats 8000000 in
theorem w_mark (w : World) (B b : Nat) (i : In) (hi : i.Wf) (bare : Bool) (bs : List UInt8) (hV : VT w B) (h : WT w B b i bare bs) (x0 : 0 ≤ i.x) (x1 : i.x < 3) (o0 : 0 ≤ i.o) (o1 : i.o < 256) (c : UInt8) (hl : bs.length ≤ 10000) :
  Calls Tryz.prog 120 #[.pointer (some ⟨b, 0, none⟩), .int .u8 c.toNat] w (Writes w B b i bare bs (rend bare i.d i.m (markK i.s i.x i.o c))) := by
 obtain ⟨ky, hky⟩ : ∃ k : Nat, i.o / 8 % 8 = k := ⟨(i.o / 8 % 8).toNat, by omega⟩
 obtain ⟨kz, hkz⟩ : ∃ k : Nat, i.o % 8 = k := ⟨(i.o % 8).toNat, by omega⟩
 have hy8 : ky < 8 := by omega
 have hz8 : kz < 8 := by omega
 have hm := wf_in hi.m
 obtain ⟨out, hout⟩ : ∃ out, rend bare i.d i.m (markK i.s i.x i.o c) = out := ⟨_, rfl⟩
 rw [hout]
 have HP := z_ (fun w => c9_parts i.o w o0 o1)
 have hp : (ky : Int) / 2 < 4 := by omega
 have g2 : w.cell? ⟨b, 4, none⟩ = some (.int .i64 i.o) := h.g 2 _ rfl
 have g4 : w.cell? ⟨b, 6, none⟩ = some (.int .i64 i.m) := h.g 4 _ rfl
 have HB := z_ (fun k hk => w_byteOf w B b i hi bare bs hV h x0 x1 k hk hl)
 have HM := z_ (w_memory w B b i hi bare bs hV h x0 x1 hl)
 have HPa := z_ (fun c c0 c1 => w_pair w B b i bare bs hV h x0 x1 c c0 c1 (by omega))
 have HS := z_ (fun c c0 c1 => w_stack w B b i bare bs hV h x0 x1 c c0 c1 (by omega))
 have HO := z_ (w_operand w B b i bare bs hV h i.m hm.1 hm.2 (by omega))
 have HG := z_ (w_signed w B b i bare bs hV h i.m hm.1 hm.2 (by omega))
 have HNu := z_ (fun v h0 h1 => w_number w B b i bare bs hV h v h0 h1 (by omega))
 have HY := z_ (fun (n : Int) hn => wt_byte w B b i bare bs h n c hn (by omega))
 rw [hky, hkz] at HP
 have Hh := z_ h
 have HV := z_ hV
 clear h hV hm
 obtain ⟨o, ho⟩ : ∃ o, i.o = o := ⟨_, rfl⟩
 obtain ⟨mm, hmm⟩ : ∃ mm, i.m = mm := ⟨_, rfl⟩
 rw [hmm] at HO HG g4
 rw [ho] at g2 HP
 have HK := z_ (And.intro hky (And.intro hkz (And.intro ho hmm)))
 clear hky hkz ho hmm o0 o1
 by_cases h121 : c = 121
 ·subst h121
  have ho : (if ky = 6 ∧ needD i.s i.x i.o = true then [40] ++ (nth indexL3 i.x ++ (signT bare i.d ++ [41])) else if (ky = 4 ∨ ky = 5) ∧ needD i.s i.x i.o = false ∧ i.x ≠ 0 then nth indexL3 i.x ++ nth nameL8 ky else nth nameL8 ky) = out := by have hk := HK.out; rw [← hout]; show _ = rend bare i.d i.m _; rw [show markK i.s i.x i.o 121 = byteK i.s i.x i.o (i.o / 8 % 8) from rfl, hk.1, rend_byteK]
  have HZ := z_ ho
  clear ho hout
  have hc : ((121 : UInt8).toNat : Int) = 121 := rfl
  rw [hc]
  clear hc
  go_enter Tryz.func120, Tryz.ntmps120
  go_wp2_with (go_at_call 67; (with_reducible refine (HP.out _).mono ?_); rintro e w' ⟨rfl, rfl⟩)
  refine (HB.out ky hy8).mono ?_
  rintro e w' ⟨rfl, hW, hb⟩
  go_wp2_with fail
  go_end0
  exact HZ.out ▸ ⟨rfl, hW, hb⟩
 by_cases h122 : c = 122
 ·subst h122
  have ho : (if kz = 6 ∧ needD i.s i.x i.o = true then [40] ++ (nth indexL3 i.x ++ (signT bare i.d ++ [41])) else if (kz = 4 ∨ kz = 5) ∧ needD i.s i.x i.o = false ∧ i.x ≠ 0 then nth indexL3 i.x ++ nth nameL8 kz else nth nameL8 kz) = out := by have hk := HK.out; rw [← hout]; show _ = rend bare i.d i.m _; rw [show markK i.s i.x i.o 122 = byteK i.s i.x i.o (i.o % 8) from rfl, hk.2.1, rend_byteK]
  have HZ := z_ ho
  clear ho hout
  have hc : ((122 : UInt8).toNat : Int) = 122 := rfl
  rw [hc]
  clear hc
  go_enter Tryz.func120, Tryz.ntmps120
  go_wp2_with (go_at_call 67; (with_reducible refine (HP.out _).mono ?_); rintro e w' ⟨rfl, rfl⟩)
  refine (HB.out kz hz8).mono ?_
  rintro e w' ⟨rfl, hW, hb⟩
  go_wp2_with fail
  go_end0
  exact HZ.out ▸ ⟨rfl, hW, hb⟩
 by_cases h109 : c = 109
 ·subst h109
  have ho : [40] ++ (nth indexL3 i.x ++ (signT bare i.d ++ [41])) = out := by have hk := HK.out; rw [← hout]; show _ = rend bare i.d i.m _; rw [show markK i.s i.x i.o 109 = memK i.x from rfl, rend_memK]
  have HZ := z_ ho
  clear ho hout
  have hc : ((109 : UInt8).toNat : Int) = 109 := rfl
  rw [hc]
  clear hc
  go_enter Tryz.func120, Tryz.ntmps120
  go_wp2_with (go_at_call 67; (with_reducible refine (HP.out _).mono ?_); rintro e w' ⟨rfl, rfl⟩)
  refine (HM.out).mono ?_
  rintro e w' ⟨rfl, hW, hb⟩
  go_wp2_with fail
  go_end0
  exact HZ.out ▸ ⟨rfl, hW, hb⟩
 by_cases h115 : c = 115
 ·subst h115
  have ho : (if (ky : Int) / 2 = 2 then nth indexL3 i.x else nth pairL4 ((ky : Int) / 2)) = out := by have hk := HK.out; rw [← hout]; show _ = rend bare i.d i.m _; rw [show markK i.s i.x i.o 115 = pairK i.x (i.o / 8 % 8 / 2) from rfl, hk.1, rend_pairK]
  have HZ := z_ ho
  clear ho hout
  have hc : ((115 : UInt8).toNat : Int) = 115 := rfl
  rw [hc]
  clear hc
  go_enter Tryz.func120, Tryz.ntmps120
  go_wp2_with (go_at_call 67; (with_reducible refine (HP.out _).mono ?_); rintro e w' ⟨rfl, rfl⟩)
  refine (HPa.out ((ky : Int) / 2) (by omega) hp).mono ?_
  rintro e w' ⟨rfl, hW, hb⟩
  go_wp2_with fail
  go_end0
  exact HZ.out ▸ ⟨rfl, hW, hb⟩
 by_cases h107 : c = 107
 ·subst h107
  have ho : (if (ky : Int) / 2 = 3 then [65, 70] else if (ky : Int) / 2 = 2 then nth indexL3 i.x else nth pairL4 ((ky : Int) / 2)) = out := by have hk := HK.out; rw [← hout]; show _ = rend bare i.d i.m _; rw [show markK i.s i.x i.o 107 = stackK i.x (i.o / 8 % 8 / 2) from rfl, hk.1, rend_stackK]
  have HZ := z_ ho
  clear ho hout
  have hc : ((107 : UInt8).toNat : Int) = 107 := rfl
  rw [hc]
  clear hc
  go_enter Tryz.func120, Tryz.ntmps120
  go_wp2_with (go_at_call 67; (with_reducible refine (HP.out _).mono ?_); rintro e w' ⟨rfl, rfl⟩)
  refine (HS.out ((ky : Int) / 2) (by omega) hp).mono ?_
  rintro e w' ⟨rfl, hW, hb⟩
  go_wp2_with fail
  go_end0
  exact HZ.out ▸ ⟨rfl, hW, hb⟩
 by_cases h104 : c = 104
 ·subst h104
  have ho : (if (2 : Int) = 2 then nth indexL3 i.x else nth pairL4 2) = out := by have hk := HK.out; rw [← hout]; show _ = rend bare i.d i.m _; rw [show markK i.s i.x i.o 104 = tk (nth indexL3 i.x) from rfl, rend_tk]; rfl
  have HZ := z_ ho
  clear ho hout
  have hc : ((104 : UInt8).toNat : Int) = 104 := rfl
  rw [hc]
  clear hc
  go_enter Tryz.func120, Tryz.ntmps120
  go_wp2_with (go_at_call 67; (with_reducible refine (HP.out _).mono ?_); rintro e w' ⟨rfl, rfl⟩)
  refine (HPa.out 2 (by decide) (by decide)).mono ?_
  rintro e w' ⟨rfl, hW, hb⟩
  go_wp2_with fail
  go_end0
  exact HZ.out ▸ ⟨rfl, hW, hb⟩
 by_cases h99 : c = 99
 ·subst h99
  have ho : condL8.getD ky [] = out := by have hk := HK.out; rw [← hout]; show _ = rend bare i.d i.m _; rw [show markK i.s i.x i.o 99 = tk (nth condL8 (i.o / 8 % 8)) from rfl, hk.1, rend_tk, nth_nat]
  clear hout
  have hc : ((99 : UInt8).toNat : Int) = 99 := rfl
  rw [hc]
  clear hc
  obtain ⟨T, rest, hne, hw, hst, hR, hO, hF⟩ := wt_open Hh.out (by omega)
  have HR := z_ hR
  have HOO := z_ hO
  haveI := hne
  have f2 : ∀ p : M.Of (WC w B b T rest), p.w.cell? ⟨1, ky, none⟩ = some (.string ⟨(condL8.getD ky []).toArray⟩) := fun p => (HV.out.below p.ok.2.1).conds.2 ky (by show _ < 8; omega)
  have hsh : (condL8.getD ky []).length ≤ 60 := Nat.le_trans (nth_short (L := condL8) (by decide) (ky : Nat)) (by decide)
  clear hR hO hF
  generalize condL8.getD ky [] = l at *
  have hk8 : (ky : Int) < 8 := by omega
  have HZ := z_ ho
  clear ho
  go_enter Tryz.func120, Tryz.ntmps120
  go_upto_region 16 with (go_at_call 67; (with_reducible refine (HP.out _).mono ?_); rintro e w' ⟨rfl, rfl⟩)
  refine M.regionE_ (WC w B b T rest) (WE w B b T rest bs) (closed_we _ _ _ _ _ _) (fun _ h => h.1) hst (by kernel_rfl) ?_
  refine M.sx [0, 1, 2, 3, 4, 5] 1 (hw.1) ?_
  repeat (go_big_quiet_step (fail))
  refine wpQuiet_nil ?_
  refine M.cl 6 ?_
  intro wz sz
  unfold Oper.does
  go_simp
  refine (HR.out wz _ l rfl hsh sz).mono ?_
  rintro e w3 ⟨rfl, hW⟩
  refine ⟨_, rfl, WE w B b T rest (bs ++ l), hW, closed_we _ _ _ _ _ _, fun _ h => h.1, ?_⟩
  clear sz hW f2
  refine M.en ?_
  intro wc sc
  go_wp2
  go_end0
  exact HZ.out ▸ HOO.out _ _ sc
 by_cases h106 : c = 106
 ·subst h106
  obtain ⟨k4, hk4⟩ : ∃ k4 : Nat, (ky : Int) % 4 = k4 := ⟨ky % 4, by omega⟩
  have ho : condL8.getD k4 [] = out := by have hk := HK.out; rw [← hout]; show _ = rend bare i.d i.m _; rw [show markK i.s i.x i.o 106 = tk (nth condL8 (i.o / 8 % 8 % 4)) from rfl, hk.1, rend_tk, hk4, nth_nat]
  clear hout
  have hc : ((106 : UInt8).toNat : Int) = 106 := rfl
  rw [hc]
  clear hc
  obtain ⟨T, rest, hne, hw, hst, hR, hO, hF⟩ := wt_open Hh.out (by omega)
  have HR := z_ hR
  have HOO := z_ hO
  haveI := hne
  have f2 : ∀ p : M.Of (WC w B b T rest), p.w.cell? ⟨1, k4, none⟩ = some (.string ⟨(condL8.getD k4 []).toArray⟩) := fun p => (HV.out.below p.ok.2.1).conds.2 k4 (by show _ < 8; omega)
  have hsh : (condL8.getD k4 []).length ≤ 60 := Nat.le_trans (nth_short (L := condL8) (by decide) (k4 : Nat)) (by decide)
  clear hR hO hF
  generalize condL8.getD k4 [] = l at *
  have hk8 : (k4 : Int) < 8 := by omega
  have hk0 : (0 : Int) ≤ k4 := by omega
  have hr4 : (ky : Int).tmod 4 = k4 := by rw [Int.tmod_eq_emod_of_nonneg (by omega)]; exact hk4
  clear hk4
  have HZ := z_ ho
  clear ho
  go_enter Tryz.func120, Tryz.ntmps120
  go_upto_region 18 with (go_at_call 67; (with_reducible refine (HP.out _).mono ?_); rintro e w' ⟨rfl, rfl⟩)
  refine M.regionE_ (WC w B b T rest) (WE w B b T rest bs) (closed_we _ _ _ _ _ _) (fun _ h => h.1) hst (by kernel_rfl) ?_
  refine M.sx [0, 1, 2, 3, 4, 5, 6] 1 (hw.1) ?_
  repeat (go_big_quiet_step (fail))
  refine wpQuiet_nil ?_
  refine M.cl 7 ?_
  intro wz sz
  unfold Oper.does
  go_simp
  refine (HR.out wz _ l rfl hsh sz).mono ?_
  rintro e w3 ⟨rfl, hW⟩
  refine ⟨_, rfl, WE w B b T rest (bs ++ l), hW, closed_we _ _ _ _ _ _, fun _ h => h.1, ?_⟩
  clear sz hW f2
  refine M.en ?_
  intro wc sc
  go_wp2
  go_end0
  exact HZ.out ▸ HOO.out _ _ sc
 by_cases h110 : c = 110
 ·subst h110
  have ho : (if bare = true then [] else Lib.itoa mm) = out := by have hk := HK.out; rw [← hout]; show _ = rend bare i.d i.m _; rw [show markK i.s i.x i.o 110 = [256] from rfl, rend_imm, hk.2.2.2]
  have HZ := z_ ho
  clear ho hout
  have hc : ((110 : UInt8).toNat : Int) = 110 := rfl
  rw [hc]
  clear hc
  go_enter Tryz.func120, Tryz.ntmps120
  go_wp2_with (go_at_call 67; (with_reducible refine (HP.out _).mono ?_); rintro e w' ⟨rfl, rfl⟩)
  refine (HO.out).mono ?_
  rintro e w' ⟨rfl, hW, hb⟩
  go_wp2_with fail
  go_end0
  exact HZ.out ▸ ⟨rfl, hW, hb⟩
 by_cases h101 : c = 101
 ·subst h101
  have ho : signT bare mm = out := by have hk := HK.out; rw [← hout]; show _ = rend bare i.d i.m _; rw [show markK i.s i.x i.o 101 = [257] from rfl, rend_way, hk.2.2.2]
  have HZ := z_ ho
  clear ho hout
  have hc : ((101 : UInt8).toNat : Int) = 101 := rfl
  rw [hc]
  clear hc
  go_enter Tryz.func120, Tryz.ntmps120
  go_wp2_with (go_at_call 67; (with_reducible refine (HP.out _).mono ?_); rintro e w' ⟨rfl, rfl⟩)
  refine (HG.out).mono ?_
  rintro e w' ⟨rfl, hW, hb⟩
  go_wp2_with fail
  go_end0
  exact HZ.out ▸ ⟨rfl, hW, hb⟩
 by_cases h118 : c = 118
 ·subst h118
  have ho : Lib.itoa (ky : Int) = out := by have hk := HK.out; rw [← hout]; show _ = rend bare i.d i.m _; rw [show markK i.s i.x i.o 118 = [48 + (i.o / 8 % 8).toNat] from rfl, hk.1, Int.toNat_natCast, rend_one _ _ _ _ (by omega), itoa_lt8 ky hy8]
  have HZ := z_ ho
  clear ho hout
  have hc : ((118 : UInt8).toNat : Int) = 118 := rfl
  rw [hc]
  clear hc
  go_enter Tryz.func120, Tryz.ntmps120
  go_wp2_with (go_at_call 67; (with_reducible refine (HP.out _).mono ?_); rintro e w' ⟨rfl, rfl⟩)
  refine (HNu.out (ky : Int) (by omega) (by omega)).mono ?_
  rintro e w' ⟨rfl, hW, hb⟩
  go_wp2_with fail
  go_end0
  exact HZ.out ▸ ⟨rfl, hW, hb⟩
 by_cases h116 : c = 116
 ·subst h116
  have ho : Lib.itoa (8 * (ky : Int)) = out := by have hk := HK.out; rw [← hout]; show _ = rend bare i.d i.m _; rw [show markK i.s i.x i.o 116 = tensL.getD (i.o / 8 % 8).toNat [] from rfl, hk.1, Int.toNat_natCast, rend_tens _ _ _ ky hy8, itoa_tens ky hy8]
  have HZ := z_ ho
  clear ho hout
  have hc : ((116 : UInt8).toNat : Int) = 116 := rfl
  rw [hc]
  clear hc
  go_enter Tryz.func120, Tryz.ntmps120
  go_wp2_with (go_at_call 67; (with_reducible refine (HP.out _).mono ?_); rintro e w' ⟨rfl, rfl⟩)
  refine (HNu.out (8 * (ky : Int)) (by omega) (by omega)).mono ?_
  rintro e w' ⟨rfl, hW, hb⟩
  go_wp2_with fail
  go_end0
  exact HZ.out ▸ ⟨rfl, hW, hb⟩
 by_cases h114 : c = 114
 ·subst h114
  have ho : shiftL8.getD ky [] = out := by have hk := HK.out; rw [← hout]; show _ = rend bare i.d i.m _; rw [show markK i.s i.x i.o 114 = tk (nth shiftL8 (i.o / 8 % 8)) from rfl, hk.1, rend_tk, nth_nat]
  clear hout
  have hc : ((114 : UInt8).toNat : Int) = 114 := rfl
  rw [hc]
  clear hc
  obtain ⟨T, rest, hne, hw, hst, hR, hO, hF⟩ := wt_open Hh.out (by omega)
  have HR := z_ hR
  have HOO := z_ hO
  haveI := hne
  have f2 : ∀ p : M.Of (WC w B b T rest), p.w.cell? ⟨2, ky, none⟩ = some (.string ⟨(shiftL8.getD ky []).toArray⟩) := fun p => (HV.out.below p.ok.2.1).shifts.2 ky (by show _ < 8; omega)
  have hsh : (shiftL8.getD ky []).length ≤ 60 := Nat.le_trans (nth_short (L := shiftL8) (by decide) (ky : Nat)) (by decide)
  clear hR hO hF
  generalize shiftL8.getD ky [] = l at *
  have hk8 : (ky : Int) < 8 := by omega
  have HZ := z_ ho
  clear ho
  go_enter Tryz.func120, Tryz.ntmps120
  go_upto_region 28 with (go_at_call 67; (with_reducible refine (HP.out _).mono ?_); rintro e w' ⟨rfl, rfl⟩)
  refine M.regionE_ (WC w B b T rest) (WE w B b T rest bs) (closed_we _ _ _ _ _ _) (fun _ h => h.1) hst (by kernel_rfl) ?_
  refine M.sx [0, 1, 2, 3, 4, 5] 1 (hw.1) ?_
  repeat (go_big_quiet_step (fail))
  refine wpQuiet_nil ?_
  refine M.cl 6 ?_
  intro wz sz
  unfold Oper.does
  go_simp
  refine (HR.out wz _ l rfl hsh sz).mono ?_
  rintro e w3 ⟨rfl, hW⟩
  refine ⟨_, rfl, WE w B b T rest (bs ++ l), hW, closed_we _ _ _ _ _ _, fun _ h => h.1, ?_⟩
  clear sz hW f2
  refine M.en ?_
  intro wc sc
  go_wp2
  go_end0
  exact HZ.out ▸ HOO.out _ _ sc
 by_cases h97 : c = 97
 ·subst h97
  have ho : operL8.getD ky [] = out := by have hk := HK.out; rw [← hout]; show _ = rend bare i.d i.m _; rw [show markK i.s i.x i.o 97 = tk (nth operL8 (i.o / 8 % 8)) from rfl, hk.1, rend_tk, nth_nat]
  clear hout
  have hc : ((97 : UInt8).toNat : Int) = 97 := rfl
  rw [hc]
  clear hc
  obtain ⟨T, rest, hne, hw, hst, hR, hO, hF⟩ := wt_open Hh.out (by omega)
  have HR := z_ hR
  have HOO := z_ hO
  haveI := hne
  have f2 : ∀ p : M.Of (WC w B b T rest), p.w.cell? ⟨3, ky, none⟩ = some (.string ⟨(operL8.getD ky []).toArray⟩) := fun p => (HV.out.below p.ok.2.1).opers.2 ky (by show _ < 8; omega)
  have hsh : (operL8.getD ky []).length ≤ 60 := Nat.le_trans (nth_short (L := operL8) (by decide) (ky : Nat)) (by decide)
  clear hR hO hF
  generalize operL8.getD ky [] = l at *
  have hk8 : (ky : Int) < 8 := by omega
  have HZ := z_ ho
  clear ho
  go_enter Tryz.func120, Tryz.ntmps120
  go_upto_region 30 with (go_at_call 67; (with_reducible refine (HP.out _).mono ?_); rintro e w' ⟨rfl, rfl⟩)
  refine M.regionE_ (WC w B b T rest) (WE w B b T rest bs) (closed_we _ _ _ _ _ _) (fun _ h => h.1) hst (by kernel_rfl) ?_
  refine M.sx [0, 1, 2, 3, 4, 5] 1 (hw.1) ?_
  repeat (go_big_quiet_step (fail))
  refine wpQuiet_nil ?_
  refine M.cl 6 ?_
  intro wz sz
  unfold Oper.does
  go_simp
  refine (HR.out wz _ l rfl hsh sz).mono ?_
  rintro e w3 ⟨rfl, hW⟩
  refine ⟨_, rfl, WE w B b T rest (bs ++ l), hW, closed_we _ _ _ _ _ _, fun _ h => h.1, ?_⟩
  clear sz hW f2
  refine M.en ?_
  intro wc sc
  go_wp2
  go_end0
  exact HZ.out ▸ HOO.out _ _ sc
 have ho : [c] = out := by
  rw [← hout]
  unfold markK
  rw [if_neg h121, if_neg h122, if_neg h109, if_neg h115, if_neg h107, if_neg h104, if_neg h99, if_neg h106, if_neg h110, if_neg h101, if_neg h118, if_neg h116, if_neg h114, if_neg h97, rend_one _ _ _ _ c.toNat_lt, UInt8.ofNat_toNat]
 have e121 : (((c.toNat : Nat) : Int) == 121) = false := byte_ne h121
 have e122 : (((c.toNat : Nat) : Int) == 122) = false := byte_ne h122
 have e109 : (((c.toNat : Nat) : Int) == 109) = false := byte_ne h109
 have e115 : (((c.toNat : Nat) : Int) == 115) = false := byte_ne h115
 have e107 : (((c.toNat : Nat) : Int) == 107) = false := byte_ne h107
 have e104 : (((c.toNat : Nat) : Int) == 104) = false := byte_ne h104
 have e99 : (((c.toNat : Nat) : Int) == 99) = false := byte_ne h99
 have e106 : (((c.toNat : Nat) : Int) == 106) = false := byte_ne h106
 have e110 : (((c.toNat : Nat) : Int) == 110) = false := byte_ne h110
 have e101 : (((c.toNat : Nat) : Int) == 101) = false := byte_ne h101
 have e118 : (((c.toNat : Nat) : Int) == 118) = false := byte_ne h118
 have e116 : (((c.toNat : Nat) : Int) == 116) = false := byte_ne h116
 have e114 : (((c.toNat : Nat) : Int) == 114) = false := byte_ne h114
 have e97 : (((c.toNat : Nat) : Int) == 97) = false := byte_ne h97
 have HZ := z_ ho
 clear ho hout h121 h122 h109 h115 h107 h104 h99 h106 h110 h101 h118 h116 h114 h97
 have HY2 := z_ (HY.out _ rfl)
 obtain ⟨n, hn⟩ : ∃ n : Int, (c.toNat : Int) = n := ⟨_, rfl⟩
 rw [hn] at HY2 e121 e122 e109 e115 e107 e104 e99 e106 e110 e101 e118 e116 e114 e97 ⊢
 clear hn
 go_enter Tryz.func120, Tryz.ntmps120
 go_wp2_with (go_at_call 67; (with_reducible refine (HP.out _).mono ?_); rintro e w' ⟨rfl, rfl⟩)
 refine HY2.out.mono ?_
 rintro e w' ⟨rfl, hW, hb⟩
 go_wp2_with fail
 go_end0
 exact HZ.out ▸ ⟨rfl, hW, hb⟩
end Go.Proofs.YtgaihekapakoeaaGreatDoor
namespace Go.Proofs.YtgaihekapakoeaaGreatDoor
open Go.RowKit


set_option maxRecDepth 100000

theorem idx_low0 (k : Nat) (w : World) (hk : k < 8) : (Instr.index 170 (.agg #[.string { data := #[78, 79, 80] }, .string { data := #[69, 88, 32, 65, 70, 44, 65, 70, 39] }, .string { data := #[68, 74, 78, 90, 32, 101] }, .string { data := #[74, 82, 32, 101] }, .string { data := #[74, 82, 32, 106, 44, 101] }, .string { data := #[74, 82, 32, 106, 44, 101] }, .string { data := #[74, 82, 32, 106, 44, 101] }, .string { data := #[74, 82, 32, 106, 44, 101] }]) (.int .i64 (k : Int))).run Tryz.prog w = .ok (.string ⟨(low0.getD k []).toArray⟩) w :=
 match k, hk with
 | 0, _ => by kernel_rfl
 | 1, _ => by kernel_rfl
 | 2, _ => by kernel_rfl
 | 3, _ => by kernel_rfl
 | 4, _ => by kernel_rfl
 | 5, _ => by kernel_rfl
 | 6, _ => by kernel_rfl
 | 7, _ => by kernel_rfl
theorem idx_low1 (k : Nat) (w : World) (hk : k < 2) : (Instr.index 171 (.agg #[.string { data := #[76, 68, 32, 115, 44, 110] }, .string { data := #[65, 68, 68, 32, 104, 44, 115] }]) (.int .i64 (k : Int))).run Tryz.prog w = .ok (.string ⟨(low1.getD k []).toArray⟩) w :=
 match k, hk with
 | 0, _ => by kernel_rfl
 | 1, _ => by kernel_rfl
theorem idx_low2 (k : Nat) (w : World) (hk : k < 8) : (Instr.index 170 (.agg #[.string { data := #[76, 68, 32, 40, 66, 67, 41, 44, 65] }, .string { data := #[76, 68, 32, 65, 44, 40, 66, 67, 41] }, .string { data := #[76, 68, 32, 40, 68, 69, 41, 44, 65] }, .string { data := #[76, 68, 32, 65, 44, 40, 68, 69, 41] }, .string { data := #[76, 68, 32, 40, 110, 41, 44, 104] }, .string { data := #[76, 68, 32, 104, 44, 40, 110, 41] }, .string { data := #[76, 68, 32, 40, 110, 41, 44, 65] }, .string { data := #[76, 68, 32, 65, 44, 40, 110, 41] }]) (.int .i64 (k : Int))).run Tryz.prog w = .ok (.string ⟨(low2.getD k []).toArray⟩) w :=
 match k, hk with
 | 0, _ => by kernel_rfl
 | 1, _ => by kernel_rfl
 | 2, _ => by kernel_rfl
 | 3, _ => by kernel_rfl
 | 4, _ => by kernel_rfl
 | 5, _ => by kernel_rfl
 | 6, _ => by kernel_rfl
 | 7, _ => by kernel_rfl
theorem idx_low3 (k : Nat) (w : World) (hk : k < 2) : (Instr.index 171 (.agg #[.string { data := #[73, 78, 67, 32, 115] }, .string { data := #[68, 69, 67, 32, 115] }]) (.int .i64 (k : Int))).run Tryz.prog w = .ok (.string ⟨(low3.getD k []).toArray⟩) w :=
 match k, hk with
 | 0, _ => by kernel_rfl
 | 1, _ => by kernel_rfl
theorem idx_low7 (k : Nat) (w : World) (hk : k < 8) : (Instr.index 170 (.agg #[.string { data := #[82, 76, 67, 65] }, .string { data := #[82, 82, 67, 65] }, .string { data := #[82, 76, 65] }, .string { data := #[82, 82, 65] }, .string { data := #[68, 65, 65] }, .string { data := #[67, 80, 76] }, .string { data := #[83, 67, 70] }, .string { data := #[67, 67, 70] }]) (.int .i64 (k : Int))).run Tryz.prog w = .ok (.string ⟨(low7.getD k []).toArray⟩) w :=
 match k, hk with
 | 0, _ => by kernel_rfl
 | 1, _ => by kernel_rfl
 | 2, _ => by kernel_rfl
 | 3, _ => by kernel_rfl
 | 4, _ => by kernel_rfl
 | 5, _ => by kernel_rfl
 | 6, _ => by kernel_rfl
 | 7, _ => by kernel_rfl
theorem idx_high1 (k : Nat) (w : World) (hk : k < 8) : (Instr.index 170 (.agg #[.string { data := #[80, 79, 80, 32, 107] }, .string { data := #[82, 69, 84] }, .string { data := #[80, 79, 80, 32, 107] }, .string { data := #[69, 88, 88] }, .string { data := #[80, 79, 80, 32, 107] }, .string { data := #[74, 80, 32, 40, 104, 41] }, .string { data := #[80, 79, 80, 32, 107] }, .string { data := #[76, 68, 32, 83, 80, 44, 104] }]) (.int .i64 (k : Int))).run Tryz.prog w = .ok (.string ⟨(high1.getD k []).toArray⟩) w :=
 match k, hk with
 | 0, _ => by kernel_rfl
 | 1, _ => by kernel_rfl
 | 2, _ => by kernel_rfl
 | 3, _ => by kernel_rfl
 | 4, _ => by kernel_rfl
 | 5, _ => by kernel_rfl
 | 6, _ => by kernel_rfl
 | 7, _ => by kernel_rfl
theorem idx_high3 (k : Nat) (w : World) (hk : k < 8) : (Instr.index 170 (.agg #[.string { data := #[74, 80, 32, 110] }, .string { data := #[] }, .string { data := #[79, 85, 84, 32, 40, 110, 41, 44, 65] }, .string { data := #[73, 78, 32, 65, 44, 40, 110, 41] }, .string { data := #[69, 88, 32, 40, 83, 80, 41, 44, 104] }, .string { data := #[69, 88, 32, 68, 69, 44, 72, 76] }, .string { data := #[68, 73] }, .string { data := #[69, 73] }]) (.int .i64 (k : Int))).run Tryz.prog w = .ok (.string ⟨(high3.getD k []).toArray⟩) w :=
 match k, hk with
 | 0, _ => by kernel_rfl
 | 1, _ => by kernel_rfl
 | 2, _ => by kernel_rfl
 | 3, _ => by kernel_rfl
 | 4, _ => by kernel_rfl
 | 5, _ => by kernel_rfl
 | 6, _ => by kernel_rfl
 | 7, _ => by kernel_rfl
theorem idx_high5 (k : Nat) (w : World) (hk : k < 2) : (Instr.index 171 (.agg #[.string { data := #[80, 85, 83, 72, 32, 107] }, .string { data := #[67, 65, 76, 76, 32, 110] }]) (.int .i64 (k : Int))).run Tryz.prog w = .ok (.string ⟨(high5.getD k []).toArray⟩) w :=
 match k, hk with
 | 0, _ => by kernel_rfl
 | 1, _ => by kernel_rfl
theorem idx_bits1 (k : Nat) (w : World) (hk : k < 4) : (Instr.index 145 (.agg #[.string { data := #[114, 122] }, .string { data := #[66, 73, 84, 32, 118, 44, 122] }, .string { data := #[82, 69, 83, 32, 118, 44, 122] }, .string { data := #[83, 69, 84, 32, 118, 44, 122] }]) (.int .i64 (k : Int))).run Tryz.prog w = .ok (.string ⟨(bits1.getD k []).toArray⟩) w :=
 match k, hk with
 | 0, _ => by kernel_rfl
 | 1, _ => by kernel_rfl
 | 2, _ => by kernel_rfl
 | 3, _ => by kernel_rfl
theorem idx_bitsM (k : Nat) (w : World) (hk : k < 4) : (Instr.index 145 (.agg #[.string { data := #[114, 109] }, .string { data := #[66, 73, 84, 32, 118, 44, 109] }, .string { data := #[82, 69, 83, 32, 118, 44, 109] }, .string { data := #[83, 69, 84, 32, 118, 44, 109] }]) (.int .i64 (k : Int))).run Tryz.prog w = .ok (.string ⟨(bitsM.getD k []).toArray⟩) w :=
 match k, hk with
 | 0, _ => by kernel_rfl
 | 1, _ => by kernel_rfl
 | 2, _ => by kernel_rfl
 | 3, _ => by kernel_rfl
theorem idx_bitsX (k : Nat) (w : World) (hk : k < 4) : (Instr.index 145 (.agg #[.string { data := #[114, 109, 44, 122] }, .string { data := #[] }, .string { data := #[82, 69, 83, 32, 118, 44, 109, 44, 122] }, .string { data := #[83, 69, 84, 32, 118, 44, 109, 44, 122] }]) (.int .i64 (k : Int))).run Tryz.prog w = .ok (.string ⟨(bitsX.getD k []).toArray⟩) w :=
 match k, hk with
 | 0, _ => by kernel_rfl
 | 1, _ => by kernel_rfl
 | 2, _ => by kernel_rfl
 | 3, _ => by kernel_rfl
theorem idx_more2 (k : Nat) (w : World) (hk : k < 2) : (Instr.index 171 (.agg #[.string { data := #[83, 66, 67, 32, 104, 44, 115] }, .string { data := #[65, 68, 67, 32, 104, 44, 115] }]) (.int .i64 (k : Int))).run Tryz.prog w = .ok (.string ⟨(more2.getD k []).toArray⟩) w :=
 match k, hk with
 | 0, _ => by kernel_rfl
 | 1, _ => by kernel_rfl
theorem idx_more3 (k : Nat) (w : World) (hk : k < 2) : (Instr.index 171 (.agg #[.string { data := #[76, 68, 32, 40, 110, 41, 44, 115] }, .string { data := #[76, 68, 32, 115, 44, 40, 110, 41] }]) (.int .i64 (k : Int))).run Tryz.prog w = .ok (.string ⟨(more3.getD k []).toArray⟩) w :=
 match k, hk with
 | 0, _ => by kernel_rfl
 | 1, _ => by kernel_rfl
theorem idx_more5 (k : Nat) (w : World) (hk : k < 2) : (Instr.index 171 (.agg #[.string { data := #[82, 69, 84, 78] }, .string { data := #[82, 69, 84, 73] }]) (.int .i64 (k : Int))).run Tryz.prog w = .ok (.string ⟨(more5.getD k []).toArray⟩) w :=
 match k, hk with
 | 0, _ => by kernel_rfl
 | 1, _ => by kernel_rfl
theorem idx_more6 (k : Nat) (w : World) (hk : k < 4) : (Instr.index 145 (.agg #[.string { data := #[73, 77, 32, 48] }, .string { data := #[] }, .string { data := #[73, 77, 32, 49] }, .string { data := #[73, 77, 32, 50] }]) (.int .i64 (k : Int))).run Tryz.prog w = .ok (.string ⟨(more6.getD k []).toArray⟩) w :=
 match k, hk with
 | 0, _ => by kernel_rfl
 | 1, _ => by kernel_rfl
 | 2, _ => by kernel_rfl
 | 3, _ => by kernel_rfl
theorem idx_more7 (k : Nat) (w : World) (hk : k < 8) : (Instr.index 170 (.agg #[.string { data := #[76, 68, 32, 73, 44, 65] }, .string { data := #[76, 68, 32, 82, 44, 65] }, .string { data := #[76, 68, 32, 65, 44, 73] }, .string { data := #[76, 68, 32, 65, 44, 82] }, .string { data := #[82, 82, 68] }, .string { data := #[82, 76, 68] }, .string { data := #[] }, .string { data := #[] }]) (.int .i64 (k : Int))).run Tryz.prog w = .ok (.string ⟨(more7.getD k []).toArray⟩) w :=
 match k, hk with
 | 0, _ => by kernel_rfl
 | 1, _ => by kernel_rfl
 | 2, _ => by kernel_rfl
 | 3, _ => by kernel_rfl
 | 4, _ => by kernel_rfl
 | 5, _ => by kernel_rfl
 | 6, _ => by kernel_rfl
 | 7, _ => by kernel_rfl

set_option maxHeartbeats 4000000 in
theorem p_low (o : Int) (w : World) (o0 : 0 ≤ o) (o1 : o < 256) : Calls Tryz.prog 164 #[.int .i64 o] w fun e w' => e = .returned (.string ⟨(patLow o).toArray⟩) ∧ w = w' := by
 obtain ⟨ky, hky⟩ : ∃ k : Nat, o / 8 % 8 = k := ⟨(o / 8 % 8).toNat, by omega⟩
 obtain ⟨kq, hkq⟩ : ∃ k : Nat, o / 8 % 2 = k := ⟨(o / 8 % 2).toNat, by omega⟩
 have hy8 : ky < 8 := by omega
 have hq2 : kq < 2 := by omega
 have HP := fun w => c9_parts o w o0 o1
 rw [hky, hkq] at HP
 obtain ⟨out, hout⟩ : ∃ out, patLow o = out := ⟨_, rfl⟩
 rw [hout]
 unfold patLow at hout
 try rw [hky] at hout
 have hz : o % 8 = 0 ∨ o % 8 = 1 ∨ o % 8 = 2 ∨ o % 8 = 3 ∨ o % 8 = 4 ∨ o % 8 = 5 ∨ o % 8 = 6 ∨ o % 8 = 7 := by omega
 rcases hz with hz | hz | hz | hz | hz | hz | hz | hz
 ·rw [hz] at HP hout
  rw [if_pos rfl] at hout
  clear hky hkq hz o0 o1
  rw [nth_nat] at hout
  have hrun := fun w => idx_low0 ky w hy8
  generalize low0.getD ky [] = l at *
  have HZ := z_ hout
  have HP := z_ HP
  clear hout
  go_enter Tryz.func164, Tryz.ntmps164
  go_wp2_with (go_at_call 67; (with_reducible refine (HP.out _).mono ?_); rintro e w' ⟨rfl, rfl⟩)
  go_ret
  exact ⟨HZ.out ▸ rfl, rfl⟩
 ·rw [hz] at HP hout
  rw [if_neg (by decide), if_pos rfl] at hout
  rw [hkq] at hout
  clear hky hkq hz o0 o1
  rw [nth_nat] at hout
  have hrun := fun w => idx_low1 kq w hq2
  generalize low1.getD kq [] = l at *
  have HZ := z_ hout
  have HP := z_ HP
  clear hout
  go_enter Tryz.func164, Tryz.ntmps164
  go_wp2_with (go_at_call 67; (with_reducible refine (HP.out _).mono ?_); rintro e w' ⟨rfl, rfl⟩)
  go_ret
  exact ⟨HZ.out ▸ rfl, rfl⟩
 ·rw [hz] at HP hout
  rw [if_neg (by decide), if_neg (by decide), if_pos rfl] at hout
  clear hky hkq hz o0 o1
  rw [nth_nat] at hout
  have hrun := fun w => idx_low2 ky w hy8
  generalize low2.getD ky [] = l at *
  have HZ := z_ hout
  have HP := z_ HP
  clear hout
  go_enter Tryz.func164, Tryz.ntmps164
  go_wp2_with (go_at_call 67; (with_reducible refine (HP.out _).mono ?_); rintro e w' ⟨rfl, rfl⟩)
  go_ret
  exact ⟨HZ.out ▸ rfl, rfl⟩
 ·rw [hz] at HP hout
  rw [if_neg (by decide), if_neg (by decide), if_neg (by decide), if_pos rfl] at hout
  rw [hkq] at hout
  clear hky hkq hz o0 o1
  rw [nth_nat] at hout
  have hrun := fun w => idx_low3 kq w hq2
  generalize low3.getD kq [] = l at *
  have HZ := z_ hout
  have HP := z_ HP
  clear hout
  go_enter Tryz.func164, Tryz.ntmps164
  go_wp2_with (go_at_call 67; (with_reducible refine (HP.out _).mono ?_); rintro e w' ⟨rfl, rfl⟩)
  go_ret
  exact ⟨HZ.out ▸ rfl, rfl⟩
 ·rw [hz] at HP hout
  rw [if_neg (by decide), if_neg (by decide), if_neg (by decide), if_neg (by decide), if_pos rfl] at hout
  clear hky hkq hz o0 o1
  have HZ := z_ hout
  have HP := z_ HP
  clear hout
  go_enter Tryz.func164, Tryz.ntmps164
  go_wp2_with (go_at_call 67; (with_reducible refine (HP.out _).mono ?_); rintro e w' ⟨rfl, rfl⟩)
  go_ret
  exact ⟨HZ.out ▸ rfl, rfl⟩
 ·rw [hz] at HP hout
  rw [if_neg (by decide), if_neg (by decide), if_neg (by decide), if_neg (by decide), if_neg (by decide), if_pos rfl] at hout
  clear hky hkq hz o0 o1
  have HZ := z_ hout
  have HP := z_ HP
  clear hout
  go_enter Tryz.func164, Tryz.ntmps164
  go_wp2_with (go_at_call 67; (with_reducible refine (HP.out _).mono ?_); rintro e w' ⟨rfl, rfl⟩)
  go_ret
  exact ⟨HZ.out ▸ rfl, rfl⟩
 ·rw [hz] at HP hout
  rw [if_neg (by decide), if_neg (by decide), if_neg (by decide), if_neg (by decide), if_neg (by decide), if_neg (by decide), if_pos rfl] at hout
  clear hky hkq hz o0 o1
  have HZ := z_ hout
  have HP := z_ HP
  clear hout
  go_enter Tryz.func164, Tryz.ntmps164
  go_wp2_with (go_at_call 67; (with_reducible refine (HP.out _).mono ?_); rintro e w' ⟨rfl, rfl⟩)
  go_ret
  exact ⟨HZ.out ▸ rfl, rfl⟩
 ·rw [hz] at HP hout
  rw [if_neg (by decide), if_neg (by decide), if_neg (by decide), if_neg (by decide), if_neg (by decide), if_neg (by decide), if_neg (by decide)] at hout
  clear hky hkq hz o0 o1
  rw [nth_nat] at hout
  have hrun := fun w => idx_low7 ky w hy8
  generalize low7.getD ky [] = l at *
  have HZ := z_ hout
  have HP := z_ HP
  clear hout
  go_enter Tryz.func164, Tryz.ntmps164
  go_wp2_with (go_at_call 67; (with_reducible refine (HP.out _).mono ?_); rintro e w' ⟨rfl, rfl⟩)
  go_ret
  exact ⟨HZ.out ▸ rfl, rfl⟩

set_option maxHeartbeats 4000000 in
theorem p_high (o : Int) (w : World) (B : Nat) (hV : VT w B) (o0 : 0 ≤ o) (o1 : o < 256) : Calls Tryz.prog 165 #[.int .i64 o] w fun e w' => e = .returned (.string ⟨(patHigh o).toArray⟩) ∧ w = w' := by
 obtain ⟨ky, hky⟩ : ∃ k : Nat, o / 8 % 8 = k := ⟨(o / 8 % 8).toNat, by omega⟩
 obtain ⟨kq, hkq⟩ : ∃ k : Nat, o / 8 % 2 = k := ⟨(o / 8 % 2).toNat, by omega⟩
 have hy8 : ky < 8 := by omega
 have hq2 : kq < 2 := by omega
 have HP := fun w => c9_parts o w o0 o1
 rw [hky, hkq] at HP
 obtain ⟨out, hout⟩ : ∃ out, patHigh o = out := ⟨_, rfl⟩
 rw [hout]
 unfold patHigh at hout
 try rw [hky] at hout
 have hz : o % 8 = 0 ∨ o % 8 = 1 ∨ o % 8 = 2 ∨ o % 8 = 3 ∨ o % 8 = 4 ∨ o % 8 = 5 ∨ o % 8 = 6 ∨ o % 8 = 7 := by omega
 rcases hz with hz | hz | hz | hz | hz | hz | hz | hz
 ·rw [hz] at HP hout
  rw [if_pos rfl] at hout
  clear hky hkq hz o0 o1
  have HZ := z_ hout
  have HP := z_ HP
  clear hout
  go_enter Tryz.func165, Tryz.ntmps165
  go_wp2_with (go_at_call 67; (with_reducible refine (HP.out _).mono ?_); rintro e w' ⟨rfl, rfl⟩)
  go_ret
  exact ⟨HZ.out ▸ rfl, rfl⟩
 ·rw [hz] at HP hout
  rw [if_neg (by decide), if_pos rfl] at hout
  clear hky hkq hz o0 o1
  rw [nth_nat] at hout
  have hrun := fun w => idx_high1 ky w hy8
  generalize high1.getD ky [] = l at *
  have HZ := z_ hout
  have HP := z_ HP
  clear hout
  go_enter Tryz.func165, Tryz.ntmps165
  go_wp2_with (go_at_call 67; (with_reducible refine (HP.out _).mono ?_); rintro e w' ⟨rfl, rfl⟩)
  go_ret
  exact ⟨HZ.out ▸ rfl, rfl⟩
 ·rw [hz] at HP hout
  rw [if_neg (by decide), if_neg (by decide), if_pos rfl] at hout
  clear hky hkq hz o0 o1
  have HZ := z_ hout
  have HP := z_ HP
  clear hout
  go_enter Tryz.func165, Tryz.ntmps165
  go_wp2_with (go_at_call 67; (with_reducible refine (HP.out _).mono ?_); rintro e w' ⟨rfl, rfl⟩)
  go_ret
  exact ⟨HZ.out ▸ rfl, rfl⟩
 ·rw [hz] at HP hout
  rw [if_neg (by decide), if_neg (by decide), if_neg (by decide), if_pos rfl] at hout
  clear hky hkq hz o0 o1
  rw [nth_nat] at hout
  have hrun := fun w => idx_high3 ky w hy8
  generalize high3.getD ky [] = l at *
  have HZ := z_ hout
  have HP := z_ HP
  clear hout
  go_enter Tryz.func165, Tryz.ntmps165
  go_wp2_with (go_at_call 67; (with_reducible refine (HP.out _).mono ?_); rintro e w' ⟨rfl, rfl⟩)
  go_ret
  exact ⟨HZ.out ▸ rfl, rfl⟩
 ·rw [hz] at HP hout
  rw [if_neg (by decide), if_neg (by decide), if_neg (by decide), if_neg (by decide), if_pos rfl] at hout
  clear hky hkq hz o0 o1
  have HZ := z_ hout
  have HP := z_ HP
  clear hout
  go_enter Tryz.func165, Tryz.ntmps165
  go_wp2_with (go_at_call 67; (with_reducible refine (HP.out _).mono ?_); rintro e w' ⟨rfl, rfl⟩)
  go_ret
  exact ⟨HZ.out ▸ rfl, rfl⟩
 ·rw [hz] at HP hout
  rw [if_neg (by decide), if_neg (by decide), if_neg (by decide), if_neg (by decide), if_neg (by decide), if_pos rfl] at hout
  rw [hkq] at hout
  clear hky hkq hz o0 o1
  rw [nth_nat] at hout
  have hrun := fun w => idx_high5 kq w hq2
  generalize high5.getD kq [] = l at *
  have HZ := z_ hout
  have HP := z_ HP
  clear hout
  go_enter Tryz.func165, Tryz.ntmps165
  go_wp2_with (go_at_call 67; (with_reducible refine (HP.out _).mono ?_); rintro e w' ⟨rfl, rfl⟩)
  go_ret
  exact ⟨HZ.out ▸ rfl, rfl⟩
 ·rw [hz] at HP hout
  rw [if_neg (by decide), if_neg (by decide), if_neg (by decide), if_neg (by decide), if_neg (by decide), if_neg (by decide), if_pos rfl] at hout
  clear hky hkq hz o0 o1
  have HZ := z_ hout
  have HP := z_ HP
  clear hout
  go_enter Tryz.func165, Tryz.ntmps165
  go_wp2_with (go_at_call 67; (with_reducible refine (HP.out _).mono ?_); rintro e w' ⟨rfl, rfl⟩)
  go_ret
  exact ⟨HZ.out ▸ rfl, rfl⟩
 ·rw [hz] at HP hout
  rw [if_neg (by decide), if_neg (by decide), if_neg (by decide), if_neg (by decide), if_neg (by decide), if_neg (by decide), if_neg (by decide)] at hout
  clear hky hkq hz o0 o1
  have HZ := z_ hout
  have HP := z_ HP
  clear hout
  go_enter Tryz.func165, Tryz.ntmps165
  go_wp2_with (go_at_call 67; (with_reducible refine (HP.out _).mono ?_); rintro e w' ⟨rfl, rfl⟩)
  go_ret
  exact ⟨HZ.out ▸ rfl, rfl⟩

set_option maxHeartbeats 4000000 in
theorem p_main (o : Int) (w : World) (B : Nat) (hV : VT w B) (o0 : 0 ≤ o) (o1 : o < 256) : Calls Tryz.prog 122 #[.int .i64 o] w fun e w' => e = .returned (.string ⟨(patMain o).toArray⟩) ∧ w = w' := by
 obtain ⟨ky, hky⟩ : ∃ k : Nat, o / 8 % 8 = k := ⟨(o / 8 % 8).toNat, by omega⟩
 obtain ⟨kq, hkq⟩ : ∃ k : Nat, o / 8 % 2 = k := ⟨(o / 8 % 2).toNat, by omega⟩
 have hy8 : ky < 8 := by omega
 have hq2 : kq < 2 := by omega
 have HP := fun w => c9_parts o w o0 o1
 rw [hky, hkq] at HP
 obtain ⟨out, hout⟩ : ∃ out, patMain o = out := ⟨_, rfl⟩
 rw [hout]
 unfold patMain at hout
 try rw [hky] at hout
 have HL := z_ (fun w => p_low o w o0 o1)
 have HH := z_ (p_high o w B hV o0 o1)
 have hx : o / 64 = 0 ∨ o = 118 ∨ (o / 64 = 1 ∧ o ≠ 118) ∨ o / 64 = 2 ∨ o / 64 = 3 := by omega
 rcases hx with hx | hx | ⟨hx, h118⟩ | hx | hx
 ·rw [hx] at HP hout
  rw [if_pos rfl] at hout
  clear hky hkq hx o0 o1
  have HZ := z_ hout
  have HP := z_ HP
  clear hout
  go_enter Tryz.func122, Tryz.ntmps122
  go_wp2_with (first
   | (go_at_call 67; (with_reducible refine (HP.out _).mono ?_); rintro e w' ⟨rfl, rfl⟩)
   | (go_at_call 164; (with_reducible refine (HL.out _).mono ?_); rintro e w' ⟨rfl, rfl⟩))
  go_ret
  exact ⟨HZ.out ▸ rfl, rfl⟩
 ·subst hx
  have hout2 : [72, 65, 76, 84] = out := hout
  have hX : (118 : Int) / 64 = 1 := by decide
  rw [hX] at HP
  clear hout hX
  have HZ := z_ hout2
  have HP := z_ HP
  clear hout2 hky hkq o0 o1
  go_enter Tryz.func122, Tryz.ntmps122
  go_wp2_with (go_at_call 67; (with_reducible refine (HP.out _).mono ?_); rintro e w' ⟨rfl, rfl⟩)
  go_ret
  exact ⟨HZ.out ▸ rfl, rfl⟩
 ·rw [hx] at HP hout
  rw [if_neg (by decide), if_neg h118, if_pos rfl] at hout
  have he : (o == 118) = false := beq_eq_false_iff_ne.2 h118
  clear hky hkq hx o0 o1 h118
  have HZ := z_ hout
  have HP := z_ HP
  clear hout
  go_enter Tryz.func122, Tryz.ntmps122
  go_wp2_with (go_at_call 67; (with_reducible refine (HP.out _).mono ?_); rintro e w' ⟨rfl, rfl⟩)
  go_ret
  exact ⟨HZ.out ▸ rfl, rfl⟩
 ·have he : (o == 118) = false := beq_eq_false_iff_ne.2 (by omega)
  rw [hx] at HP hout
  rw [if_neg (by decide), if_neg (by omega), if_neg (by decide), if_pos rfl] at hout
  clear hky hkq hx o0 o1
  have HE := z_ he
  clear he
  have he : (o == 118) = false := HE.out
  have HZ := z_ hout
  have HP := z_ HP
  clear hout
  go_enter Tryz.func122, Tryz.ntmps122
  go_wp2_with (go_at_call 67; (with_reducible refine (HP.out _).mono ?_); rintro e w' ⟨rfl, rfl⟩)
  go_ret
  exact ⟨HZ.out ▸ rfl, rfl⟩
 ·have he : (o == 118) = false := beq_eq_false_iff_ne.2 (by omega)
  rw [hx] at HP hout
  rw [if_neg (by decide), if_neg (by omega), if_neg (by decide), if_neg (by decide)] at hout
  clear hky hkq hx o0 o1
  have HZ := z_ hout
  have HP := z_ HP
  clear hout
  go_enter Tryz.func122, Tryz.ntmps122
  go_wp2_with (first
   | (go_at_call 67; (with_reducible refine (HP.out _).mono ?_); rintro e w' ⟨rfl, rfl⟩)
   | (go_at_call 165; (with_reducible refine HH.out.mono ?_); rintro e w' ⟨rfl, rfl⟩))
  go_ret
  exact ⟨HZ.out ▸ rfl, rfl⟩
def blkV : Nat → Value
 | 0 => (.agg #[.string { data := #[76, 68, 73] }, .string { data := #[76, 68, 68] }, .string { data := #[76, 68, 73, 82] }, .string { data := #[76, 68, 68, 82] }])
 | 1 => (.agg #[.string { data := #[67, 80, 73] }, .string { data := #[67, 80, 68] }, .string { data := #[67, 80, 73, 82] }, .string { data := #[67, 80, 68, 82] }])
 | 2 => (.agg #[.string { data := #[73, 78, 73] }, .string { data := #[73, 78, 68] }, .string { data := #[73, 78, 73, 82] }, .string { data := #[73, 78, 68, 82] }])
 | _ => (.agg #[.string { data := #[79, 85, 84, 73] }, .string { data := #[79, 85, 84, 68] }, .string { data := #[79, 84, 73, 82] }, .string { data := #[79, 84, 68, 82] }])
theorem idx_blk (k : Nat) (w : World) (hk : k < 4) : (Instr.index 192 (.agg #[.string { data := #[76, 68, 73] }, .string { data := #[76, 68, 68] }, .string { data := #[76, 68, 73, 82] }, .string { data := #[76, 68, 68, 82] }, .string { data := #[67, 80, 73] }, .string { data := #[67, 80, 68] }, .string { data := #[67, 80, 73, 82] }, .string { data := #[67, 80, 68, 82] }, .string { data := #[73, 78, 73] }, .string { data := #[73, 78, 68] }, .string { data := #[73, 78, 73, 82] }, .string { data := #[73, 78, 68, 82] }, .string { data := #[79, 85, 84, 73] }, .string { data := #[79, 85, 84, 68] }, .string { data := #[79, 84, 73, 82] }, .string { data := #[79, 84, 68, 82] }]) (.int .i64 (k : Int))).run Tryz.prog w = .ok (blkV k) w :=
 match k, hk with
 | 0, _ => by kernel_rfl
 | 1, _ => by kernel_rfl
 | 2, _ => by kernel_rfl
 | 3, _ => by kernel_rfl
theorem idx_row (z k : Nat) (w : World) (hz : z < 4) (hk : k < 4) : (Instr.index 145 (blkV z) (.int .i64 (k : Int))).run Tryz.prog w = .ok (.string ⟨((blkL (z : Int)).getD k []).toArray⟩) w :=
 match z, k, hz, hk with
 | 0, 0, _, _ => by kernel_rfl
 | 0, 1, _, _ => by kernel_rfl
 | 0, 2, _, _ => by kernel_rfl
 | 0, 3, _, _ => by kernel_rfl
 | 1, 0, _, _ => by kernel_rfl
 | 1, 1, _, _ => by kernel_rfl
 | 1, 2, _, _ => by kernel_rfl
 | 1, 3, _, _ => by kernel_rfl
 | 2, 0, _, _ => by kernel_rfl
 | 2, 1, _, _ => by kernel_rfl
 | 2, 2, _, _ => by kernel_rfl
 | 2, 3, _, _ => by kernel_rfl
 | 3, 0, _, _ => by kernel_rfl
 | 3, 1, _, _ => by kernel_rfl
 | 3, 2, _, _ => by kernel_rfl
 | 3, 3, _, _ => by kernel_rfl

set_option maxHeartbeats 4000000 in
theorem p_block (o : Int) (w : World) (o0 : 0 ≤ o) (o1 : o < 256) : Calls Tryz.prog 163 #[.int .i64 o] w fun e w' => e = .returned (.string ⟨(patBlock o).toArray⟩) ∧ w = w' := by
 obtain ⟨ky, hky⟩ : ∃ k : Nat, o / 8 % 8 = k := ⟨(o / 8 % 8).toNat, by omega⟩
 obtain ⟨kq, hkq⟩ : ∃ k : Nat, o / 8 % 2 = k := ⟨(o / 8 % 2).toNat, by omega⟩
 have hy8 : ky < 8 := by omega
 have hq2 : kq < 2 := by omega
 have HP := fun w => c9_parts o w o0 o1
 rw [hky, hkq] at HP
 obtain ⟨out, hout⟩ : ∃ out, patBlock o = out := ⟨_, rfl⟩
 rw [hout]
 unfold patBlock at hout
 try rw [hky] at hout
 obtain ⟨k4, hk4⟩ : ∃ k : Nat, (ky : Int) % 4 = k := ⟨ky % 4, by omega⟩
 obtain ⟨kz, hkz⟩ : ∃ k : Nat, o % 8 = k := ⟨(o % 8).toNat, by omega⟩
 obtain ⟨z4, hz4⟩ : ∃ k : Nat, (kz : Int) % 4 = k := ⟨kz % 4, by omega⟩
 have hr1 : (ky : Int).tmod 4 = k4 := by rw [Int.tmod_eq_emod_of_nonneg (by omega)]; exact hk4
 have hr2 : (kz : Int).tmod 4 = z4 := by rw [Int.tmod_eq_emod_of_nonneg (by omega)]; exact hz4
 have h44 : k4 < 4 := by omega
 have hz44 : z4 < 4 := by omega
 rw [hkz] at HP hout
 rw [hk4, hz4, nth_nat] at hout
 have hrun1 := fun w => idx_blk z4 w hz44
 have hrun2 := fun w => idx_row z4 k4 w hz44 h44
 generalize (blkL (z4 : Int)).getD k4 [] = l1 at *
 generalize blkV z4 = V at *
 clear hky hkq hkz o0 o1 hk4 hz4
 have HZ := z_ hout
 have HP := z_ HP
 clear hout
 go_enter Tryz.func163, Tryz.ntmps163
 go_wp2_with (go_at_call 67; (with_reducible refine (HP.out _).mono ?_); rintro e w' ⟨rfl, rfl⟩)
 go_ret
 exact ⟨HZ.out ▸ rfl, rfl⟩
set_option maxHeartbeats 4000000 in
theorem p_more (o : Int) (w : World) (o0 : 0 ≤ o) (o1 : o < 256) : Calls Tryz.prog 121 #[.int .i64 o] w fun e w' => e = .returned (.string ⟨(patMore o).toArray⟩) ∧ w = w' := by
 obtain ⟨ky, hky⟩ : ∃ k : Nat, o / 8 % 8 = k := ⟨(o / 8 % 8).toNat, by omega⟩
 obtain ⟨kq, hkq⟩ : ∃ k : Nat, o / 8 % 2 = k := ⟨(o / 8 % 2).toNat, by omega⟩
 have hy8 : ky < 8 := by omega
 have hq2 : kq < 2 := by omega
 have HP := fun w => c9_parts o w o0 o1
 rw [hky, hkq] at HP
 obtain ⟨out, hout⟩ : ∃ out, patMore o = out := ⟨_, rfl⟩
 rw [hout]
 unfold patMore at hout
 try rw [hky] at hout
 have HB := z_ (fun w => p_block o w o0 o1)
 by_cases hx : o / 64 = 2
 ·rw [hx] at HP hout
  rw [if_pos rfl] at hout
  clear hky hkq hx o0 o1
  have HZ := z_ hout
  have HP := z_ HP
  clear hout
  go_enter Tryz.func121, Tryz.ntmps121
  go_wp2_with (first
   | (go_at_call 67; (with_reducible refine (HP.out _).mono ?_); rintro e w' ⟨rfl, rfl⟩)
   | (go_at_call 163; (with_reducible refine (HB.out _).mono ?_); rintro e w' ⟨rfl, rfl⟩))
  go_ret
  exact ⟨HZ.out ▸ rfl, rfl⟩
 ·rw [if_neg hx] at hout
  obtain ⟨X, hX⟩ : ∃ X, o / 64 = X := ⟨_, rfl⟩
  rw [hX] at HP hx
  have hxe : (X == 2) = false := beq_eq_false_iff_ne.2 hx
  have hz : o % 8 = 0 ∨ o % 8 = 1 ∨ o % 8 = 2 ∨ o % 8 = 3 ∨ o % 8 = 4 ∨ o % 8 = 5 ∨ o % 8 = 6 ∨ o % 8 = 7 := by omega
  rcases hz with hz | hz | hz | hz | hz | hz | hz | hz
  ·rw [hz] at HP hout
   rw [if_pos rfl] at hout
   clear hz
   by_cases h6 : (ky : Int) = 6
   ·rw [if_pos h6] at hout
    rw [h6] at HP
    clear hky hkq hX o0 o1 hx h6
    have HZ := z_ hout
    have HP := z_ HP
    clear hout
    go_enter Tryz.func121, Tryz.ntmps121
    go_wp2_with (go_at_call 67; (with_reducible refine (HP.out _).mono ?_); rintro e w' ⟨rfl, rfl⟩)
    go_ret
    exact ⟨HZ.out ▸ rfl, rfl⟩
   ·rw [if_neg h6] at hout
    have he6 : ((ky : Int) == 6) = false := beq_eq_false_iff_ne.2 h6
    clear hky hkq hX o0 o1 hx h6
    have HZ := z_ hout
    have HP := z_ HP
    clear hout
    go_enter Tryz.func121, Tryz.ntmps121
    go_wp2_with (go_at_call 67; (with_reducible refine (HP.out _).mono ?_); rintro e w' ⟨rfl, rfl⟩)
    go_ret
    exact ⟨HZ.out ▸ rfl, rfl⟩
  ·rw [hz] at HP hout
   rw [if_neg (by decide), if_pos rfl] at hout
   clear hz
   by_cases h6 : (ky : Int) = 6
   ·rw [if_pos h6] at hout
    rw [h6] at HP
    clear hky hkq hX o0 o1 hx h6
    have HZ := z_ hout
    have HP := z_ HP
    clear hout
    go_enter Tryz.func121, Tryz.ntmps121
    go_wp2_with (go_at_call 67; (with_reducible refine (HP.out _).mono ?_); rintro e w' ⟨rfl, rfl⟩)
    go_ret
    exact ⟨HZ.out ▸ rfl, rfl⟩
   ·rw [if_neg h6] at hout
    have he6 : ((ky : Int) == 6) = false := beq_eq_false_iff_ne.2 h6
    clear hky hkq hX o0 o1 hx h6
    have HZ := z_ hout
    have HP := z_ HP
    clear hout
    go_enter Tryz.func121, Tryz.ntmps121
    go_wp2_with (go_at_call 67; (with_reducible refine (HP.out _).mono ?_); rintro e w' ⟨rfl, rfl⟩)
    go_ret
    exact ⟨HZ.out ▸ rfl, rfl⟩
  ·rw [hz] at HP hout
   rw [if_neg (by decide), if_neg (by decide), if_pos rfl] at hout
   clear hz
   rw [hkq] at hout
   clear hky hkq hX o0 o1 hx
   rw [nth_nat] at hout
   have hrun := fun w => idx_more2 kq w hq2
   generalize more2.getD kq [] = l at *
   have HZ := z_ hout
   have HP := z_ HP
   clear hout
   go_enter Tryz.func121, Tryz.ntmps121
   go_wp2_with (go_at_call 67; (with_reducible refine (HP.out _).mono ?_); rintro e w' ⟨rfl, rfl⟩)
   go_ret
   exact ⟨HZ.out ▸ rfl, rfl⟩
  ·rw [hz] at HP hout
   rw [if_neg (by decide), if_neg (by decide), if_neg (by decide), if_pos rfl] at hout
   clear hz
   rw [hkq] at hout
   clear hky hkq hX o0 o1 hx
   rw [nth_nat] at hout
   have hrun := fun w => idx_more3 kq w hq2
   generalize more3.getD kq [] = l at *
   have HZ := z_ hout
   have HP := z_ HP
   clear hout
   go_enter Tryz.func121, Tryz.ntmps121
   go_wp2_with (go_at_call 67; (with_reducible refine (HP.out _).mono ?_); rintro e w' ⟨rfl, rfl⟩)
   go_ret
   exact ⟨HZ.out ▸ rfl, rfl⟩
  ·rw [hz] at HP hout
   rw [if_neg (by decide), if_neg (by decide), if_neg (by decide), if_neg (by decide), if_pos rfl] at hout
   clear hz
   clear hky hkq hX o0 o1 hx
   have HZ := z_ hout
   have HP := z_ HP
   clear hout
   go_enter Tryz.func121, Tryz.ntmps121
   go_wp2_with (go_at_call 67; (with_reducible refine (HP.out _).mono ?_); rintro e w' ⟨rfl, rfl⟩)
   go_ret
   exact ⟨HZ.out ▸ rfl, rfl⟩
  ·rw [hz] at HP hout
   rw [if_neg (by decide), if_neg (by decide), if_neg (by decide), if_neg (by decide), if_neg (by decide), if_pos rfl] at hout
   clear hz
   rw [hkq] at hout
   clear hky hkq hX o0 o1 hx
   rw [nth_nat] at hout
   have hrun := fun w => idx_more5 kq w hq2
   generalize more5.getD kq [] = l at *
   have HZ := z_ hout
   have HP := z_ HP
   clear hout
   go_enter Tryz.func121, Tryz.ntmps121
   go_wp2_with (go_at_call 67; (with_reducible refine (HP.out _).mono ?_); rintro e w' ⟨rfl, rfl⟩)
   go_ret
   exact ⟨HZ.out ▸ rfl, rfl⟩
  ·rw [hz] at HP hout
   rw [if_neg (by decide), if_neg (by decide), if_neg (by decide), if_neg (by decide), if_neg (by decide), if_neg (by decide), if_pos rfl] at hout
   clear hz
   clear hky hkq hX o0 o1 hx
   obtain ⟨k4, hk4⟩ : ∃ k : Nat, (ky : Int) % 4 = k := ⟨ky % 4, by omega⟩
   have hr1 : (ky : Int).tmod 4 = k4 := by rw [Int.tmod_eq_emod_of_nonneg (by omega)]; exact hk4
   have h44 : k4 < 4 := by omega
   rw [hk4] at hout
   rw [nth_nat] at hout
   have hrun := fun w => idx_more6 k4 w h44
   generalize more6.getD k4 [] = l at *
   clear hk4
   have HZ := z_ hout
   have HP := z_ HP
   clear hout
   go_enter Tryz.func121, Tryz.ntmps121
   go_wp2_with (go_at_call 67; (with_reducible refine (HP.out _).mono ?_); rintro e w' ⟨rfl, rfl⟩)
   go_ret
   exact ⟨HZ.out ▸ rfl, rfl⟩
  ·rw [hz] at HP hout
   rw [if_neg (by decide), if_neg (by decide), if_neg (by decide), if_neg (by decide), if_neg (by decide), if_neg (by decide), if_neg (by decide)] at hout
   clear hz
   clear hky hkq hX o0 o1 hx
   rw [nth_nat] at hout
   have hrun := fun w => idx_more7 ky w hy8
   generalize more7.getD ky [] = l at *
   have HZ := z_ hout
   have HP := z_ HP
   clear hout
   go_enter Tryz.func121, Tryz.ntmps121
   go_wp2_with (go_at_call 67; (with_reducible refine (HP.out _).mono ?_); rintro e w' ⟨rfl, rfl⟩)
   go_ret
   exact ⟨HZ.out ▸ rfl, rfl⟩

set_option maxHeartbeats 4000000 in
theorem p_of (i : In) (w : World) (B : Nat) (hV : VT w B) (hB : B ≤ w.heap.size) (s0 : 0 ≤ i.s) (s1 : i.s < 4) (o0 : 0 ≤ i.o) (o1 : i.o < 256) : Calls Tryz.prog 78 #[i.val] w fun e w' => e = .returned (.string ⟨(patOf i.s i.o).toArray⟩) ∧ Below w.heap.size w w' := by
 have HP := fun w => c9_parts i.o w o0 o1
 have hL := InW.laid w i
 have hb0 : Below w.heap.size w (w.alloc (inO i)) := (Below.refl _ _).alloc (Nat.le_refl _) _
 have hV1 : VT (w.alloc (inO i)) B := hV.below (hb0.mono hB)
 have g0 := hL.gs
 have g2 := hL.go
 obtain ⟨out, hout⟩ : ∃ out, patOf i.s i.o = out := ⟨_, rfl⟩
 rw [hout, in_val]
 unfold patOf at hout
 obtain ⟨kx, hkx⟩ : ∃ k : Nat, i.o / 64 = k := ⟨(i.o / 64).toNat, by omega⟩
 have hk4 : kx < 4 := by omega
 have hc : i.s = 0 ∨ i.s = 1 ∨ i.s = 2 ∨ (i.s = 3 ∧ i.o % 8 = 6) ∨ (i.s = 3 ∧ i.o % 8 ≠ 6) := by omega
 rcases hc with hs | hs | hs | ⟨hs, hz⟩ | ⟨hs, hz⟩
 ·rw [hs] at g0 hout
  rw [if_neg (by decide), if_neg (by decide), if_neg (by decide)] at hout
  have HC := p_main i.o _ B hV1 o0 o1
  rw [show patMain i.o = out from hout] at HC
  have HC := z_ HC
  have HP := z_ HP
  have HB := z_ hb0
  clear hs hout hV hV1 hb0 hL o0 o1 s0 s1 hkx
  go_enter Tryz.func78, Tryz.ntmps78
  go_wp2_with (first
   | (go_at_call 67; (with_reducible refine (HP.out _).mono ?_); rintro e w' ⟨rfl, rfl⟩)
   | (go_at_call 122; (with_reducible refine HC.out.mono ?_); rintro e w' ⟨rfl, rfl⟩))
  go_ret
  exact ⟨rfl, HB.out⟩
 ·rw [hs] at g0 hout
  rw [if_pos rfl, hkx, nth_nat] at hout
  rw [hkx] at HP
  have hrun := fun w => idx_bits1 kx w hk4
  have HZ := z_ hout
  generalize bits1.getD kx [] = l at *
  have HP := z_ HP
  have HB := z_ hb0
  clear hs hout hV hV1 hb0 hL o0 o1 s0 s1 hkx
  go_enter Tryz.func78, Tryz.ntmps78
  go_wp2_with (go_at_call 67; (with_reducible refine (HP.out _).mono ?_); rintro e w' ⟨rfl, rfl⟩)
  go_ret
  exact ⟨by rw [← HZ.out]; rfl, HB.out⟩
 ·rw [hs] at g0 hout
  rw [if_neg (by decide), if_neg (by decide), if_pos rfl] at hout
  have HC := p_more i.o (w.alloc (inO i)) o0 o1
  rw [show patMore i.o = out from hout] at HC
  have HC := z_ HC
  have HP := z_ HP
  have HB := z_ hb0
  clear hs hout hV hV1 hb0 hL o0 o1 s0 s1 hkx
  go_enter Tryz.func78, Tryz.ntmps78
  go_wp2_with (first
   | (go_at_call 67; (with_reducible refine (HP.out _).mono ?_); rintro e w' ⟨rfl, rfl⟩)
   | (go_at_call 121; (with_reducible refine HC.out.mono ?_); rintro e w' ⟨rfl, rfl⟩))
  go_ret
  exact ⟨rfl, HB.out⟩
 ·rw [hs] at g0 hout
  rw [if_neg (by decide), if_pos rfl, if_pos hz, hkx, nth_nat] at hout
  rw [hz] at HP
  rw [hkx] at HP
  have hrun := fun w => idx_bitsM kx w hk4
  have HZ := z_ hout
  generalize bitsM.getD kx [] = l at *
  have HP := z_ HP
  have HB := z_ hb0
  clear hs hout hV hV1 hb0 hL o0 o1 s0 s1 hkx
  go_enter Tryz.func78, Tryz.ntmps78
  go_wp2_with (go_at_call 67; (with_reducible refine (HP.out _).mono ?_); rintro e w' ⟨rfl, rfl⟩)
  go_ret
  exact ⟨by rw [← HZ.out]; rfl, HB.out⟩
 ·rw [hs] at g0 hout
  rw [if_neg (by decide), if_pos rfl, if_neg hz, hkx, nth_nat] at hout
  have he : (i.o % 8 == 6) = false := beq_eq_false_iff_ne.2 hz
  rw [hkx] at HP
  have hrun := fun w => idx_bitsX kx w hk4
  have HZ := z_ hout
  generalize bitsX.getD kx [] = l at *
  have HP := z_ HP
  have HB := z_ hb0
  clear hs hout hV hV1 hb0 hL o0 o1 s0 s1 hkx
  go_enter Tryz.func78, Tryz.ntmps78
  go_wp2_with (go_at_call 67; (with_reducible refine (HP.out _).mono ?_); rintro e w' ⟨rfl, rfl⟩)
  go_ret
  exact ⟨by rw [← HZ.out]; rfl, HB.out⟩
end Go.Proofs.YtgaihekapakoeaaGreatDoor
namespace Go.Proofs.YtgaihekapakoeaaGreatDoor
open Go.RowKit


set_option maxRecDepth 100000

theorem nth_four {L : List (List UInt8)} (hL : ∀ l ∈ L, l.length ≤ 4) (k : Int) : (nth L k).length ≤ 4 := by
 unfold nth
 rcases Nat.lt_or_ge k.toNat L.length with h | h
 ·rw [List.getD, List.getElem?_eq_getElem h]; exact hL _ (List.getElem_mem h)
 ·rw [List.getD, List.getElem?_eq_none h]; simp
theorem tk_len (l : List UInt8) : (tk l).length = l.length := by unfold tk; simp
theorem memK_len (x : Int) : (memK x).length ≤ 7 := by
 have := nth_four (L := indexL3) (by decide) x
 unfold memK
 simp only [List.length_append, tk_len, List.length_cons, List.length_nil]
 omega
theorem byteK_len (s x o c : Int) : (byteK s x o c).length ≤ 8 := by
 have h1 := nth_four (L := indexL3) (by decide) x
 have h2 := nth_four (L := nameL8) (by decide) c
 have h3 := memK_len x
 unfold byteK
 split
 ·omega
 ·split
  ·simp only [List.length_append, tk_len]; omega
  ·rw [tk_len]; omega
theorem pairK_len (x c : Int) : (pairK x c).length ≤ 8 := by
 have h1 := nth_four (L := indexL3) (by decide) x
 have h2 := nth_four (L := pairL4) (by decide) c
 unfold pairK
 split <;> rw [tk_len] <;> omega
theorem tens_len (k : Nat) : (tensL.getD k []).length ≤ 8 := by
 match k with
 | 0 | 1 | 2 | 3 | 4 | 5 | 6 | 7 => decide
 | k + 8 => simp [tensL]
theorem ite_len {P : Prop} [Decidable P] {a b : List Nat} {n : Nat} (ha : a.length ≤ n) (hb : b.length ≤ n) : (if P then a else b).length ≤ n := by split <;> assumption
theorem nth_eight {L : List (List UInt8)} (hL : ∀ l ∈ L, l.length ≤ 8) (k : Int) : (nth L k).length ≤ 8 := by
 unfold nth
 rcases Nat.lt_or_ge k.toNat L.length with h | h
 ·rw [List.getD, List.getElem?_eq_getElem h]; exact hL _ (List.getElem_mem h)
 ·rw [List.getD, List.getElem?_eq_none h]; simp
theorem markK_len (s x o : Int) (c : UInt8) : (markK s x o c).length ≤ 8 := by
 have h9 := nth_eight (L := shiftL8) (by decide) (o / 8 % 8)
 have h10 := nth_eight (L := operL8) (by decide) (o / 8 % 8)
 have h1 := nth_four (L := indexL3) (by decide) x
 have h2 := nth_four (L := condL8) (by decide) (o / 8 % 8)
 have h3 := nth_four (L := condL8) (by decide) (o / 8 % 8 % 4)
 have h4 := memK_len x
 have h5 := byteK_len s x o (o / 8 % 8)
 have h6 := byteK_len s x o (o % 8)
 have h7 := pairK_len x (o / 8 % 8 / 2)
 have h8 := tens_len (o / 8 % 8).toNat
 unfold markK stackK
 exact ite_len h5 (ite_len h6 (ite_len (by omega) (ite_len h7 (ite_len (ite_len (by decide) h7) (ite_len (by rw [tk_len]; omega) (ite_len (by rw [tk_len]; omega) (ite_len (by rw [tk_len]; omega) (ite_len (by decide) (ite_len (by decide) (ite_len (by simp) (ite_len h8 (ite_len (by rw [tk_len]; exact h9) (ite_len (by rw [tk_len]; exact h10) (by simp))))))))))))))
theorem rendT_len (bare : Bool) (d m : Int) (hd : -9223372036854775808 ≤ d ∧ d ≤ 9223372036854775807) (hm : -9223372036854775808 ≤ m ∧ m ≤ 9223372036854775807) (t : Nat) : (rendT bare d m t).length ≤ 22 := by
 have h1 := Lib.itoa_length_le m hm.1 hm.2
 have h2 := signT_len bare m hm.1 hm.2
 have h3 := signT_len bare d hd.1 hd.2
 unfold rendT
 repeat' split
 all_goals first
  | omega
  | (simp only [List.length_cons, List.length_nil]; omega)
theorem rend_len (bare : Bool) (d m : Int) (hd : -9223372036854775808 ≤ d ∧ d ≤ 9223372036854775807) (hm : -9223372036854775808 ≤ m ∧ m ≤ 9223372036854775807) : ∀ K : List Nat, (rend bare d m K).length ≤ 22 * K.length
 | [] => by simp [rend]
 | t :: K => by
  have h1 := rendT_len bare d m hd hm t
  have h2 := rend_len bare d m hd hm K
  have : rend bare d m (t :: K) = rendT bare d m t ++ rend bare d m K := rfl
  rw [this, List.length_append, List.length_cons]
  omega
def mk (i : In) (bare : Bool) (c : UInt8) : List UInt8 := rend bare i.d i.m (markK i.s i.x i.o c)
theorem mk_len (i : In) (hi : i.Wf) (bare : Bool) (c : UInt8) : (mk i bare c).length ≤ 176 := by
 have h1 := rend_len bare i.d i.m (wf_in hi.d) (wf_in hi.m) (markK i.s i.x i.o c)
 have h2 := markK_len i.s i.x i.o c
 unfold mk
 omega
theorem mk_flat (i : In) (hi : i.Wf) (bare : Bool) : ∀ p : List UInt8, (p.flatMap (mk i bare)).length ≤ 176 * p.length
 | [] => by simp
 | c :: p => by
  have h1 := mk_len i hi bare c
  have h2 := mk_flat i hi bare p
  rw [List.flatMap_cons, List.length_append, List.length_cons]
  omega
theorem toldT_mk (bare : Bool) (i : In) : toldT bare i = (patOf i.s i.o).flatMap (mk i bare) := by
 unfold toldT toksK
 rw [rend_flat]; rfl

theorem index_text (p : List UInt8) (k : Nat) (hk : k < p.length) (w : World) : (Instr.index 9 (.string ⟨p.toArray⟩) (.int .i64 (k : Int))).run Tryz.prog w = .ok (.int .u8 ((p.getD k 0).toNat : Int)) w := by
 have hz : (⟨p.toArray⟩ : ByteArray).size = p.length := by simp [ByteArray.size]
 rw [run_index_string w _ _ _ _ Tryz.underlying9, dif_pos ⟨by omega, by omega⟩]
 congr 3
 have : (⟨p.toArray⟩ : ByteArray)[(k : Int).toNat]'(by omega) = p[k] := by
  simp only [Int.toNat_natCast]
  rfl
 rw [this, List.getD, List.getElem?_eq_getElem hk]; rfl

set_option maxHeartbeats 4000000 in
theorem w_pattern (w : World) (B b : Nat) (i : In) (hi : i.Wf) (bare : Bool) (bs : List UInt8) (hV : VT w B) (h : WT w B b i bare bs) (x0 : 0 ≤ i.x) (x1 : i.x < 3) (o0 : 0 ≤ i.o) (o1 : i.o < 256) (p : List UInt8) (hp : p.length ≤ 20) (hl : bs.length ≤ 1000) :
  Calls Tryz.prog 77 #[.pointer (some ⟨b, 0, none⟩), .string ⟨p.toArray⟩] w (Writes w B b i bare bs (p.flatMap (mk i bare))) := by
 have HM := z_ (fun (wr : World) (bs1 : List UInt8) hV1 hW hl1 c => w_mark wr B b i hi bare bs1 hV1 hW x0 x1 o0 o1 c hl1)
 have HF := z_ (fun q => mk_flat i hi bare q)
 have HI := z_ (fun k hk w => index_text p k hk w)
 obtain ⟨s, hs⟩ : ∃ s : ByteArray, (⟨p.toArray⟩ : ByteArray) = s := ⟨_, rfl⟩
 have hz : s.size = p.length := by rw [← hs]; simp [ByteArray.size]
 obtain ⟨n, hn⟩ : ∃ n, p.length = n := ⟨_, rfl⟩
 rw [hs] at HI ⊢
 rw [hn] at hz HI hp
 have HN := z_ hn
 have Hh := z_ h
 have HV := z_ hV
 clear hs hn h hV x0 x1 o0 o1
 go_enter Tryz.func77, Tryz.ntmps77
 go_wp2_with fail
 clear hz
 go_loopw [7] (fun v wr => ∃ k : Nat, k ≤ n ∧ v = .int .i64 k ∧ WT wr B b i bare (bs ++ (p.take k).flatMap (mk i bare)) ∧ Below B w wr) (fun v _ => n - (intOf v).toNat)
 case atStart => exact ⟨0, by omega, rfl, by simpa using Hh.out, Below.refl _ _⟩
 case round =>
  obtain ⟨k, hk, rfl, hW, hb⟩ := hrel
  by_cases he : k < n
  ·have hrun := HI.out k he
   have hlen : (bs ++ (p.take k).flatMap (mk i bare)).length ≤ 10000 := by
    have h1 := HF.out (p.take k)
    have h2 : (p.take k).length = k := by rw [List.length_take, HN.out]; omega
    rw [h2] at h1
    rw [List.length_append]
    omega
   have HC := z_ (HM.out wr _ (HV.out.below hb) hW hlen (p.getD k 0))
   obtain ⟨c, hc⟩ : ∃ c : UInt8, p.getD k 0 = c := ⟨_, rfl⟩
   obtain ⟨cn, hcn⟩ : ∃ cn : Int, (c.toNat : Int) = cn := ⟨_, rfl⟩
   rw [hc, hcn] at HC hrun
   have Hc := z_ hc
   clear hc hcn hW hlen
   go_wp2_with fail
   refine HC.out.mono ?_
   rintro e w2 ⟨rfl, hW2, hb2⟩
   go_wp2_with fail
   go_roundw
   case rel =>
    refine ⟨k + 1, by omega, by go_num, ?_, hb.trans hb2⟩
    have hlt : k < p.length := by rw [HN.out]; exact he
    have ht : p.take (k + 1) = p.take k ++ [c] := by
     have hg : p[k] = c := by have := Hc.out; rw [List.getD, List.getElem?_eq_getElem hlt] at this; exact this
     rw [List.take_add_one, List.getElem?_eq_getElem hlt, hg]; rfl
    rw [ht, List.flatMap_append, List.flatMap_cons, List.flatMap_nil, List.append_nil, ← List.append_assoc]
    exact hW2
   case measure => simp [intOf]; omega
  ·obtain rfl : k = n := by omega
   go_wp2
   go_end0
   refine ⟨rfl, ?_, hb⟩
   rw [← HN.out, List.take_length] at hW
   exact hW
end Go.Proofs.YtgaihekapakoeaaGreatDoor
