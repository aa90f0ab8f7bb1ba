
/- Package bank: Bytes, walked. -/
import Derived.Test.YtflbedomkeophaaSX
namespace Go.Proofs.Ytflbedomkeophaa
open Go.RowKit
set_option linter.unusedSimpArgs false
set_option linter.unusedVariables false
set_option maxRecDepth 100000

/-- A memory's bytes. -/
def memB (A B : Int) (ds : List PP) : List Int := numsL [A.toNat, B.toNat, ds.length] ++ ds.flatMap ppB
theorem ppB_len (x : PP) (h : PPok x) : (ppB x).length ≤ 16411 ∧ AllB (ppB x) := by
  obtain ⟨_, _, h3, h4⟩ := h
  have h1 := numsL_len [x.1, x.2.1]
  have h2 := (numB_length x.2.2.length).2
  unfold ppB
  refine ⟨?_, (numsL_all _).append ((numB_allB _).append h4)⟩
  rw [List.length_append, List.length_append]
  simp only [List.length_cons, List.length_nil] at h1
  omega
theorem pflat_len (ds : List PP) (h : ∀ x ∈ ds, PPok x) : (ds.flatMap ppB).length ≤ ds.length * 16411 := by
  induction ds with
  | nil => exact Nat.le_refl _
  | cons x t ih =>
    rw [List.flatMap_cons, List.length_append]
    have h1 := (ppB_len x (h x (List.mem_cons_self ..))).1
    have h2 := ih fun y hy => h y (List.mem_cons_of_mem _ hy)
    simp only [List.length_cons]
    omega
theorem pflat_take (ds : List PP) (k : Nat) (h : k < ds.length) : (ds.take (k + 1)).flatMap ppB = (ds.take k).flatMap ppB ++ ppB ds[k] := by
  rw [List.take_succ_eq_append_getElem h, List.flatMap_append]
  simp
theorem pp_get (ps : List Pt) (ds : List PP) (h : ps.map Pt.pp = ds) (k : Nat) (hk : k < ps.length) (hd : k < ds.length) : ds[k] = (ps.getD k ptZ).pp := by
  subst h
  rw [getD_pt ps k hk, List.getElem_map]

set_option maxHeartbeats 4000000 in
theorem bytes_any (w : World) (P : Nat → Prop) (x : Mo) (vs : Value) (h : MC w P x vs) :
    Calls Try.prog 18 #[ptrV x.m] w (Fresh w.heap.size w (memB x.A x.B (pats x.L))) := by
  have HM := Lib.hid (made_mem _ P x _ h)
  have HP := Lib.hid (patches_any w P x vs h)
  have hok := pats_ok x.L h.len h.all
  have hfew := pats_few x.L h.len
  obtain ⟨ds, hds⟩ : ∃ ds, pats x.L = ds := ⟨_, rfl⟩
  rw [hds] at HP hok hfew ⊢
  clear hds
  obtain ⟨a, ha⟩ : ∃ a : Nat, x.A = (a : Int) := ⟨x.A.toNat, by have := h.pA; omega⟩
  obtain ⟨b, hb⟩ : ∃ b : Nat, x.B = (b : Int) := ⟨x.B.toNat, by have := h.pB; omega⟩
  have ha2 : a < 256 := by have := h.pA; omega
  have hb2 : b < 256 := by have := h.pB; omega
  have ha3 : ((a : Nat) : Int) < 256 := by omega
  have hb3 : ((b : Nat) : Int) < 256 := by omega
  have ha4 : (0 : Int) ≤ ((a : Nat) : Int) := by omega
  have hb4 : (0 : Int) ≤ ((b : Nat) : Int) := by omega
  have wa : IntKind.i64.wrap ((a : Nat) : Int) = ((a : Nat) : Int) := by rw [IntKind.wrap_i64]; omega
  have wb : IntKind.i64.wrap ((b : Nat) : Int) = ((b : Nat) : Int) := by rw [IntKind.wrap_i64]; omega
  have hmB : memB x.A x.B ds = numsL [a, b, ds.length] ++ ds.flatMap ppB := by unfold memB; rw [ha, hb]; rfl
  rw [hmB]
  have HH := Lib.hid h
  have HOK := Lib.hid hok
  have HA := Lib.hid ha
  have HBB := Lib.hid hb
  clear hmB hok h ha hb
  unfold ptrV at HM HP ⊢
  go_enter Try.func18, Try.ntmps18
  go_upto_region 4 with (first
    | (go_at_call 26; (with_reducible refine HM.out.mono ?_); rintro e w' ⟨rfl, rfl⟩)
    | (go_at_call 17; (with_reducible refine HP.out.mono ?_); rintro e w1 ⟨v, ps, rfl, hops, hdat, hgood, hb1⟩))
  obtain ⟨Av, cv, rfl, hAv⟩ := hops.shape
  have hpl : ps.length = ds.length := by have := congrArg List.length hdat; rwa [List.length_map] at this
  rw [hpl]
  have HOps := Lib.hid hops
  have HDat := Lib.hid hdat
  have HGood := Lib.hid hgood
  have HPL := Lib.hid hpl
  have HB1 := Lib.hid hb1
  have hm1 := HH.out.below hb1
  obtain ⟨p1, p2, -, -, -⟩ := hm1.page
  rw [HA.out] at p1
  rw [HBB.out] at p2
  clear hm1 hops hdat hgood hpl hb1
  obtain ⟨W, hW⟩ : ∃ W, w1.alloc (.cells #[.int .i64 (a : Nat), .int .i64 (b : Nat), .int .i64 (ds.length : Nat)] 3) = W := ⟨_, rfl⟩
  have hbW : Below w1.heap.size w1 W := by rw [← hW]; exact (Below.refl _ _).alloc (Nat.le_refl _) _
  have hsW : W.heap.size = w1.heap.size + 1 := by rw [← hW]; simp
  have hrow : W.heap[w1.heap.size]? = some (.cells #[.int .i64 (a : Nat), .int .i64 (b : Nat), .int .i64 (ds.length : Nat)] 3 (0, 0)) := by rw [← hW]; exact heap_alloc_new _ _
  have HN := Lib.hid (numbers_any W.drew w1.heap.size 3 3 [a, b, ds.length] rfl (show 3 ≤ 10 by decide) (by simp [hsW]) (fun i hi => by
    show W.cell? _ = _
    rw [cell_of_row _ _ _ _ _ _ hrow]
    match i, hi with
    | 0, _ => rfl
    | 1, _ => rfl
    | 2, _ => rfl) (fun y hy => by simp at hy; omega))
  have HBW := Lib.hid (HB1.out.trans (hbW.mono HB1.out.size))
  have HLn := Lib.hid (show (numsL [a, b, ds.length]).length ≤ 27 from numsL_len [a, b, ds.length])
  have HbW := Lib.hid hbW
  clear hbW hrow
  generalize numsL [a, b, ds.length] = N at *
  go_cut [4] from 12 to 27 (fun q wx => ∃ A2 c2, q = .slice A2 N.length c2 ∧ Hid (OB wx w1.heap.size A2 c2 N) ∧ Hid (Below w1.heap.size w1 wx))
  case first =>
    go_region_law (go_simp; go_at_call 32; (with_reducible refine HN.out.mono ?_); rintro e w2 ⟨A2, c2, rfl, ho2, hb2⟩)
    all_goals
      go_wp2_with fail
      go_meet
      have hb3 : Below w1.heap.size w1 w2 := HbW.out.trans (Below.mono (⟨hb2.os, hb2.tape, hb2.output, hb2.size, hb2.block⟩ : Below W.heap.size W w2) (by omega))
      exact ⟨A2, c2, rfl, Lib.hid (ho2.mono (show w1.heap.size ≤ W.heap.size by omega)), Lib.hid hb3⟩
  case rest =>
    obtain ⟨A2, c2, rfl, HO2, HB2⟩ := hcut
    rename World => w3
    have HAt := Lib.hid (HOps.out.at)
    clear HN HP HM p1 p2 hW hsW HbW HBW wa wb
    go_wp2_with fail
    go_loopw [4, 30] (fun q i wr => ∃ (k : Nat) (A : Option Addr) (cc : Nat), i = .int .i64 k ∧ k ≤ ds.length ∧ q = .slice A (N ++ (ds.take k).flatMap ppB).length cc ∧ Hid (OB wr w1.heap.size A cc (N ++ (ds.take k).flatMap ppB)) ∧ Hid (Below w1.heap.size w1 wr)) (fun _ i _ => ds.length - (intOf i).toNat)
    case atStart => exact ⟨0, A2, c2, rfl, by omega, by simp, by simpa using HO2, HB2⟩
    case round =>
      rename World => wr
      obtain ⟨k, A, cc, rfl, hk, rfl, HO, HB⟩ := hrel
      by_cases hlt : k < ds.length
      · obtain ⟨bb, o, hAv2, hbb, -⟩ := HAt.out.at_ (by have := HPL.out; omega)
        subst hAv2
        obtain ⟨y, hy⟩ : ∃ y, ps.getD k ptZ = y := ⟨_, rfl⟩
        have hL3 := HAt.out.below HB.out
        have hkp : k < ps.length := by have := HPL.out; omega
        obtain ⟨g0, g1, g2⟩ := hL3.one k hkp y hy
        have hmem : y ∈ ps := by rw [← hy, getD_pt ps k hkp]; exact List.getElem_mem _
        have hRB := hL3.bytes y hmem
        have hyg := HGood.out y hmem
        have hok := HOK.out ds[k] (List.getElem_mem hlt)
        have hyk : ds[k] = y.pp := (pp_get ps ds HDat.out k hkp hlt).trans (by rw [hy])
        have HT := Lib.hid (pflat_take ds k hlt)
        rw [hyk] at HT hok
        have hpl := (ppB_len y.pp hok).1
        have hfl := pflat_len (ds.take k) (fun z hz => HOK.out z (List.mem_of_mem_take hz))
        have htk : (ds.take k).length ≤ 98304 := by rw [List.length_take]; omega
        have hyl : y.l.length ≤ 16384 := by have h9 := hok.2.2.1; show y.pp.2.2.length ≤ 16384; omega
        have hws := HB.out.size
        have hW3 : Below wr.heap.size wr (wr.alloc y.obj) := (Below.refl _ _).alloc (Nat.le_refl _) _
        have HPB := Lib.hid (patchbytes_any (wr.alloc y.obj) y ⟨hyg.1, hyg.2.1⟩ ⟨hyg.2.2.1, hyg.2.2.2.1⟩ ((hRB.more hws).below hW3 |>.more (by simp)) (by omega))
        have HW3 := Lib.hid (HB.out.trans (hW3.mono hws))
        have HO3 := Lib.hid (HO.out.alloc y.obj)
        have hll : (N ++ (ds.take k).flatMap ppB).length ≤ 2000000000 := by rw [List.length_append]; have := HLn.out; omega
        clear hyk hok hfl htk hL3 hRB hmem hW3 hyg
        unfold Pt.obj at HPB HW3 HO3
        obtain ⟨S, hS⟩ : ∃ S, ppB y.pp = S := ⟨_, rfl⟩
        rw [hS] at HPB hpl HT
        clear hS
        have HT2 : Hid (N ++ (ds.take (k + 1)).flatMap ppB = (N ++ (ds.take k).flatMap ppB) ++ S) := Lib.hid (by rw [HT.out, List.append_assoc])
        generalize N ++ (ds.take k).flatMap ppB = M at *
        go_wp2_with (first
          | (at_builtin; refine wpList_append_rb _ rfl (.tmp 34) (.tmp 36) rfl w1.heap.size w5.heap.size _ _ _ M rfl rfl HO5.out _ _ _ S rfl rfl HS5.out (by omega) (by omega) ?_; intro A6 c6 w6 ho6 hb6 hne6)
          | (go_at_call 33; (with_reducible refine HPB.out.mono ?_); rintro e w5 ⟨A5, c5, rfl, ho5, hb5⟩; have HO5 := Lib.hid (HO3.out.below hb5 (by simp)); have HS5 := Lib.hid ho5.rb; have h5s := hb5.size; have h5b : w1.heap.size ≤ w5.heap.size := (by { simp at h5s; omega }); have HB5 := Lib.hid (HW3.out.trans (hb5.mono HW3.out.size)); clear ho5 hb5))
        exact ⟨⟨k + 1, A6, c6, by go_num, by omega, by rw [HT2.out, List.length_append], by rw [HT2.out]; exact Lib.hid ho6, Lib.hid (HB5.out.trans hb6)⟩, by simp [intOf]; omega⟩
      · obtain rfl : k = ds.length := by omega
        rw [List.take_length] at HO ⊢
        go_wp2_with fail
        go_ret
        exact ⟨A, cc, rfl, HO.out.mono HB1.out.size, HB1.out.trans (HB.out.mono HB1.out.size)⟩
end Go.Proofs.Ytflbedomkeophaa
