
/- Read of a memory's bytes, walked. -/
import Derived.Test.YtflbedomkeophaaSZ
import Derived.Test.YtflbedomkeophaaST
namespace Go.Proofs.Ytflbedomkeophaa
open Go.RowKit
set_option linter.unusedSimpArgs false
set_option linter.unusedVariables false
set_option maxRecDepth 100000

theorem s_str_inj : ∀ {a b : List Int}, AllB a → AllB b → strOfNums a = strOfNums b → a = b := by
  intro a b ha hb h
  have h1 : (strOfNums a).data.toList = (strOfNums b).data.toList := by rw [h]
  rw [strOfNums_data, strOfNums_data] at h1
  have h2 : (a.map fun n => UInt8.ofNat n.toNat).map (fun x => (x.toNat : Int)) = (b.map fun n => UInt8.ofNat n.toNat).map (fun x => (x.toNat : Int)) := by rw [h1]
  have back : ∀ l : List Int, AllB l → (l.map fun n => UInt8.ofNat n.toNat).map (fun x => (x.toNat : Int)) = l := fun l hl => by
    rw [List.map_map]
    conv => rhs; rw [← List.map_id l]
    refine List.map_congr_left fun x hx => ?_
    obtain ⟨x0, x1⟩ := hl x hx
    simp only [Function.comp, id]
    rw [UInt8.toNat_ofNat']
    omega
  rwa [back a ha, back b hb] at h2
theorem s_equal (A1 A2 : Option Addr) (c1 c2 n1 n2 : Nat) (l1 l2 : List Int) (w : World) (B1 B2 : Nat) (e1 : n1 = l1.length) (e2 : n2 = l2.length) (h1 : RB w B1 A1 c1 l1) (h2 : RB w B2 A2 c2 l2) :
    Calls Try.prog 28 #[.slice A1 n1 c1, .slice A2 n2 c2] w fun e w' => e = .returned (.bool (decide (l1 = l2))) ∧ w = w' := by
  subst e1 e2
  have s1 := run_string_rb w B1 A1 c1 l1 h1
  have s2 := run_string_rb w B2 A2 c2 l2 h2
  have hd : ((strOfNums l1).toList == (strOfNums l2).toList) = decide (l1 = l2) := by
    rw [ByteArray.toList_eq, ByteArray.toList_eq]
    by_cases h : l1 = l2
    · rw [h, beq_self_eq_true, decide_eq_true rfl]
    · rw [decide_eq_false h, beq_eq_false_iff_ne]
      exact fun e => h (s_str_inj h1.bytes h2.bytes (Go.WideShapes.bytes_inj e))
  obtain ⟨S1, hS1⟩ : ∃ S, strOfNums l1 = S := ⟨_, rfl⟩
  obtain ⟨S2, hS2⟩ : ∃ S, strOfNums l2 = S := ⟨_, rfl⟩
  rw [hS1] at s1 hd
  rw [hS2] at s2 hd
  have HD := Lib.hid hd
  clear hd hS1 hS2 h1 h2
  go_enter Try.func28, Try.ntmps28
  go_wp2
  go_ret
  exact ⟨congrArg (fun z => Ending.returned (.bool z)) HD.out, rfl⟩

theorem s_bytes (A1 A2 : Option Addr) (c1 c2 n1 n2 : Nat) (l1 l2 : List Int) (w : World) (B1 B2 : Nat) (e1 : n1 = l1.length) (e2 : n2 = l2.length) (h1 : RB w B1 A1 c1 l1) (h2 : RB w B2 A2 c2 l2) :
    Calls Try.prog 36 #[.slice A1 n1 c1, .slice A2 n2 c2] w fun e w' => e = .returned (.bool (decide (l1 = l2))) ∧ w = w' := by
  subst e1 e2
  have s1 := run_string_rb w B1 A1 c1 l1 h1
  have s2 := run_string_rb w B2 A2 c2 l2 h2
  have hd : ((strOfNums l1).toList == (strOfNums l2).toList) = decide (l1 = l2) := by
    rw [ByteArray.toList_eq, ByteArray.toList_eq]
    by_cases h : l1 = l2
    · rw [h, beq_self_eq_true, decide_eq_true rfl]
    · rw [decide_eq_false h, beq_eq_false_iff_ne]
      exact fun e => h (s_str_inj h1.bytes h2.bytes (Go.WideShapes.bytes_inj e))
  obtain ⟨S1, hS1⟩ : ∃ S, strOfNums l1 = S := ⟨_, rfl⟩
  obtain ⟨S2, hS2⟩ : ∃ S, strOfNums l2 = S := ⟨_, rfl⟩
  rw [hS1] at s1 hd
  rw [hS2] at s2 hd
  have HD := Lib.hid hd
  clear hd hS1 hS2 h1 h2
  go_enter Try.func36, Try.ntmps36
  go_wp2
  go_ret
  exact ⟨congrArg (fun z => Ending.returned (.bool z)) HD.out, rfl⟩


theorem newL_mem {ps : List Pt} {L : Nat → List Int} (h : ps.map Pt.pp = pats L) (hl : ∀ i, i < 12 → (L i).length = 16384) : ∀ i, i < 12 → newL ps i = L i := fun i hi => by
  rw [newL_pp, h, newP_pats L hl i hi]
theorem may_mem {ps : List Pt} {L : Nat → List Int} (h : ps.map Pt.pp = pats L) (hl : ∀ i, i < 12 → (L i).length = 16384) (ha : ∀ i, i < 12 → AllB (L i)) (hg : ∀ x ∈ ps, 0 ≤ x.b ∧ x.b < 1000000 ∧ 0 ≤ x.p ∧ x.p < 1000000 ∧ x.l.length ≤ 140737488355328) : ∀ x ∈ ps, x.may := fun x hx => by
  have h1 : x.pp ∈ pats L := by rw [← h]; exact List.mem_map.2 ⟨x, hx, rfl⟩
  obtain ⟨h2, h3, h4, _⟩ := pats_ok L hl ha _ h1
  obtain ⟨g1, g2, g3, g4, g5⟩ := hg x hx
  have e1 : x.b.toNat < 12 := h2
  have e2 : x.p.toNat < 16384 := h3
  have e3 : x.p.toNat + x.l.length ≤ 16384 := h4
  exact ⟨g1, by omega, g3, by omega⟩
theorem MC.congr {w : World} {P : Nat → Prop} {x : Mo} {v : Value} (h : MC w P x v) (L : Nat → List Int) (hL : ∀ i, i < 12 → x.L i = L i) : MC w P { x with L := L } v :=
  ⟨h.self, h.bs, fun i hi => by show w.heap[x.gs i]? = bankC (L i); rw [← hL i hi]; exact h.bk i hi, fun i hi => by show (L i).length = _; rw [← hL i hi]; exact h.len i hi, fun i hi => by show AllB (L i); rw [← hL i hi]; exact h.all i hi, h.inj, h.nm, h.nb, h.mb, h.pm, h.pb, h.pg, h.cb, h.pA, h.pB⟩
theorem MB.congr {w : World} {P : Nat → Prop} {x : Mo} {sr cs : Nat} (h : MB w P x sr cs) (L : Nat → List Int) (hL : ∀ i, i < 12 → x.L i = L i) : MB w P { x with L := L } sr cs :=
  ⟨h.toMC.congr L hL, h.ss, h.sp, h.sm, h.sg⟩
/-- What New of a memory's patches answers. -/
theorem new_mem (w : World) (B : Nat) (v : Value) (ps : List Pt) (L : Nat → List Int) (ho : OPs w B v ps) (h : ps.map Pt.pp = pats L) (hl : ∀ i, i < 12 → (L i).length = 16384) (ha : ∀ i, i < 12 → AllB (L i)) (hg : ∀ x ∈ ps, 0 ≤ x.b ∧ x.b < 1000000 ∧ 0 ≤ x.p ∧ x.p < 1000000 ∧ x.l.length ≤ 140737488355328) :
    Calls Try.prog 7 #[v] w fun e w' => (∃ x sr cs, e = .returned (.tuple #[ptrV x.m, .int .i64 0]) ∧ MB w' (fun k => w.heap.size ≤ k) x sr cs ∧ x.A = 0 ∧ x.B = 0 ∧ x.L = L) ∧ Below w.heap.size w w' := by
  obtain ⟨A, c, rfl, hA⟩ := ho.shape
  have hn : ps.length ≤ 1000000 := by
    have h1 := congrArg List.length h
    have h2 := pats_few L hl
    rw [List.length_map] at h1
    omega
  refine (bnew_any w A _ c ps ho.at (ho.wf hg) rfl hn).mono fun e w' h2 => ?_
  obtain ⟨x, sr, cs, e1, e2, e3, e4, e5⟩ := h2.1 (may_mem h hl ha hg)
  exact ⟨⟨{ x with L := L }, sr, cs, e1, e2.congr L (fun i hi => by rw [e5]; exact newL_mem h hl i hi), e3, e4, rfl⟩, h2.2.2⟩

set_option maxHeartbeats 4000000 in
theorem read_mem (w : World) (A : Option Addr) (c n : Nat) (a b : Nat) (L : Nat → List Int) (ha : a < 256) (hb : b < 256) (hl : ∀ i, i < 12 → (L i).length = 16384) (hal : ∀ i, i < 12 → AllB (L i)) (hn : n = (memB a b (pats L)).length) (h : RB w w.heap.size A c (memB a b (pats L))) :
    Calls Try.prog 9 #[.slice A n c] w fun e w' => (∃ x sr cs, e = .returned (.tuple #[ptrV x.m, .int .i64 0]) ∧ MB w' (fun k => w.heap.size ≤ k) x sr cs ∧ x.A = a ∧ x.B = b ∧ x.L = L) ∧ Below w.heap.size w w' := by
  have hok := pats_ok L hl hal
  have hfew := pats_few L hl
  have htk := taken_mem a b (pats L) ha hb hfew hok
  have hml := (memB_len a b (pats L) hfew hok).1
  have HT : Hid (Calls Try.prog 27 #[.slice A n c] w fun e w' => (∃ v ps, e = .returned (.tuple #[.agg #[.int .u8 (a : Nat), .int .u8 (b : Nat)], v, .int .i64 0]) ∧ OPs w' w.heap.size v ps ∧ ps.map Pt.pp = pats L ∧ ∀ x ∈ ps, 0 ≤ x.b ∧ x.b < 1000000 ∧ 0 ≤ x.p ∧ x.p < 1000000 ∧ x.l.length ≤ 140737488355328) ∧ Below w.heap.size w w') := Lib.hid ((taken_any w A c n _ hn h (by omega)).mono fun e w' h2 => by
    obtain ⟨v, ps, h3, h4, h5, h6, h7⟩ := h2
    rw [htk] at h3 h5
    exact ⟨⟨v, ps, h3, h4, h5, h6⟩, h7⟩)
  have HR := Lib.hid h
  have HHl := Lib.hid hl
  have HAl := Lib.hid hal
  have HN := Lib.hid hn
  have ha3 : ((a : Nat) : Int) < 256 := by omega
  have hb3 : ((b : Nat) : Int) < 256 := by omega
  clear hok hfew htk h hl hal hn
  go_enter Try.func9, Try.ntmps9
  go_upto_region 4 with (go_at_call 27; (with_reducible refine HT.out.mono ?_); rintro e w1 ⟨⟨v, ps, rfl, ho, hd, hg⟩, hb1⟩)
  obtain ⟨W, hW⟩ : ∃ W, w1.alloc (.cells #[.int .u8 (a : Nat), .int .u8 (b : Nat)] 34) = W := ⟨_, rfl⟩
  have hbW : Below w1.heap.size w1 W := by rw [← hW]; exact (Below.refl _ _).alloc (Nat.le_refl _) _
  have hpg : W.heap[w1.heap.size]? = some (.cells #[.int .u8 (a : Nat), .int .u8 (b : Nat)] 34 (0, 0)) := by rw [← hW]; exact heap_alloc_new _ _
  have HNew := Lib.hid (new_mem W _ v ps L (ho.below hbW) hd HHl.out HAl.out hg)
  have HBW := Lib.hid (hb1.trans (hbW.mono hb1.size))
  have HPg := Lib.hid hpg
  rw [hW]
  clear ho hd hg hb1 hbW hpg HT hW
  go_upto_region 7 with (go_at_call 7; (with_reducible refine HNew.out.mono ?_); rintro e w2 ⟨⟨x, sr, cs, rfl, hm, -, -, hL⟩, hb2⟩)
  have HL := Lib.hid hL
  have HM := Lib.hid hm
  have HB2 := Lib.hid (HBW.out.trans (hb2.mono HBW.out.size))
  have hpg2 := (hb2.block _ (Array.getElem?_eq_some_iff.1 HPg.out).1).trans HPg.out
  have p0 : w2.cell? ⟨w1.heap.size, 0, none⟩ = some (.int .u8 (a : Nat)) := by rw [cell_of_row _ _ _ _ _ _ hpg2]; rfl
  have p1 : w2.cell? ⟨w1.heap.size, 1, none⟩ = some (.int .u8 (b : Nat)) := by rw [cell_of_row _ _ _ _ _ _ hpg2]; rfl
  have hW2 : W.heap.size ≤ w2.heap.size := hb2.size
  have HT2 := Lib.hid (turn_any w2 (fun k => W.heap.size ≤ k) x _ hm.toMC (fun k hk => Nat.le_trans hW2 hk) a b (by omega) (by omega))
  have hxm : W.heap.size ≤ x.m := hm.pm
  have hWb : w.heap.size ≤ W.heap.size := HBW.out.size
  unfold pgV at HT2
  clear hL hm hb2 hpg2 HNew HBW HPg
  go_upto_region 8 with (go_at_call 25; (with_reducible refine HT2.out.mono ?_); rintro e w3 ⟨rfl, sr3, cs3, hm3, hg3⟩)
  have HM3 := Lib.hid hm3
  have HB3 := Lib.hid (HB2.out.grown hg3 HB2.out.size (fun k e => by obtain rfl := Option.some.inj e; omega))
  have HBy := Lib.hid (bytes_any w3 _ _ _ hm3.toMC)
  dsimp only at HBy
  rw [HL.out] at HBy
  clear hm3 hg3 HT2 p0 p1 HM
  obtain ⟨l, hl⟩ : ∃ l, memB a b (pats L) = l := ⟨_, rfl⟩
  rw [hl] at HBy HR HN
  clear hl hml
  have hn := HN.out
  subst hn
  unfold ptrV at HBy
  have HEq := Lib.hid (fun w4 A4 c4 (h4 : RB w4 w4.heap.size A4 c4 l) (h5 : RB w4 w.heap.size A c l) => s_equal A4 A c4 c _ _ l l w4 _ _ rfl rfl h4 h5)
  go_wp2_with (first
    | (go_at_call 18; (with_reducible refine HBy.out.mono ?_); rintro e w4 ⟨A4, c4, rfl, ho4, hb4⟩; have HB4 := Lib.hid (HB3.out.trans (hb4.mono HB3.out.size)); have HM4 := Lib.hid (HM3.out.below hb4); have HE4 := Lib.hid (HEq.out w4 A4 c4 ho4.rb (HR.out.below HB4.out)); rw [decide_eq_true rfl] at HE4; clear ho4 hb4)
    | (go_at_call 28; (with_reducible refine HE4.out.mono ?_); rintro e w' ⟨rfl, rfl⟩))
  go_ret2
  exact ⟨⟨{ x with A := (a : Int), B := (b : Int) }, sr3, cs3, rfl, HM4.out.mono (fun k _ hk => Nat.le_trans hWb hk), rfl, rfl, HL.out⟩, HB4.out⟩
end Go.Proofs.Ytflbedomkeophaa
