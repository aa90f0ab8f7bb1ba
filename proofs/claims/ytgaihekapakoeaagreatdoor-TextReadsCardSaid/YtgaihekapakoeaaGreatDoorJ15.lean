/-    -/
import Derived.Test.YtgaihekapakoeaaGreatDoorJ14
set_option linter.unusedVariables false
set_option linter.unusedSimpArgs false
namespace Go.Proofs.YtgaihekapakoeaaGreatDoor
open Go.RowKit


set_option maxRecDepth 100000

theorem headL_plain {l : List Int} (h : l.getD 0 0 ≠ 221 ∧ l.getD 0 0 ≠ 253 ∧ l.getD 0 0 ≠ 203 ∧ l.getD 0 0 ≠ 237) : headL (l.getD 0 0) (l.getD 1 0) = ⟨0, 0, 0⟩ := by
 unfold headL idxB
 rw [if_neg h.2.2.1, if_neg h.2.2.2, if_neg h.1, if_neg h.2.1, if_pos (.inl rfl)]
set_option maxHeartbeats 8000000 in
theorem r9_of_case0 (A : Option Addr) (c n : Nat) (l : List Int) (w : World) (hn : n = l.length) (h : RB w w.heap.size A c l) (ha : l.getD 0 0 ≠ 221 ∧ l.getD 0 0 ≠ 253 ∧ l.getD 0 0 ≠ 203 ∧ l.getD 0 0 ≠ 237) (hl : 1 ≤ l.length) : Calls Tryz.prog 32 #[.slice A n c] w (OfTo w l) := by
 unfold OfTo
 have hh : headL (l.getD 0 0) (l.getD 1 0) = ⟨0, 0, 0⟩ := headL_plain ha
 have hbb0 := h.bytes
 have hnone := fun q => ofE_none (tail_none hh q)
 obtain ⟨X, hX⟩ : ∃ X, ofV l = X := ⟨_, rfl⟩
 obtain ⟨E, hE⟩ : ∃ E, ofE l = E := ⟨_, rfl⟩
 rw [hX, hE] at hnone ⊢
 have hby := h.bytes.getD
 have hcap := h.le
 have hmax := h.cap
 unfold maxLen at hmax
 obtain ⟨b, off, rfl, hbb, hc⟩ := h.pos (by omega)
 have HC := z_ (fun (w' : World) (hb : Below w.heap.size w w') (i : Nat) (hi : i < n) => (hb.cell (p := ⟨b, off + i, none⟩) hbb).trans (hc i (by omega)))
 clear hc h
 have hn1 : 1 ≤ n := by omega
 have hnc : n ≤ c := by omega
 have HNo := z_ (fun (q : n ≤ 0 ∨ (n : Int) < lenI 0 0 (l.getD 0 0)) => hnone (by omega))
 have ho := hby 0
 have hsome := fun (q1 : 0 < n) (q2 : needD 0 0 (l.getD 0 0) = true → (0 : Nat) = 1 ∧ needN 0 0 (l.getD 0 0) ≤ 1) (q3 : lenI 0 0 (l.getD 0 0) ≤ n) => ofE_some (tail_some (p := 0) hbb0 hh (by omega) (by decide) q2 (by omega))
 rw [hX, hE] at hsome
 have HSo := z_ hsome
 have HBY := z_ hby
 clear hnone hsome hX hE hbb0 hh hby
 obtain ⟨w1, hw1⟩ : ∃ w1, (w.alloc (inO zeroI)).alloc (inO zeroI) = w1 := ⟨_, rfl⟩
 have hB1 : Below w.heap.size w w1 := hw1 ▸ ((Below.refl _ _).alloc (Nat.le_refl _) _).alloc (by simp) _
 have hR1 : InW w1 w.heap.size zeroI := hw1 ▸ (InW.laid w zeroI).more _
 have hI1 : InW w1 (w.heap.size + 1) zeroI := by
  have := InW.laid (w.alloc (inO zeroI)) zeroI
  rw [hw1, show (w.alloc (inO zeroI)).heap.size = w.heap.size + 1 by simp] at this
  exact this
 unfold inO zeroI at hw1
 have hIa := hI1
 have hRa := hR1
 have hBa := hB1
 have hwa : w1 = w1 := rfl
 obtain ⟨a, haa⟩ : ∃ a, l.getD 0 0 = a := ⟨_, rfl⟩
 have ca0 : w1.cell? ⟨b, off, none⟩ = some (.int .u8 (l.getD 0 0)) := HC.out w1 hB1 0 (by omega)
 have ha1 := HBY.out 0
 rw [haa] at ca0 ha1 ha
 obtain ⟨ha10, ha11⟩ := ha1
 clear hwa
 have hm0 : setM a = 0 := by unfold setM; rw [if_neg ha.2.2.1, if_neg ha.2.2.2]
 have hap : (a == 221 || a == 253) = false := by rw [beq_eq_false_iff_ne.2 ha.1, beq_eq_false_iff_ne.2 ha.2.1]; rfl
 have HPq := z_ (fun w => r9_prefix a w)
 rw [hap] at HPq
 obtain ⟨w2, w3, r1, r2, r3, hb3⟩ := set_map w1 a ha10 ha11
 rw [hm0] at r3
 have hI3 := hIa.below hb3 hIa.lt
 have hR3 := hRa.below hb3 hRa.lt
 have hB3 := hBa.trans (hb3.mono hBa.size)
 have ck3 : w3.cell? ⟨b, off, none⟩ = some (.int .u8 a) := haa ▸ HC.out w3 hB3 0 (by omega)
 have gx3 := hI3.gx
 have HI3 := z_ hI3
 have HR3 := z_ hR3
 have HB3 := z_ hB3
 have hmm := @run_makeMap Tryz.prog
 clear hI3 hR3 hB3 hIa hRa hBa hb3 hB1 hR1 hI1 hm0 hap haa ha hn hl
 go_enter Tryz.func32, Tryz.ntmps32
 go_upto_region 23 with (go_at_call 65; (with_reducible refine (HPq.out _).mono ?_); rintro e w' ⟨rfl, rfl⟩)
 have ho3 : w3.cell? ⟨b, off, none⟩ = some (.int .u8 (l.getD 0 0)) := HC.out w3 HB3.out 0 (by omega)
 obtain ⟨o, hoo⟩ : ∃ o, l.getD 0 0 = o := ⟨_, rfl⟩
 rw [hoo] at ho3 ho HNo HSo
 obtain ⟨o0, o1⟩ := ho
 have hlt := HI3.out.lt
 have hltR := HR3.out.lt
 have hc0 : ∀ p : M.Of (M.But w3 (w.heap.size + 1) (fun _ => True)), p.w.cell? ⟨b, off, none⟩ = some (.int .u8 o) := fun p => (World.cell?_of_block (p.ok.other (show b < w3.heap.size by omega) (show b ≠ w.heap.size + 1 by omega))).trans ho3
 haveI : Nonempty (M.Of (M.But w3 (w.heap.size + 1) (fun _ => True))) := ⟨⟨w3, M.But.refl hlt trivial⟩⟩
 refine M.regionF_ (M.But w3 (w.heap.size + 1) (fun _ => True)) (M.But w3 (w.heap.size + 1) (fun o => o = some (.cells (In.cells ⟨0, 0, 0, 0, 0, 0⟩) 23 (0, 0)))) (M.closed_but _ _ _) (M.But.weaken (fun _ _ => trivial)) (fun n => M.But.start hlt HI3.out n) (by kernel_rfl) ?_
 refine M.sx [0, 1, 2, 3, 4, 5, 6] 3 (M.But.refl hlt trivial) ?_
 repeat (go_big_quiet_step (fail))
 refine wpQuiet_nil ?_
 clear hc0
 refine M.cl 7 ?_
 intro wy sy
 have hIy : InW wy (w.heap.size + 1) ⟨0, 0, 0, 0, 0, 0⟩ := sy.2.2
 have fy := hIy.free 0
 have gy := hIy.gs
 unfold Oper.does
 go_simp
 refine ⟨M.But w3 (w.heap.size + 1) (fun o => o = some (.cells (In.cells ⟨0, 0, 0, 0, 0, 0⟩) 23 (0, 0))), sy.step (save_setCell wy _ 0 _) (InW.ps9 hIy 0), M.closed_but _ _ _, M.But.weaken (fun _ _ => trivial), ?_⟩
 clear sy hIy fy gy
 go_simp
 refine M.sx [8] 1 (M.But.refl hlt trivial) ?_
 repeat (go_big_quiet_step (fail))
 refine wpQuiet_nil ?_
 refine M.cl 9 ?_
 intro wy sy
 have hIy : InW wy (w.heap.size + 1) ⟨0, 0, 0, 0, 0, 0⟩ := sy.2.2
 have fy := hIy.free 2
 have gy := hIy.go
 unfold Oper.does
 go_simp
 refine ⟨M.But w3 (w.heap.size + 1) (fun q => q = some (.cells (In.cells ⟨0, 0, o, 0, 0, 0⟩) 23 (0, 0))), sy.step (save_setCell wy _ 2 _) (InW.po hIy o), M.closed_but _ _ _, M.But.weaken (fun _ _ => trivial), ?_⟩
 clear sy hIy fy gy
 refine M.en ?_
 intro wc sc
 have hI4 : InW wc (w.heap.size + 1) ⟨0, 0, o, 0, 0, 0⟩ := sc.2.2
 have hR4 : InW wc w.heap.size zeroI := (sc.other hltR (by omega)).trans HR3.out
 have hB4 := HB3.out.trans (sc.below (show w.heap.size ≤ w.heap.size + 1 by omega))
 have HN := z_ (fun w => r9_needs 0 0 o w)
 have HL := z_ (fun w => r9_length 0 0 o (by decide) w)
 obtain ⟨d, hd⟩ : ∃ d, needD 0 0 o = d := ⟨_, rfl⟩
 obtain ⟨k, hk⟩ : ∃ k, needN 0 0 o = k := ⟨_, rfl⟩
 obtain ⟨L, hLL⟩ : ∃ L, lenI 0 0 o = L := ⟨_, rfl⟩
 have hkk := needN_in 0 0 o
 have hLe : L = 1 + num1 d + k := by rw [← hLL, ← hd, ← hk]; unfold lenI; have e1 : num1 ((0 : Int) != 0) = 0 := rfl; have e2 : num1 ((0 : Int) != 0) = 0 := rfl; omega
 have hdf : d = false := by rw [← hd]; exact nd0 o
 have hdk : d = true → k ≤ 1 := fun q => by rw [hdf] at q; cases q
 rw [hd, hk] at HN
 rw [hLL] at HL HNo
 rw [hd, hk, hLL] at HSo
 rw [hk] at hkk
 have f5 := hI4.free 5
 have g0 := hI4.gs
 have g1' := hI4.gx
 have g2 := hI4.go
 have g5 := hI4.gn
 obtain ⟨wd, hwd⟩ : ∃ wd, wc.setCell ⟨w.heap.size + 1, 5, none⟩ (.int .i64 L) = wd := ⟨_, rfl⟩
 have hId : InW wd (w.heap.size + 1) ⟨0, 0, o, 0, 0, L⟩ := hwd ▸ hI4.pn L
 have hRd : InW wd w.heap.size zeroI := hwd ▸ (heap_setCell_other wc _ _ _ (by simp)).trans hR4
 have hBd : Below w.heap.size w wd := hwd ▸ hB4.setCell (p := ⟨w.heap.size + 1, 5, none⟩) (show w.heap.size ≤ w.heap.size + 1 by omega) _
 have d5 := hId.gn
 have d0 := hId.gs
 have d1 := hId.gx
 have d2 := hId.go
 have HId := z_ hId
 have HRd := z_ hRd
 have HBd := z_ hBd
 have HLL := z_ hLL
 have HOO := z_ hoo
 have HLe := z_ hLe
 clear sc hId hRd hBd hI4 hR4 hB4 HI3 HR3 HB3 hlt hltR this r1 r2 r3 hmm hd hk hLL hLe ho3 hoo gx3 ck3
 by_cases hnL : (n : Int) < L
 ·obtain ⟨e1, e2⟩ := HNo.out (.inr hnL)
  have HX := z_ e1
  have HE := z_ e2
  clear e1 e2 HSo HNo
  go_wp2_with (first
   | (go_at_call 46; (with_reducible refine (HL.out _).mono ?_); rintro e w' ⟨rfl, rfl⟩)
   | (refine sr w.heap.size rfl rfl rfl rfl HRd.out (in_one zeroI) ?_))
  (try simp only [Exit.inBlock, Exit.then])
  exact bodyPost_ret (results_ins_tmp rfl _ _ _ zeroI _ rfl rfl (setRow_heap _ _ _ _ _ _ HRd.out)) rfl ⟨by rw [HX.out, HE.out]; rfl, below_setRow HBd.out (Nat.le_refl _) _⟩
 ·have hnL2 : L ≤ (n : Int) := by omega
  subst hdf
  have hkc : k = 0 ∨ k = 1 ∨ k = 2 := by omega
  rcases hkc with rfl | rfl | rfl
  ·obtain ⟨e1, e2⟩ := HSo.out (by omega) (by intro q; cases q) hnL2
   have hX : X = ⟨0, 0, o, 0, 0, L⟩ := by rw [e1]; unfold tailI; rw [HOO.out, HLL.out]; rfl
   have HX := z_ hX
   have HE := z_ e2
   clear e1 e2 hX HSo HNo
   go_wp2_with (first
    | (go_at_call 46; (with_reducible refine (HL.out _).mono ?_); rintro e w' ⟨rfl, rfl⟩)
    | (go_at_call 47; (with_reducible refine (HN.out _).mono ?_); rintro e w' ⟨rfl, rfl⟩)
    | (refine lr (w.heap.size + 1) rfl rfl rfl HId.out ?_)
    | (refine sr w.heap.size rfl rfl rfl rfl HRd.out (in_one ⟨0, 0, o, 0, 0, L⟩) ?_))
   all_goals
    (try simp only [Exit.inBlock, Exit.then])
    exact bodyPost_ret (results_ins_tmp rfl _ _ _ ⟨0, 0, o, 0, 0, L⟩ _ rfl rfl (setRow_heap _ _ _ _ _ _ HRd.out)) rfl ⟨by rw [HX.out, HE.out]; rfl, below_setRow HBd.out (Nat.le_refl _) _⟩
  ·have hnp : 1 < n := by have := HLe.out; simp [num1] at this; omega
   have hcn1 : ¬ c = 1 := by omega
   have hcn2 : ¬ 1 = c := by omega
   have hcn3 : ¬ (c : Int) = 1 := by omega
   obtain ⟨u, hu⟩ : ∃ u, l.getD 1 0 = u := ⟨_, rfl⟩
   have hub := HBY.out 1
   rw [hu] at hub
   obtain ⟨hu0, hu1⟩ := hub
   have HU := z_ hu
   have cW : wd.cell? ⟨b, off + 1, none⟩ = some (.int .u8 u) := hu ▸ HC.out wd HBd.out 1 (by omega)
   have fW := InW.free HId.out 4
   have gW := InW.gm HId.out
   obtain ⟨we, hwe⟩ : ∃ we, wd.setCell ⟨w.heap.size + 1, 4, none⟩ (.int .i64 u) = we := ⟨_, rfl⟩
   have hIe : InW we (w.heap.size + 1) ⟨0, 0, o, 0, u, L⟩ := hwe ▸ InW.pm HId.out u
   have hRe : InW we w.heap.size zeroI := hwe ▸ (heap_setCell_other wd _ _ _ (by simp)).trans HRd.out
   have hBe : Below w.heap.size w we := hwe ▸ HBd.out.setCell (p := ⟨w.heap.size + 1, 4, none⟩) (show w.heap.size ≤ w.heap.size + 1 by omega) _
   have ce : we.cell? ⟨b, off + 1, none⟩ = some (.int .u8 u) := hu ▸ HC.out we hBe 1 (by omega)
   have ge2 := hIe.go
   have ge4 := hIe.gm
   have fe4 := hIe.free 4
   have HIe := z_ hIe
   have HRe := z_ hRe
   have HBe := z_ hBe
   obtain ⟨rl, hrl⟩ : ∃ rl, relI o = rl := ⟨_, rfl⟩
   have HRl := z_ (fun w => r9_rel o w o0 o1)
   rw [hrl] at HRl
   have hj : jumpI 0 o = rl := by unfold jumpI; rw [hrl]; cases rl <;> rfl
   have HJ := z_ hj
   have HSg := z_ (fun w => r9_signed u w hu0 hu1)
   clear hIe hRe hBe hrl hj hu
   cases rl with
   | false =>
    obtain ⟨e1, e2⟩ := HSo.out (by omega) (by intro q; cases q) hnL2
    have hX : X = ⟨0, 0, o, 0, u, L⟩ := by
     rw [e1]
     unfold tailI
     rw [HOO.out, HLL.out, HJ.out, ← HU.out]
     rfl
    have HX := z_ hX
    have HE := z_ e2
    clear e1 e2 hX HSo HNo
    go_wp2_with (first
     | (go_at_call 46; (with_reducible refine (HL.out _).mono ?_); rintro e w' ⟨rfl, rfl⟩)
     | (go_at_call 47; (with_reducible refine (HN.out _).mono ?_); rintro e w' ⟨rfl, rfl⟩)
     | (go_at_call 48; (with_reducible refine (HRl.out _).mono ?_); rintro e w' ⟨rfl, rfl⟩)
     | (refine lr (w.heap.size + 1) rfl rfl rfl HIe.out ?_)
     | (refine sr w.heap.size rfl rfl rfl rfl HRe.out (in_one ⟨0, 0, o, 0, u, L⟩) ?_))
    all_goals
     (try simp only [Exit.inBlock, Exit.then])
     exact bodyPost_ret (results_ins_tmp rfl _ _ _ ⟨0, 0, o, 0, u, L⟩ _ rfl rfl (setRow_heap _ _ _ _ _ _ HRe.out)) rfl ⟨by rw [HX.out, HE.out]; rfl, below_setRow HBe.out (Nat.le_refl _) _⟩
   | true =>
    obtain ⟨wf, hwf⟩ : ∃ wf, we.setCell ⟨w.heap.size + 1, 4, none⟩ (.int .i64 (IntKind.i8.wrap u)) = wf := ⟨_, rfl⟩
    have HIf := z_ (show InW wf (w.heap.size + 1) ⟨0, 0, o, 0, IntKind.i8.wrap u, L⟩ from hwf ▸ InW.pm HIe.out _)
    have HRf := z_ (show InW wf w.heap.size zeroI from hwf ▸ (heap_setCell_other we _ _ _ (by simp)).trans HRe.out)
    have HBf := z_ (show Below w.heap.size w wf from hwf ▸ HBe.out.setCell (p := ⟨w.heap.size + 1, 4, none⟩) (show w.heap.size ≤ w.heap.size + 1 by omega) _)
    obtain ⟨e1, e2⟩ := HSo.out (by omega) (by intro q; cases q) hnL2
    have hX : X = ⟨0, 0, o, 0, IntKind.i8.wrap u, L⟩ := by
     rw [e1]
     unfold tailI
     rw [HOO.out, HLL.out, HJ.out, ← HU.out]
     rfl
    have HX := z_ hX
    have HE := z_ e2
    clear e1 e2 hX HSo HNo
    go_wp2_with (first
     | (go_at_call 46; (with_reducible refine (HL.out _).mono ?_); rintro e w' ⟨rfl, rfl⟩)
     | (go_at_call 47; (with_reducible refine (HN.out _).mono ?_); rintro e w' ⟨rfl, rfl⟩)
     | (go_at_call 48; (with_reducible refine (HRl.out _).mono ?_); rintro e w' ⟨rfl, rfl⟩)
     | (go_at_call 66; (with_reducible refine (HSg.out _).mono ?_); rintro e w' ⟨rfl, rfl⟩)
     | (refine lr (w.heap.size + 1) rfl rfl rfl HIf.out ?_)
     | (refine sr w.heap.size rfl rfl rfl rfl HRf.out (in_one ⟨0, 0, o, 0, IntKind.i8.wrap u, L⟩) ?_))
    all_goals
     (try simp only [Exit.inBlock, Exit.then])
     exact bodyPost_ret (results_ins_tmp rfl _ _ _ ⟨0, 0, o, 0, IntKind.i8.wrap u, L⟩ _ rfl rfl (setRow_heap _ _ _ _ _ _ HRf.out)) rfl ⟨by rw [HX.out, HE.out]; rfl, below_setRow HBf.out (Nat.le_refl _) _⟩
  ·have hnp : 2 < n := by have := HLe.out; simp [num1] at this; omega
   have hcn1 : ¬ c = 1 := by omega
   have hcn2 : ¬ 1 = c := by omega
   have hcn3 : ¬ (c : Int) = 1 := by omega
   obtain ⟨u, hu⟩ : ∃ u, l.getD 1 0 = u := ⟨_, rfl⟩
   obtain ⟨v, hv⟩ : ∃ v, l.getD 2 0 = v := ⟨_, rfl⟩
   have hub := HBY.out 1
   have hvb := HBY.out 2
   rw [hu] at hub
   rw [hv] at hvb
   obtain ⟨hu0, hu1⟩ := hub
   obtain ⟨hv0, hv1⟩ := hvb
   obtain ⟨e1, e2⟩ := HSo.out (by omega) (by intro q; cases q) hnL2
   have hX : X = ⟨0, 0, o, 0, u + 256 * v, L⟩ := by
    rw [e1]
    unfold tailI
    rw [HOO.out, HLL.out, hu, hv]
    rfl
   have HX := z_ hX
   have HE := z_ e2
   clear e1 e2 hX HSo HNo
   have hltd := HId.out.lt
   have c1d : wd.cell? ⟨b, off + 1, none⟩ = some (.int .u8 u) := hu ▸ HC.out wd HBd.out 1 (by omega)
   have c2d : wd.cell? ⟨b, off + 2, none⟩ = some (.int .u8 v) := hv ▸ HC.out wd HBd.out 2 (by omega)
   go_upto_region 36 with (first
    | (go_at_call 46; (with_reducible refine (HL.out _).mono ?_); rintro e w' ⟨rfl, rfl⟩)
    | (go_at_call 47; (with_reducible refine (HN.out _).mono ?_); rintro e w' ⟨rfl, rfl⟩))
   have q1 : ∀ p : M.Of (M.But wd (w.heap.size + 1) (fun _ => True)), p.w.cell? ⟨b, off + 1, none⟩ = some (.int .u8 u) := fun p => (World.cell?_of_block (p.ok.other (show b < wd.heap.size by omega) (show b ≠ w.heap.size + 1 by omega))).trans c1d
   have q2 : ∀ p : M.Of (M.But wd (w.heap.size + 1) (fun _ => True)), p.w.cell? ⟨b, off + 2, none⟩ = some (.int .u8 v) := fun p => (World.cell?_of_block (p.ok.other (show b < wd.heap.size by omega) (show b ≠ w.heap.size + 1 by omega))).trans c2d
   haveI : Nonempty (M.Of (M.But wd (w.heap.size + 1) (fun _ => True))) := ⟨⟨wd, M.But.refl hltd trivial⟩⟩
   clear c1d c2d hu hv
   refine M.regionF_ (M.But wd (w.heap.size + 1) (fun _ => True)) (M.But wd (w.heap.size + 1) (fun q => q = some (.cells (In.cells ⟨0, 0, o, 0, 0, L⟩) 23 (0, 0)))) (M.closed_but _ _ _) (M.But.weaken (fun _ _ => trivial)) (fun n => M.But.start hltd HId.out n) (by kernel_rfl) ?_
   refine M.sx [0, 1, 2, 3, 4, 5, 6, 7, 8, 9, 10] 1 (M.But.refl hltd trivial) ?_
   repeat (go_big_quiet_step (fail))
   refine wpQuiet_nil ?_
   clear q1 q2
   refine M.cl 11 ?_
   intro wy sy
   have hIy : InW wy (w.heap.size + 1) ⟨0, 0, o, 0, 0, L⟩ := sy.2.2
   have fy := hIy.free 4
   have gy := hIy.gm
   unfold Oper.does
   go_simp
   refine ⟨M.But wd (w.heap.size + 1) (fun q => q = some (.cells (In.cells ⟨0, 0, o, 0, u + 256 * v, L⟩) 23 (0, 0))), sy.step (save_setCell wy _ 4 _) (InW.pm hIy (u + 256 * v)), M.closed_but _ _ _, M.But.weaken (fun _ _ => trivial), ?_⟩
   clear sy hIy fy gy
   go_simp
   refine M.en ?_
   intro wc2 sc2
   have HIe := z_ (show InW wc2 (w.heap.size + 1) ⟨0, 0, o, 0, u + 256 * v, L⟩ from sc2.2.2)
   have HRe := z_ (show InW wc2 w.heap.size zeroI from (sc2.other HRd.out.lt (by omega)).trans HRd.out)
   have HBe := z_ (HBd.out.trans (sc2.below (show w.heap.size ≤ w.heap.size + 1 by omega)))
   clear sc2 this
   go_wp2_with (first
    | (refine lr (w.heap.size + 1) rfl rfl rfl HIe.out ?_)
    | (refine sr w.heap.size rfl rfl rfl rfl HRe.out (in_one ⟨0, 0, o, 0, u + 256 * v, L⟩) ?_))
   all_goals
    (try simp only [Exit.inBlock, Exit.then])
    exact bodyPost_ret (results_ins_tmp rfl _ _ _ ⟨0, 0, o, 0, u + 256 * v, L⟩ _ rfl rfl (setRow_heap _ _ _ _ _ _ HRe.out)) rfl ⟨by rw [HX.out, HE.out]; rfl, below_setRow HBe.out (Nat.le_refl _) _⟩
end Go.Proofs.YtgaihekapakoeaaGreatDoor
namespace Go.Proofs.YtgaihekapakoeaaGreatDoor
open Go.RowKit


set_option maxRecDepth 100000

set_option maxHeartbeats 8000000 in
theorem r9_of_case1 (A : Option Addr) (c n : Nat) (l : List Int) (w : World) (hn : n = l.length) (h : RB w w.heap.size A c l) (ha : l.getD 0 0 = 203) (hl : 1 ≤ l.length) : Calls Tryz.prog 32 #[.slice A n c] w (OfTo w l) := by
 unfold OfTo
 have hh : headL (l.getD 0 0) (l.getD 1 0) = ⟨1, 0, 1⟩ := by unfold headL; rw [if_pos ha]
 have hbb0 := h.bytes
 have hnone := fun q => ofE_none (tail_none hh q)
 obtain ⟨X, hX⟩ : ∃ X, ofV l = X := ⟨_, rfl⟩
 obtain ⟨E, hE⟩ : ∃ E, ofE l = E := ⟨_, rfl⟩
 rw [hX, hE] at hnone ⊢
 have hby := h.bytes.getD
 have hcap := h.le
 have hmax := h.cap
 unfold maxLen at hmax
 obtain ⟨b, off, rfl, hbb, hc⟩ := h.pos (by omega)
 have HC := z_ (fun (w' : World) (hb : Below w.heap.size w w') (i : Nat) (hi : i < n) => (hb.cell (p := ⟨b, off + i, none⟩) hbb).trans (hc i (by omega)))
 clear hc h
 have hn1 : 1 ≤ n := by omega
 have hnc : n ≤ c := by omega
 have HNo := z_ (fun (q : n ≤ 1 ∨ (n : Int) < lenI 1 0 (l.getD 1 0)) => hnone (by omega))
 have ho := hby 1
 have hsome := fun (q1 : 1 < n) (q2 : needD 1 0 (l.getD 1 0) = true → (1 : Nat) = 1 ∧ needN 1 0 (l.getD 1 0) ≤ 1) (q3 : lenI 1 0 (l.getD 1 0) ≤ n) => ofE_some (tail_some (p := 1) hbb0 hh (by omega) (by decide) q2 (by omega))
 rw [hX, hE] at hsome
 have HSo := z_ hsome
 have HBY := z_ hby
 clear hnone hsome hX hE hbb0 hh hby
 obtain ⟨w1, hw1⟩ : ∃ w1, (w.alloc (inO zeroI)).alloc (inO zeroI) = w1 := ⟨_, rfl⟩
 have hB1 : Below w.heap.size w w1 := hw1 ▸ ((Below.refl _ _).alloc (Nat.le_refl _) _).alloc (by simp) _
 have hR1 : InW w1 w.heap.size zeroI := hw1 ▸ (InW.laid w zeroI).more _
 have hI1 : InW w1 (w.heap.size + 1) zeroI := by
  have := InW.laid (w.alloc (inO zeroI)) zeroI
  rw [hw1, show (w.alloc (inO zeroI)).heap.size = w.heap.size + 1 by simp] at this
  exact this
 unfold inO zeroI at hw1
 have hIa := hI1
 have hRa := hR1
 have hBa := hB1
 have hwa : w1 = w1 := rfl
 obtain ⟨a, haa⟩ : ∃ a, l.getD 0 0 = a := ⟨_, rfl⟩
 have ca0 : w1.cell? ⟨b, off, none⟩ = some (.int .u8 (l.getD 0 0)) := HC.out w1 hB1 0 (by omega)
 have ha1 := HBY.out 0
 rw [haa] at ca0 ha1 ha
 obtain ⟨ha10, ha11⟩ := ha1
 clear hwa
 subst ha
 have hm0 : setM 203 = 1 := rfl
 have hap : ((203 : Int) == 221 || (203 : Int) == 253) = false := rfl
 have HPq := z_ (fun w => r9_prefix 203 w)
 rw [hap] at HPq
 obtain ⟨w2, w3, r1, r2, r3, hb3⟩ := set_map w1 203 ha10 ha11
 rw [hm0] at r3
 have hI3 := hIa.below hb3 hIa.lt
 have hR3 := hRa.below hb3 hRa.lt
 have hB3 := hBa.trans (hb3.mono hBa.size)
 have ck3 : w3.cell? ⟨b, off, none⟩ = some (.int .u8 203) := haa ▸ HC.out w3 hB3 0 (by omega)
 have gx3 := hI3.gx
 have HI3 := z_ hI3
 have HR3 := z_ hR3
 have HB3 := z_ hB3
 have hmm := @run_makeMap Tryz.prog
 clear hI3 hR3 hB3 hIa hRa hBa hb3 hB1 hR1 hI1 hm0 hap haa hn hl
 by_cases h1n : n ≤ 1
 ·obtain ⟨e1, e2⟩ := HNo.out (.inl h1n)
  have HX := z_ e1
  have HE := z_ e2
  obtain rfl : n = 1 := by omega
  clear e1 e2 HSo HNo
  go_enter Tryz.func32, Tryz.ntmps32
  go_wp2_with (first
   | (go_at_call 65; (with_reducible refine (HPq.out _).mono ?_); rintro e w' ⟨rfl, rfl⟩)
   | (refine sr w.heap.size rfl rfl rfl rfl HR3.out (in_one zeroI) ?_))
  (try simp only [Exit.inBlock, Exit.then])
  exact bodyPost_ret (results_ins_tmp rfl _ _ _ zeroI _ rfl rfl (setRow_heap _ _ _ _ _ _ HR3.out)) rfl ⟨by rw [HX.out, HE.out]; rfl, below_setRow HB3.out (Nat.le_refl _) _⟩
 ·have h1m : 1 < n := by omega
  clear h1n
  go_enter Tryz.func32, Tryz.ntmps32
  go_upto_region 23 with (go_at_call 65; (with_reducible refine (HPq.out _).mono ?_); rintro e w' ⟨rfl, rfl⟩)
  have ho3 : w3.cell? ⟨b, off + 1, none⟩ = some (.int .u8 (l.getD 1 0)) := HC.out w3 HB3.out 1 (by omega)
  obtain ⟨o, hoo⟩ : ∃ o, l.getD 1 0 = o := ⟨_, rfl⟩
  rw [hoo] at ho3 ho HNo HSo
  obtain ⟨o0, o1⟩ := ho
  have hlt := HI3.out.lt
  have hltR := HR3.out.lt
  have hc0 : ∀ p : M.Of (M.But w3 (w.heap.size + 1) (fun _ => True)), p.w.cell? ⟨b, off + 1, none⟩ = some (.int .u8 o) := fun p => (World.cell?_of_block (p.ok.other (show b < w3.heap.size by omega) (show b ≠ w.heap.size + 1 by omega))).trans ho3
  haveI : Nonempty (M.Of (M.But w3 (w.heap.size + 1) (fun _ => True))) := ⟨⟨w3, M.But.refl hlt trivial⟩⟩
  refine M.regionF_ (M.But w3 (w.heap.size + 1) (fun _ => True)) (M.But w3 (w.heap.size + 1) (fun o => o = some (.cells (In.cells ⟨0, 0, 0, 0, 0, 0⟩) 23 (0, 0)))) (M.closed_but _ _ _) (M.But.weaken (fun _ _ => trivial)) (fun n => M.But.start hlt HI3.out n) (by kernel_rfl) ?_
  refine M.sx [0, 1, 2, 3, 4, 5, 6] 3 (M.But.refl hlt trivial) ?_
  repeat (go_big_quiet_step (fail))
  refine wpQuiet_nil ?_
  clear hc0
  refine M.cl 7 ?_
  intro wy sy
  have hIy : InW wy (w.heap.size + 1) ⟨0, 0, 0, 0, 0, 0⟩ := sy.2.2
  have fy := hIy.free 0
  have gy := hIy.gs
  unfold Oper.does
  go_simp
  refine ⟨M.But w3 (w.heap.size + 1) (fun o => o = some (.cells (In.cells ⟨1, 0, 0, 0, 0, 0⟩) 23 (0, 0))), sy.step (save_setCell wy _ 0 _) (InW.ps9 hIy 1), M.closed_but _ _ _, M.But.weaken (fun _ _ => trivial), ?_⟩
  clear sy hIy fy gy
  go_simp
  refine M.sx [8] 1 (M.But.refl hlt trivial) ?_
  repeat (go_big_quiet_step (fail))
  refine wpQuiet_nil ?_
  refine M.cl 9 ?_
  intro wy sy
  have hIy : InW wy (w.heap.size + 1) ⟨1, 0, 0, 0, 0, 0⟩ := sy.2.2
  have fy := hIy.free 2
  have gy := hIy.go
  unfold Oper.does
  go_simp
  refine ⟨M.But w3 (w.heap.size + 1) (fun q => q = some (.cells (In.cells ⟨1, 0, o, 0, 0, 0⟩) 23 (0, 0))), sy.step (save_setCell wy _ 2 _) (InW.po hIy o), M.closed_but _ _ _, M.But.weaken (fun _ _ => trivial), ?_⟩
  clear sy hIy fy gy
  refine M.en ?_
  intro wc sc
  have hI4 : InW wc (w.heap.size + 1) ⟨1, 0, o, 0, 0, 0⟩ := sc.2.2
  have hR4 : InW wc w.heap.size zeroI := (sc.other hltR (by omega)).trans HR3.out
  have hB4 := HB3.out.trans (sc.below (show w.heap.size ≤ w.heap.size + 1 by omega))
  have HN := z_ (fun w => r9_needs 1 0 o w)
  have HL := z_ (fun w => r9_length 1 0 o (by decide) w)
  obtain ⟨d, hd⟩ : ∃ d, needD 1 0 o = d := ⟨_, rfl⟩
  obtain ⟨k, hk⟩ : ∃ k, needN 1 0 o = k := ⟨_, rfl⟩
  obtain ⟨L, hLL⟩ : ∃ L, lenI 1 0 o = L := ⟨_, rfl⟩
  have hkk := needN_in 1 0 o
  have hLe : L = 2 + num1 d + k := by rw [← hLL, ← hd, ← hk]; unfold lenI; have e1 : num1 ((0 : Int) != 0) = 0 := rfl; have e2 : num1 ((1 : Int) != 0) = 1 := rfl; omega
  have hdf : d = false := by rw [← hd]; exact nd1 o
  have hk0 : k = 0 := by rw [← hk]; exact nn1 o
  rw [hd, hk] at HN
  rw [hLL] at HL HNo
  rw [hd, hk, hLL] at HSo
  rw [hk] at hkk
  have f5 := hI4.free 5
  have g0 := hI4.gs
  have g1' := hI4.gx
  have g2 := hI4.go
  have g5 := hI4.gn
  obtain ⟨wd, hwd⟩ : ∃ wd, wc.setCell ⟨w.heap.size + 1, 5, none⟩ (.int .i64 L) = wd := ⟨_, rfl⟩
  have hId : InW wd (w.heap.size + 1) ⟨1, 0, o, 0, 0, L⟩ := hwd ▸ hI4.pn L
  have hRd : InW wd w.heap.size zeroI := hwd ▸ (heap_setCell_other wc _ _ _ (by simp)).trans hR4
  have hBd : Below w.heap.size w wd := hwd ▸ hB4.setCell (p := ⟨w.heap.size + 1, 5, none⟩) (show w.heap.size ≤ w.heap.size + 1 by omega) _
  have d5 := hId.gn
  have d0 := hId.gs
  have d1 := hId.gx
  have d2 := hId.go
  have HId := z_ hId
  have HRd := z_ hRd
  have HBd := z_ hBd
  have HLL := z_ hLL
  have HOO := z_ hoo
  have HLe := z_ hLe
  clear sc hId hRd hBd hI4 hR4 hB4 HI3 HR3 HB3 hlt hltR this r1 r2 r3 hmm hd hk hLL hLe ho3 hoo gx3 ck3
  by_cases hnL : (n : Int) < L
  ·obtain ⟨e1, e2⟩ := HNo.out (.inr hnL)
   have HX := z_ e1
   have HE := z_ e2
   clear e1 e2 HSo HNo
   go_wp2_with (first
    | (go_at_call 46; (with_reducible refine (HL.out _).mono ?_); rintro e w' ⟨rfl, rfl⟩)
    | (refine sr w.heap.size rfl rfl rfl rfl HRd.out (in_one zeroI) ?_))
   (try simp only [Exit.inBlock, Exit.then])
   exact bodyPost_ret (results_ins_tmp rfl _ _ _ zeroI _ rfl rfl (setRow_heap _ _ _ _ _ _ HRd.out)) rfl ⟨by rw [HX.out, HE.out]; rfl, below_setRow HBd.out (Nat.le_refl _) _⟩
  ·have hnL2 : L ≤ (n : Int) := by omega
   subst hdf
   subst hk0
   obtain ⟨e1, e2⟩ := HSo.out (by omega) (by intro q; cases q) hnL2
   have hX : X = ⟨1, 0, o, 0, 0, L⟩ := by rw [e1]; unfold tailI; rw [HOO.out, HLL.out]; rfl
   have HX := z_ hX
   have HE := z_ e2
   clear e1 e2 hX HSo HNo
   go_wp2_with (first
    | (go_at_call 46; (with_reducible refine (HL.out _).mono ?_); rintro e w' ⟨rfl, rfl⟩)
    | (go_at_call 47; (with_reducible refine (HN.out _).mono ?_); rintro e w' ⟨rfl, rfl⟩)
    | (refine lr (w.heap.size + 1) rfl rfl rfl HId.out ?_)
    | (refine sr w.heap.size rfl rfl rfl rfl HRd.out (in_one ⟨1, 0, o, 0, 0, L⟩) ?_))
   all_goals
    (try simp only [Exit.inBlock, Exit.then])
    exact bodyPost_ret (results_ins_tmp rfl _ _ _ ⟨1, 0, o, 0, 0, L⟩ _ rfl rfl (setRow_heap _ _ _ _ _ _ HRd.out)) rfl ⟨by rw [HX.out, HE.out]; rfl, below_setRow HBd.out (Nat.le_refl _) _⟩
end Go.Proofs.YtgaihekapakoeaaGreatDoor
namespace Go.Proofs.YtgaihekapakoeaaGreatDoor
open Go.RowKit


set_option maxRecDepth 100000

set_option maxHeartbeats 8000000 in
theorem r9_of_case2 (A : Option Addr) (c n : Nat) (l : List Int) (w : World) (hn : n = l.length) (h : RB w w.heap.size A c l) (ha : l.getD 0 0 = 237) (hl : 1 ≤ l.length) : Calls Tryz.prog 32 #[.slice A n c] w (OfTo w l) := by
 unfold OfTo
 have hh : headL (l.getD 0 0) (l.getD 1 0) = ⟨2, 0, 1⟩ := by unfold headL; rw [if_neg (by rw [ha]; decide), if_pos ha]
 have hbb0 := h.bytes
 have hnone := fun q => ofE_none (tail_none hh q)
 obtain ⟨X, hX⟩ : ∃ X, ofV l = X := ⟨_, rfl⟩
 obtain ⟨E, hE⟩ : ∃ E, ofE l = E := ⟨_, rfl⟩
 rw [hX, hE] at hnone ⊢
 have hby := h.bytes.getD
 have hcap := h.le
 have hmax := h.cap
 unfold maxLen at hmax
 obtain ⟨b, off, rfl, hbb, hc⟩ := h.pos (by omega)
 have HC := z_ (fun (w' : World) (hb : Below w.heap.size w w') (i : Nat) (hi : i < n) => (hb.cell (p := ⟨b, off + i, none⟩) hbb).trans (hc i (by omega)))
 clear hc h
 have hn1 : 1 ≤ n := by omega
 have hnc : n ≤ c := by omega
 have HNo := z_ (fun (q : n ≤ 1 ∨ (n : Int) < lenI 2 0 (l.getD 1 0)) => hnone (by omega))
 have ho := hby 1
 have hsome := fun (q1 : 1 < n) (q2 : needD 2 0 (l.getD 1 0) = true → (1 : Nat) = 1 ∧ needN 2 0 (l.getD 1 0) ≤ 1) (q3 : lenI 2 0 (l.getD 1 0) ≤ n) => ofE_some (tail_some (p := 1) hbb0 hh (by omega) (by decide) q2 (by omega))
 rw [hX, hE] at hsome
 have HSo := z_ hsome
 have HBY := z_ hby
 clear hnone hsome hX hE hbb0 hh hby
 obtain ⟨w1, hw1⟩ : ∃ w1, (w.alloc (inO zeroI)).alloc (inO zeroI) = w1 := ⟨_, rfl⟩
 have hB1 : Below w.heap.size w w1 := hw1 ▸ ((Below.refl _ _).alloc (Nat.le_refl _) _).alloc (by simp) _
 have hR1 : InW w1 w.heap.size zeroI := hw1 ▸ (InW.laid w zeroI).more _
 have hI1 : InW w1 (w.heap.size + 1) zeroI := by
  have := InW.laid (w.alloc (inO zeroI)) zeroI
  rw [hw1, show (w.alloc (inO zeroI)).heap.size = w.heap.size + 1 by simp] at this
  exact this
 unfold inO zeroI at hw1
 have hIa := hI1
 have hRa := hR1
 have hBa := hB1
 have hwa : w1 = w1 := rfl
 obtain ⟨a, haa⟩ : ∃ a, l.getD 0 0 = a := ⟨_, rfl⟩
 have ca0 : w1.cell? ⟨b, off, none⟩ = some (.int .u8 (l.getD 0 0)) := HC.out w1 hB1 0 (by omega)
 have ha1 := HBY.out 0
 rw [haa] at ca0 ha1 ha
 obtain ⟨ha10, ha11⟩ := ha1
 clear hwa
 subst ha
 have hm0 : setM 237 = 2 := rfl
 have hap : ((237 : Int) == 221 || (237 : Int) == 253) = false := rfl
 have HPq := z_ (fun w => r9_prefix 237 w)
 rw [hap] at HPq
 obtain ⟨w2, w3, r1, r2, r3, hb3⟩ := set_map w1 237 ha10 ha11
 rw [hm0] at r3
 have hI3 := hIa.below hb3 hIa.lt
 have hR3 := hRa.below hb3 hRa.lt
 have hB3 := hBa.trans (hb3.mono hBa.size)
 have ck3 : w3.cell? ⟨b, off, none⟩ = some (.int .u8 237) := haa ▸ HC.out w3 hB3 0 (by omega)
 have gx3 := hI3.gx
 have HI3 := z_ hI3
 have HR3 := z_ hR3
 have HB3 := z_ hB3
 have hmm := @run_makeMap Tryz.prog
 clear hI3 hR3 hB3 hIa hRa hBa hb3 hB1 hR1 hI1 hm0 hap haa hn hl
 by_cases h1n : n ≤ 1
 ·obtain ⟨e1, e2⟩ := HNo.out (.inl h1n)
  have HX := z_ e1
  have HE := z_ e2
  obtain rfl : n = 1 := by omega
  clear e1 e2 HSo HNo
  go_enter Tryz.func32, Tryz.ntmps32
  go_wp2_with (first
   | (go_at_call 65; (with_reducible refine (HPq.out _).mono ?_); rintro e w' ⟨rfl, rfl⟩)
   | (refine sr w.heap.size rfl rfl rfl rfl HR3.out (in_one zeroI) ?_))
  (try simp only [Exit.inBlock, Exit.then])
  exact bodyPost_ret (results_ins_tmp rfl _ _ _ zeroI _ rfl rfl (setRow_heap _ _ _ _ _ _ HR3.out)) rfl ⟨by rw [HX.out, HE.out]; rfl, below_setRow HB3.out (Nat.le_refl _) _⟩
 ·have h1m : 1 < n := by omega
  clear h1n
  go_enter Tryz.func32, Tryz.ntmps32
  go_upto_region 23 with (go_at_call 65; (with_reducible refine (HPq.out _).mono ?_); rintro e w' ⟨rfl, rfl⟩)
  have ho3 : w3.cell? ⟨b, off + 1, none⟩ = some (.int .u8 (l.getD 1 0)) := HC.out w3 HB3.out 1 (by omega)
  obtain ⟨o, hoo⟩ : ∃ o, l.getD 1 0 = o := ⟨_, rfl⟩
  rw [hoo] at ho3 ho HNo HSo
  obtain ⟨o0, o1⟩ := ho
  have hlt := HI3.out.lt
  have hltR := HR3.out.lt
  have hc0 : ∀ p : M.Of (M.But w3 (w.heap.size + 1) (fun _ => True)), p.w.cell? ⟨b, off + 1, none⟩ = some (.int .u8 o) := fun p => (World.cell?_of_block (p.ok.other (show b < w3.heap.size by omega) (show b ≠ w.heap.size + 1 by omega))).trans ho3
  haveI : Nonempty (M.Of (M.But w3 (w.heap.size + 1) (fun _ => True))) := ⟨⟨w3, M.But.refl hlt trivial⟩⟩
  refine M.regionF_ (M.But w3 (w.heap.size + 1) (fun _ => True)) (M.But w3 (w.heap.size + 1) (fun o => o = some (.cells (In.cells ⟨0, 0, 0, 0, 0, 0⟩) 23 (0, 0)))) (M.closed_but _ _ _) (M.But.weaken (fun _ _ => trivial)) (fun n => M.But.start hlt HI3.out n) (by kernel_rfl) ?_
  refine M.sx [0, 1, 2, 3, 4, 5, 6] 3 (M.But.refl hlt trivial) ?_
  repeat (go_big_quiet_step (fail))
  refine wpQuiet_nil ?_
  clear hc0
  refine M.cl 7 ?_
  intro wy sy
  have hIy : InW wy (w.heap.size + 1) ⟨0, 0, 0, 0, 0, 0⟩ := sy.2.2
  have fy := hIy.free 0
  have gy := hIy.gs
  unfold Oper.does
  go_simp
  refine ⟨M.But w3 (w.heap.size + 1) (fun o => o = some (.cells (In.cells ⟨2, 0, 0, 0, 0, 0⟩) 23 (0, 0))), sy.step (save_setCell wy _ 0 _) (InW.ps9 hIy 2), M.closed_but _ _ _, M.But.weaken (fun _ _ => trivial), ?_⟩
  clear sy hIy fy gy
  go_simp
  refine M.sx [8] 1 (M.But.refl hlt trivial) ?_
  repeat (go_big_quiet_step (fail))
  refine wpQuiet_nil ?_
  refine M.cl 9 ?_
  intro wy sy
  have hIy : InW wy (w.heap.size + 1) ⟨2, 0, 0, 0, 0, 0⟩ := sy.2.2
  have fy := hIy.free 2
  have gy := hIy.go
  unfold Oper.does
  go_simp
  refine ⟨M.But w3 (w.heap.size + 1) (fun q => q = some (.cells (In.cells ⟨2, 0, o, 0, 0, 0⟩) 23 (0, 0))), sy.step (save_setCell wy _ 2 _) (InW.po hIy o), M.closed_but _ _ _, M.But.weaken (fun _ _ => trivial), ?_⟩
  clear sy hIy fy gy
  refine M.en ?_
  intro wc sc
  have hI4 : InW wc (w.heap.size + 1) ⟨2, 0, o, 0, 0, 0⟩ := sc.2.2
  have hR4 : InW wc w.heap.size zeroI := (sc.other hltR (by omega)).trans HR3.out
  have hB4 := HB3.out.trans (sc.below (show w.heap.size ≤ w.heap.size + 1 by omega))
  have HN := z_ (fun w => r9_needs 2 0 o w)
  have HL := z_ (fun w => r9_length 2 0 o (by decide) w)
  obtain ⟨d, hd⟩ : ∃ d, needD 2 0 o = d := ⟨_, rfl⟩
  obtain ⟨k, hk⟩ : ∃ k, needN 2 0 o = k := ⟨_, rfl⟩
  obtain ⟨L, hLL⟩ : ∃ L, lenI 2 0 o = L := ⟨_, rfl⟩
  have hkk := needN_in 2 0 o
  have hLe : L = 2 + num1 d + k := by rw [← hLL, ← hd, ← hk]; unfold lenI; have e1 : num1 ((0 : Int) != 0) = 0 := rfl; have e2 : num1 ((2 : Int) != 0) = 1 := rfl; omega
  have hdf : d = false := by rw [← hd]; exact nd2 o
  have hk1 : k ≠ 1 := by
   rw [← hk]; unfold needN immX
   split
   ·rw [if_neg (by decide), if_pos rfl]; split <;> decide
   ·decide
  rw [hd, hk] at HN
  rw [hLL] at HL HNo
  rw [hd, hk, hLL] at HSo
  rw [hk] at hkk
  have f5 := hI4.free 5
  have g0 := hI4.gs
  have g1' := hI4.gx
  have g2 := hI4.go
  have g5 := hI4.gn
  obtain ⟨wd, hwd⟩ : ∃ wd, wc.setCell ⟨w.heap.size + 1, 5, none⟩ (.int .i64 L) = wd := ⟨_, rfl⟩
  have hId : InW wd (w.heap.size + 1) ⟨2, 0, o, 0, 0, L⟩ := hwd ▸ hI4.pn L
  have hRd : InW wd w.heap.size zeroI := hwd ▸ (heap_setCell_other wc _ _ _ (by simp)).trans hR4
  have hBd : Below w.heap.size w wd := hwd ▸ hB4.setCell (p := ⟨w.heap.size + 1, 5, none⟩) (show w.heap.size ≤ w.heap.size + 1 by omega) _
  have d5 := hId.gn
  have d0 := hId.gs
  have d1 := hId.gx
  have d2 := hId.go
  have HId := z_ hId
  have HRd := z_ hRd
  have HBd := z_ hBd
  have HLL := z_ hLL
  have HOO := z_ hoo
  have HLe := z_ hLe
  clear sc hId hRd hBd hI4 hR4 hB4 HI3 HR3 HB3 hlt hltR this r1 r2 r3 hmm hd hk hLL hLe ho3 hoo gx3 ck3
  by_cases hnL : (n : Int) < L
  ·obtain ⟨e1, e2⟩ := HNo.out (.inr hnL)
   have HX := z_ e1
   have HE := z_ e2
   clear e1 e2 HSo HNo
   go_wp2_with (first
    | (go_at_call 46; (with_reducible refine (HL.out _).mono ?_); rintro e w' ⟨rfl, rfl⟩)
    | (refine sr w.heap.size rfl rfl rfl rfl HRd.out (in_one zeroI) ?_))
   (try simp only [Exit.inBlock, Exit.then])
   exact bodyPost_ret (results_ins_tmp rfl _ _ _ zeroI _ rfl rfl (setRow_heap _ _ _ _ _ _ HRd.out)) rfl ⟨by rw [HX.out, HE.out]; rfl, below_setRow HBd.out (Nat.le_refl _) _⟩
  ·have hnL2 : L ≤ (n : Int) := by omega
   subst hdf
   have hkc : k = 0 ∨ k = 2 := by omega
   rcases hkc with rfl | rfl
   ·obtain ⟨e1, e2⟩ := HSo.out (by omega) (by intro q; cases q) hnL2
    have hX : X = ⟨2, 0, o, 0, 0, L⟩ := by rw [e1]; unfold tailI; rw [HOO.out, HLL.out]; rfl
    have HX := z_ hX
    have HE := z_ e2
    clear e1 e2 hX HSo HNo
    go_wp2_with (first
     | (go_at_call 46; (with_reducible refine (HL.out _).mono ?_); rintro e w' ⟨rfl, rfl⟩)
     | (go_at_call 47; (with_reducible refine (HN.out _).mono ?_); rintro e w' ⟨rfl, rfl⟩)
     | (refine lr (w.heap.size + 1) rfl rfl rfl HId.out ?_)
     | (refine sr w.heap.size rfl rfl rfl rfl HRd.out (in_one ⟨2, 0, o, 0, 0, L⟩) ?_))
    all_goals
     (try simp only [Exit.inBlock, Exit.then])
     exact bodyPost_ret (results_ins_tmp rfl _ _ _ ⟨2, 0, o, 0, 0, L⟩ _ rfl rfl (setRow_heap _ _ _ _ _ _ HRd.out)) rfl ⟨by rw [HX.out, HE.out]; rfl, below_setRow HBd.out (Nat.le_refl _) _⟩
   ·have hnp : 3 < n := by have := HLe.out; simp [num1] at this; omega
    have hcn1 : ¬ c = 2 := by omega
    have hcn2 : ¬ 2 = c := by omega
    have hcn3 : ¬ (c : Int) = 2 := by omega
    obtain ⟨u, hu⟩ : ∃ u, l.getD 2 0 = u := ⟨_, rfl⟩
    obtain ⟨v, hv⟩ : ∃ v, l.getD 3 0 = v := ⟨_, rfl⟩
    have hub := HBY.out 2
    have hvb := HBY.out 3
    rw [hu] at hub
    rw [hv] at hvb
    obtain ⟨hu0, hu1⟩ := hub
    obtain ⟨hv0, hv1⟩ := hvb
    obtain ⟨e1, e2⟩ := HSo.out (by omega) (by intro q; cases q) hnL2
    have hX : X = ⟨2, 0, o, 0, u + 256 * v, L⟩ := by
     rw [e1]
     unfold tailI
     rw [HOO.out, HLL.out, hu, hv]
     rfl
    have HX := z_ hX
    have HE := z_ e2
    clear e1 e2 hX HSo HNo
    have hltd := HId.out.lt
    have c1d : wd.cell? ⟨b, off + 2, none⟩ = some (.int .u8 u) := hu ▸ HC.out wd HBd.out 2 (by omega)
    have c2d : wd.cell? ⟨b, off + 3, none⟩ = some (.int .u8 v) := hv ▸ HC.out wd HBd.out 3 (by omega)
    go_upto_region 36 with (first
     | (go_at_call 46; (with_reducible refine (HL.out _).mono ?_); rintro e w' ⟨rfl, rfl⟩)
     | (go_at_call 47; (with_reducible refine (HN.out _).mono ?_); rintro e w' ⟨rfl, rfl⟩))
    have q1 : ∀ p : M.Of (M.But wd (w.heap.size + 1) (fun _ => True)), p.w.cell? ⟨b, off + 2, none⟩ = some (.int .u8 u) := fun p => (World.cell?_of_block (p.ok.other (show b < wd.heap.size by omega) (show b ≠ w.heap.size + 1 by omega))).trans c1d
    have q2 : ∀ p : M.Of (M.But wd (w.heap.size + 1) (fun _ => True)), p.w.cell? ⟨b, off + 3, none⟩ = some (.int .u8 v) := fun p => (World.cell?_of_block (p.ok.other (show b < wd.heap.size by omega) (show b ≠ w.heap.size + 1 by omega))).trans c2d
    haveI : Nonempty (M.Of (M.But wd (w.heap.size + 1) (fun _ => True))) := ⟨⟨wd, M.But.refl hltd trivial⟩⟩
    clear c1d c2d hu hv
    refine M.regionF_ (M.But wd (w.heap.size + 1) (fun _ => True)) (M.But wd (w.heap.size + 1) (fun q => q = some (.cells (In.cells ⟨2, 0, o, 0, 0, L⟩) 23 (0, 0)))) (M.closed_but _ _ _) (M.But.weaken (fun _ _ => trivial)) (fun n => M.But.start hltd HId.out n) (by kernel_rfl) ?_
    refine M.sx [0, 1, 2, 3, 4, 5, 6, 7, 8, 9, 10] 1 (M.But.refl hltd trivial) ?_
    repeat (go_big_quiet_step (fail))
    refine wpQuiet_nil ?_
    clear q1 q2
    refine M.cl 11 ?_
    intro wy sy
    have hIy : InW wy (w.heap.size + 1) ⟨2, 0, o, 0, 0, L⟩ := sy.2.2
    have fy := hIy.free 4
    have gy := hIy.gm
    unfold Oper.does
    go_simp
    refine ⟨M.But wd (w.heap.size + 1) (fun q => q = some (.cells (In.cells ⟨2, 0, o, 0, u + 256 * v, L⟩) 23 (0, 0))), sy.step (save_setCell wy _ 4 _) (InW.pm hIy (u + 256 * v)), M.closed_but _ _ _, M.But.weaken (fun _ _ => trivial), ?_⟩
    clear sy hIy fy gy
    go_simp
    refine M.en ?_
    intro wc2 sc2
    have HIe := z_ (show InW wc2 (w.heap.size + 1) ⟨2, 0, o, 0, u + 256 * v, L⟩ from sc2.2.2)
    have HRe := z_ (show InW wc2 w.heap.size zeroI from (sc2.other HRd.out.lt (by omega)).trans HRd.out)
    have HBe := z_ (HBd.out.trans (sc2.below (show w.heap.size ≤ w.heap.size + 1 by omega)))
    clear sc2 this
    go_wp2_with (first
     | (refine lr (w.heap.size + 1) rfl rfl rfl HIe.out ?_)
     | (refine sr w.heap.size rfl rfl rfl rfl HRe.out (in_one ⟨2, 0, o, 0, u + 256 * v, L⟩) ?_))
    all_goals
     (try simp only [Exit.inBlock, Exit.then])
     exact bodyPost_ret (results_ins_tmp rfl _ _ _ ⟨2, 0, o, 0, u + 256 * v, L⟩ _ rfl rfl (setRow_heap _ _ _ _ _ _ HRe.out)) rfl ⟨by rw [HX.out, HE.out]; rfl, below_setRow HBe.out (Nat.le_refl _) _⟩
end Go.Proofs.YtgaihekapakoeaaGreatDoor
