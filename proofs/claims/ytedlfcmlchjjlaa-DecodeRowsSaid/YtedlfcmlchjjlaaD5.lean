
/- Instructions (chapter 9): Of. -/
import Derived.Test.YtedlfcmlchjjlaaD4
namespace Go.Proofs.Ytedlfcmlchjjlaa
open Go.RowKit
set_option linter.unusedSimpArgs false
set_option linter.unusedVariables false
set_option maxRecDepth 100000

theorem needD_len {s x o : Int} (h : needD s x o = true) : 3 ≤ lenI s x o := by
  have hn := needN_in s x o
  unfold lenI
  rw [h]
  have h1 := num1_in (x != 0)
  have h2 := num1_in (s != 0)
  have h3 : (x != 0) = true := by
    unfold needD isOneI at h
    by_cases hs : s = 0
    · simp_all
    · simp only [hs, if_false, Bool.and_eq_true] at h
      have h4 := h.2
      have : s = 3 := by simpa using h4
      subst this
      simp_all
      omega
  rw [h3]
  have : num1 true = 1 := rfl
  omega
theorem lenI_in (s x o : Int) : needN s x o < lenI s x o ∧ 1 ≤ lenI s x o ∧ lenI s x o ≤ 6 := by
  have hn := needN_in s x o
  have h0 := num1_in (needD s x o)
  have h1 := num1_in (x != 0)
  have h2 := num1_in (s != 0)
  unfold lenI
  omega

/-- The instruction at the beginning of bytes, ahead of its operands. -/
def of0 (l : List Int) : In := ⟨(headL (l.getD 0 0) (l.getD 1 0)).s, (headL (l.getD 0 0) (l.getD 1 0)).x, l.getD (headL (l.getD 0 0) (l.getD 1 0)).at_ 0, 0, 0, 0⟩
def ofI (l : List Int) : Option In :=
  if l.length ≤ (headL (l.getD 0 0) (l.getD 1 0)).at_ then none
  else if (l.length : Int) < (of0 l).len then none else some (opsI { of0 l with n := (of0 l).len } (l.take (of0 l).len.toNat))
def ofV (l : List Int) : In := (ofI l).getD zeroI
def ofE (l : List Int) : Int := if (ofI l).isSome = true then 0 else 5

theorem does_store_ins {P : Program} {o : Oper} {a : Act} {w : World} {next : Value → World → Prop} (ty : TypeId) (x y : Operand) (ho : o.op = .store ty x y)
    (g : Nat) (cells : Array Value) (hx : a.eval x = .pointer (some ⟨g, 0, none⟩)) (hy : a.eval y = .agg cells)
    (t : TypeId) (old : Array Value) (hg : w.heap[g]? = some (.cells old t (0, 0))) (hi : (P.info? ty).map (·.size) = some cells.size)
    (hold : old.size = cells.size) (h1 : cells.all (·.oneCell') = true)
    (h : next undef (w.setRow g cells)) : Oper.does P o a w next := by
  unfold Oper.does execOp
  simp only [ho, hx, hy, Instr.storeAt, Instr.sureAddr, Sem.run_bind, Sem.run_pure, Result.andThen_ok, run_storeVar_row w g t ty old cells hg hi hold h1]
  exact h
theorem save_setRow (w : World) (g : Nat) (cs : Array Value) : Save (· = g) w (w.setRow g cs) := by
  have hb := below_setRow (Below.refl g w) (Nat.le_refl g) cs
  exact ⟨hb.os, hb.tape, hb.output, hb.size, fun k hk hn => setRow_other _ _ _ _ hn⟩
theorem results_ins_tmp {fn : Func} {p u : Tmp} (h : fn.results = #[.cell p 44, .tmp u]) (tmps : Array Value) (w : World) (g : Nat) (i : In) (e : Value)
    (hp : tmps.getD p undef = .pointer (some ⟨g, 0, none⟩)) (he : tmps.getD u undef = e) (hg : InW w g i) :
    (results fn tmps).run Try.prog w = .ok (.tuple #[i.val, e]) w := by
  rw [results_cell_tmp h, hp, he]
  simp [asAddr, run_loadVar_row w g _ 44 i.cells (0, 0) _ hg Try.underlying44 rfl in_info]
  rfl

theorem RB.cut {w : World} {B b off c : Nat} {l : List Int} (h : RB w B (some ⟨b, off, none⟩) c l) (m : Nat) (hm : m ≤ l.length) : RB w B (some ⟨b, off, none⟩) m (l.take m) := by
  have hl : (l.take m).length = m := by rw [List.length_take]; omega
  have hcap := h.cap
  have hle := h.le
  refine ⟨by omega, by omega, h.bytes.take m, .inr ⟨_, rfl, fun h0 => ?_⟩⟩
  obtain ⟨b', off', he, hb, hc⟩ := h.pos (by omega)
  simp only [Option.some.injEq, Addr.mk.injEq, and_true] at he
  obtain ⟨rfl, rfl⟩ := he
  refine ⟨rfl, hb, fun i hi => ?_⟩
  rw [hc i (by omega)]
  simp only [List.getD]
  rw [List.getElem?_take, if_pos (by omega)]
/-- A block that is some instruction. -/
def insA : Option Obj → Prop := fun o => ∃ i : In, o = some (.cells i.cells 44 (0, 0))
theorem closed_ins (b : World) (n : Nat) (i : In) : M.Closed (fun w' => M.Base b w' ∧ InW w' n i) := fun w w1 h hs => ⟨M.closed_base b w w1 h.1 hs, h.2.keep (hs.all.block _ h.2.lt)⟩

set_option maxHeartbeats 8000000 in
theorem c9_of (A : Option Addr) (c n : Nat) (l : List Int) (w : World) (hn : n = l.length) (h : RB w w.heap.size A c l) :
    Calls Try.prog 31 #[.slice A n c] w fun e w' => e = .returned (.tuple #[(ofV l).val, .int .i64 (ofE l)]) ∧ Below w.heap.size w w' := by
  subst hn
  obtain ⟨w1, hw1⟩ : ∃ w1, w.alloc (inO zeroI) = w1 := ⟨_, rfl⟩
  have hb1 : Below w.heap.size w w1 := hw1 ▸ (Below.refl _ _).alloc (Nat.le_refl _) _
  have hr1 : InW w1 w.heap.size zeroI := hw1 ▸ InW.laid w zeroI
  have h1 : RB w1 w.heap.size A c l := h.below hb1
  have H0 := Lib.hid (c9_head A c l.length l w1 _ rfl h1 hb1.size)
  obtain ⟨X, hX⟩ : ∃ X, ofV l = X := ⟨_, rfl⟩
  obtain ⟨E, hE⟩ : ∃ E, ofE l = E := ⟨_, rfl⟩
  rw [hX, hE]
  unfold ofV ofI at hX
  unfold ofE ofI at hE
  have h0 : of0 l = ⟨(headL (l.getD 0 0) (l.getD 1 0)).s, (headL (l.getD 0 0) (l.getD 1 0)).x, l.getD (headL (l.getD 0 0) (l.getD 1 0)).at_ 0, 0, 0, 0⟩ := rfl
  generalize of0 l = i0 at *
  generalize headL (l.getD 0 0) (l.getD 1 0) = hd at *
  obtain ⟨s, x, p⟩ := hd
  simp only at h0 hX hE
  have HX := Lib.hid hX
  have HE := Lib.hid hE
  have HR := Lib.hid hr1
  have HB := Lib.hid hb1
  have HH := Lib.hid h1
  clear hX hE hr1 hb1 h1
  have hval : Hd9.val ⟨s, x, p⟩ = .agg #[.int .i64 s, .int .i64 x, .int .i64 p] := rfl
  rw [hval] at H0
  clear hval
  unfold inO zeroI at hw1
  go_enter Try.func31, Try.ntmps31
  go_wp2_with fail
  refine H0.out.mono ?_
  rintro e w2 ⟨rfl, hb⟩
  have hr2 := HR.out.below hb HR.out.lt
  have hb2 := HB.out.trans (hb.mono HB.out.size)
  have h2 := HH.out.below (hb.mono HB.out.size)
  clear hb HR HB HH hw1 H0
  obtain ⟨w3, hw3⟩ : ∃ w3, w2.alloc (.cells #[.int .i64 s, .int .i64 x, .int .i64 p] 98) = w3 := ⟨_, rfl⟩
  obtain ⟨b1, hb1⟩ : ∃ b1, w2.heap.size = b1 := ⟨_, rfl⟩
  have hq3 : w3.heap[b1]? = some (.cells #[.int .i64 s, .int .i64 x, .int .i64 p] 98 (0, 0)) := by rw [← hw3, ← hb1]; exact heap_alloc_new _ _
  have hb23 : Below w2.heap.size w2 w3 := hw3 ▸ (Below.refl _ _).alloc (Nat.le_refl _) _
  have hr3 : InW w3 w.heap.size zeroI := hr2.below hb23 hr2.lt
  have hb3 := hb2.trans (hb23.mono hb2.size)
  have hh3 : RB w3 w.heap.size A c l := h2.below (hb23.mono hb2.size)
  have hlt1 : w.heap.size < b1 := by have := hr2.lt; omega
  have hlt3 : b1 < w3.heap.size := (Array.getElem?_eq_some_iff.1 hq3).1
  have q0 : w3.cell? ⟨b1, 0, none⟩ = some (.int .i64 s) := by rw [cell_of_row _ _ _ _ _ _ hq3]; rfl
  have q1 : w3.cell? ⟨b1, 1, none⟩ = some (.int .i64 x) := by rw [cell_of_row _ _ _ _ _ _ hq3]; rfl
  have q2 : w3.cell? ⟨b1, 2, none⟩ = some (.int .i64 p) := by rw [cell_of_row _ _ _ _ _ _ hq3]; rfl
  clear hr2 hb2 h2 hb23 hq3
  have HR := Lib.hid hr3
  have HB := Lib.hid hb3
  have HH := Lib.hid hh3
  clear hr3 hb3 hh3
  by_cases hp : l.length ≤ p
  · have HX2 := Lib.hid (show zeroI = X by rw [← HX.out, if_pos hp]; rfl)
    have HE2 := Lib.hid (show (5 : Int) = E by rw [← HE.out, if_pos hp]; rfl)
    clear HX HE
    go_wp2_with (refine wpList_store_row rfl 44 _ _ rfl w.heap.size _ rfl rfl _ _ HR.out in_info rfl (in_one zeroI) ?_)
    (try simp only [Exit.inBlock, Exit.then])
    exact bodyPost_ret (results_ins_tmp rfl _ _ _ zeroI _ rfl rfl (setRow_heap _ _ _ _ _ _ HR.out)) rfl ⟨by rw [← HX2.out, ← HE2.out]; rfl, below_setRow HB.out (Nat.le_refl _) _⟩
  · rw [if_neg hp] at HX HE
    obtain ⟨bb, off, rfl, hbb, hc⟩ := HH.out.pos (by omega)
    have hcp := hc p (by omega)
    have hcap := HH.out.le
    have hmax := HH.out.cap
    have hbytes := HH.out.bytes.getD p
    unfold maxLen at hmax
    clear hc
    generalize l.getD p 0 = o at *
    have H0 := Lib.hid h0
    clear h0
    go_upto_region 4 with fail
    have G := fun (p' : M.Of (M.Base w3)) => p'.ok.2
    have g0 : ∀ p' : M.Of (M.Base w3), p'.w.cell? ⟨b1, 0, none⟩ = some (.int .i64 s) := fun p' => ((G p').cell (p := ⟨b1, 0, none⟩) hlt3).trans q0
    have g1 : ∀ p' : M.Of (M.Base w3), p'.w.cell? ⟨b1, 1, none⟩ = some (.int .i64 x) := fun p' => ((G p').cell (p := ⟨b1, 1, none⟩) hlt3).trans q1
    have g2 : ∀ p' : M.Of (M.Base w3), p'.w.cell? ⟨b1, 2, none⟩ = some (.int .i64 p) := fun p' => ((G p').cell (p := ⟨b1, 2, none⟩) hlt3).trans q2
    have g3 : ∀ p' : M.Of (M.Base w3), p'.w.cell? ⟨bb, off + p, none⟩ = some (.int .u8 o) := fun p' => ((G p').cell (p := ⟨bb, off + p, none⟩) (by show bb < w3.heap.size; omega)).trans hcp
    refine M.region_ (by kernel_rfl) ?_
    refine M.seg_ [0, 1, 2, 3, 4, 5, 6, 7, 8, 9, 10] 2 _ _ (M.Base.refl _) (by kernel_rfl) (by kernel_rfl) (by kernel_rfl) (by simp only [pickOps, mask, plain, List.getElem?_toArray, List.getElem?_cons_zero, List.getElem?_cons_succ, if_true, Bool.false_eq_true, if_false]; rfl) ?_
    repeat (go_big_quiet_step (fail))
    refine wpQuiet_nil ?_
    clear g0 g1 g2 g3 G
    refine M.call_ (i := 11) rfl (by kernel_rfl) (by kernel_rfl) ?_
    intro wz sz
    unfold Oper.does
    go_simp
    refine ⟨fun w' => M.Base w3 w' ∧ InW w' wz.heap.size zeroI, ⟨M.Base.below sz ((Below.refl _ _).alloc sz.1 _), InW.laid wz zeroI⟩, closed_ins _ _ _, fun _ h => h.1, ?_⟩
    have hN : w3.heap.size ≤ wz.heap.size := sz.1
    clear sz
    generalize wz.heap.size = N at *
    refine M.call_ (i := 12) rfl (by kernel_rfl) (by kernel_rfl) ?_
    intro wy sy
    refine does_store_ins 44 _ _ rfl N _ rfl rfl 44 _ sy.2 in_info rfl (in_one ⟨s, x, o, 0, 0, 0⟩) ?_
    refine ⟨fun w' => M.Base w3 w' ∧ InW w' N ⟨s, x, o, 0, 0, 0⟩, ⟨M.Base.below sy.1 (below_setRow (Below.refl _ _) hN _), setRow_heap _ _ _ _ _ _ sy.2⟩, closed_ins _ _ _, fun _ h => h.1, ?_⟩
    clear sy
    refine M.end_ (by kernel_rfl) ?_
    intro wc sc
    have hb3 := sc.1.2
    have hI := sc.2
    clear sc
    rw [← H0.out] at hI
    have hr := HR.out.below hb3 HR.out.lt
    have hB := HB.out.trans (hb3.mono HB.out.size)
    have hh := HH.out.below (hb3.mono HB.out.size)
    have hbb3 : bb < w3.heap.size := by omega
    clear HR HB HH hb3 hcp q0 q1 q2 hw3
    have HI := Lib.hid hI
    have HR := Lib.hid hr
    have HB := Lib.hid hB
    have HH := Lib.hid hh
    clear hI hr hB hh
    go_wp2_with (refine wpList_load_row rfl 44 _ rfl N rfl _ _ (0, 0) _ HI.out Try.underlying44 rfl in_info ?_)
    refine (c9_length i0 _).mono ?_
    rintro e w5 ⟨rfl, hb⟩
    have hI5 := HI.out.below hb HI.out.lt
    have hR5 := HR.out.below hb HR.out.lt
    have hB5 := HB.out.trans (hb.mono HB.out.size)
    have hH5 := HH.out.below (hb.mono HB.out.size)
    have hN5 := HI.out.lt
    clear hb HI HR HB HH
    have hL := lenI_in i0.s i0.x i0.o
    have hD := fun h => needD_len (s := i0.s) (x := i0.x) (o := i0.o) h
    have eL : lenI i0.s i0.x i0.o = i0.len := rfl
    rw [eL] at hL hD
    generalize i0.len = L at *
    obtain ⟨hL0, hL1, hL2⟩ := hL
    clear eL
    have g5 := hI5.gn
    have f5 := hI5.free 5
    have HI := Lib.hid (hI5.pn L)
    have hne : N ≠ w.heap.size := by omega
    have HR := Lib.hid (show InW (w5.setCell ⟨N, 5, none⟩ (.int .i64 L)) w.heap.size zeroI from (heap_setCell_other w5 _ _ _ (fun e => hne e.symm)).trans hR5)
    have HB := Lib.hid (hB5.setCell (p := ⟨N, 5, none⟩) (show w.heap.size ≤ N by omega) (.int .i64 L))
    have HH := Lib.hid (hH5.below ((Below.refl w.heap.size w5).setCell (p := ⟨N, 5, none⟩) (show w.heap.size ≤ N by omega) (.int .i64 L)))
    clear hI5 hR5 hB5 hH5
    go_upto_region 6 with fail
    generalize w5.setCell ⟨N, 5, none⟩ (.int .i64 L) = w6 at *
    clear g5 f5
    obtain ⟨i1, hi1⟩ : ∃ i1 : In, { i0 with n := L } = i1 := ⟨_, rfl⟩
    rw [hi1] at HI HX HE
    have e1 : i1.n = L := by rw [← hi1]
    have es : i0.s = i1.s := by rw [← hi1]
    have ex : i0.x = i1.x := by rw [← hi1]
    have eo : i0.o = i1.o := by rw [← hi1]
    rw [es, ex, eo] at hL0 hD
    have g6 := HI.out.gn
    rw [e1] at g6
    clear hi1 es ex eo e1
    by_cases hlen : (l.length : Int) < L
    · have HX2 := Lib.hid (show zeroI = X by rw [← HX.out, if_pos hlen]; rfl)
      have HE2 := Lib.hid (show (5 : Int) = E by rw [← HE.out, if_pos hlen]; rfl)
      clear HX HE
      go_wp2_with (refine wpList_store_row rfl 44 _ _ rfl w.heap.size _ rfl rfl _ _ HR.out in_info rfl (in_one zeroI) ?_)
      (try simp only [Exit.inBlock, Exit.then])
      exact bodyPost_ret (results_ins_tmp rfl _ _ _ zeroI _ rfl rfl (setRow_heap _ _ _ _ _ _ HR.out)) rfl ⟨by rw [← HX2.out, ← HE2.out]; rfl, below_setRow HB.out (Nat.le_refl _) _⟩
    · rw [if_neg hlen] at HX HE
      obtain ⟨m, rfl⟩ : ∃ m : Nat, L = m := ⟨L.toNat, by omega⟩
      rw [Int.toNat_natCast] at HX HE
      have hml : m ≤ l.length := by omega
      have hNlt := HI.out.lt
      have HT := Lib.hid (show (l.take m).length = m by rw [List.length_take]; omega)
      go_upto_region 8 with fail
      have hlt := HR.out.lt
      have hR0 : insA (w6.heap[w.heap.size]?) := ⟨zeroI, HR.out⟩
      have g7 : ∀ p' : M.Of (M.But w6 w.heap.size insA), p'.w.cell? ⟨N, 5, none⟩ = some (.int .i64 m) := fun p' => (World.cell?_of_block (p'.ok.other hNlt hne)).trans g6
      haveI : Nonempty (M.Of (M.But w6 w.heap.size insA)) := ⟨⟨w6, M.But.refl hlt hR0⟩⟩
      refine M.regionC_ (M.But w6 w.heap.size insA) (M.closed_but _ _ _) (fun n => M.But.start hlt hR0 n) (by kernel_rfl) ?_
      refine M.calm_ (i := 0) i1.val rfl (by kernel_rfl) (by kernel_rfl) (by kernel_rfl) (by kernel_rfl) ?_ ?_
      · intro wz sz
        exact does_load_ins 44 _ rfl _ rfl _ _ (0, 0) _ ((sz.other hNlt hne).trans HI.out) Try.underlying44 rfl in_info ⟨rfl, Save.refl _ _⟩
      go_simp
      refine M.seg_ [1, 2, 3, 4, 5, 6] 3 _ _ (M.But.refl hlt hR0) (by kernel_rfl) (by kernel_rfl) (by kernel_rfl) (by simp only [pickOps, mask, plain, List.getElem?_toArray, List.getElem?_cons_zero, List.getElem?_cons_succ, if_true, Bool.false_eq_true, if_false]; rfl) ?_
      repeat (go_big_quiet_step (fail))
      refine wpQuiet_nil ?_
      clear g7 g6
      refine M.calm_ (i := 7) (opsI i1 (l.take m)).val rfl (by kernel_rfl) (by kernel_rfl) (by kernel_rfl) (by kernel_rfl) ?_ ?_
      · intro wz sz
        unfold Oper.does
        go_simp
        exact (c9_withops i1 bb off m (l.take m) wz HT.out.symm (((HH.out.cut m hml).below (sz.below (Nat.le_refl _))).more (by have := sz.2.1.size; omega)) hL0 (fun h => by have := hD h; omega)).mono fun e w' ⟨he, hw⟩ => ⟨_, he, rfl, Save.of_below hw⟩
      go_simp
      generalize opsI i1 (l.take m) = Y at *
      refine M.call_ (i := 8) rfl (by kernel_rfl) (by kernel_rfl) ?_
      intro wy sy
      obtain ⟨iv, hv⟩ := sy.2.2
      refine does_store_ins 44 _ _ rfl w.heap.size Y.cells rfl rfl 44 _ hv in_info rfl (in_one Y) ?_
      refine ⟨M.But w6 w.heap.size (fun o => o = some (.cells Y.cells 44 (0, 0))), sy.step (save_setRow wy w.heap.size _) (setRow_heap _ _ _ _ _ _ hv), M.closed_but _ _ _, M.But.weaken (fun o ho => ⟨Y, ho⟩), ?_⟩
      clear sy hv iv
      go_simp
      refine M.seg_ [9] 0 _ _ (M.But.refl hlt hR0) (by kernel_rfl) (by kernel_rfl) (by kernel_rfl) (by simp only [pickOps, mask, plain, List.getElem?_toArray, List.getElem?_cons_zero, List.getElem?_cons_succ, if_true, Bool.false_eq_true, if_false]; rfl) ?_
      repeat (go_big_quiet_step (fail))
      refine wpQuiet_nil ?_
      refine M.end_ (by kernel_rfl) ?_
      intro wc sc
      have hBc := HB.out.trans (sc.below (Nat.le_refl _))
      have hIc : InW wc w.heap.size Y := sc.2.2
      go_wp2
      (try simp only [Exit.inBlock, Exit.then])
      exact bodyPost_ret (results_ins_tmp rfl _ _ _ Y _ rfl rfl hIc) rfl ⟨by rw [← HX.out, ← HE.out]; rfl, hBc⟩
end Go.Proofs.Ytedlfcmlchjjlaa
