
/- Instructions (chapter 9): the law's is, lives. -/
import Derived.Test.YtedlfcmlchjjlaaD9
import Derived.Test.YtedlfcmlchjjlaaV
namespace Go.Proofs.Ytedlfcmlchjjlaa
open Go.RowKit
set_option linter.unusedSimpArgs false
set_option linter.unusedVariables false
set_option maxRecDepth 100000

theorem in_eql (i : In) (w : World) : (binOp .eql 44 i.val i.val).run Try.prog w = .ok (.bool true) w := by
  unfold In.val In.cells
  go_simp
theorem in_guard (op : BinOp) (x y : Operand) (i j : In) (w : World) : (eqGuard op 44 x y i.val j.val).run Try.prog w = .ok () w := run_eqGuard_agg w op 44 x y _ _ (by kernel_rfl)
theorem does_in_eql {o : Oper} {a : Act} {w : World} {next : Value → World → Prop} (x y : Operand) {t : TypeId} (ho : o.op = .binOp .eql 44 x y t) (i : In) (hx : a.eval x = i.val) (hy : a.eval y = i.val)
    (h : next (.bool true) w) : Oper.does Try.prog o a w next := by
  unfold Oper.does execOp
  simp only [ho, hx, hy, Sem.run_bind, in_guard, Result.andThen_ok, in_eql, Sem.run_pure]
  exact h

theorem Got.nat {l : List Int} {i : In} (h : Got l i) : ∃ n : Nat, i.n = n ∧ 1 ≤ n ∧ n ≤ 4 ∧ n ≤ l.length ∧ bytesI i = l.take n := by
  refine ⟨i.n.toNat, ?_, ?_, ?_, h.len, h.bytes⟩ <;> have := h.low <;> have := h.high <;> omega
theorem wf64 {n : Int} (h0 : -9223372036854775808 ≤ n) (h1 : n ≤ 9223372036854775807) : (Lit.int .i64 n).wf = true := by
  simp only [Lit.wf, Bool.and_eq_true, decide_eq_true_eq]
  exact ⟨h0, h1⟩
theorem Got.wf {l : List Int} {i : In} (h : Got l i) : i.Wf := by
  have h1 := h.low; have h2 := h.high; have h3 := h.d; have h4 := h.m; have h5 := h.cases
  constructor <;> apply wf64 <;> omega

set_option maxHeartbeats 8000000 in
theorem c9_is (i : In) (A : Option Addr) (c n : Nat) (l : List Int) (w : World) (hn : n = l.length) (h : RB w w.heap.size A c l) (hof : ofI l = some i) : Calls Try.prog 34 #[i.val, .slice A n c] w fun e w' => e = .returned (.bool true) ∧ Below w.heap.size w w' := by
  subst hn
  have hg := of_got h.bytes hof
  obtain ⟨k, hk', k1, k2, k3, hby⟩ := hg.nat
  have hk := Lib.hid hk'
  clear hk'
  have hi := hg.wf
  have hm := hg.may
  have hV : ofV l = i := by unfold ofV; rw [hof]; rfl
  have hE : ofE l = 0 := by unfold ofE; rw [hof]; rfl
  have HL := Lib.hid (InW.laid w i)
  have hb0 : Below w.heap.size w (w.alloc (inO i)) := (Below.refl _ _).alloc (Nat.le_refl _) _
  have hh := (h.below hb0).more hb0.size
  have hO := c9_of A c l.length l (w.alloc (inO i)) rfl hh
  rw [hV, hE] at hO
  have HO := Lib.hid hO
  have HH := Lib.hid hh
  clear hO hh hV hE hg h hof
  rw [in_val] at HO ⊢
  go_enter Try.func34, Try.ntmps34
  go_wp2_with fail
  refine HO.out.mono ?_
  rintro e w2 ⟨rfl, hb⟩
  have hL2 := HL.out.below hb HL.out.lt
  have hB2 := hb0.trans (hb.mono hb0.size)
  have hH2 := HH.out.below hb
  have hsz : w.heap.size + 1 ≤ w2.heap.size := by have := hb.size; simpa using this
  clear hb HL HO HH hb0
  obtain ⟨w3, hw3⟩ : ∃ w3, w2.alloc (inO i) = w3 := ⟨_, rfl⟩
  have hb23 : Below w2.heap.size w2 w3 := hw3 ▸ (Below.refl _ _).alloc (Nat.le_refl _) _
  have hX3 : InW w3 w2.heap.size i := hw3 ▸ InW.laid w2 i
  have hL3 := hL2.below hb23 hL2.lt
  have hB3 := hB2.trans (hb23.mono hB2.size)
  have hH3 := hH2.below (hb23.mono (by simpa using hsz))
  unfold inO at hw3
  have HL3 := Lib.hid hL3
  go_wp2_with (refine wpList_load_row rfl 44 _ rfl w.heap.size rfl _ _ (0, 0) _ HL3.out Try.underlying44 rfl in_info ?_)
  refine (c9_bytes_may i hi hm _).mono ?_
  rintro e w4 ⟨⟨A4, c4, rfl, hO4⟩, hb⟩
  have hX4 := hX3.below hb hX3.lt
  have hL4 := hL3.below hb hL3.lt
  have hB4 := hB3.trans (hb.mono hB3.size)
  have hH4 := (hH3.more (by have := hb23.size; have := hX3.lt; simp at hsz ⊢; omega)).below hb
  have h34 := hb.size
  clear hb hX3 hL3 hB3 hH3 HL3 hb23 hw3 hL2 hB2 hH2
  obtain ⟨bb, off, rfl, hbb, hc⟩ := hH4.pos (by omega)
  have hcap := hH4.le
  have hmax := hH4.cap
  unfold maxLen at hmax
  have HX := Lib.hid hX4
  have HL := Lib.hid hL4
  have hlt := hL4.lt
  have g5 : ∀ p : M.Of (M.Base w4), p.w.cell? ⟨w.heap.size, 5, none⟩ = some (.int .i64 k) := fun p => by rw [← hk.out]; exact (hL4.below p.ok.2 hlt).gn
  have hT : (l.take k).length = k := by rw [List.length_take]; omega
  rw [hby] at hO4 ⊢
  have s1 : ∀ p : M.Of (M.Base w4), (convert 25 9 (.slice A4 k c4)).run Try.prog p.w = .ok (.string (strOfNums (l.take k))) p.w := fun p => str_rb p.w _ A4 c4 k (l.take k) (hO4.rb.below p.ok.2) hT.symm
  have s2 : ∀ p : M.Of (M.Base w4), (convert 25 9 (.slice (some ⟨bb, off, none⟩) k c)).run Try.prog p.w = .ok (.string (strOfNums (l.take k))) p.w := fun p => str_rb p.w _ (some ⟨bb, off, none⟩) c k (l.take k) (((hH4.pre k k3).more (by omega)).below p.ok.2) hT.symm
  rw [hT]
  generalize strOfNums (l.take k) = S at *
  clear hc hH4 hX4 hL4 hO4 hT hby
  go_upto_region 3 with fail
  refine M.region_ (by kernel_rfl) ?_
  refine M.seg_ [0, 1, 2] 19 _ _ (M.Base.refl _) (by kernel_rfl) (by kernel_rfl) (by kernel_rfl) (by simp only [pickOps, mask, plain, List.getElem?_toArray, List.getElem?_cons_zero, List.getElem?_cons_succ, if_true, Bool.false_eq_true, if_false]; rfl) ?_
  repeat (go_big_quiet_step (fail))
  refine wpQuiet_nil ?_
  refine M.calm_ (i := 3) i.val rfl (by kernel_rfl) (by kernel_rfl) (by kernel_rfl) (by kernel_rfl) ?_ ?_
  · intro wz sz
    exact does_load_ins 44 _ rfl _ rfl _ _ (0, 0) _ (HX.out.below sz.2 HX.out.lt) Try.underlying44 rfl in_info ⟨rfl, Save.refl _ _⟩
  go_simp
  refine M.calm_ (i := 4) i.val rfl (by kernel_rfl) (by kernel_rfl) (by kernel_rfl) (by kernel_rfl) ?_ ?_
  · intro wz sz
    exact does_load_ins 44 _ rfl _ rfl _ _ (0, 0) _ (HL.out.below sz.2 HL.out.lt) Try.underlying44 rfl in_info ⟨rfl, Save.refl _ _⟩
  go_simp
  refine M.calm_ (i := 5) (.bool true) rfl (by kernel_rfl) (by kernel_rfl) (by kernel_rfl) (by kernel_rfl) ?_ ?_
  · intro wz sz
    exact does_in_eql _ _ rfl i rfl rfl ⟨rfl, Save.refl _ _⟩
  go_simp
  refine M.seg_ [6, 7, 8, 9, 10, 11, 12, 13, 14, 15, 16, 17, 18, 19, 20, 21] 0 _ _ (M.Base.refl _) (by kernel_rfl) (by kernel_rfl) (by kernel_rfl) (by simp only [pickOps, mask, plain, List.getElem?_toArray, List.getElem?_cons_zero, List.getElem?_cons_succ, if_true, Bool.false_eq_true, if_false]; rfl) ?_
  repeat (go_big_quiet_step (fail))
  refine wpQuiet_nil ?_
  clear s1 s2 g5
  refine M.end_ (by kernel_rfl) ?_
  intro wc sc
  have hBc := hB4.trans (sc.2.mono hB4.size)
  go_wp2
  go_ret
  exact ⟨rfl, hBc⟩
end Go.Proofs.Ytedlfcmlchjjlaa
