
/- Instructions (chapter 9): one that came in; the walk of DecodeBack. -/
import Derived.Test.YtedlfcmlchjjlaaDB
import Derived.Test.YtedlfcmlchjjlaaW
import Derived.Test.YtedlfcmlchjjlaaC
import Derived.Lib.SmallJoins
import Derived.Deep.CutRange
namespace Go.Proofs.Ytedlfcmlchjjlaa
open Go.RowKit Go.ChangeShapes Go.WideShapes Go.ChangeAt
set_option linter.unusedSimpArgs false
set_option linter.unusedVariables false
set_option maxRecDepth 100000

theorem open_in {H : Type} {enc : TypeId × Value → H} {W : World} {r : Reach} {b0 : Nat} {v : Value} {d : DataW H} {p : List MemPlace}
    (hv : Value.okWide Try.prog W r b0 44 v) (h : DataW.Trod enc Try.prog W 0 (fun _ => true) true 44 v d p) : ∃ i : In, v = i.val ∧ i.Wf := by
  obtain ⟨cs, rfl, hsz⟩ := okWide_struct Try.underlying44 hv
  have hC : Try.prog.cellsOf 44 = 6 := by kernel_rfl
  have h1 : Try.prog.cellsOf 3 = 1 := by kernel_rfl
  rw [hC] at hsz
  obtain ⟨l⟩ := cs
  match l, hsz with
  | [c0, c1, c2, c3, c4, c5], _ =>
  obtain ⟨fuel, hf⟩ := h
  obtain ⟨xs, n, _, _, hl, hlen, hfi⟩ := DataW.trod_struct Try.underlying44 hf
  match xs, hlen with
  | [y0, y1, y2, y3, y4, y5], _ =>
  have t0 := hfi 0 _ rfl
  have t1 := hfi 1 _ rfl
  have t2 := hfi 2 _ rfl
  have t3 := hfi 3 _ rfl
  have t4 := hfi 4 _ rfl
  have t5 := hfi 5 _ rfl
  simp [h1, Value.cells] at t0 t1 t2 t3 t4 t5
  obtain ⟨x0, e0, _, w0⟩ := DataW.trod_int Try.underlying3 t0
  obtain ⟨x1, e1, _, w1⟩ := DataW.trod_int Try.underlying3 t1
  obtain ⟨x2, e2, _, w2⟩ := DataW.trod_int Try.underlying3 t2
  obtain ⟨x3, e3, _, w3⟩ := DataW.trod_int Try.underlying3 t3
  obtain ⟨x4, e4, _, w4⟩ := DataW.trod_int Try.underlying3 t4
  obtain ⟨x5, e5, _, w5⟩ := DataW.trod_int Try.underlying3 t5
  simp at e0 e1 e2 e3 e4 e5
  subst e0 e1 e2 e3 e4 e5
  exact ⟨⟨x0, x1, x2, x3, x4, x5⟩, rfl, ⟨w0, w1, w2, w3, w4, w5⟩⟩

theorem RB.lit1g (w : World) (g : Nat) (v : Int) (hg : g = w.heap.size) (h0 : 0 ≤ v) (h1 : v < 256) : RB (w.alloc (.cells #[.int .u8 v] 5)) (g + 1) (some ⟨g, 0, none⟩) 1 [v] := by subst hg; exact RB.lit1 w v h0 h1
theorem ofE_cases (l : List Int) : (∃ y, ofI l = some y ∧ ofV l = y ∧ ofE l = 0) ∨ (ofI l = none ∧ ofE l = 5) := by
  unfold ofV ofE
  cases h : ofI l with
  | none => exact .inr ⟨rfl, rfl⟩
  | some y => exact .inl ⟨y, rfl, rfl, rfl⟩

set_option maxHeartbeats 4000000 in
theorem back9_long (w : World) (i : In) (bh : Int) (A : Option Addr) (c n : Nat) (h1 : 500 < n) : Calls Try.prog 5 #[.slice A n c, i.val, .int .u8 bh] w fun e w' => e = .returned (.bool true) ∧ Below w.heap.size w w' := by
  have hB0 : Below w.heap.size w (w.alloc (inO i)) := (Below.refl _ _).alloc (Nat.le_refl _) _
  rw [in_val]
  go_enter Try.func5, Try.ntmps5
  go_wp2_with fail
  refine (lives9_any _).mono ?_
  rintro e w1 ⟨rfl, hb⟩
  go_wp2_with fail
  go_ret
  exact ⟨rfl, hB0.trans (hb.mono hB0.size)⟩

set_option maxHeartbeats 16000000 in
theorem walk_DecodeBack (w : World) (A : Option Addr) (c n : Nat) (l : List Int) (hn : n = l.length) (h : RB w w.heap.size A c l) (i : In) (hi : i.Wf) (bh : Int) (wbh : (Lit.int .u8 bh).wf = true) :
    Calls Try.prog 5 #[.slice A n c, i.val, .int .u8 bh] w fun e w' => e = .returned (.bool true) ∧ Below w.heap.size w w' := by
  subst hn
  by_cases h500 : 500 < l.length
  · exact back9_long w i bh A c _ h500
  have hbh := bounds_u8 wbh
  have hby := h.bytes
  obtain ⟨w0, hw0⟩ : ∃ w0, w.alloc (inO i) = w0 := ⟨_, rfl⟩
  have HL0 := Lib.hid (show InW w0 w.heap.size i from hw0 ▸ InW.laid w i)
  have hB0 : Below w.heap.size w w0 := hw0 ▸ (Below.refl _ _).alloc (Nat.le_refl _) _
  unfold inO at hw0
  rw [in_val]
  clear wbh
  go_enter Try.func5, Try.ntmps5
  go_wp2_with fail
  generalize (.agg #[.int .i64 i.s, .int .i64 i.x, .int .i64 i.o, .int .i64 i.d, .int .i64 i.m, .int .i64 i.n] : Value) = V0
  refine (lives9_any _).mono ?_
  rintro e w1 ⟨rfl, hb⟩
  have HL1 := Lib.hid (HL0.out.below hb HL0.out.lt)
  have hB1 := hB0.trans (hb.mono hB0.size)
  clear hb hB0 HL0 hw0
  have h1 := (h.below hB1).more hB1.size
  go_wp2_with fail
  refine (own_any A c _ l w1 _ rfl h1 (Nat.le_refl _) (by omega)).mono ?_
  rintro e w2 ⟨A2, c2, rfl, ho2, hb⟩
  have hL2 := HL1.out.below hb HL1.out.lt
  have hB2 := hB1.trans (hb.mono hB1.size)
  have hr2 := ho2.rb
  clear hb hB1 HL1 h1 ho2
  go_wp2_with fail
  refine (c9_of A2 c2 _ l w2 rfl hr2).mono ?_
  rintro e w3 ⟨rfl, hb⟩
  have hL3 := hL2.below hb hL2.lt
  have hB3 := hB2.trans (hb.mono hB2.size)
  clear hb hL2 hB2 hr2
  have HC := Lib.hid (ofE_cases l)
  have HG := Lib.hid (fun (y : In) (hy : ofI l = some y) => of_got hby hy)
  clear hby
  obtain ⟨X, hX⟩ : ∃ X, ofV l = X := ⟨_, rfl⟩
  obtain ⟨E, hE⟩ : ∃ E, ofE l = E := ⟨_, rfl⟩
  rw [hX, hE] at HC
  rw [hX, hE]
  clear hX hE
  rw [in_val]
  obtain ⟨N, hN⟩ : ∃ N, w3.heap.size = N := ⟨_, rfl⟩
  obtain ⟨w4, hw4⟩ : ∃ w4, w3.alloc (inO X) = w4 := ⟨_, rfl⟩
  have hX4 : InW w4 N X := by rw [← hw4, ← hN]; exact InW.laid w3 X
  have hb4 : Below w3.heap.size w3 w4 := hw4 ▸ (Below.refl _ _).alloc (Nat.le_refl _) _
  have HX := Lib.hid hX4
  have HL := Lib.hid (hL3.below hb4 hL3.lt)
  have hB4 := hB3.trans (hb4.mono hB3.size)
  have HB := Lib.hid hB4
  have hNl : w.heap.size < N := by have := hL3.lt; omega
  unfold inO at hw4
  clear hX4 hb4 hL3 hB3 hB4
  go_upto_if 25 with fail
  clear hw4 hN
  go_cut [] (fun wc => InW wc w.heap.size i ∧ InW wc N X ∧ Below w.heap.size w wc)
  case first =>
    have h4 := (h.below HB.out).more HB.out.size
    rcases HC.out with ⟨y, hy, rfl, rfl⟩ | ⟨hy, rfl⟩
    · have hg := HG.out _ hy
      obtain ⟨k, hk', k1, k2, k3, hby⟩ := hg.nat
      have HK := Lib.hid hk'
      have wX := hg.wf
      have mX := hg.may
      clear hk' hg hy
      go_wp2_with (refine wpList_load_row rfl 44 _ rfl N rfl _ _ (0, 0) _ HX.out Try.underlying44 rfl in_info ?_)
      refine (c9_bytes_may X wX mX _).mono ?_
      rintro e w5 ⟨⟨A5, c5, rfl, ho5⟩, hb⟩
      have hL5 := HL.out.below hb HL.out.lt
      have hX5 := HX.out.below hb HX.out.lt
      have hB5 := HB.out.trans (hb.mono HB.out.size)
      have h5 := h4.below hb
      have h45 := hb.size
      have HCk := Lib.hid (fun w => c9_check X wX w)
      rw [if_pos mX] at HCk
      clear hb h4 HG HC
      rw [hby] at ho5 ⊢
      have hT : (l.take k).length = k := by rw [List.length_take]; omega
      obtain ⟨bb, off, rfl, hbb, hc⟩ := h5.pos (by omega)
      have hcap := h5.le
      have hmax := h5.cap
      unfold maxLen at hmax
      have hltX := hX5.lt
      have g5 : ∀ p : M.Of (M.Base w5), p.w.cell? ⟨N, 5, none⟩ = some (.int .i64 k) := fun p => by rw [← HK.out]; exact (hX5.below p.ok.2 hltX).gn
      have s1 : ∀ p : M.Of (M.Base w5), (convert 25 9 (.slice A5 k c5)).run Try.prog p.w = .ok (.string (strOfNums (l.take k))) p.w := fun p => str_rb p.w _ A5 c5 k (l.take k) (ho5.rb.below p.ok.2) hT.symm
      have s2 : ∀ p : M.Of (M.Base w5), (convert 25 9 (.slice (some ⟨bb, off, none⟩) k c)).run Try.prog p.w = .ok (.string (strOfNums (l.take k))) p.w := fun p => str_rb p.w _ (some ⟨bb, off, none⟩) c k (l.take k) (((h5.pre k k3).more (by omega)).below p.ok.2) hT.symm
      have hlk : decide (l.length < k) = false := decide_eq_false (by omega)
      rw [hT]
      generalize strOfNums (l.take k) = S at *
      have HL5 := Lib.hid hL5
      have HX5 := Lib.hid hX5
      have HB5 := Lib.hid hB5
      clear hc h5 hL5 hX5 hB5 ho5 hT hby HL HX HB
      go_upto_region 8 with fail
      refine M.region_ (by kernel_rfl) ?_
      refine M.seg_ [0, 1, 2] 28 _ _ (M.Base.refl _) (by kernel_rfl) (by kernel_rfl) (by kernel_rfl) (by simp only [pickOps, mask, plain, List.getElem?_toArray, List.getElem?_cons_zero, List.getElem?_cons_succ, if_true, Bool.false_eq_true, if_false]; rfl) ?_
      repeat (go_big_quiet_step (fail))
      refine wpQuiet_nil ?_
      refine M.calm_ (i := 3) X.val rfl (by kernel_rfl) (by kernel_rfl) (by kernel_rfl) (by kernel_rfl) ?_ ?_
      · intro wz sz
        exact does_load_ins 44 _ rfl _ rfl _ _ (0, 0) _ (HX5.out.below sz.2 HX5.out.lt) Try.underlying44 rfl in_info ⟨rfl, Save.refl _ _⟩
      go_simp
      refine M.calm_ (i := 4) (.int .i64 0) rfl (by kernel_rfl) (by kernel_rfl) (by kernel_rfl) (by kernel_rfl) ?_ ?_
      · intro wz sz
        unfold Oper.does
        go_simp
        exact (HCk.out wz).mono fun e w' ⟨he, hw⟩ => ⟨_, he, rfl, Save.of_below hw⟩
      go_simp
      refine M.seg_ [5, 6, 7, 8, 9, 10, 11, 12, 13, 14, 15, 16, 17, 18, 19, 20, 21, 22, 23, 24, 25, 26, 27, 28, 29, 30] 0 _ _ (M.Base.refl _) (by kernel_rfl) (by kernel_rfl) (by kernel_rfl) (by simp only [pickOps, mask, plain, List.getElem?_toArray, List.getElem?_cons_zero, List.getElem?_cons_succ, if_true, Bool.false_eq_true, if_false]; rfl) ?_
      repeat (go_big_quiet_step (fail))
      refine wpQuiet_nil ?_
      clear s1 s2 g5 hlk
      refine M.end_ (by kernel_rfl) ?_
      intro wc sc
      have hLc := HL5.out.below sc.2 HL5.out.lt
      have hXc := HX5.out.below sc.2 HX5.out.lt
      have hBc := HB5.out.trans (sc.2.mono HB5.out.size)
      clear sc HL5 HX5 HB5
      go_wp2
      go_meet
      exact ⟨hLc, hXc, hBc⟩
    · clear h4 HG
      go_wp2_with fail
      go_meet
      exact ⟨HL.out, HX.out, HB.out⟩
  case rest =>
    obtain ⟨hL6, hX6, hB6⟩ := hcut
    clear HL HX HB HC HG h
    have HL6 := Lib.hid hL6
    have HX6 := Lib.hid hX6
    clear hL6 hX6
    go_wp2_with (refine wpList_load_row rfl 44 _ rfl w.heap.size rfl _ _ (0, 0) _ HL6.out Try.underlying44 rfl in_info ?_)
    by_cases hm : i.may = true
    · refine (c9_bytes_may i hi hm _).mono ?_
      rintro e w7 ⟨⟨A7, c7, rfl, ho7⟩, hb⟩
      have hL7 := HL6.out.below hb HL6.out.lt
      have hX7 : InW w7 N X := InW.below HX6.out hb (InW.lt HX6.out)
      have hB7 := hB6.trans (hb.mono hB6.size)
      have hNc : N < wc.heap.size := InW.lt HX6.out
      have hG7 : wc.heap.size ≤ w7.heap.size := hb.size
      clear HL6 HX6 hB6 hb
      have HOf := Lib.hid (fun v hv => of_bytes hm v hv)
      have hl4 : (bytesI i).length ≤ 8 := by
        have h1 := bytesI_length hm
        have h2 := lenI_in i.s i.x i.o
        have h3 := (may_one hm).2.1
        have : i.len = lenI i.s i.x i.o := rfl
        omega
      generalize bytesI i = D at *
      have q0 := hL7.gs
      have q2 := hL7.go
      have HL7 := Lib.hid hL7
      have HX7 := Lib.hid hX7
      have HB7 := Lib.hid hB7
      have HO7 := Lib.hid ho7
      clear hL7 hX7 hB7 ho7
      by_cases hs : i.s = 0
      · rw [hs] at q0
        by_cases ho2 : i.o = 221 ∨ i.o = 253
        · have hr3 : bh % 3 = 0 ∨ bh % 3 = 1 ∨ bh % 3 = 2 := by omega
          have hrr : bh.tmod 3 = bh % 3 := Int.tmod_eq_emod_of_nonneg hbh.1
          obtain ho | ho := ho2
          · rw [ho] at q2
            obtain hr | hr | hr := hr3
            · rw [hr] at hrr
              obtain ⟨L8, hL8⟩ : ∃ L, D ++ [221] = L := ⟨_, rfl⟩
              have hof : ofI L8 = some i := by rw [← hL8]; exact HOf.out 221 (fun _ _ => rfl)
              have hl8 : L8.length ≤ 9 := by rw [← hL8]; simp; omega
              have H8 := Lib.hid hL8
              clear hL8 HOf
              go_wp2_with (at_builtin;  refine wpList_append_rbg _ rfl _ _ rfl wc.heap.size _ A7 _ c7 D rfl rfl ((HO7.out.alloc _).alloc _) _ _ _ [221] rfl rfl (RB.lit1g _ _ (221) (by simp) (by decide) (by decide)) (by simp; omega) (by simp; omega) ?_; intro A9 c9 w9 hob hbel hgr; rw [H8.out] at hob; rw [H8.out])
              have hb79 : Below wc.heap.size w7 w9 := (((Below.refl wc.heap.size w7).alloc hG7 (.cells #[.int .u8 221, .int .u8 237, .int .u8 253] 5)).alloc (by simp; omega) (.cells #[.int .u8 (221)] 5)).trans hbel
              have hL9 := HL7.out.below hb79 (by omega)
              have hX9 := HX7.out.below hb79 hNc
              have hB9 := HB7.out.trans (hb79.mono (by omega))
              clear hb79 hbel hgr HL7 HX7 HB7 HO7 q0 q2
              refine (c9_of A9 c9 L8.length L8 _ rfl hob.rb).mono ?_
              rintro e w10 ⟨rfl, hb⟩
              have hVV : ofV L8 = i := by unfold ofV; rw [hof]; rfl
              have hEE : ofE L8 = 0 := by unfold ofE; rw [hof]; rfl
              rw [hVV, hEE]
              have hL10 := hL9.below hb hL9.lt
              have hX10 : InW w10 N X := InW.below hX9 hb (InW.lt hX9)
              have hB10 := hB9.trans (hb.mono hB9.size)
              clear hb hL9 hX9 hB9 hVV hEE hob
              have hne : w.heap.size ≠ N := by omega
              have HXa := Lib.hid (show InW (w10.setRow N i.cells) N i from setRow_heap _ _ _ _ _ _ hX10)
              have HLa := Lib.hid (show InW (w10.setRow N i.cells) w.heap.size i from (setRow_other w10 N w.heap.size i.cells hne).trans hL10)
              have HBa := Lib.hid (below_setRow hB10 (show w.heap.size ≤ N by omega) i.cells)
              have HXb := Lib.hid hX10
              have hq : ∀ w', (binOp .eql 44 (.agg i.cells) (.agg i.cells)).run Try.prog w' = .ok (.bool true) w' := fun w' => in_eql i w'
              rw [show i.val = .agg i.cells from rfl]
              clear hL10 hX10 hB10
              go_wp2_with (first | (refine wpList_store_row rfl 44 _ _ rfl N i.cells rfl rfl _ _ HXb.out in_info rfl (in_one i) ?_) | (refine wpList_load_ins (by kernel_rfl) 44 _ rfl N rfl _ _ (0, 0) _ HXa.out Try.underlying44 rfl in_info ?_) | (refine wpList_load_ins (by kernel_rfl) 44 _ rfl w.heap.size rfl _ _ (0, 0) _ HLa.out Try.underlying44 rfl in_info ?_))
              go_ret
              exact ⟨rfl, HBa.out⟩
            · rw [hr] at hrr
              obtain ⟨L8, hL8⟩ : ∃ L, D ++ [237] = L := ⟨_, rfl⟩
              have hof : ofI L8 = some i := by rw [← hL8]; exact HOf.out 237 (fun _ _ => rfl)
              have hl8 : L8.length ≤ 9 := by rw [← hL8]; simp; omega
              have H8 := Lib.hid hL8
              clear hL8 HOf
              go_wp2_with (at_builtin;  refine wpList_append_rbg _ rfl _ _ rfl wc.heap.size _ A7 _ c7 D rfl rfl ((HO7.out.alloc _).alloc _) _ _ _ [237] rfl rfl (RB.lit1g _ _ (237) (by simp) (by decide) (by decide)) (by simp; omega) (by simp; omega) ?_; intro A9 c9 w9 hob hbel hgr; rw [H8.out] at hob; rw [H8.out])
              have hb79 : Below wc.heap.size w7 w9 := (((Below.refl wc.heap.size w7).alloc hG7 (.cells #[.int .u8 221, .int .u8 237, .int .u8 253] 5)).alloc (by simp; omega) (.cells #[.int .u8 (237)] 5)).trans hbel
              have hL9 := HL7.out.below hb79 (by omega)
              have hX9 := HX7.out.below hb79 hNc
              have hB9 := HB7.out.trans (hb79.mono (by omega))
              clear hb79 hbel hgr HL7 HX7 HB7 HO7 q0 q2
              refine (c9_of A9 c9 L8.length L8 _ rfl hob.rb).mono ?_
              rintro e w10 ⟨rfl, hb⟩
              have hVV : ofV L8 = i := by unfold ofV; rw [hof]; rfl
              have hEE : ofE L8 = 0 := by unfold ofE; rw [hof]; rfl
              rw [hVV, hEE]
              have hL10 := hL9.below hb hL9.lt
              have hX10 : InW w10 N X := InW.below hX9 hb (InW.lt hX9)
              have hB10 := hB9.trans (hb.mono hB9.size)
              clear hb hL9 hX9 hB9 hVV hEE hob
              have hne : w.heap.size ≠ N := by omega
              have HXa := Lib.hid (show InW (w10.setRow N i.cells) N i from setRow_heap _ _ _ _ _ _ hX10)
              have HLa := Lib.hid (show InW (w10.setRow N i.cells) w.heap.size i from (setRow_other w10 N w.heap.size i.cells hne).trans hL10)
              have HBa := Lib.hid (below_setRow hB10 (show w.heap.size ≤ N by omega) i.cells)
              have HXb := Lib.hid hX10
              have hq : ∀ w', (binOp .eql 44 (.agg i.cells) (.agg i.cells)).run Try.prog w' = .ok (.bool true) w' := fun w' => in_eql i w'
              rw [show i.val = .agg i.cells from rfl]
              clear hL10 hX10 hB10
              go_wp2_with (first | (refine wpList_store_row rfl 44 _ _ rfl N i.cells rfl rfl _ _ HXb.out in_info rfl (in_one i) ?_) | (refine wpList_load_ins (by kernel_rfl) 44 _ rfl N rfl _ _ (0, 0) _ HXa.out Try.underlying44 rfl in_info ?_) | (refine wpList_load_ins (by kernel_rfl) 44 _ rfl w.heap.size rfl _ _ (0, 0) _ HLa.out Try.underlying44 rfl in_info ?_))
              go_ret
              exact ⟨rfl, HBa.out⟩
            · rw [hr] at hrr
              obtain ⟨L8, hL8⟩ : ∃ L, D ++ [253] = L := ⟨_, rfl⟩
              have hof : ofI L8 = some i := by rw [← hL8]; exact HOf.out 253 (fun _ _ => rfl)
              have hl8 : L8.length ≤ 9 := by rw [← hL8]; simp; omega
              have H8 := Lib.hid hL8
              clear hL8 HOf
              go_wp2_with (at_builtin;  refine wpList_append_rbg _ rfl _ _ rfl wc.heap.size _ A7 _ c7 D rfl rfl ((HO7.out.alloc _).alloc _) _ _ _ [253] rfl rfl (RB.lit1g _ _ (253) (by simp) (by decide) (by decide)) (by simp; omega) (by simp; omega) ?_; intro A9 c9 w9 hob hbel hgr; rw [H8.out] at hob; rw [H8.out])
              have hb79 : Below wc.heap.size w7 w9 := (((Below.refl wc.heap.size w7).alloc hG7 (.cells #[.int .u8 221, .int .u8 237, .int .u8 253] 5)).alloc (by simp; omega) (.cells #[.int .u8 (253)] 5)).trans hbel
              have hL9 := HL7.out.below hb79 (by omega)
              have hX9 := HX7.out.below hb79 hNc
              have hB9 := HB7.out.trans (hb79.mono (by omega))
              clear hb79 hbel hgr HL7 HX7 HB7 HO7 q0 q2
              refine (c9_of A9 c9 L8.length L8 _ rfl hob.rb).mono ?_
              rintro e w10 ⟨rfl, hb⟩
              have hVV : ofV L8 = i := by unfold ofV; rw [hof]; rfl
              have hEE : ofE L8 = 0 := by unfold ofE; rw [hof]; rfl
              rw [hVV, hEE]
              have hL10 := hL9.below hb hL9.lt
              have hX10 : InW w10 N X := InW.below hX9 hb (InW.lt hX9)
              have hB10 := hB9.trans (hb.mono hB9.size)
              clear hb hL9 hX9 hB9 hVV hEE hob
              have hne : w.heap.size ≠ N := by omega
              have HXa := Lib.hid (show InW (w10.setRow N i.cells) N i from setRow_heap _ _ _ _ _ _ hX10)
              have HLa := Lib.hid (show InW (w10.setRow N i.cells) w.heap.size i from (setRow_other w10 N w.heap.size i.cells hne).trans hL10)
              have HBa := Lib.hid (below_setRow hB10 (show w.heap.size ≤ N by omega) i.cells)
              have HXb := Lib.hid hX10
              have hq : ∀ w', (binOp .eql 44 (.agg i.cells) (.agg i.cells)).run Try.prog w' = .ok (.bool true) w' := fun w' => in_eql i w'
              rw [show i.val = .agg i.cells from rfl]
              clear hL10 hX10 hB10
              go_wp2_with (first | (refine wpList_store_row rfl 44 _ _ rfl N i.cells rfl rfl _ _ HXb.out in_info rfl (in_one i) ?_) | (refine wpList_load_ins (by kernel_rfl) 44 _ rfl N rfl _ _ (0, 0) _ HXa.out Try.underlying44 rfl in_info ?_) | (refine wpList_load_ins (by kernel_rfl) 44 _ rfl w.heap.size rfl _ _ (0, 0) _ HLa.out Try.underlying44 rfl in_info ?_))
              go_ret
              exact ⟨rfl, HBa.out⟩
          · rw [ho] at q2
            obtain hr | hr | hr := hr3
            · rw [hr] at hrr
              obtain ⟨L8, hL8⟩ : ∃ L, D ++ [221] = L := ⟨_, rfl⟩
              have hof : ofI L8 = some i := by rw [← hL8]; exact HOf.out 221 (fun _ _ => rfl)
              have hl8 : L8.length ≤ 9 := by rw [← hL8]; simp; omega
              have H8 := Lib.hid hL8
              clear hL8 HOf
              go_wp2_with (at_builtin;  refine wpList_append_rbg _ rfl _ _ rfl wc.heap.size _ A7 _ c7 D rfl rfl ((HO7.out.alloc _).alloc _) _ _ _ [221] rfl rfl (RB.lit1g _ _ (221) (by simp) (by decide) (by decide)) (by simp; omega) (by simp; omega) ?_; intro A9 c9 w9 hob hbel hgr; rw [H8.out] at hob; rw [H8.out])
              have hb79 : Below wc.heap.size w7 w9 := (((Below.refl wc.heap.size w7).alloc hG7 (.cells #[.int .u8 221, .int .u8 237, .int .u8 253] 5)).alloc (by simp; omega) (.cells #[.int .u8 (221)] 5)).trans hbel
              have hL9 := HL7.out.below hb79 (by omega)
              have hX9 := HX7.out.below hb79 hNc
              have hB9 := HB7.out.trans (hb79.mono (by omega))
              clear hb79 hbel hgr HL7 HX7 HB7 HO7 q0 q2
              refine (c9_of A9 c9 L8.length L8 _ rfl hob.rb).mono ?_
              rintro e w10 ⟨rfl, hb⟩
              have hVV : ofV L8 = i := by unfold ofV; rw [hof]; rfl
              have hEE : ofE L8 = 0 := by unfold ofE; rw [hof]; rfl
              rw [hVV, hEE]
              have hL10 := hL9.below hb hL9.lt
              have hX10 : InW w10 N X := InW.below hX9 hb (InW.lt hX9)
              have hB10 := hB9.trans (hb.mono hB9.size)
              clear hb hL9 hX9 hB9 hVV hEE hob
              have hne : w.heap.size ≠ N := by omega
              have HXa := Lib.hid (show InW (w10.setRow N i.cells) N i from setRow_heap _ _ _ _ _ _ hX10)
              have HLa := Lib.hid (show InW (w10.setRow N i.cells) w.heap.size i from (setRow_other w10 N w.heap.size i.cells hne).trans hL10)
              have HBa := Lib.hid (below_setRow hB10 (show w.heap.size ≤ N by omega) i.cells)
              have HXb := Lib.hid hX10
              have hq : ∀ w', (binOp .eql 44 (.agg i.cells) (.agg i.cells)).run Try.prog w' = .ok (.bool true) w' := fun w' => in_eql i w'
              rw [show i.val = .agg i.cells from rfl]
              clear hL10 hX10 hB10
              go_wp2_with (first | (refine wpList_store_row rfl 44 _ _ rfl N i.cells rfl rfl _ _ HXb.out in_info rfl (in_one i) ?_) | (refine wpList_load_ins (by kernel_rfl) 44 _ rfl N rfl _ _ (0, 0) _ HXa.out Try.underlying44 rfl in_info ?_) | (refine wpList_load_ins (by kernel_rfl) 44 _ rfl w.heap.size rfl _ _ (0, 0) _ HLa.out Try.underlying44 rfl in_info ?_))
              go_ret
              exact ⟨rfl, HBa.out⟩
            · rw [hr] at hrr
              obtain ⟨L8, hL8⟩ : ∃ L, D ++ [237] = L := ⟨_, rfl⟩
              have hof : ofI L8 = some i := by rw [← hL8]; exact HOf.out 237 (fun _ _ => rfl)
              have hl8 : L8.length ≤ 9 := by rw [← hL8]; simp; omega
              have H8 := Lib.hid hL8
              clear hL8 HOf
              go_wp2_with (at_builtin;  refine wpList_append_rbg _ rfl _ _ rfl wc.heap.size _ A7 _ c7 D rfl rfl ((HO7.out.alloc _).alloc _) _ _ _ [237] rfl rfl (RB.lit1g _ _ (237) (by simp) (by decide) (by decide)) (by simp; omega) (by simp; omega) ?_; intro A9 c9 w9 hob hbel hgr; rw [H8.out] at hob; rw [H8.out])
              have hb79 : Below wc.heap.size w7 w9 := (((Below.refl wc.heap.size w7).alloc hG7 (.cells #[.int .u8 221, .int .u8 237, .int .u8 253] 5)).alloc (by simp; omega) (.cells #[.int .u8 (237)] 5)).trans hbel
              have hL9 := HL7.out.below hb79 (by omega)
              have hX9 := HX7.out.below hb79 hNc
              have hB9 := HB7.out.trans (hb79.mono (by omega))
              clear hb79 hbel hgr HL7 HX7 HB7 HO7 q0 q2
              refine (c9_of A9 c9 L8.length L8 _ rfl hob.rb).mono ?_
              rintro e w10 ⟨rfl, hb⟩
              have hVV : ofV L8 = i := by unfold ofV; rw [hof]; rfl
              have hEE : ofE L8 = 0 := by unfold ofE; rw [hof]; rfl
              rw [hVV, hEE]
              have hL10 := hL9.below hb hL9.lt
              have hX10 : InW w10 N X := InW.below hX9 hb (InW.lt hX9)
              have hB10 := hB9.trans (hb.mono hB9.size)
              clear hb hL9 hX9 hB9 hVV hEE hob
              have hne : w.heap.size ≠ N := by omega
              have HXa := Lib.hid (show InW (w10.setRow N i.cells) N i from setRow_heap _ _ _ _ _ _ hX10)
              have HLa := Lib.hid (show InW (w10.setRow N i.cells) w.heap.size i from (setRow_other w10 N w.heap.size i.cells hne).trans hL10)
              have HBa := Lib.hid (below_setRow hB10 (show w.heap.size ≤ N by omega) i.cells)
              have HXb := Lib.hid hX10
              have hq : ∀ w', (binOp .eql 44 (.agg i.cells) (.agg i.cells)).run Try.prog w' = .ok (.bool true) w' := fun w' => in_eql i w'
              rw [show i.val = .agg i.cells from rfl]
              clear hL10 hX10 hB10
              go_wp2_with (first | (refine wpList_store_row rfl 44 _ _ rfl N i.cells rfl rfl _ _ HXb.out in_info rfl (in_one i) ?_) | (refine wpList_load_ins (by kernel_rfl) 44 _ rfl N rfl _ _ (0, 0) _ HXa.out Try.underlying44 rfl in_info ?_) | (refine wpList_load_ins (by kernel_rfl) 44 _ rfl w.heap.size rfl _ _ (0, 0) _ HLa.out Try.underlying44 rfl in_info ?_))
              go_ret
              exact ⟨rfl, HBa.out⟩
            · rw [hr] at hrr
              obtain ⟨L8, hL8⟩ : ∃ L, D ++ [253] = L := ⟨_, rfl⟩
              have hof : ofI L8 = some i := by rw [← hL8]; exact HOf.out 253 (fun _ _ => rfl)
              have hl8 : L8.length ≤ 9 := by rw [← hL8]; simp; omega
              have H8 := Lib.hid hL8
              clear hL8 HOf
              go_wp2_with (at_builtin;  refine wpList_append_rbg _ rfl _ _ rfl wc.heap.size _ A7 _ c7 D rfl rfl ((HO7.out.alloc _).alloc _) _ _ _ [253] rfl rfl (RB.lit1g _ _ (253) (by simp) (by decide) (by decide)) (by simp; omega) (by simp; omega) ?_; intro A9 c9 w9 hob hbel hgr; rw [H8.out] at hob; rw [H8.out])
              have hb79 : Below wc.heap.size w7 w9 := (((Below.refl wc.heap.size w7).alloc hG7 (.cells #[.int .u8 221, .int .u8 237, .int .u8 253] 5)).alloc (by simp; omega) (.cells #[.int .u8 (253)] 5)).trans hbel
              have hL9 := HL7.out.below hb79 (by omega)
              have hX9 := HX7.out.below hb79 hNc
              have hB9 := HB7.out.trans (hb79.mono (by omega))
              clear hb79 hbel hgr HL7 HX7 HB7 HO7 q0 q2
              refine (c9_of A9 c9 L8.length L8 _ rfl hob.rb).mono ?_
              rintro e w10 ⟨rfl, hb⟩
              have hVV : ofV L8 = i := by unfold ofV; rw [hof]; rfl
              have hEE : ofE L8 = 0 := by unfold ofE; rw [hof]; rfl
              rw [hVV, hEE]
              have hL10 := hL9.below hb hL9.lt
              have hX10 : InW w10 N X := InW.below hX9 hb (InW.lt hX9)
              have hB10 := hB9.trans (hb.mono hB9.size)
              clear hb hL9 hX9 hB9 hVV hEE hob
              have hne : w.heap.size ≠ N := by omega
              have HXa := Lib.hid (show InW (w10.setRow N i.cells) N i from setRow_heap _ _ _ _ _ _ hX10)
              have HLa := Lib.hid (show InW (w10.setRow N i.cells) w.heap.size i from (setRow_other w10 N w.heap.size i.cells hne).trans hL10)
              have HBa := Lib.hid (below_setRow hB10 (show w.heap.size ≤ N by omega) i.cells)
              have HXb := Lib.hid hX10
              have hq : ∀ w', (binOp .eql 44 (.agg i.cells) (.agg i.cells)).run Try.prog w' = .ok (.bool true) w' := fun w' => in_eql i w'
              rw [show i.val = .agg i.cells from rfl]
              clear hL10 hX10 hB10
              go_wp2_with (first | (refine wpList_store_row rfl 44 _ _ rfl N i.cells rfl rfl _ _ HXb.out in_info rfl (in_one i) ?_) | (refine wpList_load_ins (by kernel_rfl) 44 _ rfl N rfl _ _ (0, 0) _ HXa.out Try.underlying44 rfl in_info ?_) | (refine wpList_load_ins (by kernel_rfl) 44 _ rfl w.heap.size rfl _ _ (0, 0) _ HLa.out Try.underlying44 rfl in_info ?_))
              go_ret
              exact ⟨rfl, HBa.out⟩
        · have e1 : (i.o == 221) = false := beq_eq_false_iff_ne.2 (fun e => ho2 (.inl e))
          have e2 : (i.o == 253) = false := beq_eq_false_iff_ne.2 (fun e => ho2 (.inr e))
          obtain ⟨L8, hL8⟩ : ∃ L, D ++ [bh] = L := ⟨_, rfl⟩
          have hof : ofI L8 = some i := by rw [← hL8]; exact HOf.out bh (fun _ h => absurd h ho2)
          have hl8 : L8.length ≤ 9 := by rw [← hL8]; simp; omega
          have H8 := Lib.hid hL8
          clear hL8 HOf
          go_wp2_with (at_builtin;  refine wpList_append_rbg _ rfl _ _ rfl wc.heap.size _ A7 _ c7 D rfl rfl (HO7.out.alloc _) _ _ _ [bh] rfl rfl (RB.lit1g _ _ (bh) (by simp) (hbh.1) (by omega)) (by simp; omega) (by simp; omega) ?_; intro A9 c9 w9 hob hbel hgr; rw [H8.out] at hob; rw [H8.out])
          have hb79 : Below wc.heap.size w7 w9 := ((Below.refl wc.heap.size w7).alloc hG7 (.cells #[.int .u8 (bh)] 5)).trans hbel
          have hL9 := HL7.out.below hb79 (by omega)
          have hX9 := HX7.out.below hb79 hNc
          have hB9 := HB7.out.trans (hb79.mono (by omega))
          clear hb79 hbel hgr HL7 HX7 HB7 HO7 q0 q2
          refine (c9_of A9 c9 L8.length L8 _ rfl hob.rb).mono ?_
          rintro e w10 ⟨rfl, hb⟩
          have hVV : ofV L8 = i := by unfold ofV; rw [hof]; rfl
          have hEE : ofE L8 = 0 := by unfold ofE; rw [hof]; rfl
          rw [hVV, hEE]
          have hL10 := hL9.below hb hL9.lt
          have hX10 : InW w10 N X := InW.below hX9 hb (InW.lt hX9)
          have hB10 := hB9.trans (hb.mono hB9.size)
          clear hb hL9 hX9 hB9 hVV hEE hob
          have hne : w.heap.size ≠ N := by omega
          have HXa := Lib.hid (show InW (w10.setRow N i.cells) N i from setRow_heap _ _ _ _ _ _ hX10)
          have HLa := Lib.hid (show InW (w10.setRow N i.cells) w.heap.size i from (setRow_other w10 N w.heap.size i.cells hne).trans hL10)
          have HBa := Lib.hid (below_setRow hB10 (show w.heap.size ≤ N by omega) i.cells)
          have HXb := Lib.hid hX10
          have hq : ∀ w', (binOp .eql 44 (.agg i.cells) (.agg i.cells)).run Try.prog w' = .ok (.bool true) w' := fun w' => in_eql i w'
          rw [show i.val = .agg i.cells from rfl]
          clear hL10 hX10 hB10
          go_wp2_with (first | (refine wpList_store_row rfl 44 _ _ rfl N i.cells rfl rfl _ _ HXb.out in_info rfl (in_one i) ?_) | (refine wpList_load_ins (by kernel_rfl) 44 _ rfl N rfl _ _ (0, 0) _ HXa.out Try.underlying44 rfl in_info ?_) | (refine wpList_load_ins (by kernel_rfl) 44 _ rfl w.heap.size rfl _ _ (0, 0) _ HLa.out Try.underlying44 rfl in_info ?_))
          go_ret
          exact ⟨rfl, HBa.out⟩
      · have e0 : (i.s == 0) = false := beq_eq_false_iff_ne.2 hs
        obtain ⟨L8, hL8⟩ : ∃ L, D ++ [bh] = L := ⟨_, rfl⟩
        have hof : ofI L8 = some i := by rw [← hL8]; exact HOf.out bh (fun h => absurd h hs)
        have hl8 : L8.length ≤ 9 := by rw [← hL8]; simp; omega
        have H8 := Lib.hid hL8
        clear hL8 HOf
        go_wp2_with (at_builtin;  refine wpList_append_rbg _ rfl _ _ rfl wc.heap.size _ A7 _ c7 D rfl rfl (HO7.out.alloc _) _ _ _ [bh] rfl rfl (RB.lit1g _ _ (bh) (by simp) (hbh.1) (by omega)) (by simp; omega) (by simp; omega) ?_; intro A9 c9 w9 hob hbel hgr; rw [H8.out] at hob; rw [H8.out])
        have hb79 : Below wc.heap.size w7 w9 := ((Below.refl wc.heap.size w7).alloc hG7 (.cells #[.int .u8 (bh)] 5)).trans hbel
        have hL9 := HL7.out.below hb79 (by omega)
        have hX9 := HX7.out.below hb79 hNc
        have hB9 := HB7.out.trans (hb79.mono (by omega))
        clear hb79 hbel hgr HL7 HX7 HB7 HO7 q0 q2
        refine (c9_of A9 c9 L8.length L8 _ rfl hob.rb).mono ?_
        rintro e w10 ⟨rfl, hb⟩
        have hVV : ofV L8 = i := by unfold ofV; rw [hof]; rfl
        have hEE : ofE L8 = 0 := by unfold ofE; rw [hof]; rfl
        rw [hVV, hEE]
        have hL10 := hL9.below hb hL9.lt
        have hX10 : InW w10 N X := InW.below hX9 hb (InW.lt hX9)
        have hB10 := hB9.trans (hb.mono hB9.size)
        clear hb hL9 hX9 hB9 hVV hEE hob
        have hne : w.heap.size ≠ N := by omega
        have HXa := Lib.hid (show InW (w10.setRow N i.cells) N i from setRow_heap _ _ _ _ _ _ hX10)
        have HLa := Lib.hid (show InW (w10.setRow N i.cells) w.heap.size i from (setRow_other w10 N w.heap.size i.cells hne).trans hL10)
        have HBa := Lib.hid (below_setRow hB10 (show w.heap.size ≤ N by omega) i.cells)
        have HXb := Lib.hid hX10
        have hq : ∀ w', (binOp .eql 44 (.agg i.cells) (.agg i.cells)).run Try.prog w' = .ok (.bool true) w' := fun w' => in_eql i w'
        rw [show i.val = .agg i.cells from rfl]
        clear hL10 hX10 hB10
        go_wp2_with (first | (refine wpList_store_row rfl 44 _ _ rfl N i.cells rfl rfl _ _ HXb.out in_info rfl (in_one i) ?_) | (refine wpList_load_ins (by kernel_rfl) 44 _ rfl N rfl _ _ (0, 0) _ HXa.out Try.underlying44 rfl in_info ?_) | (refine wpList_load_ins (by kernel_rfl) 44 _ rfl w.heap.size rfl _ _ (0, 0) _ HLa.out Try.underlying44 rfl in_info ?_))
        go_ret
        exact ⟨rfl, HBa.out⟩
    · refine (c9_bytes_no i hi hm _).mono ?_
      rintro e w7 ⟨rfl, hb⟩
      have HL7 := Lib.hid (HL6.out.below hb HL6.out.lt)
      have hB7 := hB6.trans (hb.mono hB6.size)
      clear hb HL6 HX6 hB6
      go_wp2_with (refine wpList_load_ins (by kernel_rfl) 44 _ rfl w.heap.size rfl _ _ (0, 0) _ HL7.out Try.underlying44 rfl in_info ?_)
      refine (c9_check i hi _).mono ?_
      rintro e w8 ⟨he, hb⟩
      rw [if_neg hm] at he
      subst he
      have hB8 := hB7.trans (hb.mono hB7.size)
      clear hb HL7 hB7
      go_wp2_with fail
      go_ret
      exact ⟨rfl, hB8⟩
end Go.Proofs.Ytedlfcmlchjjlaa
