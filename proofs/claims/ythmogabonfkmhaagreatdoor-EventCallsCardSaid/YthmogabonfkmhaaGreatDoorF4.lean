
/- Text and Bytes of an event. -/
import Derived.Test.YthmogabonfkmhaaGreatDoorF3
namespace Go.Proofs.YthmogabonfkmhaaGreatDoor
open Go.RowKit
set_option linter.unusedSimpArgs false
set_option maxRecDepth 100000

theorem i64_small {n : Int} (h0 : 0 ≤ n) (h1 : n ≤ 1099511627776) : -9223372036854775808 ≤ n ∧ n ≤ 9223372036854775807 := by omega

/-- Five strings of the call's own. -/
theorem five_laid {w w' : World} (a0 a1 a2 a3 a4 : ByteArray) (h : Below (w.heap.size + 1) (w.alloc (.cells #[.string a0, .string a1, .string a2, .string a3, .string a4] 9)) w') : ∀ (j : Nat) x, [a0, a1, a2, a3, a4][j]? = some x → w'.cell? ⟨w.heap.size, 0 + j, none⟩ = some (.string x) := by
  intro j x hx
  rw [h.cell (by simp), World.cell?_alloc_at _ _ _ _ rfl]
  match j, hx with
  | 0, hx | 1, hx | 2, hx | 3, hx | 4, hx => simp at hx; subst hx; rfl
  | j + 5, hx => simp at hx

set_option maxHeartbeats 1600000 in
theorem text_may (w : World) (x : Ev) (hV : Vars w) (hm : x.May) : Calls Tryz.prog 20 #[x.val] w fun e w' => e = .returned (.string ⟨(textE x).toArray⟩) ∧ Below w.heap.size w w' := by
  have hl := textE_len x hm
  have hm' := hm
  obtain ⟨-, -, t0, t1, s0, s1, a0, a1, b0, b1⟩ := hm'
  have ht := i64_small t0 t1
  have hs := i64_small s0 (by omega)
  have ha := i64_small a0 (by omega)
  have hb := i64_small b0 (by omega)
  clear t0 t1 s0 s1 a0 a1 b0 b1
  have HM := Lib.hid hm
  have HL := Lib.hid hl
  clear hm hl
  have HE := Lib.hid (show textE x = Lib.join [Lib.itoa x.time, (nameOf x.kind).data.toList, Lib.itoa x.seq, Lib.itoa x.a, Lib.itoa x.b] [32] from rfl)
  have HC := Lib.hid (fun w => echeck_any w x)
  obtain ⟨tx, htx⟩ : ∃ tx, textE x = tx := ⟨_, rfl⟩
  rw [htx] at HE HL
  rw [htx]
  clear htx
  have hx := fun W => EV.laid W x
  obtain ⟨t, c, s, k, a, b⟩ := x
  simp only at HE ht hs ha hb
  unfold Ev.val
  go_enter Tryz.func20, Tryz.ntmps20
  have c0 := hx w
  have hV1 : Vars (w.alloc (evO ⟨t, c, s, k, a, b⟩)) := hV.on ((Below.refl _ _).alloc (Nat.le_refl _) _)
  have hB1 : Below w.heap.size w (w.alloc (evO ⟨t, c, s, k, a, b⟩)) := (Below.refl _ _).alloc (Nat.le_refl _) _
  clear hx
  go_wp2_with fail
  refine (HC.out _).mono ?_
  rintro e w1 ⟨he, hb1⟩
  have he0 : e = .returned (.int .i64 0) := by
    rcases he with ⟨he, _⟩ | ⟨_, hn⟩
    · exact he
    · exact absurd HM.out hn
  subst he0
  clear he
  have hlt : w.heap.size < w1.heap.size := by have := hb1.size; simp at this; omega
  have c1 : EV w1 w.heap.size ⟨t, c, s, k, a, b⟩ := c0.below hb1 (by simp)
  have hV2 : Vars w1 := hV1.on hb1
  have hB2 : Below w.heap.size w w1 := hB1.trans (hb1.mono (by simp))
  clear c0 hV1 hB1 hb1
  have x0 := fun p => ((c1.later hlt p).c0)
  have x2 := fun p => ((c1.later hlt p).c2)
  have x3 := fun p => ((c1.later hlt p).c3)
  have x4 := fun p => ((c1.later hlt p).c4)
  have x5 := fun p => ((c1.later hlt p).c5)
  simp only at x0 x2 x3 x4 x5
  clear c1
  go_upto_region 3 with fail
  refine L.region_ (fun _ => False) (by kernel_rfl) ?_
  refine L.seg_ [0, 1, 3, 4, 6, 7, 9, 10, 12, 13] 8 _ (by kernel_rfl) (by kernel_rfl) (by kernel_rfl) (by simp only [pickOps, mask, plain, List.getElem?_toArray, List.getElem?_cons_zero, List.getElem?_cons_succ, if_true]; rfl) ?_
  repeat (go_big_quiet_step (fail))
  refine wpQuiet_nil ?_
  clear x0 x2 x3 x4 x5
  refine L.calm_ (i := 2) (.string ⟨(Lib.itoa t).toArray⟩) rfl (by kernel_rfl) (by kernel_rfl) (by kernel_rfl) (by kernel_rfl) ?_ ?_
  · intro wz sz
    unfold Oper.does
    go_simp
    exact (digits_any t wz (hV2.save sz) ht.1 ht.2).mono fun e w' ⟨he, hw⟩ => ⟨_, he, rfl, Save.of_below hw⟩
  refine L.calm_ (i := 5) (.string (nameOf k)) rfl (by kernel_rfl) (by kernel_rfl) (by kernel_rfl) (by kernel_rfl) ?_ ?_
  · intro wz sz
    unfold Oper.does
    go_simp
    exact (name_any k wz (hV2.save sz)).mono fun e w' ⟨he, hw⟩ => ⟨_, he, rfl, hw ▸ Save.refl _ _⟩
  refine L.calm_ (i := 8) (.string ⟨(Lib.itoa s).toArray⟩) rfl (by kernel_rfl) (by kernel_rfl) (by kernel_rfl) (by kernel_rfl) ?_ ?_
  · intro wz sz
    unfold Oper.does
    go_simp
    exact (digits_any s wz (hV2.save sz) hs.1 hs.2).mono fun e w' ⟨he, hw⟩ => ⟨_, he, rfl, Save.of_below hw⟩
  refine L.calm_ (i := 11) (.string ⟨(Lib.itoa a).toArray⟩) rfl (by kernel_rfl) (by kernel_rfl) (by kernel_rfl) (by kernel_rfl) ?_ ?_
  · intro wz sz
    unfold Oper.does
    go_simp
    exact (digits_any a wz (hV2.save sz) ha.1 ha.2).mono fun e w' ⟨he, hw⟩ => ⟨_, he, rfl, Save.of_below hw⟩
  refine L.calm_ (i := 14) (.string ⟨(Lib.itoa b).toArray⟩) rfl (by kernel_rfl) (by kernel_rfl) (by kernel_rfl) (by kernel_rfl) ?_ ?_
  · intro wz sz
    unfold Oper.does
    go_simp
    exact (digits_any b wz (hV2.save sz) hb.1 hb.2).mono fun e w' ⟨he, hw⟩ => ⟨_, he, rfl, Save.of_below hw⟩
  refine L.call_ (i := 15) rfl (by kernel_rfl) (by kernel_rfl) ?_
  intro wa sa
  unfold Oper.does
  go_simp
  have hBa : Below w.heap.size w wa := hB2.trans (sa.all.mono hB2.size)
  refine same_ sa (Save.of_below ((Below.refl _ _).alloc (Nat.le_refl _) _)) ?_
  clear sa
  refine L.call_ (i := 16) rfl (by kernel_rfl) (by kernel_rfl) ?_
  intro wb sb
  have h5 := five_laid _ _ _ _ _ (sb.all.mono (by simp))
  have hBb : Below w.heap.size w wb := (hBa.alloc hBa.size _).trans (sb.all.mono (by have := hBa.size; simp; omega))
  have hlt2 : wa.heap.size < wb.heap.size := by have := sb.all.size; simp at this; omega
  unfold Oper.does
  go_simp
  refine (Tryz.strings_Join wa.heap.size 0 5 [⟨(Lib.itoa t).toArray⟩, nameOf k, ⟨(Lib.itoa s).toArray⟩, ⟨(Lib.itoa a).toArray⟩, ⟨(Lib.itoa b).toArray⟩] ⟨#[32]⟩ wb h5 hlt2 (by simp) (by simp) ?_).mono ?_
  · have := HL.out
    rw [HE.out] at this
    simp only [List.map_cons, List.map_nil, List.toList_toArray]
    exact Nat.le_trans this (by decide)
  simp only [List.map_cons, List.map_nil, List.toList_toArray]
  rintro e w' ⟨he, hbw⟩
  rw [← HE.out] at he
  subst he
  refine ⟨_, rfl, same_ sb (Save.of_below hbw) ?_⟩
  have hBc : Below w.heap.size w w' := hBb.trans (hbw.mono hBb.size)
  clear h5 sb hbw hBb hlt2
  refine L.seg_ [17] 0 _ (by kernel_rfl) (by kernel_rfl) (by kernel_rfl) (by simp only [pickOps, mask, plain, List.getElem?_toArray, List.getElem?_cons_zero, List.getElem?_cons_succ, if_true]; rfl) ?_
  repeat (go_big_quiet_step (fail))
  refine wpQuiet_nil ?_
  refine L.end_ (by kernel_rfl) ?_
  intro wc sc
  have hBd := hBc.trans (sc.all.mono hBc.size)
  go_wp2
  go_ret
  exact ⟨rfl, hBd⟩

set_option maxHeartbeats 800000 in
theorem text_not (w : World) (x : Ev) (hm : ¬ x.May) : Calls Tryz.prog 20 #[x.val] w fun e w' => e = .returned (.string ⟨#[]⟩) ∧ Below w.heap.size w w' := by
  have HC := Lib.hid (fun w => echeck_any w x)
  have hx := fun W => EV.laid W x
  have HM := Lib.hid hm
  clear hm
  obtain ⟨t, c, s, k, a, b⟩ := x
  unfold Ev.val
  have c0 := hx w
  clear hx
  go_enter Tryz.func20, Tryz.ntmps20
  go_wp2_with fail
  refine (HC.out _).mono ?_
  rintro e w1 ⟨he, hb1⟩
  have he0 : e = .returned (.int .i64 2) := by
    rcases he with ⟨_, hn⟩ | ⟨he, _⟩
    · exact absurd hn HM.out
    · exact he
  subst he0
  clear he
  have hB1 : Below w.heap.size w w1 := ((Below.refl _ _).alloc (Nat.le_refl _) _).trans (hb1.mono (by simp))
  clear hb1
  go_wp2_with fail
  go_ret
  exact ⟨rfl, hB1⟩
end Go.Proofs.YthmogabonfkmhaaGreatDoor
