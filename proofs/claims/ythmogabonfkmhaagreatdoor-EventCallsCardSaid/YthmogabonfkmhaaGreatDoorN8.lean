
/- The reference's names, Name, Text. -/
import Derived.Test.YthmogabonfkmhaaGreatDoorF4
import Derived.Test.YthmogabonfkmhaaGreatDoorN1
import Derived.Test.YthmogabonfkmhaaGreatDoorN4
import Derived.Test.YthmogabonfkmhaaGreatDoorN5
namespace Go.Proofs.YthmogabonfkmhaaGreatDoor
open Go.RowKit
set_option linter.unusedSimpArgs false
set_option linter.unusedVariables false
set_option maxRecDepth 100000

/-- The kinds' names, laid. -/
def names13 : Obj := .cells #[.string (nameB 0), .string (nameB 1), .string (nameB 2), .string (nameB 3), .string (nameB 4), .string (nameB 5), .string (nameB 6), .string (nameB 7), .string (nameB 8), .string (nameB 9), .string (nameB 10), .string (nameB 11), .string (nameB 12)] 9
def NamesTo (w : World) (e : Ending) (w' : World) : Prop :=
  e = .returned (.slice (some ⟨w.heap.size, 0, none⟩) 13 13) ∧ w' = w.alloc names13
theorem names13_at (w : World) (k : Nat) (hk : k < 13) : (w.alloc names13).cell? ⟨w.heap.size, k, none⟩ = some (.string (nameB k)) := by
  unfold names13
  rw [World.cell?_alloc_at _ _ _ _ rfl]
  match k, hk with
  | 0, _ | 1, _ | 2, _ | 3, _ | 4, _ | 5, _ | 6, _ | 7, _ | 8, _ | 9, _ | 10, _ | 11, _ | 12, _ => rfl
theorem rnames_any (w : World) : Calls Tryz.prog 35 #[] w (NamesTo w) := by
  go_enter Tryz.func35, Tryz.ntmps35
  go_wp2
  go_ret
  exact ⟨rfl, rfl⟩

theorem nameOf_chip {k : Int} (h : chipOf k = 0) : nameOf k = ⟨#[]⟩ := by
  unfold nameOf
  by_cases h2 : 0 ≤ k ∧ k < 13
  · have : k = 0 := by unfold chipOf at h; repeat' split at h
                       all_goals first | omega | (exact absurd h (by decide))
    subst this; rfl
  · rw [if_neg h2]

theorem rname_any (k : Int) (w : World) : Calls Tryz.prog 15 #[.int .i64 k] w fun e w' => e = .returned (.string (nameOf k)) ∧ Below w.heap.size w w' := by
  have hC := fun w => rchip_any k w
  have HC := Lib.hid hC
  clear hC
  by_cases hk : chipOf k = 0
  · have hn := nameOf_chip hk
    have HN := Lib.hid hn
    clear hn
    generalize chipOf k = c at *
    subst hk
    go_enter Tryz.func15, Tryz.ntmps15
    go_wp2_with (go_at_call 13; (with_reducible refine (HC.out _).mono ?_); rintro e w' ⟨rfl, rfl⟩)
    go_ret
    exact ⟨congrArg (fun b => Ending.returned (.string b)) HN.out.symm, Below.refl _ _⟩
  · obtain ⟨n, rfl⟩ : ∃ n : Nat, k = n := by
      refine ⟨k.toNat, ?_⟩
      unfold chipOf at hk
      repeat' split at hk
      all_goals first | omega | exact absurd rfl hk
    have hn : n < 13 := by
      unfold chipOf at hk
      repeat' split at hk
      all_goals first | omega | exact absurd rfl hk
    have hnm : nameOf (n : Int) = nameB n := by unfold nameOf; rw [if_pos (by omega)]; rfl
    have HN := Lib.hid hnm
    have ha := names13_at w n hn
    generalize chipOf (n : Int) = c at *
    clear hnm
    go_enter Tryz.func15, Tryz.ntmps15
    go_wp2_with (first
      | (go_at_call 13; (with_reducible refine (HC.out _).mono ?_); rintro e w' ⟨rfl, rfl⟩)
      | (go_at_call 35; (with_reducible refine (rnames_any _).mono ?_); rintro e w' ⟨rfl, rfl⟩))
    go_ret
    exact ⟨congrArg (fun b => Ending.returned (.string b)) HN.out.symm, (Below.refl _ _).alloc (Nat.le_refl _) _⟩

theorem name_size (k : Int) : (nameOf k).size ≤ 20 := by
  have h := name_len k
  rw [Array.length_toList] at h
  exact Nat.le_trans h (by decide)
theorem nine_adds (d0 d1 d2 d3 d4 : ByteArray) (h0 : d0.size ≤ 20) (h1 : d1.size ≤ 20) (h2 : d2.size ≤ 20) (h3 : d3.size ≤ 20) (h4 : d4.size ≤ 20) :
    (∀ w, (Op.stringOp .add d0 ⟨#[32]⟩).run Tryz.prog w = .ok (.string (d0 ++ ⟨#[32]⟩)) w) ∧
    (∀ w, (Op.stringOp .add (d0 ++ ⟨#[32]⟩) d1).run Tryz.prog w = .ok (.string (d0 ++ ⟨#[32]⟩ ++ d1)) w) ∧
    (∀ w, (Op.stringOp .add (d0 ++ ⟨#[32]⟩ ++ d1) ⟨#[32]⟩).run Tryz.prog w = .ok (.string (d0 ++ ⟨#[32]⟩ ++ d1 ++ ⟨#[32]⟩)) w) ∧
    (∀ w, (Op.stringOp .add (d0 ++ ⟨#[32]⟩ ++ d1 ++ ⟨#[32]⟩) d2).run Tryz.prog w = .ok (.string (d0 ++ ⟨#[32]⟩ ++ d1 ++ ⟨#[32]⟩ ++ d2)) w) ∧
    (∀ w, (Op.stringOp .add (d0 ++ ⟨#[32]⟩ ++ d1 ++ ⟨#[32]⟩ ++ d2) ⟨#[32]⟩).run Tryz.prog w = .ok (.string (d0 ++ ⟨#[32]⟩ ++ d1 ++ ⟨#[32]⟩ ++ d2 ++ ⟨#[32]⟩)) w) ∧
    (∀ w, (Op.stringOp .add (d0 ++ ⟨#[32]⟩ ++ d1 ++ ⟨#[32]⟩ ++ d2 ++ ⟨#[32]⟩) d3).run Tryz.prog w = .ok (.string (d0 ++ ⟨#[32]⟩ ++ d1 ++ ⟨#[32]⟩ ++ d2 ++ ⟨#[32]⟩ ++ d3)) w) ∧
    (∀ w, (Op.stringOp .add (d0 ++ ⟨#[32]⟩ ++ d1 ++ ⟨#[32]⟩ ++ d2 ++ ⟨#[32]⟩ ++ d3) ⟨#[32]⟩).run Tryz.prog w = .ok (.string (d0 ++ ⟨#[32]⟩ ++ d1 ++ ⟨#[32]⟩ ++ d2 ++ ⟨#[32]⟩ ++ d3 ++ ⟨#[32]⟩)) w) ∧
    (∀ w, (Op.stringOp .add (d0 ++ ⟨#[32]⟩ ++ d1 ++ ⟨#[32]⟩ ++ d2 ++ ⟨#[32]⟩ ++ d3 ++ ⟨#[32]⟩) d4).run Tryz.prog w = .ok (.string (d0 ++ ⟨#[32]⟩ ++ d1 ++ ⟨#[32]⟩ ++ d2 ++ ⟨#[32]⟩ ++ d3 ++ ⟨#[32]⟩ ++ d4)) w) := by
  have hb : (⟨#[32]⟩ : ByteArray).size = 1 := rfl
  refine ⟨add_run _ _ ?_, add_run _ _ ?_, add_run _ _ ?_, add_run _ _ ?_, add_run _ _ ?_, add_run _ _ ?_, add_run _ _ ?_, add_run _ _ ?_⟩
  all_goals
    simp only [ByteArray.size_append, hb]
    omega
theorem text_join (x : Ev) : (((((((((⟨(Lib.itoa x.time).toArray⟩ : ByteArray) ++ ⟨#[32]⟩) ++ nameOf x.kind) ++ ⟨#[32]⟩) ++ ⟨(Lib.itoa x.seq).toArray⟩) ++ ⟨#[32]⟩) ++ ⟨(Lib.itoa x.a).toArray⟩) ++ ⟨#[32]⟩) ++ ⟨(Lib.itoa x.b).toArray⟩) = ⟨(textE x).toArray⟩ := by
  unfold textE
  rw [join_five]
  apply ByteArray.ext
  simp

set_option maxHeartbeats 1600000 in
theorem rtext_may (w : World) (x : Ev) (hm : x.May) : Calls Tryz.prog 21 #[x.val] w fun e w' => e = .returned (.string ⟨(textE x).toArray⟩) ∧ Below w.heap.size w w' := by
  have hj := text_join x
  have hm' := hm
  obtain ⟨-, -, t0, t1, s0, s1, a0, a1, b0, b1⟩ := hm'
  have HJ := Lib.hid hj
  have HM := Lib.hid hm
  clear hm hj
  have HC := Lib.hid (fun w => r3check_any w x)
  obtain ⟨tx, htx⟩ : ∃ tx, (⟨(textE x).toArray⟩ : ByteArray) = tx := ⟨_, rfl⟩
  rw [htx] at HJ ⊢
  clear htx
  have hx := fun W => EV.laid W x
  have HT := Lib.hid (fun w => rdigits_any x.time.toNat x.time w (Nat.le_refl _) t0 (by omega))
  have HS := Lib.hid (fun w => rdigits_any x.seq.toNat x.seq w (Nat.le_refl _) s0 (by omega))
  have HA := Lib.hid (fun w => rdigits_any x.a.toNat x.a w (Nat.le_refl _) a0 (by omega))
  have HB := Lib.hid (fun w => rdigits_any x.b.toNat x.b w (Nat.le_refl _) b0 (by omega))
  have NA := Lib.hid (nine_adds _ _ _ _ _ (itoa_size t0 (by omega)) (name_size x.kind) (itoa_size s0 (by omega)) (itoa_size a0 (by omega)) (itoa_size b0 (by omega)))
  clear t0 t1 s0 s1 a0 a1 b0 b1
  obtain ⟨t, c, s, k, a, b⟩ := x
  simp only at HJ HT HS HA HB NA
  unfold Ev.val
  have c0 := hx w
  have hB1 : Below w.heap.size w (w.alloc (evO ⟨t, c, s, k, a, b⟩)) := (Below.refl _ _).alloc (Nat.le_refl _) _
  clear hx
  go_enter Tryz.func21, Tryz.ntmps21
  go_wp2_with fail
  refine (HC.out _).mono ?_
  rintro e w1 ⟨he, hb1⟩
  have he0 : e = .returned (.int .i64 0) := by
    rcases he with ⟨he, _⟩ | ⟨_, hn⟩
    · exact he
    · exact absurd HM.out hn
  subst he0
  clear he
  have hlt : w.heap.size < w1.heap.size := by have := hb1.size; simp at this; omega
  have c1 : EV w1 w.heap.size ⟨t, c, s, k, a, b⟩ := c0.below hb1 (by simp)
  have hB2 : Below w.heap.size w w1 := hB1.trans (hb1.mono (by simp))
  clear c0 hB1 hb1
  have x0 := fun p => ((c1.later hlt p).c0)
  have x2 := fun p => ((c1.later hlt p).c2)
  have x3 := fun p => ((c1.later hlt p).c3)
  have x4 := fun p => ((c1.later hlt p).c4)
  have x5 := fun p => ((c1.later hlt p).c5)
  simp only at x0 x2 x3 x4 x5
  clear c1
  go_upto_region 3 with fail
  refine L.region_ (fun _ => False) (by kernel_rfl) ?_
  refine L.seg_ [0, 1, 4, 5, 9, 10, 14, 15, 19, 20] 14 _ (by kernel_rfl) (by kernel_rfl) (by kernel_rfl) (by simp only [pickOps, mask, plain, List.getElem?_toArray, List.getElem?_cons_zero, List.getElem?_cons_succ, if_true]; rfl) ?_
  repeat (go_big_quiet_step (fail))
  refine wpQuiet_nil ?_
  clear x0 x2 x3 x4 x5
  refine L.calm_ (i := 2) (.string ⟨(Lib.itoa t).toArray⟩) rfl (by kernel_rfl) (by kernel_rfl) (by kernel_rfl) (by kernel_rfl) ?_ ?_
  · intro wz sz
    unfold Oper.does
    go_simp
    exact (HT.out wz).mono fun e w' ⟨he, hw⟩ => ⟨_, he, rfl, Save.of_below hw⟩
  refine L.calm_ (i := 6) (.string (nameOf k)) rfl (by kernel_rfl) (by kernel_rfl) (by kernel_rfl) (by kernel_rfl) ?_ ?_
  · intro wz sz
    unfold Oper.does
    go_simp
    exact (rname_any k wz).mono fun e w' ⟨he, hw⟩ => ⟨_, he, rfl, Save.of_below hw⟩
  refine L.calm_ (i := 11) (.string ⟨(Lib.itoa s).toArray⟩) rfl (by kernel_rfl) (by kernel_rfl) (by kernel_rfl) (by kernel_rfl) ?_ ?_
  · intro wz sz
    unfold Oper.does
    go_simp
    exact (HS.out wz).mono fun e w' ⟨he, hw⟩ => ⟨_, he, rfl, Save.of_below hw⟩
  refine L.calm_ (i := 16) (.string ⟨(Lib.itoa a).toArray⟩) rfl (by kernel_rfl) (by kernel_rfl) (by kernel_rfl) (by kernel_rfl) ?_ ?_
  · intro wz sz
    unfold Oper.does
    go_simp
    exact (HA.out wz).mono fun e w' ⟨he, hw⟩ => ⟨_, he, rfl, Save.of_below hw⟩
  refine L.calm_ (i := 21) (.string ⟨(Lib.itoa b).toArray⟩) rfl (by kernel_rfl) (by kernel_rfl) (by kernel_rfl) (by kernel_rfl) ?_ ?_
  · intro wz sz
    unfold Oper.does
    go_simp
    exact (HB.out wz).mono fun e w' ⟨he, hw⟩ => ⟨_, he, rfl, Save.of_below hw⟩
  go_simp
  obtain ⟨q1, q2, q3, q4, q5, q6, q7, q8⟩ := NA.out
  refine L.seg_ [3, 7, 8, 12, 13, 17, 18, 22, 23] 0 _ (by kernel_rfl) (by kernel_rfl) (by kernel_rfl) (by simp only [pickOps, mask, plain, List.getElem?_toArray, List.getElem?_cons_zero, List.getElem?_cons_succ, if_true]; rfl) ?_
  repeat (go_big_quiet_step (fail))
  refine wpQuiet_nil ?_
  refine L.end_ (by kernel_rfl) ?_
  intro wc sc
  have hBd := hB2.trans (sc.all.mono hB2.size)
  go_wp2
  go_ret
  exact ⟨congrArg (fun b => Ending.returned (.string b)) HJ.out, hBd⟩

theorem rtext_not (w : World) (x : Ev) (hm : ¬ x.May) : Calls Tryz.prog 21 #[x.val] w fun e w' => e = .returned (.string ⟨#[]⟩) ∧ Below w.heap.size w w' := by
  have HC := Lib.hid (fun w => r3check_any w x)
  have hx := fun W => EV.laid W x
  have HM := Lib.hid hm
  clear hm
  obtain ⟨t, c, s, k, a, b⟩ := x
  unfold Ev.val
  have c0 := hx w
  clear hx
  go_enter Tryz.func21, Tryz.ntmps21
  go_wp2_with fail
  refine (HC.out _).mono ?_
  rintro e w1 ⟨he, hb1⟩
  have he0 : e = .returned (.int .i64 2) := by
    rcases he with ⟨_, hn⟩ | ⟨he, _⟩
    · exact absurd hn HM.out
    · exact he
  subst he0
  clear he
  have hB1 : Below w.heap.size w w1 := ((Below.refl _ _).alloc (Nat.le_refl _) _).trans (hb1.mono (by simp))
  clear hb1
  go_wp2_with fail
  go_ret
  exact ⟨rfl, hB1⟩
end Go.Proofs.YthmogabonfkmhaaGreatDoor
