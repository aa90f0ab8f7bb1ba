
/- Bytes of an event. -/
import Derived.Test.YthmogabonfkmhaaGreatDoorF2
namespace Go.Proofs.YthmogabonfkmhaaGreatDoor
open Go.RowKit
set_option linter.unusedSimpArgs false
set_option linter.unusedVariables false
set_option maxRecDepth 100000

/-- An event's bytes. -/
def evB (x : Ev) : List Int := [] ++ numB x.kind.toNat ++ numB x.time.toNat ++ numB x.seq.toNat ++ numB x.a.toNat ++ numB x.b.toNat

def EvBytes (B : Nat) (w : World) (x : Ev) (e : Ending) (w' : World) : Prop :=
  ∃ A c, e = .returned (.tuple #[.slice A (evB x).length c, .int .i64 0]) ∧ OB w' B A c (evB x) ∧ Below B w w'

theorem May.kind {x : Ev} (h : x.May) : 1 ≤ x.kind ∧ x.kind ≤ 12 := by
  have := h.1
  unfold chipOf at this
  (repeat' split at this) <;> omega

set_option maxHeartbeats 1600000 in
theorem ebytes_may (w : World) (x : Ev) (hm : x.May) : Calls Tryz.prog 5 #[x.val] w (EvBytes w.heap.size w x) := by
  have hk := May.kind hm
  have hm' := hm
  obtain ⟨-, -, t0, t1, s0, s1, a0, a1, b0, b1⟩ := hm'
  have HM := Lib.hid hm
  clear hm
  have HC := Lib.hid (fun w => echeck_any w x)
  have hE : evB x = [] ++ numB x.kind.toNat ++ numB x.time.toNat ++ numB x.seq.toNat ++ numB x.a.toNat ++ numB x.b.toNat := rfl
  unfold EvBytes
  have hx := fun W => EV.laid W x
  obtain ⟨t, c, s, k, a, b⟩ := x
  simp only at hE hk t0 t1 s0 s1 a0 a1 b0 b1
  obtain ⟨tn, rfl⟩ : ∃ n : Nat, t = n := ⟨t.toNat, by omega⟩
  obtain ⟨sn, rfl⟩ : ∃ n : Nat, s = n := ⟨s.toNat, by omega⟩
  obtain ⟨kn, rfl⟩ : ∃ n : Nat, k = n := ⟨k.toNat, by omega⟩
  obtain ⟨an, rfl⟩ : ∃ n : Nat, a = n := ⟨a.toNat, by omega⟩
  obtain ⟨bn, rfl⟩ : ∃ n : Nat, b = n := ⟨b.toNat, by omega⟩
  obtain ⟨hk0, hk1⟩ := hk
  simp only [Int.toNat_natCast] at hE
  have g1 := (numB_length kn).2
  have g2 := (numB_length tn).2
  have g3 := (numB_length sn).2
  have g4 := (numB_length an).2
  have g5 := (numB_length bn).2
  obtain ⟨L1, h1⟩ : ∃ L, [] ++ numB kn = L := ⟨_, rfl⟩
  have l1 : L1.length ≤ 9 := by rw [← h1]; simpa using g1
  obtain ⟨L2, h2⟩ : ∃ L, L1 ++ numB tn = L := ⟨_, rfl⟩
  have l2 : L2.length ≤ 18 := by rw [← h2, List.length_append]; omega
  obtain ⟨L3, h3⟩ : ∃ L, L2 ++ numB sn = L := ⟨_, rfl⟩
  have l3 : L3.length ≤ 27 := by rw [← h3, List.length_append]; omega
  obtain ⟨L4, h4⟩ : ∃ L, L3 ++ numB an = L := ⟨_, rfl⟩
  have l4 : L4.length ≤ 36 := by rw [← h4, List.length_append]; omega
  obtain ⟨L5, h5⟩ : ∃ L, L4 ++ numB bn = L := ⟨_, rfl⟩
  rw [h1, h2, h3, h4, h5] at hE
  rw [hE]
  have H1 := Lib.hid h1
  have H2 := Lib.hid h2
  have H3 := Lib.hid h3
  have H4 := Lib.hid h4
  have H5 := Lib.hid h5
  clear hE h1 h2 h3 h4 h5 g1 g2 g3 g4 g5
  unfold Ev.val
  have c0 := hx w
  clear hx
  go_enter Tryz.func5, Tryz.ntmps5
  go_wp2_with fail
  refine (HC.out _).mono ?_
  rintro e w1 ⟨he, hb1⟩
  have he0 : e = .returned (.int .i64 0) := by
    rcases he with ⟨he, _⟩ | ⟨_, hn⟩
    · exact he
    · exact absurd HM.out hn
  subst he0
  clear he
  have hlt1 : w.heap.size < w1.heap.size := by have := hb1.size; simp at this; omega
  have C1 : EV w1 w.heap.size _ := c0.below hb1 (by simp)
  have B1 : Below w.heap.size w w1 := ((Below.refl _ _).alloc (Nat.le_refl _) _).trans (hb1.mono (by simp))
  clear c0 hb1
  have C := C1
  obtain ⟨x0, x1, x2, x3, x4, x5⟩ := C
  simp only at x0 x1 x2 x3 x4 x5
  go_wp2_with fail
  clear x0 x1 x2 x3 x4 x5
  refine (number_any none 0 0 [] kn w1 w1.heap.size rfl (RB.nil _ _) (Nat.le_refl _) (by simp) (by omega)).mono ?_
  rw [H1.out]
  rintro e w2 ⟨A1, c1, rfl, o1, hb1⟩
  have hlt2 : w.heap.size < w2.heap.size := by have := hb1.size; omega
  have C2 := C1.below hb1 hlt1
  have B2 := B1.trans (hb1.mono B1.size)
  have O1 := o1.mono B1.size
  clear C1 o1 hb1
  have C := C2
  obtain ⟨x0, x1, x2, x3, x4, x5⟩ := C
  simp only at x0 x1 x2 x3 x4 x5
  go_wp2_with fail
  clear x0 x1 x2 x3 x4 x5
  refine (number_any A1 _ c1 L1 tn w2 w2.heap.size rfl O1.rb (Nat.le_refl _) (by omega) (by omega)).mono ?_
  rw [H2.out]
  rintro e w3 ⟨A2, c2, rfl, o2, hb2⟩
  have hlt3 : w.heap.size < w3.heap.size := by have := hb2.size; omega
  have C3 := C2.below hb2 hlt2
  have B3 := B2.trans (hb2.mono B2.size)
  have O2 := o2.mono B2.size
  clear C2 o2 hb2 O1
  have C := C3
  obtain ⟨x0, x1, x2, x3, x4, x5⟩ := C
  simp only at x0 x1 x2 x3 x4 x5
  go_wp2_with fail
  clear x0 x1 x2 x3 x4 x5
  refine (number_any A2 _ c2 L2 sn w3 w3.heap.size rfl O2.rb (Nat.le_refl _) (by omega) (by omega)).mono ?_
  rw [H3.out]
  rintro e w4 ⟨A3, c3, rfl, o3, hb3⟩
  have hlt4 : w.heap.size < w4.heap.size := by have := hb3.size; omega
  have C4 := C3.below hb3 hlt3
  have B4 := B3.trans (hb3.mono B3.size)
  have O3 := o3.mono B3.size
  clear C3 o3 hb3 O2
  have C := C4
  obtain ⟨x0, x1, x2, x3, x4, x5⟩ := C
  simp only at x0 x1 x2 x3 x4 x5
  go_wp2_with fail
  clear x0 x1 x2 x3 x4 x5
  refine (number_any A3 _ c3 L3 an w4 w4.heap.size rfl O3.rb (Nat.le_refl _) (by omega) (by omega)).mono ?_
  rw [H4.out]
  rintro e w5 ⟨A4, c4, rfl, o4, hb4⟩
  have hlt5 : w.heap.size < w5.heap.size := by have := hb4.size; omega
  have C5 := C4.below hb4 hlt4
  have B5 := B4.trans (hb4.mono B4.size)
  have O4 := o4.mono B4.size
  clear C4 o4 hb4 O3
  have C := C5
  obtain ⟨x0, x1, x2, x3, x4, x5⟩ := C
  simp only at x0 x1 x2 x3 x4 x5
  go_wp2_with fail
  clear x0 x1 x2 x3 x4 x5
  refine (number_any A4 _ c4 L4 bn w5 w5.heap.size rfl O4.rb (Nat.le_refl _) (by omega) (by omega)).mono ?_
  rw [H5.out]
  rintro e w6 ⟨A5, c5, rfl, o5, hb5⟩
  have hlt6 : w.heap.size < w6.heap.size := by have := hb5.size; omega
  have C6 := C5.below hb5 hlt5
  have B6 := B5.trans (hb5.mono B5.size)
  have O5 := o5.mono B5.size
  clear C5 o5 hb5 O4
  go_wp2_with fail
  go_ret2
  exact ⟨A5, c5, rfl, O5, B6⟩

set_option maxHeartbeats 800000 in
theorem ebytes_not (w : World) (x : Ev) (hm : ¬ x.May) : Calls Tryz.prog 5 #[x.val] w fun e w' => e = .returned (.tuple #[.slice none 0 0, .int .i64 2]) ∧ Below w.heap.size w w' := by
  have HC := Lib.hid (fun w => echeck_any w x)
  have hx := fun W => EV.laid W x
  have HM := Lib.hid hm
  clear hm
  obtain ⟨t, c, s, k, a, b⟩ := x
  unfold Ev.val
  have c0 := hx w
  clear hx
  go_enter Tryz.func5, Tryz.ntmps5
  go_wp2_with fail
  refine (HC.out _).mono ?_
  rintro e w1 ⟨he, hb1⟩
  have he0 : e = .returned (.int .i64 2) := by
    rcases he with ⟨_, hn⟩ | ⟨he, _⟩
    · exact absurd hn HM.out
    · exact he
  subst he0
  clear he
  have hB1 : Below w.heap.size w w1 := ((Below.refl _ _).alloc (Nat.le_refl _) _).trans (hb1.mono (by simp))
  clear hb1
  go_wp2_with fail
  go_ret2
  exact ⟨rfl, hB1⟩
end Go.Proofs.YthmogabonfkmhaaGreatDoor
