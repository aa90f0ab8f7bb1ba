/-  -/
import Derived.Laws.StructEq
import Derived.Test.YtofenjloieagaaaZT5
namespace Go.Proofs.Ytofenjloieagaaa
open Go.RowKit
set_option linter.unusedSimpArgs false
set_option linter.unusedVariables false
set_option maxRecDepth 100000

/-- Numbers in memory. -/
structure NsAt (w : World) (B : Nat) (A : Option Addr) (l : List Int) : Prop where
  at_ : 0 < l.length → ∃ b o, A = some ⟨b, o, Option.none⟩ ∧ b < B ∧ ∀ i, i < l.length → w.cell? ⟨b, o + i, none⟩ = some (.int .i64 (l.getD i 0))
theorem NsAt.below {w w' : World} {B : Nat} {A : Option Addr} {l : List Int} (h : NsAt w B A l) (hb : Below B w w') : NsAt w' B A l :=
  ⟨fun h0 => by
    obtain ⟨b, o, h1, h2, h3⟩ := h.at_ h0
    exact ⟨b, o, h1, h2, fun i hi => (hb.cell h2).trans (h3 i hi)⟩⟩
theorem NsAt.more {w : World} {B B' : Nat} {A : Option Addr} {l : List Int} (h : NsAt w B A l) (hB : B ≤ B') : NsAt w B' A l :=
  ⟨fun h0 => by
    obtain ⟨b, o, h1, h2, h3⟩ := h.at_ h0
    exact ⟨b, o, h1, by omega, h3⟩⟩
theorem NsAt.own {w : World} {base c : Nat} {A : Option Addr} {e : TypeId} {l : List Int} (h : w.ownsRow base e 1 (.slice A l.length c) l.length (l.map (Value.int .i64))) : NsAt w w.heap.size A l := by
  rcases h.2 with ⟨h1, h2⟩ | ⟨g, cap, cur, h1, hb, hg, hn, hm, hs⟩
  · injection h1 with h3 h4 h5
    exact ⟨fun h0 => absurd h0 (by omega)⟩
  · injection h1 with h3 h4 h5
    subst h3
    have hlt := (h.lt g rfl).2
    refine ⟨fun h0 => ⟨g, 0, rfl, hlt, fun i hi => ?_⟩⟩
    rw [h.cellAt _ (by omega), Nat.zero_add]
    simp [List.getD_eq_getElem?_getD, hi]
theorem own_below16 {B : Nat} {e : TypeId} {k : Nat} {v : Value} {n : Nat} {xs : List Value} {w w' : World} (h : w.ownsRow B e k v n xs) (hb : Below w.heap.size w w') : w'.ownsRow B e k v n xs :=
  h.kept (row := none) ⟨hb.os, hb.tape, hb.output, hb.size, fun j hj _ => hb.block j hj⟩ (by cases hv : v.ownBlock <;> simp)
theorem row_shape {w : World} {base n : Nat} {v : Value} {xs : List Value} {e : TypeId} (h : w.ownsRow base e 1 v n xs) : ∃ A c, v = .slice A n c := by
  rcases h.2 with ⟨h1, h2⟩ | ⟨g, cap, cur, h1, _⟩
  · exact ⟨none, 0, by rw [h1, h2]⟩
  · exact ⟨_, _, h1⟩

theorem getD_at {α : Type} (z : α) (l : List α) (i : Nat) (h : i < l.length) : l.getD i z = l[i] := by simp [List.getD_eq_getElem?_getD, h]
theorem list_eq_of {α : Type} (z : α) {l m : List α} (hl : l.length = m.length) (h : ∀ i, i < l.length → l.getD i z = m.getD i z) : l = m := by
  apply List.ext_getElem hl
  intro i h1 h2
  have := h i h1
  rwa [getD_at z l i h1, getD_at z m i h2] at this

instance : DecidableEq Tc := fun a b => decidable_of_iff (a.time = b.time ∧ a.what = b.what ∧ a.key = b.key ∧ a.on = b.on) ⟨fun h => by cases a; cases b; simp only at h; obtain ⟨rfl, rfl, rfl, rfl⟩ := h; rfl, fun h => h ▸ ⟨rfl, rfl, rfl, rfl⟩⟩
theorem tc_neq_same (y : Tc) (w : World) : (binOp .neq 45 y.val y.val).run Try.prog w = .ok (.bool false) w := by
  unfold Tc.val
  go_simp
theorem tc_neq_other (z y : Tc) (h : z ≠ y) (w : World) : (binOp .neq 45 z.val y.val).run Try.prog w = .ok (.bool true) w := by
  unfold Tc.val
  go_simp
  obtain ⟨z0, z1, z2, z3⟩ := z
  obtain ⟨y0, y1, y2, y3⟩ := y
  simp only [ne_eq, Tc.mk.injEq, not_and] at h
  exact h

set_option maxHeartbeats 2000000 in
theorem touches_any (w : World) (A A2 : Option Addr) (c c2 : Nat) (l m : List Tc) (hx : TsAt w w.heap.size A l) (hy : TsAt w w.heap.size A2 m) (hll : l.length ≤ maxLen) :
    Calls Try.prog 12 #[.slice A l.length c, .slice A2 m.length c2] w fun e w' => e = .returned (.bool (decide (l = m))) ∧ Below w.heap.size w w' := by
  unfold maxLen at hll
  by_cases hl : l.length = m.length
  · obtain ⟨n, hn⟩ : ∃ n, l.length = n := ⟨_, rfl⟩
    have HN := Lib.hid hn
    have HM := Lib.hid (hl.symm.trans hn)
    rw [hl.symm.trans hn, hn]
    rw [hn] at hll
    clear hl hn
    have HX := Lib.hid hx
    have HY := Lib.hid hy
    clear hx hy
    go_enter Try.func12, Try.ntmps12
    go_wp2_with fail
    go_loopw [5] (fun i wr => ∃ k : Nat, k ≤ n ∧ i = .int .i64 k ∧ (∀ j, j < k → l.getD j tcZ = m.getD j tcZ) ∧ Below w.heap.size w wr) (fun i _ => n - (intOf i).toNat)
    case atStart => exact ⟨0, Nat.zero_le _, rfl, fun j hj => by omega, Below.refl _ _⟩
    case round =>
      rename World => wr
      obtain ⟨k, hk, rfl, he, hb⟩ := hrel
      have HE := Lib.hid he
      have HB := Lib.hid hb
      clear he hb
      by_cases hlt : k < n
      · obtain ⟨b, o, hA, hb1, hat1⟩ := HX.out.at_ (by rw [HN.out]; omega)
        obtain ⟨b2, o2, hA2, hb2, hat2⟩ := HY.out.at_ (by rw [HM.out]; omega)
        have hu := (hat1 k (by rw [HN.out]; exact hlt)).below HB.out hb1
        have hv := (hat2 k (by rw [HM.out]; exact hlt)).below HB.out hb2
        clear hat1 hat2
        obtain ⟨u, hgu⟩ : ∃ u, l.getD k tcZ = u := ⟨_, rfl⟩
        obtain ⟨v, hgv⟩ : ∃ v, m.getD k tcZ = v := ⟨_, rfl⟩
        rw [hgu] at hu
        rw [hgv] at hv
        have HU := Lib.hid hgu
        have HV := Lib.hid hgv
        subst hA hA2
        clear hgu hgv
        obtain ⟨c0, c1, c2, c3⟩ := hu
        obtain ⟨d0, d1, d2, d3⟩ := hv
        by_cases huv : u = v
        · subst huv
          have hq := fun w => tc_neq_same u w
          unfold Tc.val at hq
          go_wp2_with fail
          go_quiet (fail)
          go_wp2_with fail
          refine ⟨⟨k + 1, by omega, by go_num, fun j hj => ?_, ⟨HB.out.os, HB.out.tape, HB.out.output, HB.out.size, HB.out.block⟩⟩, by simp [intOf]; omega⟩
          by_cases e : j = k
          · subst e; rw [HU.out, HV.out]
          · exact HE.out j (by omega)
        · have hq := fun w => tc_neq_other u v huv w
          have H := Lib.hid huv
          unfold Tc.val at hq
          clear huv
          go_wp2_with fail
          go_quiet (fail)
          go_wp2_with fail
          go_ret
          rw [decide_eq_false (fun e => H.out (by rw [← HU.out, ← HV.out, e]))]
          exact ⟨rfl, ⟨HB.out.os, HB.out.tape, HB.out.output, HB.out.size, HB.out.block⟩⟩
      · obtain rfl : k = n := by omega
        have hh : l = m := list_eq_of tcZ (by rw [HN.out, HM.out]) (by rw [HN.out]; exact HE.out)
        have HH := Lib.hid (decide_eq_true hh)
        clear hh
        go_wp2_with fail
        go_ret
        exact ⟨by rw [HH.out]; rfl, HB.out⟩
  · have H := Lib.hid (decide_eq_false (fun e : l = m => hl (by rw [e])))
    have hne : ¬ (l.length : Int) = m.length := by omega
    go_enter Try.func12, Try.ntmps12
    go_wp2_with fail
    go_ret
    exact ⟨by rw [H.out]; rfl, Below.refl _ _⟩

set_option maxHeartbeats 2000000 in
theorem ints_any (w : World) (A A2 : Option Addr) (c c2 : Nat) (l m : List Int) (hx : NsAt w w.heap.size A l) (hy : NsAt w w.heap.size A2 m) (hll : l.length ≤ maxLen) :
    Calls Try.prog 15 #[.slice A l.length c, .slice A2 m.length c2] w fun e w' => e = .returned (.bool (decide (l = m))) ∧ Below w.heap.size w w' := by
  unfold maxLen at hll
  by_cases hl : l.length = m.length
  · obtain ⟨n, hn⟩ : ∃ n, l.length = n := ⟨_, rfl⟩
    have HN := Lib.hid hn
    have HM := Lib.hid (hl.symm.trans hn)
    rw [hl.symm.trans hn, hn]
    rw [hn] at hll
    clear hl hn
    have HX := Lib.hid hx
    have HY := Lib.hid hy
    clear hx hy
    go_enter Try.func15, Try.ntmps15
    go_wp2_with fail
    go_loopw [5] (fun i wr => ∃ k : Nat, k ≤ n ∧ i = .int .i64 k ∧ (∀ j, j < k → l.getD j 0 = m.getD j 0) ∧ Below w.heap.size w wr) (fun i _ => n - (intOf i).toNat)
    case atStart => exact ⟨0, Nat.zero_le _, rfl, fun j hj => by omega, Below.refl _ _⟩
    case round =>
      rename World => wr
      obtain ⟨k, hk, rfl, he, hb⟩ := hrel
      have HE := Lib.hid he
      have HB := Lib.hid hb
      clear he hb
      by_cases hlt : k < n
      · obtain ⟨b, o, hA, hb1, hat1⟩ := HX.out.at_ (by rw [HN.out]; omega)
        obtain ⟨b2, o2, hA2, hb2, hat2⟩ := HY.out.at_ (by rw [HM.out]; omega)
        have hu := (HB.out.cell hb1).trans (hat1 k (by rw [HN.out]; exact hlt))
        have hv := (HB.out.cell hb2).trans (hat2 k (by rw [HM.out]; exact hlt))
        clear hat1 hat2
        obtain ⟨u, hgu⟩ : ∃ u, l.getD k 0 = u := ⟨_, rfl⟩
        obtain ⟨v, hgv⟩ : ∃ v, m.getD k 0 = v := ⟨_, rfl⟩
        rw [hgu] at hu
        rw [hgv] at hv
        have HU := Lib.hid hgu
        have HV := Lib.hid hgv
        subst hA hA2
        clear hgu hgv
        by_cases huv : u = v
        · subst huv
          go_wp2_with fail
          go_quiet (fail)
          go_wp2_with fail
          refine ⟨⟨k + 1, by omega, by go_num, fun j hj => ?_, ⟨HB.out.os, HB.out.tape, HB.out.output, HB.out.size, HB.out.block⟩⟩, by simp [intOf]; omega⟩
          by_cases e : j = k
          · subst e; rw [HU.out, HV.out]
          · exact HE.out j (by omega)
        · have hq : (u != v) = true := by simpa using huv
          have H := Lib.hid huv
          clear huv
          go_wp2_with fail
          go_quiet (fail)
          go_wp2_with fail
          go_ret
          rw [decide_eq_false (fun e => H.out (by rw [← HU.out, ← HV.out, e]))]
          exact ⟨rfl, ⟨HB.out.os, HB.out.tape, HB.out.output, HB.out.size, HB.out.block⟩⟩
      · obtain rfl : k = n := by omega
        have hh : l = m := list_eq_of 0 (by rw [HN.out, HM.out]) (by rw [HN.out]; exact HE.out)
        have HH := Lib.hid (decide_eq_true hh)
        clear hh
        go_wp2_with fail
        go_ret
        exact ⟨by rw [HH.out]; rfl, HB.out⟩
  · have H := Lib.hid (decide_eq_false (fun e : l = m => hl (by rw [e])))
    have hne : ¬ (l.length : Int) = m.length := by omega
    go_enter Try.func15, Try.ntmps15
    go_wp2_with fail
    go_ret
    exact ⟨by rw [H.out]; rfl, Below.refl _ _⟩

/-- The chapter's list. -/
def firstL : List Tc := [⟨10, 1, 2, true⟩, ⟨20, 1, 7, true⟩, ⟨30, 1, 2, false⟩]
theorem first_any (w : World) : Calls Try.prog 24 #[] w fun e w' => e = .returned (.slice (some ⟨w.heap.size, 0, none⟩) 3 3) ∧ TsAt w' w'.heap.size (some ⟨w.heap.size, 0, none⟩) firstL ∧ Below w.heap.size w w' := by
  go_enter Try.func24, Try.ntmps24
  go_wp2_with fail
  go_ret
  refine ⟨rfl, ⟨fun _ => ⟨_, 0, rfl, by simp, fun i hi => ?_⟩⟩, (Below.refl _ _).alloc (Nat.le_refl _) _⟩
  have h3 : i = 0 ∨ i = 1 ∨ i = 2 := by simp [firstL] at hi; omega
  rcases h3 with rfl | rfl | rfl <;> constructor <;> (rw [World.cell?_alloc_at _ _ _ _ rfl]; rfl)
end Go.Proofs.Ytofenjloieagaaa
