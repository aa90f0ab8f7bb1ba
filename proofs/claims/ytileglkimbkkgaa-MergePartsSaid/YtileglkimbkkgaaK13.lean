
/- Lists of events compared: Events of the kit, Differ, Alone; an event of the law's own. -/
import Derived.Test.YtileglkimbkkgaaK12
namespace Go.Proofs.Ytileglkimbkkgaa
open Go.RowKit
set_option linter.unusedSimpArgs false
set_option linter.unusedVariables false

instance : DecidableEq Ev := fun a b => decidable_of_iff (a.ns = b.ns) ⟨ns_inj, fun h => h ▸ rfl⟩

set_option maxRecDepth 100000 in
theorem neq_same (y : Ev) (w : World) : (binOp .neq 23 y.val y.val).run Try.prog w = .ok (.bool false) w := by
  unfold Ev.val
  go_simp
set_option maxRecDepth 100000 in
theorem neq_other (z y : Ev) (h : z ≠ y) (w : World) : (binOp .neq 23 z.val y.val).run Try.prog w = .ok (.bool true) w := by
  unfold Ev.val
  go_simp
  obtain ⟨z0, z1, z2, z3, z4, z5⟩ := z
  obtain ⟨y0, y1, y2, y3, y4, y5⟩ := y
  simp only [ne_eq, Ev.mk.injEq, not_and] at h
  exact h

theorem LsAt.ev {w wr : World} {x : Ls} (h : LsAt w w.heap.size x) (hb : Below w.heap.size w wr) {k : Nat} (hk : k < x.l.length) : ∃ b o, x.A = some ⟨b, o, none⟩ ∧ EvAt wr b (o + k * 6) (x.l.getD k evZ) := by
  obtain ⟨b, o, h1, h2, h3⟩ := h.at_ (by omega)
  exact ⟨b, o, h1, (h3 k hk).keep (hb.block b h2)⟩

theorem list_eq_of {l m : List Ev} (hl : l.length = m.length) (h : ∀ i, i < l.length → l.getD i evZ = m.getD i evZ) : l = m := by
  apply List.ext_getElem hl
  intro i h1 h2
  have := h i h1
  rwa [getD_at l i h1, getD_at m i h2] at this

set_option maxRecDepth 100000 in
set_option maxHeartbeats 2000000 in
theorem events_any (w : World) (x y : Ls) (hx : LsAt w w.heap.size x) (hy : LsAt w w.heap.size y) : Calls Try.prog 20 #[x.val, y.val] w fun e w' => e = .returned (.bool (decide (x.l = y.l))) ∧ Below w.heap.size w w' := by
  have hxl := hx.le
  have hxc := hx.cap
  have hyl := hy.le
  have hyc := hy.cap
  unfold maxLen at hxc hyc
  unfold Ls.val
  by_cases hl : x.l.length = y.l.length
  · obtain ⟨n, hn⟩ : ∃ n, x.l.length = n := ⟨_, rfl⟩
    have HN := Lib.hid hn
    have HM := Lib.hid (hl.symm.trans hn)
    rw [hl.symm.trans hn, hn]
    rw [hn] at hxl
    rw [hl.symm.trans hn] at hyl
    clear hl hn
    go_enter Try.func20, Try.ntmps20
    go_wp2_with fail
    go_loopw [5] (fun i wr => ∃ k : Nat, k ≤ n ∧ i = .int .i64 k ∧ (∀ j, j < k → x.l.getD j evZ = y.l.getD j evZ) ∧ Below w.heap.size w wr) (fun i _ => n - (intOf i).toNat)
    case atStart => exact ⟨0, Nat.zero_le _, rfl, fun j hj => by omega, Below.refl _ _⟩
    case round =>
      obtain ⟨k, hk, rfl, he, hb⟩ := hrel
      have HE := Lib.hid he
      clear he
      by_cases hlt : k < n
      · obtain ⟨b, o, hA, hu⟩ := hx.ev hb (k := k) (by rw [HN.out]; exact hlt)
        obtain ⟨b2, o2, hA2, hv⟩ := hy.ev hb (k := k) (by rw [HM.out]; exact hlt)
        obtain ⟨u, hgu⟩ : ∃ u, x.l.getD k evZ = u := ⟨_, rfl⟩
        obtain ⟨v, hgv⟩ : ∃ v, y.l.getD k evZ = v := ⟨_, rfl⟩
        rw [hgu] at hu
        rw [hgv] at hv
        have HU := Lib.hid hgu
        have HV := Lib.hid hgv
        rw [hA, hA2]
        clear hgu hgv hA hA2
        obtain ⟨c0, c1, c2, c3, c4, c5⟩ := hu
        obtain ⟨d0, d1, d2, d3, d4, d5⟩ := hv
        by_cases huv : u = v
        · subst huv
          have hq := fun w => neq_same u w
          unfold Ev.val at hq
          go_wp2_with fail
          go_quiet (fail)
          go_wp2_with fail
          refine ⟨⟨k + 1, by omega, by go_num, fun j hj => ?_, ⟨hb.os, hb.tape, hb.output, hb.size, hb.block⟩⟩, by simp [intOf]; omega⟩
          by_cases e : j = k
          · subst e; rw [HU.out, HV.out]
          · exact HE.out j (by omega)
        · have hq := fun w => neq_other u v huv w
          have H := Lib.hid huv
          unfold Ev.val at hq
          clear huv
          go_wp2_with fail
          go_quiet (fail)
          go_wp2_with fail
          go_ret
          rw [decide_eq_false (fun e => H.out (by rw [← HU.out, ← HV.out, e]))]
          exact ⟨rfl, ⟨hb.os, hb.tape, hb.output, hb.size, hb.block⟩⟩
      · obtain rfl : k = n := by omega
        go_wp2_with fail
        go_ret
        rw [decide_eq_true (list_eq_of (by rw [HN.out, HM.out]) fun i hi => HE.out i (by rw [HN.out] at hi; exact hi))]
        exact ⟨rfl, hb⟩
  · have hne : ((x.l.length : Int) != (y.l.length : Int)) = true := by simp; omega
    have H := Lib.hid hl
    clear hl
    go_enter Try.func20, Try.ntmps20
    go_wp2_with fail
    go_ret
    rw [decide_eq_false (fun e => H.out (by rw [e]))]
    exact ⟨rfl, Below.refl _ _⟩
end Go.Proofs.Ytileglkimbkkgaa
