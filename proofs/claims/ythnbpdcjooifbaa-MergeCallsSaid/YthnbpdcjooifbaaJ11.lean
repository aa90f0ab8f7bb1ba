/-   -/
import Derived.Test.YthnbpdcjooifbaaZK12
namespace Go.Proofs.Ythnbpdcjooifbaa
open Go.RowKit
set_option linter.unusedSimpArgs false
set_option linter.unusedVariables false

instance : DecidableEq Ev := fun a b => decidable_of_iff (a.ns = b.ns) ⟨ns_inj, fun h => h ▸ rfl⟩

set_option maxRecDepth 100000 in
theorem neq_same (y : Ev) (w : World) : (binOp .neq 23 y.val y.val).run Try.prog w = .ok (.bool false) w := by
  unfold Ev.val
  go_simp
set_option maxRecDepth 100000 in
theorem neq_other (z y : Ev) (h : z ≠ y) (w : World) : (binOp .neq 23 z.val y.val).run Try.prog w = .ok (.bool true) w := by
  unfold Ev.val
  go_simp
  obtain ⟨z0, z1, z2, z3, z4, z5⟩ := z
  obtain ⟨y0, y1, y2, y3, y4, y5⟩ := y
  simp only [ne_eq, Ev.mk.injEq, not_and] at h
  exact h

theorem LsAt.ev {w wr : World} {x : Ls} (h : LsAt w w.heap.size x) (hb : Below w.heap.size w wr) {k : Nat} (hk : k < x.l.length) : ∃ b o, x.A = some ⟨b, o, none⟩ ∧ EvAt wr b (o + k * 6) (x.l.getD k evZ) := by
  obtain ⟨b, o, h1, h2, h3⟩ := h.at_ (by omega)
  exact ⟨b, o, h1, (h3 k hk).keep (hb.block b h2)⟩

theorem list_eq_of {l m : List Ev} (hl : l.length = m.length) (h : ∀ i, i < l.length → l.getD i evZ = m.getD i evZ) : l = m := by
  apply List.ext_getElem hl
  intro i h1 h2
  have := h i h1
  rwa [getD_at l i h1, getD_at m i h2] at this

set_option maxRecDepth 100000 in
set_option maxHeartbeats 2000000 in
theorem events_any (w : World) (x y : Ls) (hx : LsAt w w.heap.size x) (hy : LsAt w w.heap.size y) : Calls Try.prog 20 #[x.val, y.val] w fun e w' => e = .returned (.bool (decide (x.l = y.l))) ∧ Below w.heap.size w w' := by
  have hxl := hx.le
  have hxc := hx.cap
  have hyl := hy.le
  have hyc := hy.cap
  unfold maxLen at hxc hyc
  unfold Ls.val
  by_cases hl : x.l.length = y.l.length
  · obtain ⟨n, hn⟩ : ∃ n, x.l.length = n := ⟨_, rfl⟩
    have HN := Lib.hid hn
    have HM := Lib.hid (hl.symm.trans hn)
    rw [hl.symm.trans hn, hn]
    rw [hn] at hxl
    rw [hl.symm.trans hn] at hyl
    clear hl hn
    go_enter Try.func20, Try.ntmps20
    go_wp2_with fail
    go_loopw [5] (fun i wr => ∃ k : Nat, k ≤ n ∧ i = .int .i64 k ∧ (∀ j, j < k → x.l.getD j evZ = y.l.getD j evZ) ∧ Below w.heap.size w wr) (fun i _ => n - (intOf i).toNat)
    case atStart => exact ⟨0, Nat.zero_le _, rfl, fun j hj => by omega, Below.refl _ _⟩
    case round =>
      obtain ⟨k, hk, rfl, he, hb⟩ := hrel
      have HE := Lib.hid he
      clear he
      by_cases hlt : k < n
      · obtain ⟨b, o, hA, hu⟩ := hx.ev hb (k := k) (by rw [HN.out]; exact hlt)
        obtain ⟨b2, o2, hA2, hv⟩ := hy.ev hb (k := k) (by rw [HM.out]; exact hlt)
        obtain ⟨u, hgu⟩ : ∃ u, x.l.getD k evZ = u := ⟨_, rfl⟩
        obtain ⟨v, hgv⟩ : ∃ v, y.l.getD k evZ = v := ⟨_, rfl⟩
        rw [hgu] at hu
        rw [hgv] at hv
        have HU := Lib.hid hgu
        have HV := Lib.hid hgv
        rw [hA, hA2]
        clear hgu hgv hA hA2
        obtain ⟨c0, c1, c2, c3, c4, c5⟩ := hu
        obtain ⟨d0, d1, d2, d3, d4, d5⟩ := hv
        by_cases huv : u = v
        · subst huv
          have hq := fun w => neq_same u w
          unfold Ev.val at hq
          go_wp2_with fail
          go_quiet (fail)
          go_wp2_with fail
          refine ⟨⟨k + 1, by omega, by go_num, fun j hj => ?_, ⟨hb.os, hb.tape, hb.output, hb.size, hb.block⟩⟩, by simp [intOf]; omega⟩
          by_cases e : j = k
          · subst e; rw [HU.out, HV.out]
          · exact HE.out j (by omega)
        · have hq := fun w => neq_other u v huv w
          have H := Lib.hid huv
          unfold Ev.val at hq
          clear huv
          go_wp2_with fail
          go_quiet (fail)
          go_wp2_with fail
          go_ret
          rw [decide_eq_false (fun e => H.out (by rw [← HU.out, ← HV.out, e]))]
          exact ⟨rfl, ⟨hb.os, hb.tape, hb.output, hb.size, hb.block⟩⟩
      · obtain rfl : k = n := by omega
        go_wp2_with fail
        go_ret
        rw [decide_eq_true (list_eq_of (by rw [HN.out, HM.out]) fun i hi => HE.out i (by rw [HN.out] at hi; exact hi))]
        exact ⟨rfl, hb⟩
  · have hne : ((x.l.length : Int) != (y.l.length : Int)) = true := by simp; omega
    have H := Lib.hid hl
    clear hl
    go_enter Try.func20, Try.ntmps20
    go_wp2_with fail
    go_ret
    rw [decide_eq_false (fun e => H.out (by rw [e]))]
    exact ⟨rfl, Below.refl _ _⟩
end Go.Proofs.Ythnbpdcjooifbaa
namespace Go.Proofs.Ythnbpdcjooifbaa
open Go.RowKit
set_option linter.unusedSimpArgs false
set_option linter.unusedVariables false

section
namespace L
variable {P : Program} {ops : Array Oper} {md : Region.Mode}
/-- TWO THAT MAY COME UP: the one first, or the other. -/
theorem fork_ {F : Act → (Nat → Prop) → World → Prop} {S : Nat → Prop} {i j : Nat} {oi oj : Oper} {fuel : Nat} {listed : Array Bool} {a : Act} {b : World} (hi : ops[i]? = some oi) (hj : ops[j]? = some oj) (hr : (Region.ready md ops listed == [i, j]) = true)
    (hwi : Region.wanted oi (yielded ops a.tmps) = true) (hwj : Region.wanted oj (yielded ops a.tmps) = true)
    (h1 : ∀ w, Save S b w → Oper.does P oi a w fun v w1 => ∃ S1, (∀ w', Save S1 w1 w' → Save S b w') ∧ wpAnyM P md ops F fuel (listed.setIfInBounds i true) (a.put oi.dst v) S1 w1)
    (h2 : ∀ w, Save S b w → Oper.does P oj a w fun v w1 => ∃ S1, (∀ w', Save S1 w1 w' → Save S b w') ∧ wpAnyM P md ops F fuel (listed.setIfInBounds j true) (a.put oj.dst v) S1 w1) : wpAnyM P md ops F (fuel + 1) listed a S b := by
  have hr' : Region.ready md ops listed = [i, j] := by simpa using hr
  refine ⟨(fun h0 => by rw [h0] at hr'; cases hr'), (fun k hk => ?_)⟩
  rw [hr'] at hk
  simp only [List.mem_cons, List.not_mem_nil, or_false] at hk
  rcases hk with rfl | rfl
  · exact mOp_call hi hwi h1
  · exact mOp_call hj hwj h2
end L
end

/-- The first place at which two lists are not the same. -/
def differL : List Ev → List Ev → Nat → Int
  | x :: t, y :: u, k => if x = y then differL t u (k + 1) else k
  | [], [], _ => -1
  | _ :: _, [], k => k
  | [], _ :: _, k => k
theorem differ_drop : ∀ (k : Nat) (l m : List Ev) (b : Nat), k ≤ l.length → k ≤ m.length → (∀ j, j < k → l.getD j evZ = m.getD j evZ) → differL l m b = differL (l.drop k) (m.drop k) (b + k)
  | 0, l, m, b, _, _, _ => by simp
  | k + 1, [], m, b, h, _, _ => by simp at h
  | k + 1, x :: t, [], b, _, h, _ => by simp at h
  | k + 1, x :: t, y :: u, b, h1, h2, h => by
    have h0 := h 0 (by omega)
    simp at h0
    subst h0
    have ih := differ_drop k t u (b + 1) (by simpa using h1) (by simpa using h2) (fun j hj => by have := h (j + 1) (by omega); simpa using this)
    simp only [differL, if_true, List.drop_succ_cons]
    rw [ih, show b + 1 + k = b + (k + 1) by omega]
theorem differ_at {k : Nat} {l m : List Ev} (h1 : k < l.length) (h2 : k < m.length) (h : ∀ j, j < k → l.getD j evZ = m.getD j evZ) (hne : l.getD k evZ ≠ m.getD k evZ) : differL l m 0 = k := by
  rw [differ_drop k l m 0 (by omega) (by omega) h, List.drop_eq_getElem_cons h1, List.drop_eq_getElem_cons h2]
  rw [getD_at l k h1, getD_at m k h2] at hne
  simp only [differL]
  rw [if_neg hne, Nat.zero_add]
theorem differ_end {l m : List Ev} (h : ∀ j, j < min l.length m.length → l.getD j evZ = m.getD j evZ) : differL l m 0 = if l.length = m.length then -1 else ((min l.length m.length : Nat) : Int) := by
  rw [differ_drop (min l.length m.length) l m 0 (by omega) (by omega) h, Nat.zero_add]
  by_cases e : l.length = m.length
  · rw [if_pos e, List.drop_eq_nil_of_le (by omega), List.drop_eq_nil_of_le (by omega)]
    rfl
  · rw [if_neg e]
    rcases Nat.lt_or_ge l.length m.length with h1 | h1
    · rw [List.drop_eq_nil_of_le (by omega : l.length ≤ _), List.drop_eq_getElem_cons (by omega : min l.length m.length < m.length)]
      rfl
    · rw [List.drop_eq_nil_of_le (by omega : m.length ≤ _), List.drop_eq_getElem_cons (by omega : min l.length m.length < l.length)]
      rfl

def atE (t s : Int) : Ev := ⟨t, 1, s, 1, 0, 0⟩
set_option maxRecDepth 100000 in
theorem at_any (t s : Int) (w : World) : Calls Try.prog 9 #[.int .i64 t, .int .i64 s] w fun e w' => e = .returned (atE t s).val ∧ Below w.heap.size w w' := by
  go_enter Try.func9, Try.ntmps9
  go_wp2_with fail
  (try simp only [Exit.inBlock, Exit.then])
  have hew := EW.laid w (atE t s)
  exact bodyPost_ret (v := (atE t s).val) (results_ev1 rfl _ _ _ (atE t s) rfl hew) rfl ⟨rfl, (Below.refl _ _).alloc (Nat.le_refl _) _⟩

set_option maxRecDepth 100000 in
set_option maxHeartbeats 2000000 in
theorem differ_any (w : World) (x y : Ls) (hx : LsAt w w.heap.size x) (hy : LsAt w w.heap.size y) : Calls Try.prog 12 #[x.val, y.val] w fun e w' => e = .returned (.int .i64 (differL x.l y.l 0)) ∧ Below w.heap.size w w' := by
  have hxl := hx.le
  have hxc := hx.cap
  have hyl := hy.le
  have hyc := hy.cap
  unfold maxLen at hxc hyc
  unfold Ls.val
  obtain ⟨n, hn⟩ : ∃ n, min x.l.length y.l.length = n := ⟨_, rfl⟩
  have hnx : n ≤ x.l.length := by omega
  have hny : n ≤ y.l.length := by omega
  have HN := Lib.hid hn
  go_enter Try.func12, Try.ntmps12
  go_wp2_with fail
  rw [show (min (x.l.length : Int) (y.l.length : Int)) = (n : Int) by omega]
  clear hn
  go_loopw [13] (fun i wr => ∃ k : Nat, k ≤ n ∧ i = .int .i64 k ∧ (∀ j, j < k → x.l.getD j evZ = y.l.getD j evZ) ∧ Below w.heap.size w wr) (fun i _ => n - (intOf i).toNat)
  case atStart => exact ⟨0, Nat.zero_le _, rfl, fun j hj => by omega, Below.refl _ _⟩
  case round =>
    obtain ⟨k, hk, rfl, he, hb⟩ := hrel
    have HE := Lib.hid he
    clear he
    by_cases hlt : k < n
    · obtain ⟨b, o, hA, hu⟩ := hx.ev hb (k := k) (by omega)
      obtain ⟨b2, o2, hA2, hv⟩ := hy.ev hb (k := k) (by omega)
      obtain ⟨u, hgu⟩ : ∃ u, x.l.getD k evZ = u := ⟨_, rfl⟩
      obtain ⟨v, hgv⟩ : ∃ v, y.l.getD k evZ = v := ⟨_, rfl⟩
      rw [hgu] at hu
      rw [hgv] at hv
      have HU := Lib.hid hgu
      have HV := Lib.hid hgv
      rw [hA, hA2]
      clear hgu hgv hA hA2
      obtain ⟨c0, c1, c2, c3, c4, c5⟩ := hu
      obtain ⟨d0, d1, d2, d3, d4, d5⟩ := hv
      have hkx : k < x.l.length := by omega
      have hky : k < y.l.length := by omega
      by_cases huv : u = v
      · subst huv
        have hq := fun w => neq_same u w
        unfold Ev.val at hq
        go_wp2_with fail
        go_quiet (fail)
        go_wp2_with fail
        refine ⟨⟨k + 1, by omega, by go_num, fun j hj => ?_, ⟨hb.os, hb.tape, hb.output, hb.size, hb.block⟩⟩, by simp [intOf]; omega⟩
        by_cases e : j = k
        · subst e; rw [HU.out, HV.out]
        · exact HE.out j (by omega)
      · have hq := fun w => neq_other u v huv w
        have H := Lib.hid huv
        unfold Ev.val at hq
        clear huv
        go_wp2_with fail
        go_quiet (fail)
        go_wp2_with fail
        go_ret
        rw [differ_at hkx hky HE.out (by rw [HU.out, HV.out]; exact H.out)]
        exact ⟨rfl, ⟨hb.os, hb.tape, hb.output, hb.size, hb.block⟩⟩
    · obtain rfl : k = n := by omega
      have hd := differ_end (l := x.l) (m := y.l) (fun j hj => HE.out j (by rw [HN.out] at hj; exact hj))
      rw [HN.out] at hd
      by_cases hl : x.l.length = y.l.length
      · rw [if_pos hl] at hd
        have HD := Lib.hid hd
        have hl2 : ((x.l.length : Int) == (y.l.length : Int)) = true := by simp; omega
        have H := Lib.hid hl
        clear hd hl
        rw [H.out]
        rw [H.out] at hl2
        go_wp2_with fail
        go_ret
        rw [HD.out]
        exact ⟨rfl, hb⟩
      · rw [if_neg hl] at hd
        have HD := Lib.hid hd
        have hl2 : ((x.l.length : Int) == (y.l.length : Int)) = false := by simp; omega
        clear hd hl
        go_wp2_with fail
        go_ret
        rw [HD.out]
        exact ⟨rfl, hb⟩
end Go.Proofs.Ythnbpdcjooifbaa
