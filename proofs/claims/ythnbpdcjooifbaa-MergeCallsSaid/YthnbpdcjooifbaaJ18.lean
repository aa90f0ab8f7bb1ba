/-    -/
import Derived.Test.YthnbpdcjooifbaaJ17
import Derived.Test.YthnbpdcjooifbaaJ15
import Derived.Maps.OwnOps
import Derived.Maps.Views
import Derived.Test.YthnbpdcjooifbaaJ13
namespace Go.Proofs.Ythnbpdcjooifbaa
open Go.RowKit
set_option linter.unusedSimpArgs false
set_option linter.unusedVariables false

set_option maxRecDepth 100000 in
theorem evclone_any (w : World) (x : Ls) (h : LsAt w w.heap.size x) (hn : x.A = none → x.c = 0) (hN : x.l.length ≤ 1048576) :
    Calls Try.prog 65 #[x.val] w fun e w' => ∃ v, e = .returned v ∧ w'.ownsRow w.heap.size 23 6 v x.l.length (rowV x.l) ∧ Below w.heap.size w w' := by
  have hcap := h.cap
  have hle := h.le
  unfold maxLen at hcap
  cases hA : x.A with
  | none =>
    have hl : x.l = [] := by
      by_cases h0 : 0 < x.l.length
      · obtain ⟨b, o, e, _⟩ := h.at_ h0
        rw [hA] at e; cases e
      · exact List.eq_nil_of_length_eq_zero (by omega)
    have hc := hn hA
    unfold Ls.val
    rw [hA, hl, hc]
    show Calls Try.prog 65 #[.slice none 0 0] w _
    have he : ∀ w : World, (binOp .eql 25 (.slice none 0 0) (.slice none 0 0)).run Try.prog w = .ok (.bool true) w := fun _ => rfl
    go_enter Try.func65, Try.ntmps65
    go_wp2_with fail
    go_ret
    exact ⟨_, rfl, World.ownsRow_nil _ _ _ _, Below.refl _ _⟩
  | some ad =>
    have hr : LsAt (w.alloc (.cells #[] 23)) w.heap.size x := h.keep fun k hk => ((Below.refl w.heap.size w).alloc (Nat.le_refl _) _).block k hk
    have how : (w.alloc (.cells #[] 23)).ownsRow w.heap.size 23 6 (.slice (some ⟨w.heap.size, 0, none⟩) 0 0) 0 [] := World.ownsRow_made w #[] 0 (Nat.le_refl _) (by decide) rfl
    have HR := Lib.hid hr
    have HW := Lib.hid how
    have HA := Lib.hid hA
    clear hr how h
    unfold Ls.val
    rw [hA]
    clear hA
    have he : ∀ w : World, (binOp .eql 25 (.slice (some ad) x.l.length x.c) (.slice none 0 0)).run Try.prog w = .ok (.bool false) w := fun _ => rfl
    go_enter Try.func65, Try.ntmps65
    go_wp2_with (at_builtin; refine wpList_append_ls rfl (.tmp 5) (.tmp 6) 25 rfl Try.underlying25 w.heap.size _ [] rfl HW.out w.heap.size x (by unfold Ls.val; rw [HA.out]; rfl) HR.out hn (by simp only [List.length_append, List.length_nil]; omega) (by simp) ?_; intro v1 wa hown1 hg1; have HO := Lib.hid hown1; have HB := Lib.hid (show Below w.heap.size w wa from ((Below.refl w.heap.size w).alloc (Nat.le_refl _) _).grown hg1 (by simp) (fun k hk => by obtain rfl := Option.some.inj hk; exact Nat.le_refl _)); clear hown1 hg1)
    go_ret
    exact ⟨_, rfl, by have := HO.out; simpa using this, HB.out⟩

/-- How many events of a chip there are. -/
def cc (M : List Ev) (c : Int) : Int := (M.countP (onChip c) : Nat)
theorem cc_le (M : List Ev) (c : Int) : 0 ≤ cc M c ∧ cc M c ≤ M.length := ⟨by unfold cc; omega, by unfold cc; have := List.countP_le_length (p := onChip c) (l := M); omega⟩
theorem cc_take (M : List Ev) (k : Nat) (c : Int) (hk : k < M.length) : cc (M.take (k + 1)) c = cc (M.take k) c + (if (M.getD k evZ).chip = c then 1 else 0) := by
  unfold cc
  rw [List.take_succ_eq_append_getElem hk, List.countP_append, List.getD_eq_getElem?_getD, List.getElem?_eq_getElem hk]
  simp only [Option.getD_some, List.countP_cons, List.countP_nil, onChip, beq_iff_eq]
  split <;> simp
def numAt (l : List Ev) (i : Nat) : Ev := { l.getD i evZ with seq := cc (l.take i) (l.getD i evZ).chip }
def numTo (l : List Ev) (k : Nat) : List Ev := (List.range l.length).map fun i => if i < k then numAt l i else l.getD i evZ
theorem numTo_len (l : List Ev) (k : Nat) : (numTo l k).length = l.length := by simp [numTo]
theorem numTo_zero (l : List Ev) : numTo l 0 = l := by
  apply List.ext_getElem
  · simp [numTo]
  · intro i h1 h2
    simp [numTo, h2]
theorem numTo_at (l : List Ev) (k i : Nat) (hi : i < l.length) : (numTo l k).getD i evZ = if i < k then numAt l i else l.getD i evZ := by
  rw [List.getD_eq_getElem?_getD]
  simp [numTo, hi]
theorem numTo_succ (l : List Ev) (k : Nat) (hk : k < l.length) : numTo l (k + 1) = (numTo l k).set k { (numTo l k).getD k evZ with seq := cc (l.take k) (l.getD k evZ).chip } := by
  rw [numTo_at l k k hk, if_neg (Nat.lt_irrefl k)]
  apply List.ext_getElem
  · simp [numTo]
  · intro i h1 h2
    have hi : i < l.length := by simpa [numTo] using h1
    rw [List.getElem_set]
    by_cases e : k = i
    · subst e
      rw [if_pos rfl]
      simp [numTo]
      rfl
    · rw [if_neg e]
      simp only [numTo, List.getElem_map, List.getElem_range]
      by_cases e2 : i < k
      · rw [if_pos (by omega), if_pos e2]
      · rw [if_neg (by omega), if_neg e2]
theorem rowV_set : ∀ (M : List Ev) (i : Nat) (s : Int), i < M.length → (rowV M).set (i * 6 + 2) (.int .i64 s) = rowV (M.set i { M.getD i evZ with seq := s })
  | [], i, s, h => by simp at h
  | y :: t, 0, s, _ => by
    obtain ⟨a, b, c, d, e, f⟩ := y
    rfl
  | y :: t, i + 1, s, h => by
    have ih := rowV_set t i s (by simpa using h)
    have e1 : rowV (y :: t) = y.cells ++ rowV t := rfl
    have e2 : (y :: t).set (i + 1) { (y :: t).getD (i + 1) evZ with seq := s } = y :: t.set i { t.getD i evZ with seq := s } := by simp
    have e3 : rowV (y :: t.set i { t.getD i evZ with seq := s }) = y.cells ++ rowV (t.set i { t.getD i evZ with seq := s }) := rfl
    rw [e1, e2, e3, ← ih, show (i + 1) * 6 + 2 = i * 6 + 2 + 6 by omega]
    rfl
end Go.Proofs.Ythnbpdcjooifbaa
namespace Go.Proofs.Ythnbpdcjooifbaa
open Go.RowKit Go.Maps
set_option linter.unusedSimpArgs false
set_option linter.unusedVariables false

theorem keyedI : Keyed Try.prog 3 := int_keyed Try.underlying3
theorem zero64 (w : World) : (zeroValue 2).run Try.prog w = .ok (.int .i64 0) w := by kernel_rfl

/-- The map after k rounds. -/
def AheadRel (l : List Ev) (k : Nat) (D : DataW Unit) : Prop := IsMap D ∧ ∀ c : Int, D.atKey (.int .i64 c) (.lit (.int .i64 0)) = .lit (.int .i64 (cc (l.take k) c))
theorem AheadRel.start (l : List Ev) : AheadRel l 0 (.map []) := ⟨isMap_empty, fun c => rfl⟩
theorem AheadRel.step {l : List Ev} {k : Nat} {D : DataW Unit} (h : AheadRel l k D) (hk : k < l.length) :
    AheadRel l (k + 1) (D.put (.int .i64 (l.getD k evZ).chip) (.lit (.int .i64 (cc (l.take k) (l.getD k evZ).chip + 1)))) := by
  refine ⟨h.1.put _ _, fun c => ?_⟩
  rw [cc_take l k c hk]
  by_cases e : (l.getD k evZ).chip = c
  · subst e
    rw [if_pos rfl, atKey_put_same h.1 (by simp [WideAt.IsKeyLit])]
  · rw [if_neg e, Int.add_zero, atKey_put_other (fun e2 => e (by injection e2 with _ e3; exact e3.symm)), h.2]

set_option maxRecDepth 100000 in
set_option maxHeartbeats 4000000 in
theorem evnumber_any (w : World) (x : Ls) (h : LsAt w w.heap.size x) (hw : ∀ e ∈ x.l, e.wf) (hn : x.A = none → x.c = 0) (hN : x.l.length ≤ 1048576) :
    Calls Try.prog 33 #[x.val] w (ListTo w (numTo x.l x.l.length)) := by
  have hcap := h.cap
  have hle := h.le
  unfold maxLen at hcap
  have HCL := Lib.hid (evclone_any w x h hn hN)
  have hmm := @run_makeMap Try.prog
  have HW := Lib.hid hw
  have HL := Lib.hid h
  unfold Ls.val at HCL ⊢
  clear h hw
  go_enter Try.func33, Try.ntmps33
  go_wp2_with fail
  refine HCL.out.mono ?_
  rintro e w1 ⟨v, rfl, hv, b1⟩
  have h1s := b1.size
  have HV := Lib.hid hv
  have HB1 := Lib.hid b1
  clear hv b1
  go_wp2_with fail
  have hm0 : (w1.alloc (.map #[] 0)).ownsMap Try.prog 3 (plainElem (H := Unit) Try.prog 2) w1.heap.size 0 (.map []) := World.ownsMap_made _ _ _ _
  have hbm : Below w.heap.size w (w1.alloc (.map #[] 0)) := HB1.out.alloc HB1.out.size _
  have hrm : (w1.alloc (.map #[] 0)).ownsRow w.heap.size 23 6 v x.l.length (rowV (numTo x.l 0)) := by rw [numTo_zero]; exact HV.out.alloc _
  have HM0 := Lib.hid hm0
  have HBM := Lib.hid hbm
  have HRM := Lib.hid hrm
  clear hm0 hbm hrm hmm
  go_loopw [12] (fun i wr => ∃ k : Nat, k ≤ x.l.length ∧ i = .int .i64 k ∧ wr.ownsRow w.heap.size 23 6 v x.l.length (rowV (numTo x.l k)) ∧ (∃ D, AheadRel x.l k D ∧ wr.ownsMap Try.prog 3 (plainElem (H := Unit) Try.prog 2) w1.heap.size k D) ∧ Below w.heap.size w wr) (fun i _ => x.l.length - (intOf i).toNat)
  case atStart => exact ⟨0, Nat.zero_le _, rfl, HRM.out, ⟨_, AheadRel.start _, HM0.out⟩, HBM.out⟩
  case round =>
    obtain ⟨k, hk, rfl, hr, ⟨D, hD, hm⟩, hb⟩ := hrel
    by_cases hlt : k < x.l.length
    · rcases hr.2 with ⟨_, h2⟩ | ⟨g, cap, cur, rfl, hg, _, hnc, hcm, _⟩
      · omega
      · obtain ⟨b, o, hA, hb1, hat⟩ := HL.out.at_ (by omega)
        have hu := (hat k hlt).keep (hb.block b hb1)
        obtain ⟨y, hy⟩ : ∃ y, x.l.getD k evZ = y := ⟨_, rfl⟩
        rw [show x.l.getD k ⟨0, 0, 0, 0, 0, 0⟩ = y from hy] at hu
        have hwf : y.wf := by rw [← hy, getD_at x.l k hlt]; exact HW.out _ (List.getElem_mem hlt)
        have hkey : keyOf Try.prog 3 (.int .i64 y.chip) = some (.int .i64 y.chip) := keyOf_int_mk Try.underlying3 (WalkArith.wf_i64 (by have := hwf.c; omega))
        have hstep := hD.step hlt
        have hsucc := numTo_succ x.l k hlt
        rw [hy] at hstep hsucc
        obtain ⟨d0, d1, d2, d3, d4, d5⟩ := hu
        have hsz := hb.size
        have hgl := (hr.lt g rfl).2
        have hml := hm.lt
        have hgm : g ≠ w1.heap.size := by
          intro e
          obtain ⟨es, clock, hbk, _⟩ := hm
          rcases hr.2 with ⟨e1, _⟩ | ⟨g2, cap2, cur2, e1, _, e3, _⟩
          · cases e1
          · injection e1 with e1 _ _
            injection e1 with e1
            injection e1 with e1
            rw [← e1, e, hbk] at e3
            cases e3
        have hr1 := hr.alloc (evO y)
        have hm1 := hm.alloc (evO y)
        have hfz := hr1.frozenAt (k * 6 + 2)
        have hce := (hr1.cellAt (k * 6 + 2) (by omega)).trans (row_get _ k 2 (by rw [numTo_len]; exact hlt) (by decide))
        obtain ⟨u, hu⟩ : ∃ u, ((numTo x.l k).getD k evZ).cells[2]? = some u := ⟨_, rfl⟩
        rw [hu] at hce
        obtain ⟨s0, s1, s2, s3, s4, s5⟩ := EV.laid wr y
        have HR1 := Lib.hid hr
        have HM1 := Lib.hid hm1
        have HM0 := Lib.hid hm
        have HD := Lib.hid hD
        have HST := Lib.hid hstep
        have HSU := Lib.hid hsucc
        have HS := Lib.hid (EV.laid wr y)
        clear hat hy hwf hstep hsucc hr hm hr1 hm1 hD hu
        unfold evO at hfz hce s0 s1 s2 s3 s4 s5
        rw [hA]
        go_upto_region 7 with (at_lookup; refine wpList_lookup_own_int _ rfl _ _ 79 rfl 3 2 .i64 keyedI Try.underlying79 Try.underlying2 (zero64 _) w1.heap.size k D rfl HM1.out _ _ rfl hkey ?_; intro c hat hwc; have HAT := Lib.hid hat; clear hat)
        have hc : c = cc (x.l.take k) y.chip := by
          have h2 := HAT.out
          rw [HD.out.2] at h2
          injection h2 with h2
          injection h2 with _ h2
          exact h2.symm
        subst hc
        have hcl := cc_le (x.l.take k) y.chip
        have htl : (x.l.take k).length ≤ k := by simp; omega
        obtain ⟨w6, hw6⟩ : ∃ w6, (wr.setCell ⟨g, k * 6 + 2, none⟩ (.int .i64 (cc (x.l.take k) y.chip))).alloc (.cells #[.int .i64 y.time, .int .i64 y.chip, .int .i64 y.seq, .int .i64 y.kind, .int .i64 y.a, .int .i64 y.b] 23) = w6 := ⟨_, rfl⟩
        obtain ⟨hr5, hg5⟩ := HR1.out.stored (k * 6 + 2) (.int .i64 (cc (x.l.take k) y.chip))
        rw [rowV_set _ k _ (by rw [numTo_len]; exact hlt), ← HSU.out] at hr5
        have hm5 := HM0.out.kept hg5 (fun e => hgm (Option.some.inj e).symm)
        have hb5 : Below w.heap.size w (wr.setCell ⟨g, k * 6 + 2, none⟩ (.int .i64 (cc (x.l.take k) y.chip))) := hb.grown hg5 hsz (fun j e => by obtain rfl := Option.some.inj e; exact hg)
        have hr6 := hr5.alloc (evO y)
        have hm6 := hm5.alloc (evO y)
        have hb6 := hb5.alloc hb5.size (evO y)
        have hL6 := EV.laid (wr.setCell ⟨g, k * 6 + 2, none⟩ (.int .i64 (cc (x.l.take k) y.chip))) y
        rw [show (wr.setCell ⟨g, k * 6 + 2, none⟩ (.int .i64 (cc (x.l.take k) y.chip))).heap.size = wr.heap.size by simp] at hL6
        unfold evO at hr6 hm6 hb6 hL6
        rw [hw6] at hr6 hm6 hb6 hL6
        have t1 := hL6.c1
        rw [hw6]
        have HR6 := Lib.hid hr6
        have HM6 := Lib.hid hm6
        clear hw6 hr5 hm5 hg5 hb5 hL6 hr6 hm6 hfz hce s0 s1 s2 s3 s4 s5
        go_wp2_with (first
          | (at_lookup; refine wpList_lookup_own_int _ rfl _ _ 79 rfl 3 2 .i64 keyedI Try.underlying79 Try.underlying2 (zero64 _) w1.heap.size k D rfl HM6.out _ _ rfl hkey ?_; intro c2 hat2 hwc2; (obtain rfl : c2 = cc (x.l.take k) y.chip := by (rw [HD.out.2] at hat2; injection hat2 with h2; injection h2 with _ h2; exact h2.symm)); clear hat2)
          | (at_mapUpdate; refine wpList_mapUpdate_own _ rfl _ _ _ 79 rfl 3 2 keyedI Try.underlying79 _ w1.heap.size k D rfl HM6.out (by unfold maxLen; omega) _ _ _ rfl rfl hkey _ [] (plainElem_int Try.underlying2 (WalkArith.wf_i64 (by omega))) ?_; intro w7 hm7 hg7; have HM7 := Lib.hid hm7; have HR7 := Lib.hid (HR6.out.kept hg7 (.inr (fun e => hgm (by simpa [Value.ownBlock] using e)))); have hb7 := hb6.grown hg7 hb6.size (fun j e => by obtain rfl := Option.some.inj e; exact h1s); clear hm7 hg7))
        refine ⟨⟨k + 1, by omega, by go_num, HR7.out, ⟨_, HST.out, HM7.out⟩, hb7⟩, by simp [intOf]; omega⟩
    · obtain rfl : k = x.l.length := by omega
      have hF : ListTo w (numTo x.l x.l.length) (.returned v) wr := by
        have hr2 : wr.ownsRow w.heap.size 23 6 v (numTo x.l x.l.length).length (rowV (numTo x.l x.l.length)) := by rw [numTo_len]; exact hr
        obtain ⟨y, h1, h2, h3⟩ := row_to_ls hr2
        exact ⟨y, by rw [h1], h2, h3, hb⟩
      have HF := Lib.hid hF
      clear hF hr hD hm
      go_wp2_with fail
      go_ret
      exact HF.out
end Go.Proofs.Ythnbpdcjooifbaa
namespace Go.Proofs.Ythnbpdcjooifbaa
open Go.RowKit
set_option linter.unusedSimpArgs false
set_option linter.unusedVariables false

theorem ole_time {x y : Ev} (h : ole x y) : x.time ≤ y.time := by
  by_cases e : x.time = y.time
  · omega
  · have h1 := ord_time x y e
    unfold ole at h
    by_cases e2 : ordE x y = 0
    · exact absurd (congrArg Ev.time ((ord_zero x y).1 e2)) e
    · have := h1.1 (by omega)
      omega
theorem good_times {l : List Ev} (h : Good l) : l.Pairwise fun x y => x.time ≤ y.time := (good_sorted h).imp fun h => ole_time h.1
theorem cut_all (t : Int) : ∀ l : List Ev, (l.Pairwise fun x y => x.time ≤ y.time) → l.filter (aheadOf t) ++ l.filter (behindOf t) = l
  | [], _ => rfl
  | x :: l, h => by
    obtain ⟨h1, h2⟩ := List.pairwise_cons.1 h
    have ih := cut_all t l h2
    by_cases hx : x.time < t
    · have e1 : aheadOf t x = true := decide_eq_true hx
      have e2 : behindOf t x = false := decide_eq_false (by omega)
      rw [List.filter_cons_of_pos e1, List.filter_cons_of_neg (by rw [e2]; decide), List.cons_append, ih]
    · have e1 : aheadOf t x = false := decide_eq_false hx
      have e2 : behindOf t x = true := decide_eq_true (by omega)
      have e3 : l.filter (aheadOf t) = [] := List.filter_eq_nil_iff.2 fun y hy => by
        have := h1 y hy
        have e4 : aheadOf t y = false := decide_eq_false (by omega)
        rw [e4]; decide
      rw [e3, List.nil_append] at ih
      rw [List.filter_cons_of_neg (by rw [e1]; decide), List.filter_cons_of_pos e2, e3, List.nil_append, ih]
theorem filter_at {p : Ev → Bool} {l : List Ev} {i : Nat} (h : i < (l.filter p).length) : p ((l.filter p).getD i evZ) = true := by
  rw [List.getD_eq_getElem?_getD, List.getElem?_eq_getElem h]
  exact (List.mem_filter.1 (List.getElem_mem h)).2

/-- What differL says. -/
structure Diff (l m : List Ev) (k : Nat) : Prop where
  le1 : k ≤ l.length
  le2 : k ≤ m.length
  same : l.take k = m.take k
  not : k < l.length → k < m.length → l.getD k evZ ≠ m.getD k evZ
theorem take_same {l m : List Ev} {k : Nat} (h1 : k ≤ l.length) (h2 : k ≤ m.length) (h : ∀ j, j < k → l.getD j evZ = m.getD j evZ) : l.take k = m.take k := by
  apply List.ext_getElem
  · simp; omega
  · intro i h3 h4
    have hi : i < k := by simp at h3; omega
    have := h i hi
    rw [List.getD_eq_getElem?_getD, List.getElem?_eq_getElem (by omega), List.getD_eq_getElem?_getD, List.getElem?_eq_getElem (by omega)] at this
    simpa using this
theorem first_diff (l m : List Ev) : ∀ n : Nat, (∀ j, j < n → l.getD j evZ = m.getD j evZ) ∨ ∃ k, k < n ∧ (∀ j, j < k → l.getD j evZ = m.getD j evZ) ∧ l.getD k evZ ≠ m.getD k evZ
  | 0 => .inl fun j h => by omega
  | n + 1 => by
    rcases first_diff l m n with h | ⟨k, h1, h2, h3⟩
    · by_cases e : l.getD n evZ = m.getD n evZ
      · left
        intro j hj
        by_cases e2 : j = n
        · subst e2; exact e
        · exact h j (by omega)
      · exact .inr ⟨n, by omega, h, e⟩
    · exact .inr ⟨k, by omega, h2, h3⟩
theorem diff_says (l m : List Ev) : (differL l m 0 = -1 ∧ l = m) ∨ ∃ k : Nat, differL l m 0 = k ∧ differL m l 0 = k ∧ Diff l m k := by
  rcases first_diff l m (min l.length m.length) with h | ⟨k, h1, h2, h3⟩
  · have e1 := differ_end h
    have h' : ∀ j, j < min m.length l.length → m.getD j evZ = l.getD j evZ := fun j hj => (h j (by rw [Nat.min_comm]; exact hj)).symm
    have e2 := differ_end h'
    by_cases e : l.length = m.length
    · left
      rw [if_pos e] at e1
      refine ⟨e1, ?_⟩
      have := take_same (l := l) (m := m) (k := l.length) (Nat.le_refl _) (by omega) (fun j hj => h j (by omega))
      rw [List.take_length] at this
      rw [this, List.take_of_length_le (by omega)]
    · right
      rw [if_neg e] at e1
      rw [if_neg (fun h => e h.symm), Nat.min_comm] at e2
      exact ⟨_, e1, e2, Nat.min_le_left _ _, Nat.min_le_right _ _, take_same (Nat.min_le_left _ _) (Nat.min_le_right _ _) h, fun a b => absurd a (by omega)⟩
  · right
    have a1 : k < l.length := by omega
    have a2 : k < m.length := by omega
    exact ⟨k, differ_at a1 a2 h2 h3, differ_at a2 a1 (fun j hj => (h2 j hj).symm) (fun e => h3 e.symm), by omega, by omega, take_same (by omega) (by omega) h2, fun _ _ => h3⟩

/-- What is numbered: a chip's events are numbered from 0 on. -/
def numL (l : List Ev) : List Ev := numTo l l.length
theorem numL_len (l : List Ev) : (numL l).length = l.length := numTo_len _ _
theorem numL_at (l : List Ev) (i : Nat) (hi : i < l.length) : (numL l).getD i evZ = numAt l i := by unfold numL; rw [numTo_at l _ i hi, if_pos hi]
theorem numL_part (l : List Ev) (c : Int) : ∀ k : Nat, k ≤ l.length → (((numL l).take k).filter (onChip c)).length = cc (l.take k) c ∧ ∀ i, i < (((numL l).take k).filter (onChip c)).length → ((((numL l).take k).filter (onChip c)).getD i evZ).seq = i
  | 0, _ => ⟨by simp [cc], fun i h => by simp at h⟩
  | k + 1, hk => by
    obtain ⟨h1, h2⟩ := numL_part l c k (by omega)
    have hkl : k < l.length := by omega
    have hf := filter_take (onChip c) (numL l) k (by rw [numL_len]; exact hkl)
    have hat := numL_at l k hkl
    have hcc := cc_take l k c hkl
    have hchip : (numAt l k).chip = (l.getD k evZ).chip := rfl
    rw [hat] at hf
    by_cases e : (l.getD k evZ).chip = c
    · have e1 : onChip c (numAt l k) = true := by unfold onChip; rw [hchip, e]; simp
      rw [if_pos e1] at hf
      rw [if_pos e] at hcc
      rw [hf, hcc]
      refine ⟨by rw [List.length_append]; simp; omega, fun i hi => ?_⟩
      by_cases e2 : i < (((numL l).take k).filter (onChip c)).length
      · have := h2 i e2
        rw [List.getD_eq_getElem?_getD, List.getElem?_append_left e2]
        rwa [List.getD_eq_getElem?_getD] at this
      · have e3 : i = (((numL l).take k).filter (onChip c)).length := by rw [List.length_append] at hi; simp at hi; omega
        rw [List.getD_eq_getElem?_getD, List.getElem?_append_right (by omega), e3, Nat.sub_self]
        show (numAt l k).seq = _
        rw [h1, ← e]
        rfl
    · have e1 : onChip c (numAt l k) = false := by unfold onChip; rw [hchip]; simpa using e
      rw [if_neg (by rw [e1]; decide), List.append_nil] at hf
      rw [if_neg e, Int.add_zero] at hcc
      rw [hf, hcc]
      exact ⟨h1, h2⟩
theorem numL_seq (l : List Ev) (c : Int) (i : Nat) (h : i < ((numL l).filter (onChip c)).length) : (((numL l).filter (onChip c)).getD i evZ).seq = i := by
  have h1 := (numL_part l c l.length (Nat.le_refl _)).2 i
  rw [show (numL l).take l.length = numL l from List.take_of_length_le (by rw [numL_len]; exact Nat.le_refl _)] at h1
  exact h1 h
end Go.Proofs.Ythnbpdcjooifbaa
