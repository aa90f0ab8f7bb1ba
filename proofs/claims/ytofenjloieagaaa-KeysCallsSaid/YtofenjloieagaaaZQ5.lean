/-  -/
import Derived.Test.YtofenjloieagaaaZQ4
namespace Go.Proofs.Ytofenjloieagaaa
open Go.RowKit
set_option linter.unusedVariables false
set_option linter.unusedSimpArgs false
namespace H
section
variable {P : Program} {ops : Array Oper} {md : Region.Mode} {T ST : Nat → Bool} {CA CB : World → Prop}

/-- All of T is listed. -/
def Dn (T : Nat → Bool) (listed : Array Bool) : Prop := ∀ t, T t = true → listed.getD t true = true
theorem Dn.set {listed : Array Bool} (h : Dn T listed) (i : Nat) : Dn T (listed.setIfInBounds i true) := fun t ht => by
  by_cases hti : i = t
  · subst hti
    rcases Nat.lt_or_ge i listed.size with h' | h'
    · simp [h']
    · simp [Array.getElem?_eq_none h']
  · rw [getD_set_ne true hti]; exact h t ht
theorem Dn.unset {listed : Array Bool} {i : Nat} (h : Dn T (listed.setIfInBounds i true)) (hi : T i = false) : Dn T listed := fun t ht => by
  have hti : i ≠ t := fun e => by subst e; rw [hi] at ht; cases ht
  have := h t ht
  rwa [getD_set_ne true hti] at this

def cls (T : Nat → Bool) (CA CB : World → Prop) (i : Nat) : World → Prop := if T i = true then CA else CB

def YieldsC (P : Program) (ops : Array Oper) (C0 : World → Prop) (o : Oper) (v : Value) (a : Act) : Prop := M.YieldsC P ops C0 o v a

/-- Operation i, in whatever order. -/
def mOp (P : Program) (ops : Array Oper) (T ST : Nat → Bool) (CA CB : World → Prop) (listed : Array Bool) (i : Nat) (K : Act → (World → Prop) → Prop) (a : Act) (C : World → Prop) : Prop :=
  match ops[i]? with
  | none => K a C
  | some o => if Region.wanted o (yielded ops a.tmps) then (∃ v, M.Calm P (cls T CA CB i) o v a ∧ K (a.put o.dst v) C) ∨ (ST i = true ∧ Dn T listed ∧ ∀ w, C w → Oper.does P o a w fun v w1 => ∃ C1, C1 w1 ∧ M.Closed C1 ∧ (∀ w', C1 w' → CB w') ∧ K (a.put o.dst v) C1) else K (a.put o.dst undef) C

theorem mOp_mono {listed : Array Bool} {i : Nat} {a : Act} {C : World → Prop} {K K' : Act → (World → Prop) → Prop} (h : ∀ a C, K a C → K' a C) (hh : mOp P ops T ST CA CB listed i K a C) : mOp P ops T ST CA CB listed i K' a C := by
  unfold mOp at *
  split
  · exact h _ _ (by simpa [*] using hh)
  · rename_i o ho
    simp only [ho] at hh
    split
    · rename_i hw
      simp only [hw, if_true] at hh
      rcases hh with ⟨v, h1, h2⟩ | ⟨hs, hd, hh⟩
      · exact .inl ⟨v, h1, h _ _ h2⟩
      · exact .inr ⟨hs, hd, fun w hw2 => Oper.does_mono (fun v w1 ⟨C1, h1, h2, h3, h4⟩ => ⟨C1, h1, h2, h3, h _ _ h4⟩) (hh w hw2)⟩
    · rename_i hw; simp only [hw] at hh; exact h _ _ hh

def wpAnyH (P : Program) (md : Region.Mode) (ops : Array Oper) (T ST : Nat → Bool) (CA CB : World → Prop) (F : Act → (World → Prop) → Prop) : Nat → Array Bool → Act → (World → Prop) → Prop
  | 0, listed, a, C => Region.ready md ops listed = [] ∧ F a C
  | fuel + 1, listed, a, C =>
    (Region.ready md ops listed = [] → F a C) ∧
    ∀ i ∈ Region.ready md ops listed, mOp P ops T ST CA CB listed i (wpAnyH P md ops T ST CA CB F fuel (listed.setIfInBounds i true)) a C

theorem wpAny_of_h {F : Act → (World → Prop) → Prop} {Q : Exit → Act → World → Prop} (hF : ∀ a C w, C w → F a C → Q .normal a w) (hAB : ∀ w, CA w → CB w) : ∀ (fuel : Nat) (listed : Array Bool) (a : Act) (C : World → Prop) (w : World), C w → M.Closed C → (∀ w', C w' → CB w') → (¬ Dn T listed → ∀ w', C w' → CA w') →
    wpAnyH P md ops T ST CA CB F fuel listed a C → wpAny P md ops Q fuel listed a w
  | 0, _, _, _, _, hC, _, _, _, h => ⟨h.1, hF _ _ _ hC h.2⟩
  | fuel + 1, listed, a, C, w, hC, hcl, hsub, hA, h => ⟨fun h0 => hF _ _ _ hC (h.1 h0), fun i hi => by
      have hm := h.2 i hi
      have hA' : ¬ Dn T (listed.setIfInBounds i true) → ∀ w', C w' → CA w' := fun hn => hA (fun hd => hn (hd.set i))
      unfold mOp at hm
      unfold wpOp
      split
      · rename_i ho; simp only [ho] at hm; exact wpAny_of_h hF hAB fuel _ _ _ _ hC hcl hsub hA' hm
      · rename_i o ho
        simp only [ho] at hm
        split
        · rename_i hwd
          simp only [hwd, if_true] at hm
          refine .inl ?_
          rcases hm with ⟨v, h1, h2⟩ | ⟨_, hd, hm⟩
          · have hcw : cls T CA CB i w := by
              unfold cls
              split
              · rename_i hT
                refine hA (fun hd => ?_) _ hC
                have h3 := hd i hT
                rw [(mem_ready.1 hi).1] at h3
                cases h3
              · exact hsub _ hC
            exact Oper.wp_of_does (Oper.does_mono (fun u w1 ⟨h3, h4⟩ => by subst h3; exact wpAny_of_h hF hAB fuel _ _ C _ (hcl _ _ hC h4) hcl hsub hA' h2) (h1 _ hcw))
          · exact Oper.wp_of_does (Oper.does_mono (fun v w1 ⟨C1, k1, k2, k3, k4⟩ => wpAny_of_h hF hAB fuel _ _ C1 w1 k1 k2 k3 (fun hn => absurd (hd.set i) hn) k4) (hm w hC))
        · rename_i hwd; simp only [hwd] at hm; exact wpAny_of_h hF hAB fuel _ _ _ _ hC hcl hsub hA' hm⟩

theorem mOp_put {listed : Array Bool} {i j : Nat} {oi oj : Oper} {v : Value} (hj : ops[j]? = some oj) (hap : oi.apart ops oj = true) (hTS : T i = true → ST j = false)
    (hsi : ∀ cs b, oi.op ≠ .select cs b) (hsj : ∀ cs b, oj.op ≠ .select cs b) {K : Act → (World → Prop) → Prop} {a : Act} {C : World → Prop}
    (hy : M.YieldsC P ops (cls T CA CB i) oi v a) (h : mOp P ops T ST CA CB (listed.setIfInBounds i true) j K (a.put oi.dst v) C) :
    mOp P ops T ST CA CB listed j (fun a' C' => M.YieldsC P ops (cls T CA CB i) oi v a' ∧ K (a'.put oi.dst v) C') a C := by
  obtain ⟨h1, h2, h3⟩ := Oper.apart_spec hap
  have keep : ∀ u, M.YieldsC P ops (cls T CA CB i) oi v (a.put oj.dst u) := fun u =>
    hy.of_same (execOp_put oi hsi a oj.dst u h3) (wanted_put oi a oj.dst u h3)
  unfold mOp at *
  simp only [hj] at *
  rw [wanted_put oj a oi.dst v h1] at h
  split
  · rename_i hw
    simp only [hw, if_true] at h
    rcases h with ⟨u, hu, hn⟩ | ⟨hs, hd, h⟩
    · refine .inl ⟨u, fun w hw' => ?_, keep u, by rw [← Act.put_comm a v u h2]; exact hn⟩
      have := hu w hw'
      unfold Oper.does at *
      rwa [execOp_put oj hsj a oi.dst v h1] at this
    · have hTi : T i = false := by
        cases hT : T i
        · rfl
        · rw [hTS hT] at hs; cases hs
      refine .inr ⟨hs, hd.unset hTi, fun wq hwq => ?_⟩
      have h4 := h wq hwq
      unfold Oper.does at h4
      rw [execOp_put oj hsj a oi.dst v h1] at h4
      refine Oper.does_mono (o := oj) (a := a) (w := wq) (n := fun u w1 => ∃ C1, C1 w1 ∧ M.Closed C1 ∧ (∀ w', C1 w' → CB w') ∧ K ((a.put oi.dst v).put oj.dst u) C1) (fun u w1 ⟨C1, k1, k2, k3, hk⟩ => ⟨C1, k1, k2, k3, keep u, by rw [← Act.put_comm a v u h2]; exact hk⟩) h4
  · rename_i hw
    simp only [hw] at h
    exact ⟨keep _, by rw [← Act.put_comm a v undef h2]; exact h⟩

theorem mOp_yield {listed : Array Bool} {i : Nat} {o : Oper} {v : Value} {a : Act} {C : World → Prop} (hi : ops[i]? = some o) (hy : M.YieldsC P ops (cls T CA CB i) o v a) {K : Act → (World → Prop) → Prop} (h : K (a.put o.dst v) C) : mOp P ops T ST CA CB listed i K a C := by
  unfold mOp
  simp only [hi]
  rcases hy with ⟨hw, hv⟩ | ⟨hw, rfl⟩
  · simp only [hw, if_true]; exact .inl ⟨v, hv, h⟩
  · simp only [hw, Bool.false_eq_true, if_false]; exact h

theorem wpAnyH_first {F : Act → (World → Prop) → Prop} {i : Nat} {oi : Oper} {v : Value} (hi : ops[i]? = some oi) (hsel : ∀ (j : Nat) (o : Oper) cs b, ops[j]? = some o → o.op ≠ .select cs b) :
    ∀ (fuel : Nat) (listed : Array Bool) (a : Act) (C : World → Prop),
      (∀ j oj, ops[j]? = some oj → j ≠ i → listed.getD j true = false → (∀ e ∈ oj.after, Region.binds md e = true → e.on ≠ i) → oi.apart ops oj = true ∧ (T i = true → ST j = false)) →
      i ∈ Region.ready md ops listed → M.YieldsC P ops (cls T CA CB i) oi v a →
      wpAnyH P md ops T ST CA CB F fuel (listed.setIfInBounds i true) (a.put oi.dst v) C → wpAnyH P md ops T ST CA CB F (fuel + 1) listed a C := by
  intro fuel
  induction fuel with
  | zero =>
    intro listed a C _ hr hy H
    refine ⟨fun h => (by rw [h] at hr; cases hr), fun j hj => ?_⟩
    by_cases hji : j = i
    · subst hji; exact mOp_yield hi hy H
    · have := ready_mono hj hji
      rw [H.1] at this
      cases this
  | succ fuel ih =>
    intro listed a C hfree hr hy H
    refine ⟨fun h => (by rw [h] at hr; cases hr), fun j hj => ?_⟩
    by_cases hji : j = i
    · subst hji; exact mOp_yield hi hy H
    · have h1 := H.2 j (ready_mono hj hji)
      obtain ⟨hjun, oj, hoj, hall⟩ := mem_ready.1 hj
      have hnot : ∀ e ∈ oj.after, Region.binds md e = true → e.on ≠ i := fun e he hb heq => by
        have h1 := hall e he hb
        have h0 := (mem_ready.1 hr).1
        rw [heq] at h1
        rcases Nat.lt_or_ge i listed.size with h' | h'
        · simp [h'] at h0 h1; rw [h0] at h1; cases h1
        · simp [Array.getElem?_eq_none h'] at h1
      obtain ⟨f1, f2⟩ := hfree j oj hoj hji hjun hnot
      have h2 := mOp_put hoj f1 f2 (fun cs b => hsel i oi cs b hi) (fun cs b => hsel j oj cs b hoj) hy h1
      have hfree' : ∀ k ok, ops[k]? = some ok → k ≠ i → (listed.setIfInBounds j true).getD k true = false →
          (∀ e ∈ ok.after, Region.binds md e = true → e.on ≠ i) → oi.apart ops ok = true ∧ (T i = true → ST k = false) := fun k ok hk hki hun hno => by
        refine hfree k ok hk hki ?_ hno
        by_cases hjk : j = k
        · subst hjk; exact hjun
        · rw [getD_set_ne true hjk] at hun; exact hun
      refine mOp_mono (fun a' C' h3 => ih (listed.setIfInBounds j true) a' C' hfree' (ready_mono hr (Ne.symm hji)) h3.1 ?_) h2
      rw [Array.setIfInBounds_comm _ _ hji]
      exact h3.2

/-- Does every operation of ST that is left bind behind i? -/
def behind (md : Region.Mode) (ops : Array Oper) (ST : Nat → Bool) (listed : Array Bool) (i : Nat) : Bool :=
  (List.range ops.size).all fun j => j == i || listed.getD j true || !ST j || match ops[j]? with
    | some oj => oj.after.any (fun e => Region.binds md e && e.on == i)
    | none => true
theorem behind_spec {i : Nat} {listed : Array Bool} (h : behind md ops ST listed i = true) (j : Nat) (oj : Oper)
    (hj : ops[j]? = some oj) (hne : j ≠ i) (hun : listed.getD j true = false) (hno : ∀ e ∈ oj.after, Region.binds md e = true → e.on ≠ i) : ST j = false := by
  simp only [behind, List.all_eq_true, List.mem_range] at h
  have h1 := h j (Array.getElem?_eq_some_iff.1 hj).1
  rw [hj, hun, beq_eq_false_iff_ne.2 hne] at h1
  simp only [Bool.false_or, Bool.or_eq_true, Bool.not_eq_true'] at h1
  rcases h1 with h1 | h1
  · exact h1
  · exfalso
    obtain ⟨e, he, h2⟩ := Array.any_eq_true'.1 h1
    simp only [Bool.and_eq_true, beq_iff_eq] at h2
    exact hno e he h2.1 h2.2

theorem first_ {F : Act → (World → Prop) → Prop} {C : World → Prop} {i : Nat} {o : Oper} {v : Value} {fuel : Nat} {listed : Array Bool} {a : Act} (hi : ops[i]? = some o) (hs : Region.noSelect ops = true)
    (hr : (Region.ready md ops listed).contains i = true) (hf : Region.free md ops listed i = true) (hb : (!T i || behind md ops ST listed i) = true) (hy : M.YieldsC P ops (cls T CA CB i) o v a)
    (h : wpAnyH P md ops T ST CA CB F fuel (listed.setIfInBounds i true) (a.put o.dst v) C) : wpAnyH P md ops T ST CA CB F (fuel + 1) listed a C :=
  wpAnyH_first hi (Region.noSelect_spec hs) fuel listed a C (fun j oj h1 h2 h3 h4 => ⟨Region.free_spec hi hf j oj h1 h2 h3 h4, fun hT => by rw [hT] at hb; exact behind_spec (by simpa using hb) j oj h1 h2 h3 h4⟩) (by simpa using hr) hy h

/-- WHAT READS, in the class CA. -/
theorem calm_ {F : Act → (World → Prop) → Prop} {C : World → Prop} {i : Nat} {o : Oper} {fuel : Nat} {listed : Array Bool} {a : Act} (v : Value) (hi : ops[i]? = some o) (hs : Region.noSelect ops = true)
    (hr : (Region.ready md ops listed).contains i = true) (hf : Region.free md ops listed i = true) (hT : T i = true) (hb : behind md ops ST listed i = true) (hw : Region.wanted o (yielded ops a.tmps) = true)
    (hc : ∀ w, CA w → Oper.does P o a w fun u w1 => u = v ∧ Save (fun _ => False) w w1)
    (h : wpAnyH P md ops T ST CA CB F fuel (listed.setIfInBounds i true) (a.put o.dst v) C) : wpAnyH P md ops T ST CA CB F (fuel + 1) listed a C :=
  first_ hi hs hr hf (by rw [hb]; simp) (.inl ⟨hw, by unfold cls; rw [if_pos hT]; exact hc⟩) h

/-- WHAT IS THE SAME WHATEVER IS STORED, in the class CB. -/
theorem any_ {F : Act → (World → Prop) → Prop} {C : World → Prop} {i : Nat} {o : Oper} {fuel : Nat} {listed : Array Bool} {a : Act} (v : Value) (hi : ops[i]? = some o) (hs : Region.noSelect ops = true)
    (hr : (Region.ready md ops listed).contains i = true) (hf : Region.free md ops listed i = true) (hT : T i = false) (hw : Region.wanted o (yielded ops a.tmps) = true)
    (hc : ∀ w, CB w → Oper.does P o a w fun u w1 => u = v ∧ Save (fun _ => False) w w1)
    (h : wpAnyH P md ops T ST CA CB F fuel (listed.setIfInBounds i true) (a.put o.dst v) C) : wpAnyH P md ops T ST CA CB F (fuel + 1) listed a C :=
  first_ hi hs hr hf (by rw [hT]; rfl) (.inl ⟨hw, by unfold cls; rw [hT]; exact hc⟩) h

/-- A STORE: all that may come up now are stores; each leads to a class within CB. -/
theorem store_ {F : Act → (World → Prop) → Prop} {C : World → Prop} {fuel : Nat} {listed : Array Bool} {a : Act} (l : List Nat) (hr : (Region.ready md ops listed == l) = true) (hne : l ≠ [])
    (h : ∀ i ∈ l, mOp P ops T ST CA CB listed i (wpAnyH P md ops T ST CA CB F fuel (listed.setIfInBounds i true)) a C) : wpAnyH P md ops T ST CA CB F (fuel + 1) listed a C := by
  have hr' : Region.ready md ops listed = l := by simpa using hr
  refine ⟨fun h0 => absurd (hr'.symm.trans h0) hne, fun i hi => h i (by rw [← hr']; exact hi)⟩
/-- One of them. -/
theorem one_ {C : World → Prop} {i : Nat} {o : Oper} {listed : Array Bool} {a : Act} {K : Act → (World → Prop) → Prop} (hi : ops[i]? = some o) (hs : ST i = true) (hd : Dn T listed) (hw : Region.wanted o (yielded ops a.tmps) = true)
    (h : ∀ w, C w → Oper.does P o a w fun v w1 => ∃ C1, C1 w1 ∧ M.Closed C1 ∧ (∀ w', C1 w' → CB w') ∧ K (a.put o.dst v) C1) : mOp P ops T ST CA CB listed i K a C := by
  unfold mOp; simp only [hi, hw, if_true]; exact .inr ⟨hs, hd, h⟩

theorem end_ {F : Act → (World → Prop) → Prop} {C : World → Prop} {listed : Array Bool} {a : Act} (hr : (Region.ready md ops listed).isEmpty = true) (h : F a C) : wpAnyH P md ops T ST CA CB F 0 listed a C := ⟨by simpa using hr, h⟩

/-- THE REGION. -/
theorem region_ {id : Nat} {Q : Exit → Act → World → Prop} {a : Act} {w : World} (T ST : Nat → Bool) (CA CB : World → Prop) (hc : M.Closed CA) (hAB : ∀ w, CA w → CB w) (h0 : ∀ n, CA { w with drawn := n }) (hm : P.follows .mixedOrders = true)
    (H : wpAnyH P .any ops T ST CA CB (fun a' C => ∀ w', C w' → Q .normal a' w') ops.size (Array.replicate ops.size false) a CA) : (Code.region id ops true).wp P Q a w :=
  wp_region_any hm (wpAny_of_h (fun _ _ w' hw' hF => hF w' hw') hAB _ _ _ _ _ (h0 _) hc hAB (fun _ _ h => h) H)
end
end H
end Go.Proofs.Ytofenjloieagaaa
