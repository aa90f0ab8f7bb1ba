/-  -/
import Derived.Test.YtofenjloieagaaaZQ
namespace Go.Proofs.Ytofenjloieagaaa
open Go.RowKit

theorem Save.mono {S S' : Nat → Prop} {w w' : World} (h : Save S w w') (hS : ∀ k, S k → S' k) : Save S' w w' := ⟨h.os, h.tape, h.output, h.size, fun k hk hs => h.block k hk (fun h' => hs (hS k h'))⟩

namespace L
section
variable {P : Program} {ops : Array Oper} {md : Region.Mode}

/-- In every world that may come it yields v and turns nothing. -/
def Calm (P : Program) (S : Nat → Prop) (o : Oper) (v : Value) (a : Act) (b : World) : Prop :=
  ∀ w, Save S b w → Oper.does P o a w fun u w1 => u = v ∧ Save (fun _ => False) w w1

/-- It yields v, or it is not wanted. -/
def YieldsC (P : Program) (ops : Array Oper) (S : Nat → Prop) (o : Oper) (v : Value) (a : Act) (b : World) : Prop :=
  (Region.wanted o (yielded ops a.tmps) = true ∧ Calm P S o v a b) ∨ (Region.wanted o (yielded ops a.tmps) = false ∧ v = undef)

theorem YieldsC.of_same {S : Nat → Prop} {o : Oper} {v : Value} {a a' : Act} {b : World} (hy : YieldsC P ops S o v a b) (he : execOp a'.eval o = execOp a.eval o)
    (hw : Region.wanted o (yielded ops a'.tmps) = Region.wanted o (yielded ops a.tmps)) : YieldsC P ops S o v a' b := by
  unfold YieldsC Calm Oper.does at *
  rw [he, hw]
  exact hy

/-- What holds of a class of worlds holds of a smaller one. -/
theorem YieldsC.later {S S' : Nat → Prop} {o : Oper} {v : Value} {a : Act} {b b' : World} (hy : YieldsC P ops S o v a b) (h : ∀ w, Save S' b' w → Save S b w) : YieldsC P ops S' o v a b' := by
  rcases hy with ⟨h1, h2⟩ | hy
  · exact .inl ⟨h1, fun w hw => h2 w (h w hw)⟩
  · exact .inr hy

/-- Operation i in the worlds that may come behind b: it is calm; or it leaves a world behind which fewer may come. -/
def mOp (P : Program) (ops : Array Oper) (i : Nat) (K : Act → (Nat → Prop) → World → Prop) (a : Act) (S : Nat → Prop) (b : World) : Prop :=
  match ops[i]? with
  | none => K a S b
  | some o => if Region.wanted o (yielded ops a.tmps) then (∃ v, Calm P S o v a b ∧ K (a.put o.dst v) S b) ∨ (∀ w, Save S b w → Oper.does P o a w fun v w1 => ∃ S1, (∀ w', Save S1 w1 w' → Save S b w') ∧ K (a.put o.dst v) S1 w1) else K (a.put o.dst undef) S b

theorem mOp_mono {i : Nat} {a : Act} {S : Nat → Prop} {b : World} {K K' : Act → (Nat → Prop) → World → Prop} (h : ∀ a S w, K a S w → K' a S w) (hh : mOp P ops i K a S b) : mOp P ops i K' a S b := by
  unfold mOp at *
  split
  · exact h _ _ _ (by simpa [*] using hh)
  · rename_i o ho
    simp only [ho] at hh
    split
    · rename_i hw
      simp only [hw, if_true] at hh
      rcases hh with ⟨v, h1, h2⟩ | hh
      · exact .inl ⟨v, h1, h _ _ _ h2⟩
      · exact .inr fun w hw2 => Oper.does_mono (fun v w1 ⟨S1, h1, h2⟩ => ⟨S1, h1, h _ _ _ h2⟩) (hh w hw2)
    · rename_i hw; simp only [hw] at hh; exact h _ _ _ hh

/-- Whatever order is picked from here on. -/
def wpAnyM (P : Program) (md : Region.Mode) (ops : Array Oper) (F : Act → (Nat → Prop) → World → Prop) : Nat → Array Bool → Act → (Nat → Prop) → World → Prop
  | 0, listed, a, S, b => Region.ready md ops listed = [] ∧ F a S b
  | fuel + 1, listed, a, S, b =>
    (Region.ready md ops listed = [] → F a S b) ∧
    ∀ i ∈ Region.ready md ops listed, mOp P ops i (wpAnyM P md ops F fuel (listed.setIfInBounds i true)) a S b

theorem wpAny_of_m {F : Act → (Nat → Prop) → World → Prop} {Q : Exit → Act → World → Prop} (hF : ∀ a S b w, Save S b w → F a S b → Q .normal a w) : ∀ (fuel : Nat) (listed : Array Bool) (a : Act) (S : Nat → Prop) (b w : World), Save S b w →
    wpAnyM P md ops F fuel listed a S b → wpAny P md ops Q fuel listed a w
  | 0, _, _, S, b, w, hsv, h => ⟨h.1, hF _ _ _ _ hsv h.2⟩
  | fuel + 1, listed, a, S, b, w, hsv, h => ⟨fun h0 => hF _ _ _ _ hsv (h.1 h0), fun i hi => by
      have hm := h.2 i hi
      unfold mOp at hm
      unfold wpOp
      split
      · rename_i ho; simp only [ho] at hm; exact wpAny_of_m hF fuel _ _ _ _ _ hsv hm
      · rename_i o ho
        simp only [ho] at hm
        split
        · rename_i hwd
          simp only [hwd, if_true] at hm
          refine .inl ?_
          rcases hm with ⟨v, h1, h2⟩ | hm
          · exact Oper.wp_of_does (Oper.does_mono (fun u w1 ⟨h3, h4⟩ => by subst h3; exact wpAny_of_m hF fuel _ _ _ b _ (hsv.trans (h4.mono fun _ x => x.elim)) h2) (h1 _ hsv))
          · exact Oper.wp_of_does (Oper.does_mono (fun v w1 ⟨S1, _, h2⟩ => wpAny_of_m hF fuel _ _ S1 w1 w1 (Save.refl _ _) h2) (hm w hsv))
        · rename_i hwd; simp only [hwd] at hm; exact wpAny_of_m hF fuel _ _ _ _ _ hsv hm⟩

/-- One operation 'oj', apart from 'oi', whose value is known in all worlds that may come. -/
theorem mOp_put {j : Nat} {oi oj : Oper} {v : Value} (hj : ops[j]? = some oj) (hap : oi.apart ops oj = true)
    (hsi : ∀ cs b, oi.op ≠ .select cs b) (hsj : ∀ cs b, oj.op ≠ .select cs b) {K : Act → (Nat → Prop) → World → Prop} {a : Act} {S : Nat → Prop} {b : World}
    (hy : YieldsC P ops S oi v a b) (h : mOp P ops j K (a.put oi.dst v) S b) :
    mOp P ops j (fun a' S' b' => YieldsC P ops S' oi v a' b' ∧ K (a'.put oi.dst v) S' b') a S b := by
  obtain ⟨h1, h2, h3⟩ := Oper.apart_spec hap
  have keep : ∀ (S' : Nat → Prop) (b' : World), YieldsC P ops S' oi v a b' → ∀ u, YieldsC P ops S' oi v (a.put oj.dst u) b' := fun S' b' hy u =>
    hy.of_same (execOp_put oi hsi a oj.dst u h3) (wanted_put oi a oj.dst u h3)
  unfold mOp at *
  simp only [hj] at *
  rw [wanted_put oj a oi.dst v h1] at h
  split
  · rename_i hw
    simp only [hw, if_true] at h
    rcases h with ⟨u, hu, hn⟩ | h
    · refine .inl ⟨u, fun w hw' => ?_, keep S b hy u, by rw [← Act.put_comm a v u h2]; exact hn⟩
      have := hu w hw'
      unfold Oper.does at *
      rwa [execOp_put oj hsj a oi.dst v h1] at this
    · refine .inr fun wq hwq => ?_
      have h4 := h wq hwq
      unfold Oper.does at h4
      rw [execOp_put oj hsj a oi.dst v h1] at h4
      refine Oper.does_mono (o := oj) (a := a) (w := wq) (n := fun u w1 => ∃ S1, (∀ w', Save S1 w1 w' → Save S b w') ∧ K ((a.put oi.dst v).put oj.dst u) S1 w1) (fun u w1 ⟨S1, hs, hk⟩ => ⟨S1, hs, keep S1 w1 (hy.later hs) u, by rw [← Act.put_comm a v u h2]; exact hk⟩) h4
  · rename_i hw
    simp only [hw] at h
    exact ⟨keep S b hy _, by rw [← Act.put_comm a v undef h2]; exact h⟩

theorem YieldsC.mOp {i : Nat} {o : Oper} {v : Value} {a : Act} {S : Nat → Prop} {b : World} (hi : ops[i]? = some o) (hy : YieldsC P ops S o v a b) {K : Act → (Nat → Prop) → World → Prop} (h : K (a.put o.dst v) S b) : mOp P ops i K a S b := by
  unfold Proofs.Ytofenjloieagaaa.L.mOp
  simp only [hi]
  rcases hy with ⟨hw, hv⟩ | ⟨hw, rfl⟩
  · simp only [hw, if_true]; exact .inl ⟨v, hv, h⟩
  · simp only [hw, Bool.false_eq_true, if_false]; exact h

/-- A calm operation that may come up now may be taken first. -/
theorem wpAnyM_first {F : Act → (Nat → Prop) → World → Prop} {i : Nat} {oi : Oper} {v : Value} (hi : ops[i]? = some oi) (hsel : ∀ (j : Nat) (o : Oper) cs b, ops[j]? = some o → o.op ≠ .select cs b) :
    ∀ (fuel : Nat) (listed : Array Bool) (a : Act) (S : Nat → Prop) (b : World),
      (∀ j oj, ops[j]? = some oj → j ≠ i → listed.getD j true = false → (∀ e ∈ oj.after, Region.binds md e = true → e.on ≠ i) → oi.apart ops oj = true) →
      i ∈ Region.ready md ops listed → YieldsC P ops S oi v a b →
      wpAnyM P md ops F fuel (listed.setIfInBounds i true) (a.put oi.dst v) S b → wpAnyM P md ops F (fuel + 1) listed a S b := by
  intro fuel
  induction fuel with
  | zero =>
    intro listed a S b _ hr hy H
    refine ⟨fun h => (by rw [h] at hr; cases hr), fun j hj => ?_⟩
    by_cases hji : j = i
    · subst hji; exact YieldsC.mOp hi hy H
    · have := ready_mono hj hji
      rw [H.1] at this
      cases this
  | succ fuel ih =>
    intro listed a S b hfree hr hy H
    refine ⟨fun h => (by rw [h] at hr; cases hr), fun j hj => ?_⟩
    by_cases hji : j = i
    · subst hji; exact YieldsC.mOp hi hy H
    · have h1 := H.2 j (ready_mono hj hji)
      obtain ⟨hjun, oj, hoj, hall⟩ := mem_ready.1 hj
      have hnot : ∀ e ∈ oj.after, Region.binds md e = true → e.on ≠ i := fun e he hb heq => by
        have h1 := hall e he hb
        have h0 := (mem_ready.1 hr).1
        rw [heq] at h1
        rcases Nat.lt_or_ge i listed.size with h' | h'
        · simp [h'] at h0 h1; rw [h0] at h1; cases h1
        · simp [Array.getElem?_eq_none h'] at h1
      have h2 := mOp_put hoj (hfree j oj hoj hji hjun hnot) (fun cs b => hsel i oi cs b hi) (fun cs b => hsel j oj cs b hoj) hy h1
      have hfree' : ∀ k ok, ops[k]? = some ok → k ≠ i → (listed.setIfInBounds j true).getD k true = false →
          (∀ e ∈ ok.after, Region.binds md e = true → e.on ≠ i) → oi.apart ops ok = true := fun k ok hk hki hun hno => by
        refine hfree k ok hk hki ?_ hno
        by_cases hjk : j = k
        · subst hjk; exact hjun
        · rw [getD_set_ne true hjk] at hun; exact hun
      refine mOp_mono (fun a' S' b' h3 => ih (listed.setIfInBounds j true) a' S' b' hfree' (ready_mono hr (Ne.symm hji)) h3.1 ?_) h2
      rw [Array.setIfInBounds_comm _ _ hji]
      exact h3.2

theorem _root_.Go.Proofs.Ytofenjloieagaaa.Calm.calmL {S : Nat → Prop} {o : Oper} {v : Value} {a : Act} {b : World} (h : Proofs.Ytofenjloieagaaa.Calm P S o v a b) : Calm P S o v a b :=
  fun w hw => Oper.does_mono (fun _ _ ⟨h1, n, h2⟩ => ⟨h1, by subst h2; exact Save.drawn _ _ _⟩) (h w hw)

theorem seg {F : Act → (Nat → Prop) → World → Prop} {S : Nat → Prop} (hs : Region.noSelect ops = true) : ∀ (l : List Nat) (fuel : Nat) (listed : Array Bool) (a : Act) (b : World),
    segB md ops l listed = true → wpQuiet P ops (fun w' => ∃ p : Later S b, w' = p.w) (fun a' => wpAnyM P md ops F fuel (listAll l listed) a' S b) (pickOps ops l) a → wpAnyM P md ops F (fuel + l.length) listed a S b
  | [], _, _, _, _, _, h => h
  | i :: l, fuel, listed, a, b, hB, h => by
    simp only [segB, Bool.and_eq_true] at hB
    obtain ⟨⟨⟨hr, hf⟩, hp⟩, hB'⟩ := hB
    cases hi : ops[i]? with
    | none => simp only [hi] at hp; cases hp
    | some o =>
      have hr' : i ∈ Region.ready md ops listed := by simpa using hr
      simp only [pickOps, hi] at h
      rw [List.length_cons, ← Nat.add_assoc]
      have hgd : Region.wanted (mask o) (yielded ops a.tmps) = Region.wanted o (yielded ops a.tmps) := by unfold mask; split <;> rfl
      have hdst : (mask o).dst = o.dst := by unfold mask; split <;> rfl
      unfold wpQuiet at h
      rw [hgd, hdst] at h
      by_cases hw : Region.wanted o (yielded ops a.tmps) = true
      · rw [if_pos hw] at h
        by_cases hpl : plain o = true
        · have hm : mask o = o := by unfold mask; rw [if_pos hpl]
          rw [hm] at h
          obtain ⟨v, h1, h2⟩ := h
          exact wpAnyM_first hi (Region.noSelect_spec hs) (fuel + l.length) listed a S b (Region.free_spec hi hf) hr' (.inl ⟨hw, (calm_of_quiet hpl h1).calmL⟩) (seg hs l fuel _ _ b hB' h2)
        · exact absurd h (mask_stuck (by simpa using hpl) a _ _ b ⟨⟨b, Save.refl S b⟩, rfl⟩)
      · rw [if_neg hw] at h
        exact wpAnyM_first hi (Region.noSelect_spec hs) (fuel + l.length) listed a S b (Region.free_spec hi hf) hr' (.inr ⟨by simpa using hw, rfl⟩) (seg hs l fuel _ _ b hB' h)

/-- A STRETCH OF PLAIN OPERATIONS (or such as are not wanted), taken first. -/
theorem seg_ {F : Act → (Nat → Prop) → World → Prop} {S : Nat → Prop} (l : List Nat) (fuel n : Nat) {listed : Array Bool} {a : Act} {b : World} {lo : List Oper} (hn : n = fuel + l.length) (hs : Region.noSelect ops = true)
    (hB : segB md ops l listed = true) (hlo : pickOps ops l = lo)
    (h : wpQuiet P ops (fun w' => ∃ p : Later S b, w' = p.w) (fun a' => wpAnyM P md ops F fuel (listAll l listed) a' S b) lo a) : wpAnyM P md ops F n listed a S b := by
  subst hn hlo
  exact seg hs l fuel listed a b hB h

/-- A CALL THAT TURNS NOTHING, taken first: the same value in every world that may come. -/
theorem calm_ {F : Act → (Nat → Prop) → World → Prop} {S : Nat → Prop} {i : Nat} {o : Oper} {fuel : Nat} {listed : Array Bool} {a : Act} {b : World} (v : Value) (hi : ops[i]? = some o) (hs : Region.noSelect ops = true)
    (hr : (Region.ready md ops listed).contains i = true) (hf : Region.free md ops listed i = true) (hw : Region.wanted o (yielded ops a.tmps) = true)
    (hc : ∀ w, Save S b w → Oper.does P o a w fun u w1 => u = v ∧ Save (fun _ => False) w w1)
    (h : wpAnyM P md ops F fuel (listed.setIfInBounds i true) (a.put o.dst v) S b) : wpAnyM P md ops F (fuel + 1) listed a S b :=
  wpAnyM_first hi (Region.noSelect_spec hs) fuel listed a S b (Region.free_spec hi hf) (by simpa using hr) (.inl ⟨hw, hc⟩) h

theorem mOp_call {K : Act → (Nat → Prop) → World → Prop} {S : Nat → Prop} {i : Nat} {o : Oper} {a : Act} {b : World} (hi : ops[i]? = some o) (hw : Region.wanted o (yielded ops a.tmps) = true)
    (h : ∀ w, Save S b w → Oper.does P o a w fun v w1 => ∃ S1, (∀ w', Save S1 w1 w' → Save S b w') ∧ K (a.put o.dst v) S1 w1) : mOp P ops i K a S b := by
  unfold mOp; simp only [hi, hw, if_true]; exact .inr h

/-- A CALL, or what else lays memory, when it alone may come up. -/
theorem call_ {F : Act → (Nat → Prop) → World → Prop} {S : Nat → Prop} {i : Nat} {o : Oper} {fuel : Nat} {listed : Array Bool} {a : Act} {b : World} (hi : ops[i]? = some o) (hr : (Region.ready md ops listed == [i]) = true) (hw : Region.wanted o (yielded ops a.tmps) = true)
    (h : ∀ w, Save S b w → Oper.does P o a w fun v w1 => ∃ S1, (∀ w', Save S1 w1 w' → Save S b w') ∧ wpAnyM P md ops F fuel (listed.setIfInBounds i true) (a.put o.dst v) S1 w1) : wpAnyM P md ops F (fuel + 1) listed a S b := by
  have hr' : Region.ready md ops listed = [i] := by simpa using hr
  refine ⟨(fun h0 => by rw [h0] at hr'; cases hr'), (fun j hj => ?_)⟩
  rw [hr'] at hj
  obtain rfl := List.mem_singleton.1 hj
  exact mOp_call hi hw h

theorem end_ {F : Act → (Nat → Prop) → World → Prop} {S : Nat → Prop} {listed : Array Bool} {a : Act} {b : World} (hr : (Region.ready md ops listed).isEmpty = true) (h : F a S b) : wpAnyM P md ops F 0 listed a S b := ⟨by simpa using hr, h⟩

/-- THE REGION. -/
theorem region_ {id : Nat} {Q : Exit → Act → World → Prop} {a : Act} {w : World} (S : Nat → Prop) (hm : P.follows .mixedOrders = true)
    (h : wpAnyM P .any ops (fun a' S b => ∀ w', Save S b w' → Q .normal a' w') ops.size (Array.replicate ops.size false) a S w) : (Code.region id ops true).wp P Q a w :=
  wp_region_any hm (wpAny_of_m (fun _ _ _ w' hw' hF => hF w' hw') _ _ _ S w _ (Save.drawn S w _) h)
end
end L
end Go.Proofs.Ytofenjloieagaaa
