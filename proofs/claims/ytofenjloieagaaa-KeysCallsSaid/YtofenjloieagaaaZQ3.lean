/-  -/
import Derived.Test.YtofenjloieagaaaZQ2
namespace Go.Proofs.Ytofenjloieagaaa
open Go.RowKit
namespace M
/-- A class of worlds is closed: whoever lays new memory stays in it. -/
def Closed (C : World → Prop) : Prop := ∀ w w1, C w → Save (fun _ => False) w w1 → C w1
/-- What was there is as it was. -/
def Base (b : World) : World → Prop := fun w => b.heap.size ≤ w.heap.size ∧ Below b.heap.size b w
theorem Base.refl (b : World) : Base b b := ⟨Nat.le_refl _, Below.refl _ _⟩
theorem closed_base (b : World) : Closed (Base b) := fun _ _ hw hs => ⟨Nat.le_trans hw.1 hs.size, hw.2.trans (hs.all.mono hw.1)⟩
theorem Base.below {b w w' : World} (h : Base b w) (hb : Below b.heap.size w w') : Base b w' := ⟨Nat.le_trans h.1 hb.size, h.2.trans hb⟩

/-- A world of a class. -/
structure Of (C : World → Prop) where
  w : World
  ok : C w
instance (b : World) : Nonempty (Of (Base b)) := ⟨⟨b, Base.refl b⟩⟩

section
variable {P : Program} {ops : Array Oper} {md : Region.Mode} {C0 : World → Prop}

/-- In every world of the class it yields v, and lays new memory at most. -/
def Calm (P : Program) (C0 : World → Prop) (o : Oper) (v : Value) (a : Act) : Prop :=
  ∀ w, C0 w → Oper.does P o a w fun u w1 => u = v ∧ Save (fun _ => False) w w1

def YieldsC (P : Program) (ops : Array Oper) (C0 : World → Prop) (o : Oper) (v : Value) (a : Act) : Prop :=
  (Region.wanted o (yielded ops a.tmps) = true ∧ Calm P C0 o v a) ∨ (Region.wanted o (yielded ops a.tmps) = false ∧ v = undef)

theorem YieldsC.of_same {o : Oper} {v : Value} {a a' : Act} (hy : YieldsC P ops C0 o v a) (he : execOp a'.eval o = execOp a.eval o)
    (hw : Region.wanted o (yielded ops a'.tmps) = Region.wanted o (yielded ops a.tmps)) : YieldsC P ops C0 o v a' := by
  unfold YieldsC Calm Oper.does at *
  rw [he, hw]
  exact hy

def mOp (P : Program) (ops : Array Oper) (C0 : World → Prop) (i : Nat) (K : Act → (World → Prop) → Prop) (a : Act) (C : World → Prop) : Prop :=
  match ops[i]? with
  | none => K a C
  | some o => if Region.wanted o (yielded ops a.tmps) then (∃ v, Calm P C0 o v a ∧ K (a.put o.dst v) C) ∨ (∀ w, C w → Oper.does P o a w fun v w1 => ∃ C1, C1 w1 ∧ Closed C1 ∧ (∀ w', C1 w' → C0 w') ∧ K (a.put o.dst v) C1) else K (a.put o.dst undef) C

theorem mOp_mono {i : Nat} {a : Act} {C : World → Prop} {K K' : Act → (World → Prop) → Prop} (h : ∀ a C, K a C → K' a C) (hh : mOp P ops C0 i K a C) : mOp P ops C0 i K' a C := by
  unfold mOp at *
  split
  · exact h _ _ (by simpa [*] using hh)
  · rename_i o ho
    simp only [ho] at hh
    split
    · rename_i hw
      simp only [hw, if_true] at hh
      rcases hh with ⟨v, h1, h2⟩ | hh
      · exact .inl ⟨v, h1, h _ _ h2⟩
      · exact .inr fun w hw2 => Oper.does_mono (fun v w1 ⟨C1, h1, h2, h3, h4⟩ => ⟨C1, h1, h2, h3, h _ _ h4⟩) (hh w hw2)
    · rename_i hw; simp only [hw] at hh; exact h _ _ hh

/-- Whatever order is picked from here on. -/
def wpAnyM (P : Program) (md : Region.Mode) (ops : Array Oper) (C0 : World → Prop) (F : Act → (World → Prop) → Prop) : Nat → Array Bool → Act → (World → Prop) → Prop
  | 0, listed, a, C => Region.ready md ops listed = [] ∧ F a C
  | fuel + 1, listed, a, C =>
    (Region.ready md ops listed = [] → F a C) ∧
    ∀ i ∈ Region.ready md ops listed, mOp P ops C0 i (wpAnyM P md ops C0 F fuel (listed.setIfInBounds i true)) a C

theorem wpAny_of_m {F : Act → (World → Prop) → Prop} {Q : Exit → Act → World → Prop} (hF : ∀ a C w, C w → F a C → Q .normal a w) : ∀ (fuel : Nat) (listed : Array Bool) (a : Act) (C : World → Prop) (w : World), C w → Closed C → (∀ w', C w' → C0 w') →
    wpAnyM P md ops C0 F fuel listed a C → wpAny P md ops Q fuel listed a w
  | 0, _, _, _, _, hC, _, _, h => ⟨h.1, hF _ _ _ hC h.2⟩
  | fuel + 1, listed, a, C, w, hC, hcl, hsub, h => ⟨fun h0 => hF _ _ _ hC (h.1 h0), fun i hi => by
      have hm := h.2 i hi
      unfold mOp at hm
      unfold wpOp
      split
      · rename_i ho; simp only [ho] at hm; exact wpAny_of_m hF fuel _ _ _ _ hC hcl hsub hm
      · rename_i o ho
        simp only [ho] at hm
        split
        · rename_i hwd
          simp only [hwd, if_true] at hm
          refine .inl ?_
          rcases hm with ⟨v, h1, h2⟩ | hm
          · exact Oper.wp_of_does (Oper.does_mono (fun u w1 ⟨h3, h4⟩ => by subst h3; exact wpAny_of_m hF fuel _ _ C _ (hcl _ _ hC h4) hcl hsub h2) (h1 _ (hsub _ hC)))
          · exact Oper.wp_of_does (Oper.does_mono (fun v w1 ⟨C1, k1, k2, k3, k4⟩ => wpAny_of_m hF fuel _ _ C1 w1 k1 k2 k3 k4) (hm w hC))
        · rename_i hwd; simp only [hwd] at hm; exact wpAny_of_m hF fuel _ _ _ _ hC hcl hsub hm⟩

theorem mOp_put {j : Nat} {oi oj : Oper} {v : Value} (hj : ops[j]? = some oj) (hap : oi.apart ops oj = true)
    (hsi : ∀ cs b, oi.op ≠ .select cs b) (hsj : ∀ cs b, oj.op ≠ .select cs b) {K : Act → (World → Prop) → Prop} {a : Act} {C : World → Prop}
    (hy : YieldsC P ops C0 oi v a) (h : mOp P ops C0 j K (a.put oi.dst v) C) :
    mOp P ops C0 j (fun a' C' => YieldsC P ops C0 oi v a' ∧ K (a'.put oi.dst v) C') a C := by
  obtain ⟨h1, h2, h3⟩ := Oper.apart_spec hap
  have keep : ∀ u, YieldsC P ops C0 oi v (a.put oj.dst u) := fun u =>
    hy.of_same (execOp_put oi hsi a oj.dst u h3) (wanted_put oi a oj.dst u h3)
  unfold mOp at *
  simp only [hj] at *
  rw [wanted_put oj a oi.dst v h1] at h
  split
  · rename_i hw
    simp only [hw, if_true] at h
    rcases h with ⟨u, hu, hn⟩ | h
    · refine .inl ⟨u, fun w hw' => ?_, keep u, by rw [← Act.put_comm a v u h2]; exact hn⟩
      have := hu w hw'
      unfold Oper.does at *
      rwa [execOp_put oj hsj a oi.dst v h1] at this
    · refine .inr fun wq hwq => ?_
      have h4 := h wq hwq
      unfold Oper.does at h4
      rw [execOp_put oj hsj a oi.dst v h1] at h4
      refine Oper.does_mono (o := oj) (a := a) (w := wq) (n := fun u w1 => ∃ C1, C1 w1 ∧ Closed C1 ∧ (∀ w', C1 w' → C0 w') ∧ K ((a.put oi.dst v).put oj.dst u) C1) (fun u w1 ⟨C1, k1, k2, k3, hk⟩ => ⟨C1, k1, k2, k3, keep u, by rw [← Act.put_comm a v u h2]; exact hk⟩) h4
  · rename_i hw
    simp only [hw] at h
    exact ⟨keep _, by rw [← Act.put_comm a v undef h2]; exact h⟩

theorem YieldsC.mOp {i : Nat} {o : Oper} {v : Value} {a : Act} {C : World → Prop} (hi : ops[i]? = some o) (hy : YieldsC P ops C0 o v a) {K : Act → (World → Prop) → Prop} (h : K (a.put o.dst v) C) : mOp P ops C0 i K a C := by
  unfold Proofs.Ytofenjloieagaaa.M.mOp
  simp only [hi]
  rcases hy with ⟨hw, hv⟩ | ⟨hw, rfl⟩
  · simp only [hw, if_true]; exact .inl ⟨v, hv, h⟩
  · simp only [hw, Bool.false_eq_true, if_false]; exact h

/-- A calm operation that may come up now may be taken first. -/
theorem wpAnyM_first {F : Act → (World → Prop) → Prop} {i : Nat} {oi : Oper} {v : Value} (hi : ops[i]? = some oi) (hsel : ∀ (j : Nat) (o : Oper) cs b, ops[j]? = some o → o.op ≠ .select cs b) :
    ∀ (fuel : Nat) (listed : Array Bool) (a : Act) (C : World → Prop),
      (∀ j oj, ops[j]? = some oj → j ≠ i → listed.getD j true = false → (∀ e ∈ oj.after, Region.binds md e = true → e.on ≠ i) → oi.apart ops oj = true) →
      i ∈ Region.ready md ops listed → YieldsC P ops C0 oi v a →
      wpAnyM P md ops C0 F fuel (listed.setIfInBounds i true) (a.put oi.dst v) C → wpAnyM P md ops C0 F (fuel + 1) listed a C := by
  intro fuel
  induction fuel with
  | zero =>
    intro listed a C _ hr hy H
    refine ⟨fun h => (by rw [h] at hr; cases hr), fun j hj => ?_⟩
    by_cases hji : j = i
    · subst hji; exact YieldsC.mOp hi hy H
    · have := ready_mono hj hji
      rw [H.1] at this
      cases this
  | succ fuel ih =>
    intro listed a C hfree hr hy H
    refine ⟨fun h => (by rw [h] at hr; cases hr), fun j hj => ?_⟩
    by_cases hji : j = i
    · subst hji; exact YieldsC.mOp hi hy H
    · have h1 := H.2 j (ready_mono hj hji)
      obtain ⟨hjun, oj, hoj, hall⟩ := mem_ready.1 hj
      have hnot : ∀ e ∈ oj.after, Region.binds md e = true → e.on ≠ i := fun e he hb heq => by
        have h1 := hall e he hb
        have h0 := (mem_ready.1 hr).1
        rw [heq] at h1
        rcases Nat.lt_or_ge i listed.size with h' | h'
        · simp [h'] at h0 h1; rw [h0] at h1; cases h1
        · simp [Array.getElem?_eq_none h'] at h1
      have h2 := mOp_put hoj (hfree j oj hoj hji hjun hnot) (fun cs b => hsel i oi cs b hi) (fun cs b => hsel j oj cs b hoj) hy h1
      have hfree' : ∀ k ok, ops[k]? = some ok → k ≠ i → (listed.setIfInBounds j true).getD k true = false →
          (∀ e ∈ ok.after, Region.binds md e = true → e.on ≠ i) → oi.apart ops ok = true := fun k ok hk hki hun hno => by
        refine hfree k ok hk hki ?_ hno
        by_cases hjk : j = k
        · subst hjk; exact hjun
        · rw [getD_set_ne true hjk] at hun; exact hun
      refine mOp_mono (fun a' C' h3 => ih (listed.setIfInBounds j true) a' C' hfree' (ready_mono hr (Ne.symm hji)) h3.1 ?_) h2
      rw [Array.setIfInBounds_comm _ _ hji]
      exact h3.2

/-- A plain operation that the quiet walk has gone through is calm. -/
theorem calm_of_quiet {o : Oper} {v : Value} {a : Act} (hp : plain o = true) (h : ∀ w, (∃ p : Of C0, w = p.w) → o.quietAt P a (fun w' => ∃ p : Of C0, w' = p.w) w v) : Calm P C0 o v a := by
  intro w hw
  have h3 := h w ⟨⟨w, hw⟩, rfl⟩
  unfold Oper.quietAt at h3
  unfold Oper.does
  generalize hr : (execOp a.eval o).run P w = r at *
  cases r with
  | ok x w2 =>
    cases x <;> simp only [Oper.quietUpon] at h3 <;> simp only
    · obtain ⟨rfl, rfl⟩ := h3; exact ⟨rfl, Save.drawn _ _ _⟩
    · obtain ⟨rfl, rfl⟩ := h3; exact ⟨rfl, Save.drawn _ _ _⟩
    · exact absurd hr (plain_enter hp _ _ _ _ _)
  | halt x w2 => simp only [Oper.quietUpon] at h3

theorem seg {F : Act → (World → Prop) → Prop} {C : World → Prop} (b : World) (hb : C0 b) (hs : Region.noSelect ops = true) : ∀ (l : List Nat) (fuel : Nat) (listed : Array Bool) (a : Act),
    segB md ops l listed = true → wpQuiet P ops (fun w' => ∃ p : Of C0, w' = p.w) (fun a' => wpAnyM P md ops C0 F fuel (listAll l listed) a' C) (pickOps ops l) a → wpAnyM P md ops C0 F (fuel + l.length) listed a C
  | [], _, _, _, _, h => h
  | i :: l, fuel, listed, a, hB, h => by
    simp only [segB, Bool.and_eq_true] at hB
    obtain ⟨⟨⟨hr, hf⟩, hp⟩, hB'⟩ := hB
    cases hi : ops[i]? with
    | none => simp only [hi] at hp; cases hp
    | some o =>
      have hr' : i ∈ Region.ready md ops listed := by simpa using hr
      simp only [pickOps, hi] at h
      rw [List.length_cons, ← Nat.add_assoc]
      have hgd : Region.wanted (mask o) (yielded ops a.tmps) = Region.wanted o (yielded ops a.tmps) := by unfold mask; split <;> rfl
      have hdst : (mask o).dst = o.dst := by unfold mask; split <;> rfl
      unfold wpQuiet at h
      rw [hgd, hdst] at h
      by_cases hw : Region.wanted o (yielded ops a.tmps) = true
      · rw [if_pos hw] at h
        by_cases hpl : plain o = true
        · have hm : mask o = o := by unfold mask; rw [if_pos hpl]
          rw [hm] at h
          obtain ⟨v, h1, h2⟩ := h
          exact wpAnyM_first hi (Region.noSelect_spec hs) (fuel + l.length) listed a C (Region.free_spec hi hf) hr' (.inl ⟨hw, calm_of_quiet hpl h1⟩) (seg b hb hs l fuel _ _ hB' h2)
        · exact absurd h (mask_stuck (by simpa using hpl) a _ _ b ⟨⟨b, hb⟩, rfl⟩)
      · rw [if_neg hw] at h
        exact wpAnyM_first hi (Region.noSelect_spec hs) (fuel + l.length) listed a C (Region.free_spec hi hf) hr' (.inr ⟨by simpa using hw, rfl⟩) (seg b hb hs l fuel _ _ hB' h)

/-- A STRETCH OF PLAIN OPERATIONS (or such as are not wanted), taken first. -/
theorem seg_ {F : Act → (World → Prop) → Prop} {C : World → Prop} (l : List Nat) (fuel n : Nat) (b : World) (hb : C0 b) {listed : Array Bool} {a : Act} {lo : List Oper} (hn : n = fuel + l.length) (hs : Region.noSelect ops = true)
    (hB : segB md ops l listed = true) (hlo : pickOps ops l = lo)
    (h : wpQuiet P ops (fun w' => ∃ p : Of C0, w' = p.w) (fun a' => wpAnyM P md ops C0 F fuel (listAll l listed) a' C) lo a) : wpAnyM P md ops C0 F n listed a C := by
  subst hn hlo
  exact seg b hb hs l fuel listed a hB h

/-- A CALL THAT YIELDS THE SAME VALUE IN EVERY WORLD OF THE BASE CLASS, and lays new memory at most, taken first. -/
theorem calm_ {F : Act → (World → Prop) → Prop} {C : World → Prop} {i : Nat} {o : Oper} {fuel : Nat} {listed : Array Bool} {a : Act} (v : Value) (hi : ops[i]? = some o) (hs : Region.noSelect ops = true)
    (hr : (Region.ready md ops listed).contains i = true) (hf : Region.free md ops listed i = true) (hw : Region.wanted o (yielded ops a.tmps) = true)
    (hc : ∀ w, C0 w → Oper.does P o a w fun u w1 => u = v ∧ Save (fun _ => False) w w1)
    (h : wpAnyM P md ops C0 F fuel (listed.setIfInBounds i true) (a.put o.dst v) C) : wpAnyM P md ops C0 F (fuel + 1) listed a C :=
  wpAnyM_first hi (Region.noSelect_spec hs) fuel listed a C (Region.free_spec hi hf) (by simpa using hr) (.inl ⟨hw, hc⟩) h

/-- WHAT ALONE MAY COME UP: in every world of the class as it is now; behind it another class. -/
theorem call_ {F : Act → (World → Prop) → Prop} {C : World → Prop} {i : Nat} {o : Oper} {fuel : Nat} {listed : Array Bool} {a : Act} (hi : ops[i]? = some o) (hr : (Region.ready md ops listed == [i]) = true) (hw : Region.wanted o (yielded ops a.tmps) = true)
    (h : ∀ w, C w → Oper.does P o a w fun v w1 => ∃ C1, C1 w1 ∧ Closed C1 ∧ (∀ w', C1 w' → C0 w') ∧ wpAnyM P md ops C0 F fuel (listed.setIfInBounds i true) (a.put o.dst v) C1) : wpAnyM P md ops C0 F (fuel + 1) listed a C := by
  have hr' : Region.ready md ops listed = [i] := by simpa using hr
  refine ⟨(fun h0 => by rw [h0] at hr'; cases hr'), (fun j hj => ?_)⟩
  rw [hr'] at hj
  obtain rfl := List.mem_singleton.1 hj
  unfold mOp; simp only [hi, hw, if_true]; exact .inr h

theorem end_ {F : Act → (World → Prop) → Prop} {C : World → Prop} {listed : Array Bool} {a : Act} (hr : (Region.ready md ops listed).isEmpty = true) (h : F a C) : wpAnyM P md ops C0 F 0 listed a C := ⟨by simpa using hr, h⟩

/-- THE REGION. -/
theorem region_ {id : Nat} {Q : Exit → Act → World → Prop} {a : Act} {w : World} (hm : P.follows .mixedOrders = true)
    (H : wpAnyM P .any ops (Base w) (fun a' C => ∀ w', C w' → Q .normal a' w') ops.size (Array.replicate ops.size false) a (Base w)) : (Code.region id ops true).wp P Q a w :=
  wp_region_any hm (wpAny_of_m (C0 := Base w) (fun _ _ w' hw' hF => hF w' hw') _ _ _ _ _ ⟨Nat.le_refl _, (Save.drawn _ w _).all⟩ (closed_base w) (fun _ hw' => hw') H)
end
end M
end Go.Proofs.Ytofenjloieagaaa
