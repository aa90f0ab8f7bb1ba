/- A region that draws its order and holds calls that lay memory: reads and plain operations are taken first, in every world that may come; a call when it alone may come up. So one walk serves every order. -/
import Derived.Deep.Quiet
import Derived.Below
import Derived.BigQuiet
namespace Go.Proofs.Ytbjhdmhligjplaa
open Go.RowKit

/-- Nothing that was there has turned, but in the blocks of S. -/
structure Save (S : Nat → Prop) (w w' : World) : Prop where
  os : w'.os = w.os
  tape : w'.tape = w.tape
  output : w'.output = w.output
  size : w.heap.size ≤ w'.heap.size
  block : ∀ k, k < w.heap.size → ¬ S k → w'.heap[k]? = w.heap[k]?

section
variable {S : Nat → Prop} {a b c w w' : World}
theorem Save.refl (S : Nat → Prop) (w : World) : Save S w w := ⟨rfl, rfl, rfl, Nat.le_refl _, fun _ _ _ => rfl⟩
theorem Save.trans (h : Save S a b) (k : Save S b c) : Save S a c :=
  ⟨k.os.trans h.os, k.tape.trans h.tape, k.output.trans h.output, Nat.le_trans h.size k.size, fun i hi hs => (k.block i (Nat.lt_of_lt_of_le hi h.size) hs).trans (h.block i hi hs)⟩
theorem Save.drawn (S : Nat → Prop) (w : World) (n : Nat) : Save S w { w with drawn := n } := ⟨rfl, rfl, rfl, Nat.le_refl _, fun _ _ _ => rfl⟩
theorem Save.of_below (h : Below w.heap.size w w') : Save S w w' := ⟨h.os, h.tape, h.output, h.size, fun k hk _ => h.block k hk⟩
theorem Save.of_grown {g : Nat} (h : w.grownBy w' (some g)) (hg : S g) : Save S w w' := ⟨h.os, h.tape, h.output, h.size, fun k hk hs => h.block k hk (fun e => hs (by rw [Option.some.inj e]; exact hg))⟩
theorem Save.all (h : Save (fun _ => False) w w') : Below w.heap.size w w' := ⟨h.os, h.tape, h.output, h.size, fun k hk => h.block k hk (fun x => x)⟩
theorem Save.below (h : Save S w w') {B : Nat} (hB : B ≤ w.heap.size) (hS : ∀ k, S k → B ≤ k) : Below B w w' := ⟨h.os, h.tape, h.output, h.size, fun k hk => h.block k (by omega) (fun hs => by have := hS k hs; omega)⟩
end

open Classical in
/-- Any world that may come behind b. -/
noncomputable def later (S : Nat → Prop) (b p : World) : World := if Save S b p then p else b

theorem later_save (S : Nat → Prop) (b p : World) : Save S b (later S b p) := by
  unfold later; split
  · assumption
  · exact Save.refl S b
theorem later_of {S : Nat → Prop} {b w : World} (h : Save S b w) : w = later S b w := by unfold later; rw [if_pos h]

/-- The worlds that may come. -/
def Comes_ (S : Nat → Prop) (b : World) : World → Prop := fun w' => ∃ p : World, w' = later S b p
theorem comes_iff {S : Nat → Prop} {b w : World} : Comes_ S b w ↔ Save S b w := ⟨fun ⟨p, h⟩ => h ▸ later_save S b p, fun h => ⟨w, later_of h⟩⟩

/-- An operation is carried out: it yields v and leaves w1. -/
def Oper.does (P : Program) (o : Oper) (a : Act) (w : World) (next : Value → World → Prop) : Prop :=
  match (execOp a.eval o).run P w with
  | .ok (.value v) w1 => next v w1
  | .ok .skip w1 => next undef w1
  | .ok (.enter f args) w2 => Calls P f args w2 fun e w1 => ∃ v, e = .returned v ∧ next v w1
  | _ => False

section
variable {P : Program} {ops : Array Oper} {md : Region.Mode} {S : Nat → Prop}

theorem Oper.does_mono {o : Oper} {a : Act} {w : World} {n n' : Value → World → Prop} (h : ∀ v w, n v w → n' v w) (hd : Oper.does P o a w n) : Oper.does P o a w n' := by
  unfold Oper.does at *
  generalize (execOp a.eval o).run P w = r at *
  cases r with
  | ok x w2 =>
    cases x <;> simp only at hd ⊢ <;> first
      | exact h _ _ hd
      | exact hd.mono fun e w1 ⟨v, he, hn⟩ => ⟨v, he, h _ _ hn⟩
  | halt x w2 => simp only at hd

theorem Oper.wp_of_does {o : Oper} {a : Act} {w : World} {K : Act → World → Prop} {Q : Exit → Act → World → Prop} (hd : Oper.does P o a w (fun v w1 => K (a.put o.dst v) w1)) : o.wp P a w K Q := by
  unfold Oper.does at hd
  unfold Oper.wp
  generalize (execOp a.eval o).run P w = r at *
  cases r with
  | ok x w2 =>
    cases x <;> simp only at hd <;> simp only [Oper.upon]
    · exact hd
    · exact hd
    · exact hd.mono fun e w1 ⟨v, he, hn⟩ => by subst he; exact hn
  | halt x w2 => simp only at hd

/-- Operation i in the worlds that may come behind b. -/
def mOp (P : Program) (ops : Array Oper) (S : Nat → Prop) (i : Nat) (K : Act → World → Prop) (a : Act) (b : World) : Prop :=
  match ops[i]? with
  | none => K a b
  | some o => if Region.wanted o (yielded ops a.tmps) then o.quiet P a (Comes_ S b) (fun a' => K a' b) ∨ (∀ w, Save S b w → Oper.does P o a w fun v w1 => Save S w w1 ∧ K (a.put o.dst v) w1) else K (a.put o.dst undef) b

theorem mOp_mono {i : Nat} {a : Act} {b : World} {K K' : Act → World → Prop} (h : ∀ a w, K a w → K' a w) (hh : mOp P ops S i K a b) : mOp P ops S i K' a b := by
  unfold mOp at *
  split
  · exact h _ _ (by simpa [*] using hh)
  · rename_i o ho
    simp only [ho] at hh
    split
    · rename_i hw
      simp only [hw, if_true] at hh
      rcases hh with hh | hh
      · exact .inl (Oper.quiet_mono (fun a' => h a' b) hh)
      · exact .inr fun w hw' => Oper.does_mono (fun v w1 ⟨h1, h2⟩ => ⟨h1, h _ _ h2⟩) (hh w hw')
    · rename_i hw; simp only [hw] at hh; exact h _ _ hh

/-- Whatever order is picked from here on. -/
def wpAnyM (P : Program) (md : Region.Mode) (ops : Array Oper) (S : Nat → Prop) (F : Act → World → Prop) : Nat → Array Bool → Act → World → Prop
  | 0, listed, a, b => Region.ready md ops listed = [] ∧ F a b
  | fuel + 1, listed, a, b =>
    (Region.ready md ops listed = [] → F a b) ∧
    ∀ i ∈ Region.ready md ops listed, mOp P ops S i (wpAnyM P md ops S F fuel (listed.setIfInBounds i true)) a b

theorem wpAny_of_m {F : Act → World → Prop} {Q : Exit → Act → World → Prop} (hF : ∀ a b w, Save S b w → F a b → Q .normal a w) : ∀ (fuel : Nat) (listed : Array Bool) (a : Act) (b w : World), Save S b w →
    wpAnyM P md ops S F fuel listed a b → wpAny P md ops Q fuel listed a w
  | 0, _, _, _, _, hw, h => ⟨h.1, hF _ _ _ hw h.2⟩
  | fuel + 1, listed, a, b, w, hw, h => ⟨fun h0 => hF _ _ _ hw (h.1 h0), fun i hi => by
      have hm := h.2 i hi
      unfold mOp at hm
      unfold wpOp
      split
      · rename_i ho; simp only [ho] at hm; exact wpAny_of_m hF fuel _ _ _ _ hw hm
      · rename_i o ho
        simp only [ho] at hm
        split
        · rename_i hwd
          simp only [hwd, if_true] at hm
          refine .inl ?_
          rcases hm with hm | hm
          · obtain ⟨v, h1, h2⟩ := hm
            have h3 := h1 w (comes_iff.2 hw)
            refine Oper.wp_of_does ?_
            unfold Oper.quietAt at h3
            unfold Oper.does
            generalize (execOp a.eval o).run P w = r at *
            cases r with
            | ok x w2 =>
              cases x <;> simp only [Oper.quietUpon] at h3 <;> simp only
              · obtain ⟨rfl, rfl⟩ := h3; exact wpAny_of_m hF fuel _ _ _ _ hw h2
              · obtain ⟨rfl, rfl⟩ := h3; exact wpAny_of_m hF fuel _ _ _ _ hw h2
              · obtain ⟨rfl, hc⟩ := h3
                exact hc.mono fun e w1 ⟨he, hC⟩ => ⟨v, he, wpAny_of_m hF fuel _ _ _ _ (comes_iff.1 hC) h2⟩
            | halt x w2 => simp only [Oper.quietUpon] at h3
          · exact Oper.wp_of_does (Oper.does_mono (fun v w1 ⟨_, h2⟩ => wpAny_of_m hF fuel _ _ _ _ (Save.refl S w1) h2) (hm w hw))
        · rename_i hwd; simp only [hwd] at hm; exact wpAny_of_m hF fuel _ _ _ _ hw hm⟩

/-- Operations that never enter a function. -/
def plain (o : Oper) : Bool :=
  match o.op with
  | .move _ | .assign _ | .pick .. | .load .. | .binOp .. | .unOp .. | .convert .. | .slice .. | .fieldAddr .. | .field .. | .indexAddr .. | .index .. | .extract .. | .makeInterface .. | .lookup .. => true
  | .call c => match c.callee with | .builtin .len => true | .builtin .cap => true | _ => false
  | _ => false

theorem run_value (s : Sem Value) (w w' : World) (f : FuncId) (args : Array Value) : (do pure (Next.value (← s)) : Sem Next).run P w ≠ .ok (.enter f args) w' := by
  rw [Sem.run_bind]
  cases s.run P w with
  | ok v w2 => simp [Result.andThen, Sem.run_pure]
  | halt x w2 => simp [Result.andThen]

theorem plain_enter {o : Oper} (h : plain o = true) (ρ : Operand → Value) (w w' : World) (f : FuncId) (args : Array Value) : (execOp ρ o).run P w ≠ .ok (.enter f args) w' := by
  obtain ⟨dst, op, type, pos, after, guard⟩ := o
  cases op <;> simp only [plain] at h <;> simp only [execOp] <;> first
    | (exact absurd h (by decide))
    | exact run_value _ _ _ _ _
    | (simp [Sem.run_pure]; done)
    | (rw [Sem.run_bind]; cases (asBool _).run P w <;> simp [Result.andThen, Sem.run_pure]; done)
    | skip
  rename_i c
  obtain ⟨callee, as, ts⟩ := c
  cases callee <;> simp only at h <;> first
    | (exact absurd h (by decide))
    | skip
  rename_i b
  cases b <;> simp only at h <;> first
    | (exact absurd h (by decide))
    | (simp only [resolve, Sem.run_bind, Sem.run_pure, Result.andThen_ok, invoke, builtin]
       generalize Sem.run P _ w = r
       cases r <;> simp [Result.andThen])

/-- A value that holds in all worlds behind b holds in all worlds behind what comes behind b. -/
theorem yields_later {o : Oper} {v : Value} {a : Act} {b b' : World} (hp : Region.wanted o (yielded ops a.tmps) = true → plain o = true) (h : YieldsIn P ops (Comes_ S b) o v a) (hb : Save S b b') : YieldsIn P ops (Comes_ S b') o v a := by
  rcases h with ⟨h1, h2⟩ | h
  · refine .inl ⟨h1, fun w hw => ?_⟩
    have h3 := h2 w (comes_iff.2 (hb.trans (comes_iff.1 hw)))
    unfold Oper.quietAt at *
    generalize hr : (execOp a.eval o).run P w = r at *
    cases r with
    | ok x w2 =>
      cases x <;> simp only [Oper.quietUpon] at h3 ⊢
      · exact h3
      · exact h3
      · obtain ⟨rfl, _⟩ := h3
        exact absurd hr (plain_enter (hp h1) _ _ _ _ _)
    | halt x w2 => simp only [Oper.quietUpon] at h3
  · exact .inr h

/-- One operation 'oj', apart from 'oi', whose value is known in all worlds that may come. -/
theorem mOp_put {j : Nat} {oi oj : Oper} {v : Value} (hj : ops[j]? = some oj) (hap : oi.apart ops oj = true)
    (hsi : ∀ cs b, oi.op ≠ .select cs b) (hsj : ∀ cs b, oj.op ≠ .select cs b) {K : Act → World → Prop} {a : Act} {b : World}
    (hp : Region.wanted oi (yielded ops a.tmps) = true → plain oi = true) (hy : YieldsIn P ops (Comes_ S b) oi v a) (h : mOp P ops S j K (a.put oi.dst v) b) :
    mOp P ops S j (fun a' b' => ((Region.wanted oi (yielded ops a'.tmps) = true → plain oi = true) ∧ YieldsIn P ops (Comes_ S b') oi v a') ∧ K (a'.put oi.dst v) b') a b := by
  obtain ⟨h1, h2, h3⟩ := Oper.apart_spec hap
  have keep : ∀ (b' : World), YieldsIn P ops (Comes_ S b') oi v a → ∀ u, (Region.wanted oi (yielded ops (a.put oj.dst u).tmps) = true → plain oi = true) ∧ YieldsIn P ops (Comes_ S b') oi v (a.put oj.dst u) := fun b' hy u =>
    ⟨(by rw [wanted_put oi a oj.dst u h3]; exact hp), hy.of_same (execOp_put oi hsi a oj.dst u h3) (wanted_put oi a oj.dst u h3)⟩
  unfold mOp at *
  simp only [hj] at *
  rw [wanted_put oj a oi.dst v h1] at h
  split
  · rename_i hw
    simp only [hw, if_true] at h
    rcases h with ⟨u, hu, hn⟩ | h
    · refine .inl ⟨u, fun w hw' => ?_, keep b hy u, by rw [← Act.put_comm a v u h2]; exact hn⟩
      have := hu w hw'
      unfold Oper.quietAt at *
      rwa [execOp_put oj hsj a oi.dst v h1] at this
    · refine .inr fun w hw' => ?_
      have h4 := h w hw'
      unfold Oper.does at *
      rw [execOp_put oj hsj a oi.dst v h1] at h4
      refine Oper.does_mono (o := oj) (a := a) (n := fun v_1 w1 => Save S w w1 ∧ K ((a.put oi.dst v).put oj.dst v_1) w1) (fun u w1 ⟨hs, hk⟩ => ⟨hs, keep w1 (yields_later hp hy (hw'.trans hs)) u, by rw [← Act.put_comm a v u h2]; exact hk⟩) h4
  · rename_i hw
    simp only [hw] at h
    exact ⟨keep b hy _, by rw [← Act.put_comm a v undef h2]; exact h⟩

theorem yields_of_mOp {i : Nat} {o : Oper} {a : Act} {b : World} {K : Act → Prop} (hi : ops[i]? = some o) (h : qOp P ops (Comes_ S b) i K a) : ∃ v, YieldsIn P ops (Comes_ S b) o v a ∧ K (a.put o.dst v) := yieldsIn_of_qOp hi h

theorem YieldsIn.mOp {i : Nat} {o : Oper} {v : Value} {a : Act} {b : World} (hi : ops[i]? = some o) (hy : YieldsIn P ops (Comes_ S b) o v a) {K : Act → World → Prop} (h : K (a.put o.dst v) b) : mOp P ops S i K a b := by
  unfold Proofs.Ytbjhdmhligjplaa.mOp
  simp only [hi]
  rcases hy with ⟨hw, hv⟩ | ⟨hw, rfl⟩
  · simp only [hw, if_true]; exact .inl ⟨v, hv, h⟩
  · simp only [hw, Bool.false_eq_true, if_false]; exact h

/-- A plain operation that may come up now may be taken first. -/
theorem wpAnyM_first {F : Act → World → Prop} {i : Nat} {oi : Oper} {v : Value} (hi : ops[i]? = some oi) (hsel : ∀ (j : Nat) (o : Oper) cs b, ops[j]? = some o → o.op ≠ .select cs b) :
    ∀ (fuel : Nat) (listed : Array Bool) (a : Act) (b : World),
      (∀ j oj, ops[j]? = some oj → j ≠ i → listed.getD j true = false → (∀ e ∈ oj.after, Region.binds md e = true → e.on ≠ i) → oi.apart ops oj = true) →
      i ∈ Region.ready md ops listed → (Region.wanted oi (yielded ops a.tmps) = true → plain oi = true) → YieldsIn P ops (Comes_ S b) oi v a →
      wpAnyM P md ops S F fuel (listed.setIfInBounds i true) (a.put oi.dst v) b → wpAnyM P md ops S F (fuel + 1) listed a b := by
  intro fuel
  induction fuel with
  | zero =>
    intro listed a b _ hr hp hy H
    refine ⟨fun h => (by rw [h] at hr; cases hr), fun j hj => ?_⟩
    by_cases hji : j = i
    · subst hji; exact YieldsIn.mOp hi hy H
    · have := ready_mono hj hji
      rw [H.1] at this
      cases this
  | succ fuel ih =>
    intro listed a b hfree hr hp hy H
    refine ⟨fun h => (by rw [h] at hr; cases hr), fun j hj => ?_⟩
    by_cases hji : j = i
    · subst hji; exact YieldsIn.mOp hi hy H
    · have h1 := H.2 j (ready_mono hj hji)
      obtain ⟨hjun, oj, hoj, hall⟩ := mem_ready.1 hj
      have hnot : ∀ e ∈ oj.after, Region.binds md e = true → e.on ≠ i := fun e he hb heq => by
        have h1 := hall e he hb
        have h0 := (mem_ready.1 hr).1
        rw [heq] at h1
        rcases Nat.lt_or_ge i listed.size with h' | h'
        · simp [h'] at h0 h1; rw [h0] at h1; cases h1
        · simp [Array.getElem?_eq_none h'] at h1
      have h2 := mOp_put hoj (hfree j oj hoj hji hjun hnot) (fun cs b => hsel i oi cs b hi) (fun cs b => hsel j oj cs b hoj) hp hy h1
      have hfree' : ∀ k ok, ops[k]? = some ok → k ≠ i → (listed.setIfInBounds j true).getD k true = false →
          (∀ e ∈ ok.after, Region.binds md e = true → e.on ≠ i) → oi.apart ops ok = true := fun k ok hk hki hun hno => by
        refine hfree k ok hk hki ?_ hno
        by_cases hjk : j = k
        · subst hjk; exact hjun
        · rw [getD_set_ne true hjk] at hun; exact hun
      refine mOp_mono (fun a' b' h3 => ih (listed.setIfInBounds j true) a' b' hfree' (ready_mono hr (Ne.symm hji)) h3.1.1 h3.1.2 ?_) h2
      rw [Array.setIfInBounds_comm _ _ hji]
      exact h3.2

/-- One that alone may come up. -/
theorem wpAnyM_only {F : Act → World → Prop} {i : Nat} {fuel : Nat} {listed : Array Bool} {a : Act} {b : World} (hr : Region.ready md ops listed = [i])
    (h : mOp P ops S i (wpAnyM P md ops S F fuel (listed.setIfInBounds i true)) a b) : wpAnyM P md ops S F (fuel + 1) listed a b :=
  ⟨(fun h0 => by rw [h0] at hr; cases hr), (fun j hj => by rw [hr] at hj; obtain rfl := List.mem_singleton.1 hj; exact h)⟩

/-- An operation that enters functions, or writes, is hidden: it may be passed over, when its guard says no; it can't be carried out. -/
def mask (o : Oper) : Oper := if plain o then o else { o with op := .pick (.const undef) (.const undef) (.const undef) }

theorem mask_stuck {o : Oper} (h : plain o = false) (a : Act) (C : World → Prop) (K : Act → Prop) (w : World) (hw : C w) : ¬ (mask o).quiet P a C K := by
  rintro ⟨v, h1, _⟩
  have h2 := h1 w hw
  unfold Oper.quietAt mask at h2
  rw [h] at h2
  simp [execOp, asBool, Act.eval, undef, Oper.quietUpon] at h2

/-- The operations of a list of numbers. -/
def pickOps (ops : Array Oper) : List Nat → List Oper
  | [] => []
  | i :: l => match ops[i]? with | some o => mask o :: pickOps ops l | none => pickOps ops l

/-- May these be taken now, one behind the other? -/
def segB (md : Region.Mode) (ops : Array Oper) : List Nat → Array Bool → Bool
  | [], _ => true
  | i :: l, listed => (Region.ready md ops listed).contains i && Region.free md ops listed i && (ops[i]?).isSome && segB md ops l (listed.setIfInBounds i true)

def listAll (l : List Nat) (listed : Array Bool) : Array Bool := l.foldl (fun x i => x.setIfInBounds i true) listed

/-- A STRETCH OF PLAIN OPERATIONS, taken first. -/
theorem seg {F : Act → World → Prop} (hs : Region.noSelect ops = true) : ∀ (l : List Nat) (fuel : Nat) (listed : Array Bool) (a : Act) (b : World),
    segB md ops l listed = true → wpQuiet P ops (Comes_ S b) (fun a' => wpAnyM P md ops S F fuel (listAll l listed) a' b) (pickOps ops l) a → wpAnyM P md ops S F (fuel + l.length) listed a b
  | [], _, _, _, _, _, h => h
  | i :: l, fuel, listed, a, b, hB, h => by
    simp only [segB, Bool.and_eq_true] at hB
    obtain ⟨⟨⟨hr, hf⟩, hp⟩, hB'⟩ := hB
    cases hi : ops[i]? with
    | none => simp only [hi] at hp; cases hp
    | some o =>
      have hr' : i ∈ Region.ready md ops listed := by simpa using hr
      simp only [pickOps, hi] at h
      rw [List.length_cons, ← Nat.add_assoc]
      have hgd : Region.wanted (mask o) (yielded ops a.tmps) = Region.wanted o (yielded ops a.tmps) := by unfold mask; split <;> rfl
      have hdst : (mask o).dst = o.dst := by unfold mask; split <;> rfl
      unfold wpQuiet at h
      rw [hgd, hdst] at h
      by_cases hw : Region.wanted o (yielded ops a.tmps) = true
      · rw [if_pos hw] at h
        by_cases hpl : plain o = true
        · have hm : mask o = o := by unfold mask; rw [if_pos hpl]
          rw [hm] at h
          obtain ⟨v, h1, h2⟩ := h
          exact wpAnyM_first hi (Region.noSelect_spec hs) (fuel + l.length) listed a b (Region.free_spec hi hf) hr' (fun _ => hpl) (.inl ⟨hw, h1⟩) (seg hs l fuel _ _ b hB' h2)
        · exact absurd h (mask_stuck (by simpa using hpl) a _ _ b (comes_iff.2 (Save.refl S b)))
      · rw [if_neg hw] at h
        exact wpAnyM_first hi (Region.noSelect_spec hs) (fuel + l.length) listed a b (Region.free_spec hi hf) hr' (fun h' => absurd h' hw) (.inr ⟨by simpa using hw, rfl⟩) (seg hs l fuel _ _ b hB' h)

theorem seg_ {F : Act → World → Prop} (l : List Nat) (fuel n : Nat) {listed : Array Bool} {a : Act} {b : World} {lo : List Oper} (hn : n = fuel + l.length) (hs : Region.noSelect ops = true)
    (hB : segB md ops l listed = true) (hlo : pickOps ops l = lo)
    (h : wpQuiet P ops (fun w' => ∃ p : World, w' = later S b p) (fun a' => wpAnyM P md ops S F fuel (listAll l listed) a' b) lo a) : wpAnyM P md ops S F n listed a b := by
  subst hn hlo
  exact seg hs l fuel listed a b hB h

/-- A CALL, or what else lays memory, when it alone may come up. -/
theorem call_ {F : Act → World → Prop} {i : Nat} {o : Oper} {fuel : Nat} {listed : Array Bool} {a : Act} {b : World} (hi : ops[i]? = some o) (hr : (Region.ready md ops listed == [i]) = true) (hw : Region.wanted o (yielded ops a.tmps) = true)
    (h : ∀ w, Save S b w → Oper.does P o a w fun v w1 => Save S w w1 ∧ wpAnyM P md ops S F fuel (listed.setIfInBounds i true) (a.put o.dst v) w1) : wpAnyM P md ops S F (fuel + 1) listed a b :=
  wpAnyM_only (by simpa using hr) (by unfold mOp; simp only [hi, hw, if_true]; exact .inr h)

theorem end_ {F : Act → World → Prop} {listed : Array Bool} {a : Act} {b : World} (hr : (Region.ready md ops listed).isEmpty = true) (h : F a b) : wpAnyM P md ops S F 0 listed a b := ⟨by simpa using hr, h⟩

/-- THE REGION. -/
theorem region_ {id : Nat} {Q : Exit → Act → World → Prop} {a : Act} {w : World} (S : Nat → Prop) (hm : P.follows .mixedOrders = true)
    (h : wpAnyM P .any ops S (fun a' b => ∀ w', Save S b w' → Q .normal a' w') ops.size (Array.replicate ops.size false) a w) : (Code.region id ops true).wp P Q a w :=
  wp_region_any hm (wpAny_of_m (fun _ _ w' hw' hF => hF w' hw') _ _ _ w _ (Save.drawn S w _) h)

end
end Go.Proofs.Ytbjhdmhligjplaa
