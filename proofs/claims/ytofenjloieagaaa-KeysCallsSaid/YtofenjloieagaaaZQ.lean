/-  -/
import Derived.Deep.Quiet
import Derived.Below
import Derived.BigQuiet
namespace Go.Proofs.Ytofenjloieagaaa
open Go.RowKit

/-- Nothing that was there has turned, but in the blocks of S. -/
structure Save (S : Nat → Prop) (w w' : World) : Prop where
  os : w'.os = w.os
  tape : w'.tape = w.tape
  output : w'.output = w.output
  size : w.heap.size ≤ w'.heap.size
  block : ∀ k, k < w.heap.size → ¬ S k → w'.heap[k]? = w.heap[k]?

section
variable {S S' : Nat → Prop} {a b c w w' : World}
theorem Save.refl (S : Nat → Prop) (w : World) : Save S w w := ⟨rfl, rfl, rfl, Nat.le_refl _, fun _ _ _ => rfl⟩
theorem Save.trans (h : Save S a b) (k : Save S b c) : Save S a c :=
  ⟨k.os.trans h.os, k.tape.trans h.tape, k.output.trans h.output, Nat.le_trans h.size k.size, fun i hi hs => (k.block i (Nat.lt_of_lt_of_le hi h.size) hs).trans (h.block i hi hs)⟩
theorem Save.drawn (S : Nat → Prop) (w : World) (n : Nat) : Save S w { w with drawn := n } := ⟨rfl, rfl, rfl, Nat.le_refl _, fun _ _ _ => rfl⟩
theorem Save.drewN (S : Nat → Prop) (w : World) (n : Nat) : Save S w (w.drewN n) := ⟨rfl, rfl, rfl, Nat.le_refl _, fun _ _ _ => rfl⟩
theorem Save.of_below (h : Below w.heap.size w w') : Save S w w' := ⟨h.os, h.tape, h.output, h.size, fun k hk _ => h.block k hk⟩
theorem Save.of_grown {g : Nat} (h : w.grownBy w' (some g)) (hg : S g) : Save S w w' := ⟨h.os, h.tape, h.output, h.size, fun k hk hs => h.block k hk (fun e => hs (by rw [Option.some.inj e]; exact hg))⟩
theorem Save.all (h : Save (fun _ => False) w w') : Below w.heap.size w w' := ⟨h.os, h.tape, h.output, h.size, fun k hk => h.block k hk (fun x => x)⟩
theorem Save.below (h : Save S w w') {B : Nat} (hB : B ≤ w.heap.size) (hS : ∀ k, S k → B ≤ k) : Below B w w' := ⟨h.os, h.tape, h.output, h.size, fun k hk => h.block k (by omega) (fun hs => by have := hS k hs; omega)⟩
/-- The blocks that may turn from now on are others: new ones at most. -/
theorem Save.turn (h : Save S a b) (k : Save S' b c) (hS : ∀ i, i < a.heap.size → S' i → S i) : Save S a c :=
  ⟨k.os.trans h.os, k.tape.trans h.tape, k.output.trans h.output, Nat.le_trans h.size k.size, fun i hi hs => (k.block i (Nat.lt_of_lt_of_le hi h.size) (fun h' => hs (hS i hi h'))).trans (h.block i hi hs)⟩
end

/-- Any world that may come behind b. -/
structure Later (S : Nat → Prop) (b : World) where
  w : World
  ok : Save S b w
instance (S : Nat → Prop) (b : World) : Nonempty (Later S b) := ⟨⟨b, Save.refl S b⟩⟩

/-- An operation is carried out: it yields v and leaves w1. -/
def Oper.does (P : Program) (o : Oper) (a : Act) (w : World) (next : Value → World → Prop) : Prop :=
  match (execOp a.eval o).run P w with
  | .ok (.value v) w1 => next v w1
  | .ok .skip w1 => next undef w1
  | .ok (.enter f args) w2 => Calls P f args w2 fun e w1 => ∃ v, e = .returned v ∧ next v w1
  | _ => False

section
variable {P : Program} {ops : Array Oper} {md : Region.Mode}

theorem Oper.does_mono {o : Oper} {a : Act} {w : World} {n n' : Value → World → Prop} (h : ∀ v w, n v w → n' v w) (hd : Oper.does P o a w n) : Oper.does P o a w n' := by
  unfold Oper.does at *
  generalize (execOp a.eval o).run P w = r at *
  cases r with
  | ok x w2 =>
    cases x <;> simp only at hd ⊢ <;> first
      | exact h _ _ hd
      | exact hd.mono fun e w1 ⟨v, he, hn⟩ => ⟨v, he, h _ _ hn⟩
  | halt x w2 => simp only at hd

theorem Oper.wp_of_does {o : Oper} {a : Act} {w : World} {K : Act → World → Prop} {Q : Exit → Act → World → Prop} (hd : Oper.does P o a w (fun v w1 => K (a.put o.dst v) w1)) : o.wp P a w K Q := by
  unfold Oper.does at hd
  unfold Oper.wp
  generalize (execOp a.eval o).run P w = r at *
  cases r with
  | ok x w2 =>
    cases x <;> simp only at hd <;> simp only [Oper.upon]
    · exact hd
    · exact hd
    · exact hd.mono fun e w1 ⟨v, he, hn⟩ => by subst he; exact hn
  | halt x w2 => simp only at hd

/-- In every world that may come it yields v and turns nothing. -/
def Calm (P : Program) (S : Nat → Prop) (o : Oper) (v : Value) (a : Act) (b : World) : Prop :=
  ∀ w, Save S b w → Oper.does P o a w fun u w1 => u = v ∧ ∃ n, w1 = { w with drawn := n }

/-- It yields v, or it is not wanted. -/
def YieldsC (P : Program) (ops : Array Oper) (S : Nat → Prop) (o : Oper) (v : Value) (a : Act) (b : World) : Prop :=
  (Region.wanted o (yielded ops a.tmps) = true ∧ Calm P S o v a b) ∨ (Region.wanted o (yielded ops a.tmps) = false ∧ v = undef)

theorem YieldsC.of_same {S : Nat → Prop} {o : Oper} {v : Value} {a a' : Act} {b : World} (hy : YieldsC P ops S o v a b) (he : execOp a'.eval o = execOp a.eval o)
    (hw : Region.wanted o (yielded ops a'.tmps) = Region.wanted o (yielded ops a.tmps)) : YieldsC P ops S o v a' b := by
  unfold YieldsC Calm Oper.does at *
  rw [he, hw]
  exact hy

/-- What holds of a class of worlds holds of a smaller one. -/
theorem YieldsC.later {S S' : Nat → Prop} {o : Oper} {v : Value} {a : Act} {b b' : World} (hy : YieldsC P ops S o v a b) (h : ∀ w, Save S' b' w → Save S b w) : YieldsC P ops S' o v a b' := by
  rcases hy with ⟨h1, h2⟩ | hy
  · exact .inl ⟨h1, fun w hw => h2 w (h w hw)⟩
  · exact .inr hy

/-- Operation i in the worlds that may come behind b: it is calm; or it leaves a world behind which fewer may come. -/
def mOp (P : Program) (ops : Array Oper) (i : Nat) (K : Act → (Nat → Prop) → World → Prop) (a : Act) (S : Nat → Prop) (b : World) : Prop :=
  match ops[i]? with
  | none => K a S b
  | some o => if Region.wanted o (yielded ops a.tmps) then (∃ v, Calm P S o v a b ∧ K (a.put o.dst v) S b) ∨ (∀ n, Oper.does P o a { b with drawn := n } fun v w1 => ∃ S1, (∀ w', Save S1 w1 w' → Save S b w') ∧ K (a.put o.dst v) S1 w1) else K (a.put o.dst undef) S b

theorem mOp_mono {i : Nat} {a : Act} {S : Nat → Prop} {b : World} {K K' : Act → (Nat → Prop) → World → Prop} (h : ∀ a S w, K a S w → K' a S w) (hh : mOp P ops i K a S b) : mOp P ops i K' a S b := by
  unfold mOp at *
  split
  · exact h _ _ _ (by simpa [*] using hh)
  · rename_i o ho
    simp only [ho] at hh
    split
    · rename_i hw
      simp only [hw, if_true] at hh
      rcases hh with ⟨v, h1, h2⟩ | hh
      · exact .inl ⟨v, h1, h _ _ _ h2⟩
      · exact .inr fun n => Oper.does_mono (fun v w1 ⟨S1, h1, h2⟩ => ⟨S1, h1, h _ _ _ h2⟩) (hh n)
    · rename_i hw; simp only [hw] at hh; exact h _ _ _ hh

/-- Whatever order is picked from here on. -/
def wpAnyM (P : Program) (md : Region.Mode) (ops : Array Oper) (F : Act → (Nat → Prop) → World → Prop) : Nat → Array Bool → Act → (Nat → Prop) → World → Prop
  | 0, listed, a, S, b => Region.ready md ops listed = [] ∧ F a S b
  | fuel + 1, listed, a, S, b =>
    (Region.ready md ops listed = [] → F a S b) ∧
    ∀ i ∈ Region.ready md ops listed, mOp P ops i (wpAnyM P md ops F fuel (listed.setIfInBounds i true)) a S b

theorem wpAny_of_m {F : Act → (Nat → Prop) → World → Prop} {Q : Exit → Act → World → Prop} (hF : ∀ a S b w, Save S b w → F a S b → Q .normal a w) : ∀ (fuel : Nat) (listed : Array Bool) (a : Act) (S : Nat → Prop) (b : World) (n : Nat),
    wpAnyM P md ops F fuel listed a S b → wpAny P md ops Q fuel listed a { b with drawn := n }
  | 0, _, _, S, b, n, h => ⟨h.1, hF _ _ _ _ (Save.drawn S b n) h.2⟩
  | fuel + 1, listed, a, S, b, n, h => ⟨fun h0 => hF _ _ _ _ (Save.drawn S b n) (h.1 h0), fun i hi => by
      have hm := h.2 i hi
      unfold mOp at hm
      unfold wpOp
      split
      · rename_i ho; simp only [ho] at hm; exact wpAny_of_m hF fuel _ _ _ _ n hm
      · rename_i o ho
        simp only [ho] at hm
        split
        · rename_i hwd
          simp only [hwd, if_true] at hm
          refine .inl ?_
          rcases hm with ⟨v, h1, h2⟩ | hm
          · exact Oper.wp_of_does (Oper.does_mono (fun u w1 ⟨h3, m, h4⟩ => by subst h3 h4; exact wpAny_of_m hF fuel _ _ _ b m h2) (h1 _ (Save.drawn S b n)))
          · exact Oper.wp_of_does (Oper.does_mono (fun v w1 ⟨S1, _, h2⟩ => wpAny_of_m hF fuel _ _ S1 w1 w1.drawn h2) (hm n))
        · rename_i hwd; simp only [hwd] at hm; exact wpAny_of_m hF fuel _ _ _ _ n hm⟩

/-- One operation 'oj', apart from 'oi', whose value is known in all worlds that may come. -/
theorem mOp_put {j : Nat} {oi oj : Oper} {v : Value} (hj : ops[j]? = some oj) (hap : oi.apart ops oj = true)
    (hsi : ∀ cs b, oi.op ≠ .select cs b) (hsj : ∀ cs b, oj.op ≠ .select cs b) {K : Act → (Nat → Prop) → World → Prop} {a : Act} {S : Nat → Prop} {b : World}
    (hy : YieldsC P ops S oi v a b) (h : mOp P ops j K (a.put oi.dst v) S b) :
    mOp P ops j (fun a' S' b' => YieldsC P ops S' oi v a' b' ∧ K (a'.put oi.dst v) S' b') a S b := by
  obtain ⟨h1, h2, h3⟩ := Oper.apart_spec hap
  have keep : ∀ (S' : Nat → Prop) (b' : World), YieldsC P ops S' oi v a b' → ∀ u, YieldsC P ops S' oi v (a.put oj.dst u) b' := fun S' b' hy u =>
    hy.of_same (execOp_put oi hsi a oj.dst u h3) (wanted_put oi a oj.dst u h3)
  unfold mOp at *
  simp only [hj] at *
  rw [wanted_put oj a oi.dst v h1] at h
  split
  · rename_i hw
    simp only [hw, if_true] at h
    rcases h with ⟨u, hu, hn⟩ | h
    · refine .inl ⟨u, fun w hw' => ?_, keep S b hy u, by rw [← Act.put_comm a v u h2]; exact hn⟩
      have := hu w hw'
      unfold Oper.does at *
      rwa [execOp_put oj hsj a oi.dst v h1] at this
    · refine .inr fun n => ?_
      have h4 := h n
      unfold Oper.does at h4
      rw [execOp_put oj hsj a oi.dst v h1] at h4
      refine Oper.does_mono (o := oj) (a := a) (n := fun u w1 => ∃ S1, (∀ w', Save S1 w1 w' → Save S b w') ∧ K ((a.put oi.dst v).put oj.dst u) S1 w1) (fun u w1 ⟨S1, hs, hk⟩ => ⟨S1, hs, keep S1 w1 (hy.later hs) u, by rw [← Act.put_comm a v u h2]; exact hk⟩) h4
  · rename_i hw
    simp only [hw] at h
    exact ⟨keep S b hy _, by rw [← Act.put_comm a v undef h2]; exact h⟩

theorem YieldsC.mOp {i : Nat} {o : Oper} {v : Value} {a : Act} {S : Nat → Prop} {b : World} (hi : ops[i]? = some o) (hy : YieldsC P ops S o v a b) {K : Act → (Nat → Prop) → World → Prop} (h : K (a.put o.dst v) S b) : mOp P ops i K a S b := by
  unfold Proofs.Ytofenjloieagaaa.mOp
  simp only [hi]
  rcases hy with ⟨hw, hv⟩ | ⟨hw, rfl⟩
  · simp only [hw, if_true]; exact .inl ⟨v, hv, h⟩
  · simp only [hw, Bool.false_eq_true, if_false]; exact h

/-- A calm operation that may come up now may be taken first. -/
theorem wpAnyM_first {F : Act → (Nat → Prop) → World → Prop} {i : Nat} {oi : Oper} {v : Value} (hi : ops[i]? = some oi) (hsel : ∀ (j : Nat) (o : Oper) cs b, ops[j]? = some o → o.op ≠ .select cs b) :
    ∀ (fuel : Nat) (listed : Array Bool) (a : Act) (S : Nat → Prop) (b : World),
      (∀ j oj, ops[j]? = some oj → j ≠ i → listed.getD j true = false → (∀ e ∈ oj.after, Region.binds md e = true → e.on ≠ i) → oi.apart ops oj = true) →
      i ∈ Region.ready md ops listed → YieldsC P ops S oi v a b →
      wpAnyM P md ops F fuel (listed.setIfInBounds i true) (a.put oi.dst v) S b → wpAnyM P md ops F (fuel + 1) listed a S b := by
  intro fuel
  induction fuel with
  | zero =>
    intro listed a S b _ hr hy H
    refine ⟨fun h => (by rw [h] at hr; cases hr), fun j hj => ?_⟩
    by_cases hji : j = i
    · subst hji; exact YieldsC.mOp hi hy H
    · have := ready_mono hj hji
      rw [H.1] at this
      cases this
  | succ fuel ih =>
    intro listed a S b hfree hr hy H
    refine ⟨fun h => (by rw [h] at hr; cases hr), fun j hj => ?_⟩
    by_cases hji : j = i
    · subst hji; exact YieldsC.mOp hi hy H
    · have h1 := H.2 j (ready_mono hj hji)
      obtain ⟨hjun, oj, hoj, hall⟩ := mem_ready.1 hj
      have hnot : ∀ e ∈ oj.after, Region.binds md e = true → e.on ≠ i := fun e he hb heq => by
        have h1 := hall e he hb
        have h0 := (mem_ready.1 hr).1
        rw [heq] at h1
        rcases Nat.lt_or_ge i listed.size with h' | h'
        · simp [h'] at h0 h1; rw [h0] at h1; cases h1
        · simp [Array.getElem?_eq_none h'] at h1
      have h2 := mOp_put hoj (hfree j oj hoj hji hjun hnot) (fun cs b => hsel i oi cs b hi) (fun cs b => hsel j oj cs b hoj) hy h1
      have hfree' : ∀ k ok, ops[k]? = some ok → k ≠ i → (listed.setIfInBounds j true).getD k true = false →
          (∀ e ∈ ok.after, Region.binds md e = true → e.on ≠ i) → oi.apart ops ok = true := fun k ok hk hki hun hno => by
        refine hfree k ok hk hki ?_ hno
        by_cases hjk : j = k
        · subst hjk; exact hjun
        · rw [getD_set_ne true hjk] at hun; exact hun
      refine mOp_mono (fun a' S' b' h3 => ih (listed.setIfInBounds j true) a' S' b' hfree' (ready_mono hr (Ne.symm hji)) h3.1 ?_) h2
      rw [Array.setIfInBounds_comm _ _ hji]
      exact h3.2

/-- Operations that never enter a function. -/
def plain (o : Oper) : Bool :=
  match o.op with
  | .move _ | .assign _ | .pick .. | .load .. | .binOp .. | .unOp .. | .convert .. | .slice .. | .fieldAddr .. | .field .. | .indexAddr .. | .index .. | .extract .. | .makeInterface .. | .lookup .. | .build .. | .nilCheck _ => true
  | .call c => match c.callee with | .builtin .len => true | .builtin .cap => true | _ => false
  | _ => false

theorem run_value (s : Sem Value) (w w' : World) (f : FuncId) (args : Array Value) : (do pure (Next.value (← s)) : Sem Next).run P w ≠ .ok (.enter f args) w' := by
  rw [Sem.run_bind]
  cases s.run P w with
  | ok v w2 => simp [Result.andThen, Sem.run_pure]
  | halt x w2 => simp [Result.andThen]

theorem pure_enter (v : Value) (w w' : World) (f : FuncId) (args : Array Value) : (pure (Next.value v) : Sem Next).run P w ≠ .ok (.enter f args) w' := by simp [Sem.run_pure]
theorem panic_enter (w w' : World) (f : FuncId) (args : Array Value) : (runtimePanic .nilDeref : Sem Next).run P w ≠ .ok (.enter f args) w' := by
  intro h; cases h
theorem bind_enter {α : Type} (s : Sem α) (k : α → Sem Next) (w w' : World) (f : FuncId) (args : Array Value) (h : ∀ x w2, (k x).run P w2 ≠ .ok (.enter f args) w') : (s >>= k).run P w ≠ .ok (.enter f args) w' := by
  rw [Sem.run_bind]
  cases s.run P w with
  | ok v w2 => exact h v w2
  | halt x w2 => simp [Result.andThen]
theorem nil_enter {o : Oper} {x : Operand} (ho : o.op = .nilCheck x) (ρ : Operand → Value) (w w' : World) (f : FuncId) (args : Array Value) : (execOp ρ o).run P w ≠ .ok (.enter f args) w' := by
  unfold execOp
  simp only [ho]
  repeat' split
  all_goals first
    | exact pure_enter _ _ _ _ _
    | exact panic_enter _ _ _ _
    | (refine bind_enter _ _ _ _ _ _ fun x w2 => ?_
       refine bind_enter _ _ _ _ _ _ fun x w2 => ?_
       split
       · exact bind_enter _ _ _ _ _ _ fun x w2 => pure_enter _ _ _ _ _
       · exact pure_enter _ _ _ _ _)

theorem plain_enter {o : Oper} (h : plain o = true) (ρ : Operand → Value) (w w' : World) (f : FuncId) (args : Array Value) : (execOp ρ o).run P w ≠ .ok (.enter f args) w' := by
  by_cases hn : ∃ x, o.op = .nilCheck x
  · obtain ⟨x, hx⟩ := hn; exact nil_enter hx _ _ _ _ _
  obtain ⟨dst, op, type, pos, after, guard⟩ := o
  cases op <;> simp only [plain] at h <;> simp only [execOp] <;> first
    | (exact absurd h (by decide))
    | exact run_value _ _ _ _ _
    | (simp [Sem.run_pure]; done)
    | (rw [Sem.run_bind]; cases (asBool _).run P w <;> simp [Result.andThen, Sem.run_pure]; done)
    | exact absurd ⟨_, rfl⟩ hn
    | skip
  rename_i c
  obtain ⟨callee, as, ts⟩ := c
  cases callee <;> simp only at h <;> first
    | (exact absurd h (by decide))
    | skip
  rename_i b
  cases b <;> simp only at h <;> first
    | (exact absurd h (by decide))
    | (simp only [resolve, Sem.run_bind, Sem.run_pure, Result.andThen_ok, invoke, builtin]
       generalize Sem.run P _ w = r
       cases r <;> simp [Result.andThen])

/-- A plain operation that the quiet walk has gone through is calm. -/
theorem calm_of_quiet {S : Nat → Prop} {o : Oper} {v : Value} {a : Act} {b : World} (hp : plain o = true) (h : ∀ w, (∃ p : Later S b, w = p.w) → o.quietAt P a (fun w' => ∃ p : Later S b, w' = p.w) w v) : Calm P S o v a b := by
  intro w hw
  have h3 := h w ⟨⟨w, hw⟩, rfl⟩
  unfold Oper.quietAt at h3
  unfold Oper.does
  generalize hr : (execOp a.eval o).run P w = r at *
  cases r with
  | ok x w2 =>
    cases x <;> simp only [Oper.quietUpon] at h3 <;> simp only
    · obtain ⟨rfl, rfl⟩ := h3; exact ⟨rfl, _, rfl⟩
    · obtain ⟨rfl, rfl⟩ := h3; exact ⟨rfl, _, rfl⟩
    · exact absurd hr (plain_enter hp _ _ _ _ _)
  | halt x w2 => simp only [Oper.quietUpon] at h3

/-- An operation that enters functions, or writes, is hidden: it may be passed over, when its guard says no; it can't be carried out. -/
def mask (o : Oper) : Oper := if plain o then o else { o with op := .pick (.const undef) (.const undef) (.const undef) }

theorem mask_stuck {o : Oper} (h : plain o = false) (a : Act) (C : World → Prop) (K : Act → Prop) (w : World) (hw : C w) : ¬ (mask o).quiet P a C K := by
  rintro ⟨v, h1, _⟩
  have h2 := h1 w hw
  unfold Oper.quietAt mask at h2
  rw [h] at h2
  simp [execOp, asBool, Act.eval, undef, Oper.quietUpon] at h2

/-- The operations of a list of numbers. -/
def pickOps (ops : Array Oper) : List Nat → List Oper
  | [] => []
  | i :: l => match ops[i]? with | some o => mask o :: pickOps ops l | none => pickOps ops l

/-- May these be taken now, one behind the other? -/
def segB (md : Region.Mode) (ops : Array Oper) : List Nat → Array Bool → Bool
  | [], _ => true
  | i :: l, listed => (Region.ready md ops listed).contains i && Region.free md ops listed i && (ops[i]?).isSome && segB md ops l (listed.setIfInBounds i true)

def listAll (l : List Nat) (listed : Array Bool) : Array Bool := l.foldl (fun x i => x.setIfInBounds i true) listed

theorem seg {F : Act → (Nat → Prop) → World → Prop} {S : Nat → Prop} (hs : Region.noSelect ops = true) : ∀ (l : List Nat) (fuel : Nat) (listed : Array Bool) (a : Act) (b : World),
    segB md ops l listed = true → wpQuiet P ops (fun w' => ∃ p : Later S b, w' = p.w) (fun a' => wpAnyM P md ops F fuel (listAll l listed) a' S b) (pickOps ops l) a → wpAnyM P md ops F (fuel + l.length) listed a S b
  | [], _, _, _, _, _, h => h
  | i :: l, fuel, listed, a, b, hB, h => by
    simp only [segB, Bool.and_eq_true] at hB
    obtain ⟨⟨⟨hr, hf⟩, hp⟩, hB'⟩ := hB
    cases hi : ops[i]? with
    | none => simp only [hi] at hp; cases hp
    | some o =>
      have hr' : i ∈ Region.ready md ops listed := by simpa using hr
      simp only [pickOps, hi] at h
      rw [List.length_cons, ← Nat.add_assoc]
      have hgd : Region.wanted (mask o) (yielded ops a.tmps) = Region.wanted o (yielded ops a.tmps) := by unfold mask; split <;> rfl
      have hdst : (mask o).dst = o.dst := by unfold mask; split <;> rfl
      unfold wpQuiet at h
      rw [hgd, hdst] at h
      by_cases hw : Region.wanted o (yielded ops a.tmps) = true
      · rw [if_pos hw] at h
        by_cases hpl : plain o = true
        · have hm : mask o = o := by unfold mask; rw [if_pos hpl]
          rw [hm] at h
          obtain ⟨v, h1, h2⟩ := h
          exact wpAnyM_first hi (Region.noSelect_spec hs) (fuel + l.length) listed a S b (Region.free_spec hi hf) hr' (.inl ⟨hw, calm_of_quiet hpl h1⟩) (seg hs l fuel _ _ b hB' h2)
        · exact absurd h (mask_stuck (by simpa using hpl) a _ _ b ⟨⟨b, Save.refl S b⟩, rfl⟩)
      · rw [if_neg hw] at h
        exact wpAnyM_first hi (Region.noSelect_spec hs) (fuel + l.length) listed a S b (Region.free_spec hi hf) hr' (.inr ⟨by simpa using hw, rfl⟩) (seg hs l fuel _ _ b hB' h)

/-- A STRETCH OF PLAIN OPERATIONS (or such as are not wanted), taken first. -/
theorem seg_ {F : Act → (Nat → Prop) → World → Prop} {S : Nat → Prop} (l : List Nat) (fuel n : Nat) {listed : Array Bool} {a : Act} {b : World} {lo : List Oper} (hn : n = fuel + l.length) (hs : Region.noSelect ops = true)
    (hB : segB md ops l listed = true) (hlo : pickOps ops l = lo)
    (h : wpQuiet P ops (fun w' => ∃ p : Later S b, w' = p.w) (fun a' => wpAnyM P md ops F fuel (listAll l listed) a' S b) lo a) : wpAnyM P md ops F n listed a S b := by
  subst hn hlo
  exact seg hs l fuel listed a b hB h

/-- A CALL THAT TURNS NOTHING, taken first: the same value in every world that may come. -/
theorem calm_ {F : Act → (Nat → Prop) → World → Prop} {S : Nat → Prop} {i : Nat} {o : Oper} {fuel : Nat} {listed : Array Bool} {a : Act} {b : World} (v : Value) (hi : ops[i]? = some o) (hs : Region.noSelect ops = true)
    (hr : (Region.ready md ops listed).contains i = true) (hf : Region.free md ops listed i = true) (hw : Region.wanted o (yielded ops a.tmps) = true)
    (hc : ∀ w, Save S b w → Oper.does P o a w fun u w1 => u = v ∧ ∃ n, w1 = { w with drawn := n })
    (h : wpAnyM P md ops F fuel (listed.setIfInBounds i true) (a.put o.dst v) S b) : wpAnyM P md ops F (fuel + 1) listed a S b :=
  wpAnyM_first hi (Region.noSelect_spec hs) fuel listed a S b (Region.free_spec hi hf) (by simpa using hr) (.inl ⟨hw, hc⟩) h

theorem mOp_call {K : Act → (Nat → Prop) → World → Prop} {S : Nat → Prop} {i : Nat} {o : Oper} {a : Act} {b : World} (hi : ops[i]? = some o) (hw : Region.wanted o (yielded ops a.tmps) = true)
    (h : ∀ n, Oper.does P o a { b with drawn := n } fun v w1 => ∃ S1, (∀ w', Save S1 w1 w' → Save S b w') ∧ K (a.put o.dst v) S1 w1) : mOp P ops i K a S b := by
  unfold mOp; simp only [hi, hw, if_true]; exact .inr h

/-- A CALL, or what else lays memory, when it alone may come up: the world is the one that was left, but for draws. -/
theorem callx_ {F : Act → (Nat → Prop) → World → Prop} {S : Nat → Prop} {i : Nat} {o : Oper} {fuel : Nat} {listed : Array Bool} {a : Act} {b : World} (hi : ops[i]? = some o) (hr : (Region.ready md ops listed == [i]) = true) (hw : Region.wanted o (yielded ops a.tmps) = true)
    (h : ∀ n, Oper.does P o a { b with drawn := n } fun v w1 => ∃ S1, (∀ w', Save S1 w1 w' → Save S b w') ∧ wpAnyM P md ops F fuel (listed.setIfInBounds i true) (a.put o.dst v) S1 w1) : wpAnyM P md ops F (fuel + 1) listed a S b := by
  have hr' : Region.ready md ops listed = [i] := by simpa using hr
  refine ⟨(fun h0 => by rw [h0] at hr'; cases hr'), (fun j hj => ?_)⟩
  rw [hr'] at hj
  obtain rfl := List.mem_singleton.1 hj
  exact mOp_call hi hw h

theorem call_ {F : Act → (Nat → Prop) → World → Prop} {S : Nat → Prop} {i : Nat} {o : Oper} {fuel : Nat} {listed : Array Bool} {a : Act} {b : World} (hi : ops[i]? = some o) (hr : (Region.ready md ops listed == [i]) = true) (hw : Region.wanted o (yielded ops a.tmps) = true)
    (h : ∀ w, Save S b w → Oper.does P o a w fun v w1 => ∃ S1, (∀ w', Save S1 w1 w' → Save S b w') ∧ wpAnyM P md ops F fuel (listed.setIfInBounds i true) (a.put o.dst v) S1 w1) : wpAnyM P md ops F (fuel + 1) listed a S b :=
  callx_ hi hr hw fun n => h _ (Save.drawn S b n)

/-- TWO THAT MAY COME UP: the one first, or the other. -/
theorem fork_ {F : Act → (Nat → Prop) → World → Prop} {S : Nat → Prop} {i j : Nat} {oi oj : Oper} {fuel : Nat} {listed : Array Bool} {a : Act} {b : World} (hi : ops[i]? = some oi) (hj : ops[j]? = some oj) (hr : (Region.ready md ops listed == [i, j]) = true)
    (hwi : Region.wanted oi (yielded ops a.tmps) = true) (hwj : Region.wanted oj (yielded ops a.tmps) = true)
    (h1 : ∀ n, Oper.does P oi a { b with drawn := n } fun v w1 => ∃ S1, (∀ w', Save S1 w1 w' → Save S b w') ∧ wpAnyM P md ops F fuel (listed.setIfInBounds i true) (a.put oi.dst v) S1 w1)
    (h2 : ∀ n, Oper.does P oj a { b with drawn := n } fun v w1 => ∃ S1, (∀ w', Save S1 w1 w' → Save S b w') ∧ wpAnyM P md ops F fuel (listed.setIfInBounds j true) (a.put oj.dst v) S1 w1) : wpAnyM P md ops F (fuel + 1) listed a S b := by
  have hr' : Region.ready md ops listed = [i, j] := by simpa using hr
  refine ⟨(fun h0 => by rw [h0] at hr'; cases hr'), (fun k hk => ?_)⟩
  rw [hr'] at hk
  simp only [List.mem_cons, List.not_mem_nil, or_false] at hk
  rcases hk with rfl | rfl
  · exact mOp_call hi hwi h1
  · exact mOp_call hj hwj h2

theorem end_ {F : Act → (Nat → Prop) → World → Prop} {S : Nat → Prop} {listed : Array Bool} {a : Act} {b : World} (hr : (Region.ready md ops listed).isEmpty = true) (h : F a S b) : wpAnyM P md ops F 0 listed a S b := ⟨by simpa using hr, h⟩

/-- THE REGION. -/
theorem region_ {id : Nat} {Q : Exit → Act → World → Prop} {a : Act} {w : World} (S : Nat → Prop) (hm : P.follows .mixedOrders = true)
    (h : wpAnyM P .any ops (fun a' S b => ∀ w', Save S b w' → Q .normal a' w') ops.size (Array.replicate ops.size false) a S w) : (Code.region id ops true).wp P Q a w :=
  wp_region_any hm (wpAny_of_m (fun _ _ _ w' hw' hF => hF w' hw') _ _ _ S w _ h)

/-- Behind an operation the same blocks may turn. -/
theorem same_ {S : Nat → Prop} {b w w1 : World} {K : (Nat → Prop) → World → Prop} (hw : Save S b w) (h : Save S w w1) (hk : K S w1) : ∃ S1, (∀ w', Save S1 w1 w' → Save S b w') ∧ K S1 w1 :=
  ⟨S, fun _ h' => (hw.trans h).trans h', hk⟩
/-- Behind an operation others may turn: new ones at most. -/
theorem turn_ {S S1 : Nat → Prop} {b w w1 : World} {K : (Nat → Prop) → World → Prop} (hw : Save S b w) (h : Save S w w1) (hS : ∀ i, i < b.heap.size → S1 i → S i) (hk : K S1 w1) : ∃ S1, (∀ w', Save S1 w1 w' → Save S b w') ∧ K S1 w1 :=
  ⟨S1, fun _ h' => (hw.trans h).turn h' hS, hk⟩

end
end Go.Proofs.Ytofenjloieagaaa
