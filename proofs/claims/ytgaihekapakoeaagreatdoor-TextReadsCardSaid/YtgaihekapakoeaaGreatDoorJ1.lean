/-    -/
import Derived.Deep.Quiet
import Derived.Below
import Derived.BigQuiet
set_option linter.unusedVariables false
set_option linter.unusedSimpArgs false
namespace Go.Proofs.YtgaihekapakoeaaGreatDoor
open Go.RowKit

structure Save (S : Nat → Prop) (w w' : World) : Prop where
 os : w'.os = w.os
 tape : w'.tape = w.tape
 output : w'.output = w.output
 size : w.heap.size ≤ w'.heap.size
 block : ∀ k, k < w.heap.size → ¬ S k → w'.heap[k]? = w.heap[k]?

section
variable {S S' : Nat → Prop} {a b c w w' : World}
theorem Save.refl (S : Nat → Prop) (w : World) : Save S w w := ⟨rfl, rfl, rfl, Nat.le_refl _, fun _ _ _ => rfl⟩
theorem Save.trans (h : Save S a b) (k : Save S b c) : Save S a c :=
 ⟨k.os.trans h.os, k.tape.trans h.tape, k.output.trans h.output, Nat.le_trans h.size k.size, fun i hi hs => (k.block i (Nat.lt_of_lt_of_le hi h.size) hs).trans (h.block i hi hs)⟩
theorem Save.drawn (S : Nat → Prop) (w : World) (n : Nat) : Save S w { w with drawn := n } := ⟨rfl, rfl, rfl, Nat.le_refl _, fun _ _ _ => rfl⟩
theorem Save.of_below (h : Below w.heap.size w w') : Save S w w' := ⟨h.os, h.tape, h.output, h.size, fun k hk _ => h.block k hk⟩
theorem Save.all (h : Save (fun _ => False) w w') : Below w.heap.size w w' := ⟨h.os, h.tape, h.output, h.size, fun k hk => h.block k hk (fun x => x)⟩
theorem Save.below (h : Save S w w') {B : Nat} (hB : B ≤ w.heap.size) (hS : ∀ k, S k → B ≤ k) : Below B w w' := ⟨h.os, h.tape, h.output, h.size, fun k hk => h.block k (by omega) (fun hs => by have := hS k hs; omega)⟩
end

structure Later (S : Nat → Prop) (b : World) where
 w : World
 ok : Save S b w
instance (S : Nat → Prop) (b : World) : Nonempty (Later S b) := ⟨⟨b, Save.refl S b⟩⟩

def Oper.does (P : Program) (o : Oper) (a : Act) (w : World) (next : Value → World → Prop) : Prop :=
 match (execOp a.eval o).run P w with
 | .ok (.value v) w1 => next v w1
 | .ok .skip w1 => next undef w1
 | .ok (.enter f args) w2 => Calls P f args w2 fun e w1 => ∃ v, e = .returned v ∧ next v w1
 | _ => False

section
variable {P : Program} {ops : Array Oper} {md : Region.Mode}

theorem Oper.does_mono {o : Oper} {a : Act} {w : World} {n n' : Value → World → Prop} (h : ∀ v w, n v w → n' v w) (hd : Oper.does P o a w n) : Oper.does P o a w n' := by
 unfold Oper.does at *
 generalize (execOp a.eval o).run P w = r at *
 cases r with
 | ok x w2 =>
  cases x <;> simp only at hd ⊢ <;> first
   | exact h _ _ hd
   | exact hd.mono fun e w1 ⟨v, he, hn⟩ => ⟨v, he, h _ _ hn⟩
 | halt x w2 => simp only at hd

theorem Oper.wp_of_does {o : Oper} {a : Act} {w : World} {K : Act → World → Prop} {Q : Exit → Act → World → Prop} (hd : Oper.does P o a w (fun v w1 => K (a.put o.dst v) w1)) : o.wp P a w K Q := by
 unfold Oper.does at hd
 unfold Oper.wp
 generalize (execOp a.eval o).run P w = r at *
 cases r with
 | ok x w2 =>
  cases x <;> simp only at hd <;> simp only [Oper.upon]
  ·exact hd
  ·exact hd
  ·exact hd.mono fun e w1 ⟨v, he, hn⟩ => by subst he; exact hn
 | halt x w2 => simp only at hd

def plain (o : Oper) : Bool :=
 match o.op with
 | .move _ | .assign _ | .pick .. | .load .. | .binOp .. | .unOp .. | .convert .. | .slice .. | .fieldAddr .. | .field .. | .indexAddr .. | .index .. | .extract .. | .makeInterface .. | .lookup .. | .build .. | .nilCheck _ => true
 | .call c => match c.callee with | .builtin .len => true | .builtin .cap => true | _ => false
 | _ => false

theorem run_value (s : Sem Value) (w w' : World) (f : FuncId) (args : Array Value) : (do pure (Next.value (← s)) : Sem Next).run P w ≠ .ok (.enter f args) w' := by
 rw [Sem.run_bind]
 cases s.run P w with
 | ok v w2 => simp [Result.andThen, Sem.run_pure]
 | halt x w2 => simp [Result.andThen]

theorem pure_enter (v : Value) (w w' : World) (f : FuncId) (args : Array Value) : (pure (Next.value v) : Sem Next).run P w ≠ .ok (.enter f args) w' := by simp [Sem.run_pure]
theorem panic_enter (w w' : World) (f : FuncId) (args : Array Value) : (runtimePanic .nilDeref : Sem Next).run P w ≠ .ok (.enter f args) w' := by
 intro h; cases h
theorem bind_enter {α : Type} (s : Sem α) (k : α → Sem Next) (w w' : World) (f : FuncId) (args : Array Value) (h : ∀ x w2, (k x).run P w2 ≠ .ok (.enter f args) w') : (s >>= k).run P w ≠ .ok (.enter f args) w' := by
 rw [Sem.run_bind]
 cases s.run P w with
 | ok v w2 => exact h v w2
 | halt x w2 => simp [Result.andThen]
theorem nil_enter {o : Oper} {x : Operand} (ho : o.op = .nilCheck x) (ρ : Operand → Value) (w w' : World) (f : FuncId) (args : Array Value) : (execOp ρ o).run P w ≠ .ok (.enter f args) w' := by
  unfold execOp
  simp only [ho]
  repeat' split
  all_goals first
    | exact pure_enter _ _ _ _ _
    | exact panic_enter _ _ _ _
    | (refine bind_enter _ _ _ _ _ _ fun x w2 => ?_
       refine bind_enter _ _ _ _ _ _ fun x w2 => ?_
       split
       · exact bind_enter _ _ _ _ _ _ fun x w2 => pure_enter _ _ _ _ _
       · exact pure_enter _ _ _ _ _)

theorem plain_enter {o : Oper} (h : plain o = true) (ρ : Operand → Value) (w w' : World) (f : FuncId) (args : Array Value) : (execOp ρ o).run P w ≠ .ok (.enter f args) w' := by
  by_cases hn : ∃ x, o.op = .nilCheck x
  · obtain ⟨x, hx⟩ := hn; exact nil_enter hx _ _ _ _ _
  obtain ⟨dst, op, type, pos, after, guard⟩ := o
  cases op <;> simp only [plain] at h <;> simp only [execOp] <;> first
    | (exact absurd h (by decide))
    | exact run_value _ _ _ _ _
    | (simp [Sem.run_pure]; done)
    | (rw [Sem.run_bind]; cases (asBool _).run P w <;> simp [Result.andThen, Sem.run_pure]; done)
    | exact absurd ⟨_, rfl⟩ hn
    | skip
  rename_i c
  obtain ⟨callee, as, ts⟩ := c
  cases callee <;> simp only at h <;> first
    | (exact absurd h (by decide))
    | skip
  rename_i b
  cases b <;> simp only at h <;> first
    | (exact absurd h (by decide))
    | (simp only [resolve, Sem.run_bind, Sem.run_pure, Result.andThen_ok, invoke, builtin]
       generalize Sem.run P _ w = r
       cases r <;> simp [Result.andThen])

def mask (o : Oper) : Oper := if plain o then o else { o with op := .pick (.const undef) (.const undef) (.const undef) }

theorem mask_stuck {o : Oper} (h : plain o = false) (a : Act) (C : World → Prop) (K : Act → Prop) (w : World) (hw : C w) : ¬ (mask o).quiet P a C K := by
 rintro ⟨v, h1, _⟩
 have h2 := h1 w hw
 unfold Oper.quietAt mask at h2
 rw [h] at h2
 simp [execOp, asBool, Act.eval, undef, Oper.quietUpon] at h2

def pickOps (ops : Array Oper) : List Nat → List Oper
 | [] => []
 | i :: l => match ops[i]? with | some o => mask o :: pickOps ops l | none => pickOps ops l

def segB (md : Region.Mode) (ops : Array Oper) : List Nat → Array Bool → Bool
 | [], _ => true
 | i :: l, listed => (Region.ready md ops listed).contains i && Region.free md ops listed i && (ops[i]?).isSome && segB md ops l (listed.setIfInBounds i true)

def listAll (l : List Nat) (listed : Array Bool) : Array Bool := l.foldl (fun x i => x.setIfInBounds i true) listed

end
end Go.Proofs.YtgaihekapakoeaaGreatDoor
namespace Go.Proofs.YtgaihekapakoeaaGreatDoor
open Go.RowKit

namespace L
section
variable {P : Program} {ops : Array Oper} {md : Region.Mode}

end
end L
end Go.Proofs.YtgaihekapakoeaaGreatDoor
namespace Go.Proofs.YtgaihekapakoeaaGreatDoor
open Go.RowKit
namespace M
def Closed (C : World → Prop) : Prop := ∀ w w1, C w → Save (fun _ => False) w w1 → C w1
def Base (b : World) : World → Prop := fun w => b.heap.size ≤ w.heap.size ∧ Below b.heap.size b w
theorem Base.refl (b : World) : Base b b := ⟨Nat.le_refl _, Below.refl _ _⟩
theorem closed_base (b : World) : Closed (Base b) := fun _ _ hw hs => ⟨Nat.le_trans hw.1 hs.size, hw.2.trans (hs.all.mono hw.1)⟩
theorem Base.below {b w w' : World} (h : Base b w) (hb : Below b.heap.size w w') : Base b w' := ⟨Nat.le_trans h.1 hb.size, h.2.trans hb⟩

structure Of (C : World → Prop) where
 w : World
 ok : C w
instance (b : World) : Nonempty (Of (Base b)) := ⟨⟨b, Base.refl b⟩⟩

section
variable {P : Program} {ops : Array Oper} {md : Region.Mode} {C0 : World → Prop}

def Calm (P : Program) (C0 : World → Prop) (o : Oper) (v : Value) (a : Act) : Prop :=
 ∀ w, C0 w → Oper.does P o a w fun u w1 => u = v ∧ Save (fun _ => False) w w1

def YieldsC (P : Program) (ops : Array Oper) (C0 : World → Prop) (o : Oper) (v : Value) (a : Act) : Prop :=
 (Region.wanted o (yielded ops a.tmps) = true ∧ Calm P C0 o v a) ∨ (Region.wanted o (yielded ops a.tmps) = false ∧ v = undef)

theorem YieldsC.of_same {o : Oper} {v : Value} {a a' : Act} (hy : YieldsC P ops C0 o v a) (he : execOp a'.eval o = execOp a.eval o)
  (hw : Region.wanted o (yielded ops a'.tmps) = Region.wanted o (yielded ops a.tmps)) : YieldsC P ops C0 o v a' := by
 unfold YieldsC Calm Oper.does at *
 rw [he, hw]
 exact hy

def mOp (P : Program) (ops : Array Oper) (C0 : World → Prop) (i : Nat) (K : Act → (World → Prop) → Prop) (a : Act) (C : World → Prop) : Prop :=
 match ops[i]? with
 | none => K a C
 | some o => if Region.wanted o (yielded ops a.tmps) then (∃ v, Calm P C0 o v a ∧ K (a.put o.dst v) C) ∨ (∀ w, C w → Oper.does P o a w fun v w1 => ∃ C1, C1 w1 ∧ Closed C1 ∧ (∀ w', C1 w' → C0 w') ∧ K (a.put o.dst v) C1) else K (a.put o.dst undef) C

theorem mOp_mono {i : Nat} {a : Act} {C : World → Prop} {K K' : Act → (World → Prop) → Prop} (h : ∀ a C, K a C → K' a C) (hh : mOp P ops C0 i K a C) : mOp P ops C0 i K' a C := by
 unfold mOp at *
 split
 ·exact h _ _ (by simpa [*] using hh)
 ·rename_i o ho
  simp only [ho] at hh
  split
  ·rename_i hw
   simp only [hw, if_true] at hh
   rcases hh with ⟨v, h1, h2⟩ | hh
   ·exact .inl ⟨v, h1, h _ _ h2⟩
   ·exact .inr fun w hw2 => Oper.does_mono (fun v w1 ⟨C1, h1, h2, h3, h4⟩ => ⟨C1, h1, h2, h3, h _ _ h4⟩) (hh w hw2)
  ·rename_i hw; simp only [hw] at hh; exact h _ _ hh

def wpAnyM (P : Program) (md : Region.Mode) (ops : Array Oper) (C0 : World → Prop) (F : Act → (World → Prop) → Prop) : Nat → Array Bool → Act → (World → Prop) → Prop
 | 0, listed, a, C => Region.ready md ops listed = [] ∧ F a C
 | fuel + 1, listed, a, C =>
  (Region.ready md ops listed = [] → F a C) ∧
  ∀ i ∈ Region.ready md ops listed, mOp P ops C0 i (wpAnyM P md ops C0 F fuel (listed.setIfInBounds i true)) a C

theorem wpAny_of_m {F : Act → (World → Prop) → Prop} {Q : Exit → Act → World → Prop} (hF : ∀ a C w, C w → F a C → Q .normal a w) : ∀ (fuel : Nat) (listed : Array Bool) (a : Act) (C : World → Prop) (w : World), C w → Closed C → (∀ w', C w' → C0 w') →
  wpAnyM P md ops C0 F fuel listed a C → wpAny P md ops Q fuel listed a w
 | 0, _, _, _, _, hC, _, _, h => ⟨h.1, hF _ _ _ hC h.2⟩
 | fuel + 1, listed, a, C, w, hC, hcl, hsub, h => ⟨fun h0 => hF _ _ _ hC (h.1 h0), fun i hi => by
   have hm := h.2 i hi
   unfold mOp at hm
   unfold wpOp
   split
   ·rename_i ho; simp only [ho] at hm; exact wpAny_of_m hF fuel _ _ _ _ hC hcl hsub hm
   ·rename_i o ho
    simp only [ho] at hm
    split
    ·rename_i hwd
     simp only [hwd, if_true] at hm
     refine .inl ?_
     rcases hm with ⟨v, h1, h2⟩ | hm
     ·exact Oper.wp_of_does (Oper.does_mono (fun u w1 ⟨h3, h4⟩ => by subst h3; exact wpAny_of_m hF fuel _ _ C _ (hcl _ _ hC h4) hcl hsub h2) (h1 _ (hsub _ hC)))
     ·exact Oper.wp_of_does (Oper.does_mono (fun v w1 ⟨C1, k1, k2, k3, k4⟩ => wpAny_of_m hF fuel _ _ C1 w1 k1 k2 k3 k4) (hm w hC))
    ·rename_i hwd; simp only [hwd] at hm; exact wpAny_of_m hF fuel _ _ _ _ hC hcl hsub hm⟩

theorem mOp_put {j : Nat} {oi oj : Oper} {v : Value} (hj : ops[j]? = some oj) (hap : oi.apart ops oj = true)
  (hsi : ∀ cs b, oi.op ≠ .select cs b) (hsj : ∀ cs b, oj.op ≠ .select cs b) {K : Act → (World → Prop) → Prop} {a : Act} {C : World → Prop}
  (hy : YieldsC P ops C0 oi v a) (h : mOp P ops C0 j K (a.put oi.dst v) C) :
  mOp P ops C0 j (fun a' C' => YieldsC P ops C0 oi v a' ∧ K (a'.put oi.dst v) C') a C := by
 obtain ⟨h1, h2, h3⟩ := Oper.apart_spec hap
 have keep : ∀ u, YieldsC P ops C0 oi v (a.put oj.dst u) := fun u =>
  hy.of_same (execOp_put oi hsi a oj.dst u h3) (wanted_put oi a oj.dst u h3)
 unfold mOp at *
 simp only [hj] at *
 rw [wanted_put oj a oi.dst v h1] at h
 split
 ·rename_i hw
  simp only [hw, if_true] at h
  rcases h with ⟨u, hu, hn⟩ | h
  ·refine .inl ⟨u, fun w hw' => ?_, keep u, by rw [← Act.put_comm a v u h2]; exact hn⟩
   have := hu w hw'
   unfold Oper.does at *
   rwa [execOp_put oj hsj a oi.dst v h1] at this
  ·refine .inr fun wq hwq => ?_
   have h4 := h wq hwq
   unfold Oper.does at h4
   rw [execOp_put oj hsj a oi.dst v h1] at h4
   refine Oper.does_mono (o := oj) (a := a) (w := wq) (n := fun u w1 => ∃ C1, C1 w1 ∧ Closed C1 ∧ (∀ w', C1 w' → C0 w') ∧ K ((a.put oi.dst v).put oj.dst u) C1) (fun u w1 ⟨C1, k1, k2, k3, hk⟩ => ⟨C1, k1, k2, k3, keep u, by rw [← Act.put_comm a v u h2]; exact hk⟩) h4
 ·rename_i hw
  simp only [hw] at h
  exact ⟨keep _, by rw [← Act.put_comm a v undef h2]; exact h⟩

theorem YieldsC.mOp {i : Nat} {o : Oper} {v : Value} {a : Act} {C : World → Prop} (hi : ops[i]? = some o) (hy : YieldsC P ops C0 o v a) {K : Act → (World → Prop) → Prop} (h : K (a.put o.dst v) C) : mOp P ops C0 i K a C := by
 unfold Proofs.YtgaihekapakoeaaGreatDoor.M.mOp
 simp only [hi]
 rcases hy with ⟨hw, hv⟩ | ⟨hw, rfl⟩
 ·simp only [hw, if_true]; exact .inl ⟨v, hv, h⟩
 ·simp only [hw, Bool.false_eq_true, if_false]; exact h

theorem wpAnyM_first {F : Act → (World → Prop) → Prop} {i : Nat} {oi : Oper} {v : Value} (hi : ops[i]? = some oi) (hsel : ∀ (j : Nat) (o : Oper) cs b, ops[j]? = some o → o.op ≠ .select cs b) :
  ∀ (fuel : Nat) (listed : Array Bool) (a : Act) (C : World → Prop),
   (∀ j oj, ops[j]? = some oj → j ≠ i → listed.getD j true = false → (∀ e ∈ oj.after, Region.binds md e = true → e.on ≠ i) → oi.apart ops oj = true) →
   i ∈ Region.ready md ops listed → YieldsC P ops C0 oi v a →
   wpAnyM P md ops C0 F fuel (listed.setIfInBounds i true) (a.put oi.dst v) C → wpAnyM P md ops C0 F (fuel + 1) listed a C := by
 intro fuel
 induction fuel with
 | zero =>
  intro listed a C _ hr hy H
  refine ⟨fun h => (by rw [h] at hr; cases hr), fun j hj => ?_⟩
  by_cases hji : j = i
  ·subst hji; exact YieldsC.mOp hi hy H
  ·have := ready_mono hj hji
   rw [H.1] at this
   cases this
 | succ fuel ih =>
  intro listed a C hfree hr hy H
  refine ⟨fun h => (by rw [h] at hr; cases hr), fun j hj => ?_⟩
  by_cases hji : j = i
  ·subst hji; exact YieldsC.mOp hi hy H
  ·have h1 := H.2 j (ready_mono hj hji)
   obtain ⟨hjun, oj, hoj, hall⟩ := mem_ready.1 hj
   have hnot : ∀ e ∈ oj.after, Region.binds md e = true → e.on ≠ i := fun e he hb heq => by
    have h1 := hall e he hb
    have h0 := (mem_ready.1 hr).1
    rw [heq] at h1
    rcases Nat.lt_or_ge i listed.size with h' | h'
    ·simp [h'] at h0 h1; rw [h0] at h1; cases h1
    ·simp [Array.getElem?_eq_none h'] at h1
   have h2 := mOp_put hoj (hfree j oj hoj hji hjun hnot) (fun cs b => hsel i oi cs b hi) (fun cs b => hsel j oj cs b hoj) hy h1
   have hfree' : ∀ k ok, ops[k]? = some ok → k ≠ i → (listed.setIfInBounds j true).getD k true = false →
     (∀ e ∈ ok.after, Region.binds md e = true → e.on ≠ i) → oi.apart ops ok = true := fun k ok hk hki hun hno => by
    refine hfree k ok hk hki ?_ hno
    by_cases hjk : j = k
    ·subst hjk; exact hjun
    ·rw [getD_set_ne true hjk] at hun; exact hun
   refine mOp_mono (fun a' C' h3 => ih (listed.setIfInBounds j true) a' C' hfree' (ready_mono hr (Ne.symm hji)) h3.1 ?_) h2
   rw [Array.setIfInBounds_comm _ _ hji]
   exact h3.2

theorem calm_of_quiet {o : Oper} {v : Value} {a : Act} (hp : plain o = true) (h : ∀ w, (∃ p : Of C0, w = p.w) → o.quietAt P a (fun w' => ∃ p : Of C0, w' = p.w) w v) : Calm P C0 o v a := by
 intro w hw
 have h3 := h w ⟨⟨w, hw⟩, rfl⟩
 unfold Oper.quietAt at h3
 unfold Oper.does
 generalize hr : (execOp a.eval o).run P w = r at *
 cases r with
 | ok x w2 =>
  cases x <;> simp only [Oper.quietUpon] at h3 <;> simp only
  ·obtain ⟨rfl, rfl⟩ := h3; exact ⟨rfl, Save.drawn _ _ _⟩
  ·obtain ⟨rfl, rfl⟩ := h3; exact ⟨rfl, Save.drawn _ _ _⟩
  ·exact absurd hr (plain_enter hp _ _ _ _ _)
 | halt x w2 => simp only [Oper.quietUpon] at h3

theorem seg {F : Act → (World → Prop) → Prop} {C : World → Prop} (b : World) (hb : C0 b) (hs : Region.noSelect ops = true) : ∀ (l : List Nat) (fuel : Nat) (listed : Array Bool) (a : Act),
  segB md ops l listed = true → wpQuiet P ops (fun w' => ∃ p : Of C0, w' = p.w) (fun a' => wpAnyM P md ops C0 F fuel (listAll l listed) a' C) (pickOps ops l) a → wpAnyM P md ops C0 F (fuel + l.length) listed a C
 | [], _, _, _, _, h => h
 | i :: l, fuel, listed, a, hB, h => by
  simp only [segB, Bool.and_eq_true] at hB
  obtain ⟨⟨⟨hr, hf⟩, hp⟩, hB'⟩ := hB
  cases hi : ops[i]? with
  | none => simp only [hi] at hp; cases hp
  | some o =>
   have hr' : i ∈ Region.ready md ops listed := by simpa using hr
   simp only [pickOps, hi] at h
   rw [List.length_cons, ← Nat.add_assoc]
   have hgd : Region.wanted (mask o) (yielded ops a.tmps) = Region.wanted o (yielded ops a.tmps) := by unfold mask; split <;> rfl
   have hdst : (mask o).dst = o.dst := by unfold mask; split <;> rfl
   unfold wpQuiet at h
   rw [hgd, hdst] at h
   by_cases hw : Region.wanted o (yielded ops a.tmps) = true
   ·rw [if_pos hw] at h
    by_cases hpl : plain o = true
    ·have hm : mask o = o := by unfold mask; rw [if_pos hpl]
     rw [hm] at h
     obtain ⟨v, h1, h2⟩ := h
     exact wpAnyM_first hi (Region.noSelect_spec hs) (fuel + l.length) listed a C (Region.free_spec hi hf) hr' (.inl ⟨hw, calm_of_quiet hpl h1⟩) (seg b hb hs l fuel _ _ hB' h2)
    ·exact absurd h (mask_stuck (by simpa using hpl) a _ _ b ⟨⟨b, hb⟩, rfl⟩)
   ·rw [if_neg hw] at h
    exact wpAnyM_first hi (Region.noSelect_spec hs) (fuel + l.length) listed a C (Region.free_spec hi hf) hr' (.inr ⟨by simpa using hw, rfl⟩) (seg b hb hs l fuel _ _ hB' h)

theorem seg_ {F : Act → (World → Prop) → Prop} {C : World → Prop} (l : List Nat) (fuel n : Nat) (b : World) (hb : C0 b) {listed : Array Bool} {a : Act} {lo : List Oper} (hn : n = fuel + l.length) (hs : Region.noSelect ops = true)
  (hB : segB md ops l listed = true) (hlo : pickOps ops l = lo)
  (h : wpQuiet P ops (fun w' => ∃ p : Of C0, w' = p.w) (fun a' => wpAnyM P md ops C0 F fuel (listAll l listed) a' C) lo a) : wpAnyM P md ops C0 F n listed a C := by
 subst hn hlo
 exact seg b hb hs l fuel listed a hB h

theorem calm_ {F : Act → (World → Prop) → Prop} {C : World → Prop} {i : Nat} {o : Oper} {fuel : Nat} {listed : Array Bool} {a : Act} (v : Value) (hi : ops[i]? = some o) (hs : Region.noSelect ops = true)
  (hr : (Region.ready md ops listed).contains i = true) (hf : Region.free md ops listed i = true) (hw : Region.wanted o (yielded ops a.tmps) = true)
  (hc : ∀ w, C0 w → Oper.does P o a w fun u w1 => u = v ∧ Save (fun _ => False) w w1)
  (h : wpAnyM P md ops C0 F fuel (listed.setIfInBounds i true) (a.put o.dst v) C) : wpAnyM P md ops C0 F (fuel + 1) listed a C :=
 wpAnyM_first hi (Region.noSelect_spec hs) fuel listed a C (Region.free_spec hi hf) (by simpa using hr) (.inl ⟨hw, hc⟩) h

theorem call_ {F : Act → (World → Prop) → Prop} {C : World → Prop} {i : Nat} {o : Oper} {fuel : Nat} {listed : Array Bool} {a : Act} (hi : ops[i]? = some o) (hr : (Region.ready md ops listed == [i]) = true) (hw : Region.wanted o (yielded ops a.tmps) = true)
  (h : ∀ w, C w → Oper.does P o a w fun v w1 => ∃ C1, C1 w1 ∧ Closed C1 ∧ (∀ w', C1 w' → C0 w') ∧ wpAnyM P md ops C0 F fuel (listed.setIfInBounds i true) (a.put o.dst v) C1) : wpAnyM P md ops C0 F (fuel + 1) listed a C := by
 have hr' : Region.ready md ops listed = [i] := by simpa using hr
 refine ⟨(fun h0 => by rw [h0] at hr'; cases hr'), (fun j hj => ?_)⟩
 rw [hr'] at hj
 obtain rfl := List.mem_singleton.1 hj
 unfold mOp; simp only [hi, hw, if_true]; exact .inr h

theorem end_ {F : Act → (World → Prop) → Prop} {C : World → Prop} {listed : Array Bool} {a : Act} (hr : (Region.ready md ops listed).isEmpty = true) (h : F a C) : wpAnyM P md ops C0 F 0 listed a C := ⟨by simpa using hr, h⟩

theorem region_ {id : Nat} {Q : Exit → Act → World → Prop} {a : Act} {w : World} (hm : P.follows .mixedOrders = true)
  (H : wpAnyM P .any ops (Base w) (fun a' C => ∀ w', C w' → Q .normal a' w') ops.size (Array.replicate ops.size false) a (Base w)) : (Code.region id ops true).wp P Q a w :=
 wp_region_any hm (wpAny_of_m (C0 := Base w) (fun _ _ w' hw' hF => hF w' hw') _ _ _ _ _ ⟨Nat.le_refl _, (Save.drawn _ w _).all⟩ (closed_base w) (fun _ hw' => hw') H)
end
end M
namespace M
section
variable {P : Program} {ops : Array Oper} {md : Region.Mode} {C0 : World → Prop}
/-- seg_ over the class of all worlds behind b. -/
theorem sg {b : World} {F : Act → (World → Prop) → Prop} {C : World → Prop} {n : Nat} {listed : Array Bool} {a : Act} {lo : List Oper} (l : List Nat) (fuel : Nat)
    (h : wpQuiet P ops (fun w' => ∃ p : Of (Base b), w' = p.w) (fun a' => wpAnyM P md ops (Base b) F fuel (listAll l listed) a' C) lo a)
    (hn : n = fuel + l.length := by kernel_rfl) (hs : Region.noSelect ops = true := by kernel_rfl) (hB : segB md ops l listed = true := by kernel_rfl)
    (hlo : pickOps ops l = lo := by (simp only [pickOps, mask, plain, List.getElem?_toArray, List.getElem?_cons_zero, List.getElem?_cons_succ, if_true, Bool.false_eq_true, if_false]; rfl)) : wpAnyM P md ops (Base b) F n listed a C :=
  seg_ l fuel n b (Base.refl b) hn hs hB hlo h
/-- calm_. -/
theorem cm {F : Act → (World → Prop) → Prop} {C : World → Prop} {o : Oper} {fuel : Nat} {listed : Array Bool} {a : Act} (i : Nat) (v : Value)
    (hc : ∀ w, C0 w → Oper.does P o a w fun u w1 => u = v ∧ Save (fun _ => False) w w1)
    (h : wpAnyM P md ops C0 F fuel (listed.setIfInBounds i true) (a.put o.dst v) C)
    (hi : ops[i]? = some o := by exact rfl) (hs : Region.noSelect ops = true := by kernel_rfl) (hr : (Region.ready md ops listed).contains i = true := by kernel_rfl)
    (hf : Region.free md ops listed i = true := by kernel_rfl) (hw : Region.wanted o (yielded ops a.tmps) = true := by kernel_rfl) : wpAnyM P md ops C0 F (fuel + 1) listed a C :=
  calm_ v hi hs hr hf hw hc h
theorem sx {F : Act → (World → Prop) → Prop} {C : World → Prop} {n : Nat} {b : World} {listed : Array Bool} {a : Act} {lo : List Oper} (l : List Nat) (fuel : Nat) (hb : C0 b)
 (h : wpQuiet P ops (fun w' => ∃ p : Of C0, w' = p.w) (fun a' => wpAnyM P md ops C0 F fuel (listAll l listed) a' C) lo a)
 (hn : n = fuel + l.length := by kernel_rfl) (hs : Region.noSelect ops = true := by kernel_rfl) (hB : segB md ops l listed = true := by kernel_rfl)
 (hlo : pickOps ops l = lo := by (simp only [pickOps, mask, plain, List.getElem?_toArray, List.getElem?_cons_zero, List.getElem?_cons_succ, if_true, Bool.false_eq_true, if_false]; rfl)) : wpAnyM P md ops C0 F n listed a C :=
 seg_ l fuel n b hb hn hs hB hlo h
theorem cl {F : Act → (World → Prop) → Prop} {C : World → Prop} {o : Oper} {fuel : Nat} {listed : Array Bool} {a : Act} (i : Nat)
 (h : ∀ w, C w → Oper.does P o a w fun v w1 => ∃ C1, C1 w1 ∧ Closed C1 ∧ (∀ w', C1 w' → C0 w') ∧ wpAnyM P md ops C0 F fuel (listed.setIfInBounds i true) (a.put o.dst v) C1)
 (hi : ops[i]? = some o := by exact rfl) (hr : (Region.ready md ops listed == [i]) = true := by kernel_rfl) (hw : Region.wanted o (yielded ops a.tmps) = true := by kernel_rfl) : wpAnyM P md ops C0 F (fuel + 1) listed a C :=
 call_ hi hr hw h
theorem en {F : Act → (World → Prop) → Prop} {C : World → Prop} {listed : Array Bool} {a : Act} (h : F a C) (hr : (Region.ready md ops listed).isEmpty = true := by kernel_rfl) : wpAnyM P md ops C0 F 0 listed a C := end_ hr h
theorem rg {id : Nat} {Q : Exit → Act → World → Prop} {a : Act} {w : World}
 (H : wpAnyM P .any ops (Base w) (fun a' C => ∀ w', C w' → Q .normal a' w') ops.size (Array.replicate ops.size false) a (Base w)) (hm : P.follows .mixedOrders = true := by kernel_rfl) : (Code.region id ops true).wp P Q a w :=
 region_ hm H
end
end M
end Go.Proofs.YtgaihekapakoeaaGreatDoor
