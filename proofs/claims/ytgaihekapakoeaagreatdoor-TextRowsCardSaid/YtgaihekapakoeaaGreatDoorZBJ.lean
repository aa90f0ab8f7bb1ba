/-  -/
import Derived.Test.YtgaihekapakoeaaGreatDoorZBI
namespace Go.Proofs.YtgaihekapakoeaaGreatDoor
open Go.RowKit
set_option linter.unusedVariables false
set_option linter.unusedSimpArgs false
set_option maxRecDepth 100000

theorem run_append_texts_any (w : World) (ty : TypeId) (base : Nat) (v : Value) (Ms : List ByteArray) (hown : w.ownsRow base 9 1 v Ms.length (Ms.map Value.string))
    (A : Option Addr) (c : Nat) (Ns : List ByteArray) (hN : TL w w.heap.size A c Ns) (hA : (A = none ∧ c = 0 ∧ Ns = []) ∨ ∃ b o, A = some ⟨b, o, none⟩) (b1 : Ms.length + Ns.length ≤ 1000000) (hbase : base ≤ w.heap.size) :
    ∃ v' w', (Builtin.append_ #[30, 30] ty #[v, .slice A Ns.length c]).run Tryz.prog w = .ok v' w' ∧ w'.ownsRow base 9 1 v' (Ms ++ Ns).length ((Ms ++ Ns).map Value.string) ∧ w.grownBy w' v.ownBlock := by
  rcases hA with ⟨rfl, rfl, rfl⟩ | ⟨b, o, rfl⟩
  · obtain ⟨i0, hi, hz0, hz1, hz2⟩ := info_parts info_text
    refine ⟨v, w, run_append_owned_none (P := Tryz.prog) (w := w) base 30 ty 9 i0 1 Tryz.underlying30 hi v Ms.length _ hown, by simpa using hown, ⟨rfl, rfl, rfl, Nat.le_refl _, fun _ _ _ => rfl⟩⟩
  · rcases Nat.eq_zero_or_pos Ns.length with h0 | h0
    · obtain rfl : Ns = [] := List.eq_nil_of_length_eq_zero h0
      obtain ⟨i0, hi, hz0, hz1, hz2⟩ := info_parts info_text
      obtain ⟨v', w', hrun, r1, r2, _⟩ := run_append_own (P := Tryz.prog) w base 30 ty 9 i0 _ 1 16 Tryz.underlying30 hi hz0 hz1 hz2 rfl (by decide) _ Ms.length (Ms.map Value.string) hown ⟨b, o, none⟩ 0 c [] (by simp) (fun j u hu => by simp at hu) (fun u hu => by cases hu) (by unfold maxLen; simp at b1; omega) (by simp at b1; omega) hbase
      exact ⟨v', w', hrun, by simpa using r1, r2⟩
    · exact run_append_texts w ty base v Ms hown _ c Ns hN h0 b1 hbase
/-- A slice of a list of texts. -/
theorem TL.sub {w : World} {B b o c : Nat} {M : List ByteArray} (h : TL w B (some ⟨b, o, none⟩) c M) (p n : Nat) (hn : p + n ≤ M.length) : TL w B (some ⟨b, o + p, none⟩) (c - p) ((M.drop p).take n) := by
  have h1 := h.le
  have h2 := h.cap
  have hlen : ((M.drop p).take n).length = n := by rw [List.length_take, List.length_drop]; omega
  refine ⟨by rw [hlen]; omega, by omega, fun h0 => ?_⟩
  obtain ⟨b', o', e, hb, hat⟩ := h.at_ (by omega)
  simp only [Option.some.injEq, Addr.mk.injEq, and_true] at e
  obtain ⟨rfl, rfl⟩ := e
  refine ⟨_, _, rfl, hb, fun i hi => ?_⟩
  rw [hlen] at hi
  have := hat (p + i) (by omega)
  rw [show o + p + i = o + (p + i) by omega, this]
  simp [List.getD_eq_getElem?_getD, List.getElem?_take, hi]
/-- The same for the walk. -/
theorem wpList_append_texts (w : World) {ops : Array Oper} {rest : List Oper} {o : Oper} {a : Act} {Q : Exit → Act → World → Prop} (hgd : o.guard = none) (s x : Operand)
    (hop : o.op = .call { callee := .builtin .append, args := #[s, x], argTypes := #[30, 30] })
    (base : Nat) (v : Value) (Ms : List ByteArray) (hs : a.eval s = v) (hown : w.ownsRow base 9 1 v Ms.length (Ms.map Value.string))
    (A : Option Addr) (k c : Nat) (Ns : List ByteArray) (hx : a.eval x = .slice A k c) (hk : k = Ns.length) (hN : TL w w.heap.size A c Ns) (hA : (A = none ∧ c = 0 ∧ Ns = []) ∨ ∃ b o, A = some ⟨b, o, none⟩) (b1 : Ms.length + Ns.length ≤ 1000000) (hbase : base ≤ w.heap.size)
    (h : ∀ v' w', w'.ownsRow base 9 1 v' (Ms ++ Ns).length ((Ms ++ Ns).map Value.string) → w.grownBy w' v.ownBlock → wpList Tryz.prog ops Q rest (a.put o.dst v') w') : wpList Tryz.prog ops Q (o :: rest) a w := by
  subst hk hs
  obtain ⟨v', w', hr, h1, h2⟩ := run_append_texts_any w o.type base _ Ms hown A c Ns hN hA b1 hbase
  refine wpList_plain hgd fun K hK => ?_
  unfold Oper.wp execOp
  simp only [hop, resolve, invoke, builtin, Sem.run_bind, Sem.run_pure, Result.andThen_ok, List.map_toArray, List.map_cons, List.map_nil, hx, hr]
  exact hK _ _ (h v' w' h1 h2)
end Go.Proofs.YtgaihekapakoeaaGreatDoor
