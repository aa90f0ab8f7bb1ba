/-    -/
import Derived.Test.YtgaihekapakoeaaGreatDoorJ17
import Derived.Test.YtgaihekapakoeaaGreatDoorJ18
set_option linter.unusedVariables false
set_option linter.unusedSimpArgs false
namespace Go.Proofs.YtgaihekapakoeaaGreatDoor
open Go.RowKit


set_option maxRecDepth 100000

end Go.Proofs.YtgaihekapakoeaaGreatDoor
namespace Go.Proofs.YtgaihekapakoeaaGreatDoor
open Go.RowKit


set_option maxRecDepth 100000

end Go.Proofs.YtgaihekapakoeaaGreatDoor
namespace Go.Proofs.YtgaihekapakoeaaGreatDoor
open Go.RowKit


set_option maxRecDepth 100000

def ParseTo (w : World) : Prop := ∀ s : ByteArray, s.size ≤ 100000 → ∀ w', Below w.heap.size w w' → ∃ (x : In) (e : Int), Calls Tryz.prog 9 #[.string s] w' (fun e' w2 => e' = .returned (.tuple #[x.val, .int .i64 e]) ∧ Below w'.heap.size w' w2) ∧ x.Wf ∧
 ((e = 0 ∧ x.may = true ∧ (⟨(textI x).toArray⟩ : ByteArray) = s) ∨ (e = 11 ∧ x = zeroI ∧ ∀ j : In, j.may = true → (⟨(textI j).toArray⟩ : ByteArray) ≠ s))
theorem ParseTo.on {w w' : World} (h : ParseTo w) (hb : Below w.heap.size w w') : ParseTo w' := fun s hs w2 h2 => h s hs w2 (hb.trans (h2.mono hb.size))
theorem arr_inj {a b : List UInt8} (h : (⟨a.toArray⟩ : ByteArray) = ⟨b.toArray⟩) : a = b := by
 injection h with e
 have := congrArg Array.toList e
 simpa using this
theorem flat_len (s x o : Int) : ∀ p : List UInt8, (p.flatMap (markK s x o)).length ≤ 8 * p.length
 | [] => by simp
 | c :: p => by
  have h1 := markK_len s x o c
  have h2 := flat_len s x o p
  rw [List.flatMap_cons, List.length_append, List.length_cons]
  omega
theorem byte_nums {i : In} (hm : i.may = true) : AllB (bytesI i) := by
 obtain ⟨hs, hx, o0, o1⟩ := one_cases (may_one hm).1
 have h1 : AllB (aheadB i) := by
  unfold aheadB preB setB
  intro n hn
  repeat' split at hn
  all_goals (simp at hn <;> omega)
 have h2 : AllB (midB i) := by
  unfold midB
  intro n hn
  repeat' split at hn
  all_goals (simp at hn <;> omega)
 unfold bytesI
 exact (h1.append h2).append (immL_all _ _)
theorem text_len {i : In} (hi : i.Wf) (hm : i.may = true) : (textI i).length ≤ 10000 := by
 obtain ⟨hs, hx, o0, o1⟩ := one_cases (may_one hm).1
 have h1 := patOf_len i.s i.o (by omega) (by omega) o0 o1
 have h2 := flat_len i.s i.x i.o (patOf i.s i.o)
 have h3 := rend_len false i.d i.m (wf_in hi.d) (wf_in hi.m) (toksK i.s i.x i.o)
 have h4 := bytesI_short i
 unfold textI
 split
 ·unfold bytesT
  have h5 := joinT_len (bytesI i) (byte_nums hm) (bytesI i).length
  rw [List.length_append]
  simp only [List.length_cons, List.length_nil]
  omega
 ·unfold toldT
  unfold toksK at h3 ⊢
  omega
theorem ParseTo.ok {w : World} (h : ParseTo w) : ParseOk w := by
 intro i hi hm w' hb
 have hl := text_len hi hm
 obtain ⟨x, e, hc, hx, h3⟩ := h ⟨(textI i).toArray⟩ (by simp [ByteArray.size]; omega) w' hb
 rcases h3 with ⟨rfl, h4, h5⟩ | ⟨-, -, h5⟩
 ·obtain rfl := text_inj h4 hm (arr_inj h5)
  exact hc
 ·exact absurd rfl (h5 i hm)
def ofTx (i : In) : List UInt8 := if i.may = true then textI i else []
def ofEr (i : In) : Int := if i.may = true then 0 else 2
theorem of_any (i : In) (hi : i.Wf) (w : World) (hV : VT w w.heap.size) : Calls Tryz.prog 13 #[i.val] w fun e w' => e = .returned (.tuple #[.string ⟨(ofTx i).toArray⟩, .int .i64 (ofEr i)]) ∧ Below w.heap.size w w' := by
 unfold ofTx ofEr
 by_cases hm : i.may = true
 ·rw [if_pos hm, if_pos hm]; exact of_may i hi hm w hV
 ·rw [if_neg hm, if_neg hm]; exact of_not i hi hm w
end Go.Proofs.YtgaihekapakoeaaGreatDoor
