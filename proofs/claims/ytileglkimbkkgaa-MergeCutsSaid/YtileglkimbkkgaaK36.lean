
/- slices.Clone of events; Number, the plain mathematics. -/
import Derived.Test.YtileglkimbkkgaaK35
import Derived.Test.YtileglkimbkkgaaK30
namespace Go.Proofs.Ytileglkimbkkgaa
open Go.RowKit
set_option linter.unusedSimpArgs false
set_option linter.unusedVariables false

set_option maxRecDepth 100000 in
theorem evclone_any (w : World) (x : Ls) (h : LsAt w w.heap.size x) (hn : x.A = none → x.c = 0) (hN : x.l.length ≤ 1048576) :
    Calls Try.prog 65 #[x.val] w fun e w' => ∃ v, e = .returned v ∧ w'.ownsRow w.heap.size 23 6 v x.l.length (rowV x.l) ∧ Below w.heap.size w w' := by
  have hcap := h.cap
  have hle := h.le
  unfold maxLen at hcap
  cases hA : x.A with
  | none =>
    have hl : x.l = [] := by
      by_cases h0 : 0 < x.l.length
      · obtain ⟨b, o, e, _⟩ := h.at_ h0
        rw [hA] at e; cases e
      · exact List.eq_nil_of_length_eq_zero (by omega)
    have hc := hn hA
    unfold Ls.val
    rw [hA, hl, hc]
    show Calls Try.prog 65 #[.slice none 0 0] w _
    have he : ∀ w : World, (binOp .eql 25 (.slice none 0 0) (.slice none 0 0)).run Try.prog w = .ok (.bool true) w := fun _ => rfl
    go_enter Try.func65, Try.ntmps65
    go_wp2_with fail
    go_ret
    exact ⟨_, rfl, World.ownsRow_nil _ _ _ _, Below.refl _ _⟩
  | some ad =>
    have hr : LsAt (w.alloc (.cells #[] 23)) w.heap.size x := h.keep fun k hk => ((Below.refl w.heap.size w).alloc (Nat.le_refl _) _).block k hk
    have how : (w.alloc (.cells #[] 23)).ownsRow w.heap.size 23 6 (.slice (some ⟨w.heap.size, 0, none⟩) 0 0) 0 [] := World.ownsRow_made w #[] 0 (Nat.le_refl _) (by decide) rfl
    have HR := Lib.hid hr
    have HW := Lib.hid how
    have HA := Lib.hid hA
    clear hr how h
    unfold Ls.val
    rw [hA]
    clear hA
    have he : ∀ w : World, (binOp .eql 25 (.slice (some ad) x.l.length x.c) (.slice none 0 0)).run Try.prog w = .ok (.bool false) w := fun _ => rfl
    go_enter Try.func65, Try.ntmps65
    go_wp2_with (at_builtin; refine wpList_append_ls rfl (.tmp 5) (.tmp 6) 25 rfl Try.underlying25 w.heap.size _ [] rfl HW.out w.heap.size x (by unfold Ls.val; rw [HA.out]; rfl) HR.out hn (by simp only [List.length_append, List.length_nil]; omega) (by simp) ?_; intro v1 wa hown1 hg1; have HO := Lib.hid hown1; have HB := Lib.hid (show Below w.heap.size w wa from ((Below.refl w.heap.size w).alloc (Nat.le_refl _) _).grown hg1 (by simp) (fun k hk => by obtain rfl := Option.some.inj hk; exact Nat.le_refl _)); clear hown1 hg1)
    go_ret
    exact ⟨_, rfl, by have := HO.out; simpa using this, HB.out⟩

/-- How many events of a chip there are. -/
def cc (M : List Ev) (c : Int) : Int := (M.countP (onChip c) : Nat)
theorem cc_le (M : List Ev) (c : Int) : 0 ≤ cc M c ∧ cc M c ≤ M.length := ⟨by unfold cc; omega, by unfold cc; have := List.countP_le_length (p := onChip c) (l := M); omega⟩
theorem cc_take (M : List Ev) (k : Nat) (c : Int) (hk : k < M.length) : cc (M.take (k + 1)) c = cc (M.take k) c + (if (M.getD k evZ).chip = c then 1 else 0) := by
  unfold cc
  rw [List.take_succ_eq_append_getElem hk, List.countP_append, List.getD_eq_getElem?_getD, List.getElem?_eq_getElem hk]
  simp only [Option.getD_some, List.countP_cons, List.countP_nil, onChip, beq_iff_eq]
  split <;> simp
def numAt (l : List Ev) (i : Nat) : Ev := { l.getD i evZ with seq := cc (l.take i) (l.getD i evZ).chip }
def numTo (l : List Ev) (k : Nat) : List Ev := (List.range l.length).map fun i => if i < k then numAt l i else l.getD i evZ
theorem numTo_len (l : List Ev) (k : Nat) : (numTo l k).length = l.length := by simp [numTo]
theorem numTo_zero (l : List Ev) : numTo l 0 = l := by
  apply List.ext_getElem
  · simp [numTo]
  · intro i h1 h2
    simp [numTo, h2]
theorem numTo_at (l : List Ev) (k i : Nat) (hi : i < l.length) : (numTo l k).getD i evZ = if i < k then numAt l i else l.getD i evZ := by
  rw [List.getD_eq_getElem?_getD]
  simp [numTo, hi]
theorem numTo_succ (l : List Ev) (k : Nat) (hk : k < l.length) : numTo l (k + 1) = (numTo l k).set k { (numTo l k).getD k evZ with seq := cc (l.take k) (l.getD k evZ).chip } := by
  rw [numTo_at l k k hk, if_neg (Nat.lt_irrefl k)]
  apply List.ext_getElem
  · simp [numTo]
  · intro i h1 h2
    have hi : i < l.length := by simpa [numTo] using h1
    rw [List.getElem_set]
    by_cases e : k = i
    · subst e
      rw [if_pos rfl]
      simp [numTo]
      rfl
    · rw [if_neg e]
      simp only [numTo, List.getElem_map, List.getElem_range]
      by_cases e2 : i < k
      · rw [if_pos (by omega), if_pos e2]
      · rw [if_neg (by omega), if_neg e2]
theorem rowV_set : ∀ (M : List Ev) (i : Nat) (s : Int), i < M.length → (rowV M).set (i * 6 + 2) (.int .i64 s) = rowV (M.set i { M.getD i evZ with seq := s })
  | [], i, s, h => by simp at h
  | y :: t, 0, s, _ => by
    obtain ⟨a, b, c, d, e, f⟩ := y
    rfl
  | y :: t, i + 1, s, h => by
    have ih := rowV_set t i s (by simpa using h)
    have e1 : rowV (y :: t) = y.cells ++ rowV t := rfl
    have e2 : (y :: t).set (i + 1) { (y :: t).getD (i + 1) evZ with seq := s } = y :: t.set i { t.getD i evZ with seq := s } := by simp
    have e3 : rowV (y :: t.set i { t.getD i evZ with seq := s }) = y.cells ++ rowV (t.set i { t.getD i evZ with seq := s }) := rfl
    rw [e1, e2, e3, ← ih, show (i + 1) * 6 + 2 = i * 6 + 2 + 6 by omega]
    rfl
end Go.Proofs.Ytileglkimbkkgaa
