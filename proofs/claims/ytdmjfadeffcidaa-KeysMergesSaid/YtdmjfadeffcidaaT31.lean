
/- keys: what is put together. -/
import Derived.Test.YtdmjfadeffcidaaT30
namespace Go.Proofs.Ytdmjfadeffcidaa
open Go.RowKit
set_option linter.unusedSimpArgs false
set_option linter.unusedVariables false
set_option maxRecDepth 100000

/-- A sorted list is known by what stands at each time. -/
theorem rising_unique : ∀ (A B : List Tc), Rising A → Rising B → Same A B → A = B := by
  intro A
  induction A with
  | nil =>
    intro B _ _ h
    cases B with
    | nil => rfl
    | cons y B => have := h.symm.mem (x := y) (List.mem_cons_self ..); cases this
  | cons x A ih =>
    intro B hA hB h
    cases B with
    | nil => have := h.mem (x := x) (List.mem_cons_self ..); cases this
    | cons y B =>
      have h1 := rising_first hA y (h.symm.mem (List.mem_cons_self ..))
      have h2 := rising_first hB x (h.mem (List.mem_cons_self ..))
      have ht : y.time = x.time := by omega
      have hx := h x.time
      simp only [List.filter_cons, ht, beq_self_eq_true, if_true] at hx
      injection hx with e1 e2
      subst e1
      rw [ih B (List.pairwise_cons.1 hA).2 (List.pairwise_cons.1 hB).2 (fun t => by
        have := h t
        simp only [List.filter_cons] at this
        split at this
        · injection this
        · exact this)]
/-- Two lists put together by their times, a's ahead. -/
def mergeL (A B : List Tc) : List Tc :=
  match A, B with
  | [], B => B
  | x :: A, [] => x :: A
  | x :: A, y :: B => if x.time ≤ y.time then x :: mergeL A (y :: B) else y :: mergeL (x :: A) B
termination_by A.length + B.length
theorem mergeL_nil (B : List Tc) : mergeL [] B = B := by unfold mergeL; rfl
theorem mergeL_none (A : List Tc) : mergeL A [] = A := by cases A <;> (unfold mergeL; rfl)
theorem mergeL_cons (x y : Tc) (A B : List Tc) : mergeL (x :: A) (y :: B) = if x.time ≤ y.time then x :: mergeL A (y :: B) else y :: mergeL (x :: A) B := by rw [mergeL]
theorem mergeL_ind {P : List Tc → List Tc → Prop} (h0 : ∀ B, P [] B) (h1 : ∀ A, P A []) (h2 : ∀ x y A B, x.time ≤ y.time → P A (y :: B) → P (x :: A) (y :: B)) (h3 : ∀ x y A B, ¬ x.time ≤ y.time → P (x :: A) B → P (x :: A) (y :: B)) : ∀ (n : Nat) (A B : List Tc), A.length + B.length ≤ n → P A B := by
  intro n
  induction n with
  | zero =>
    intro A B h
    obtain rfl : A = [] := List.eq_nil_of_length_eq_zero (by omega)
    exact h0 B
  | succ n ih =>
    intro A B h
    cases A with
    | nil => exact h0 B
    | cons x A =>
      cases B with
      | nil => exact h1 _
      | cons y B =>
        simp only [List.length_cons] at h
        by_cases e : x.time ≤ y.time
        · exact h2 x y A B e (ih _ _ (by simp only [List.length_cons]; omega))
        · exact h3 x y A B e (ih _ _ (by simp only [List.length_cons]; omega))
theorem mergeL_len (A B : List Tc) : (mergeL A B).length = A.length + B.length := by
  refine mergeL_ind (P := fun A B => (mergeL A B).length = A.length + B.length) (fun B => by simp [mergeL_nil]) (fun A => by simp [mergeL_none]) (fun x y A B e h => ?_) (fun x y A B e h => ?_) _ A B (Nat.le_refl _)
  · rw [mergeL_cons, if_pos e, List.length_cons, h]; simp only [List.length_cons]; omega
  · rw [mergeL_cons, if_neg e, List.length_cons, h]; simp only [List.length_cons]; omega
theorem mergeL_mem (A B : List Tc) : ∀ z, z ∈ mergeL A B ↔ z ∈ A ∨ z ∈ B := by
  refine mergeL_ind (P := fun A B => ∀ z, z ∈ mergeL A B ↔ z ∈ A ∨ z ∈ B) (fun B z => by simp [mergeL_nil]) (fun A z => by simp [mergeL_none]) (fun x y A B e h z => ?_) (fun x y A B e h z => ?_) _ A B (Nat.le_refl _)
  · rw [mergeL_cons, if_pos e, List.mem_cons, h, List.mem_cons, List.mem_cons, or_assoc]
  · rw [mergeL_cons, if_neg e, List.mem_cons, h, List.mem_cons, List.mem_cons]
    constructor
    · rintro (h | (h | h) | h)
      · exact .inr (.inl h)
      · exact .inl (.inl h)
      · exact .inl (.inr h)
      · exact .inr (.inr h)
    · rintro ((h | h) | h | h)
      · exact .inr (.inl (.inl h))
      · exact .inr (.inl (.inr h))
      · exact .inl h
      · exact .inr (.inr h)
theorem mergeL_rising (A B : List Tc) : Rising A → Rising B → Rising (mergeL A B) := by
  refine mergeL_ind (P := fun A B => Rising A → Rising B → Rising (mergeL A B)) (fun B _ h => by rw [mergeL_nil]; exact h) (fun A h _ => by rw [mergeL_none]; exact h) (fun x y A B e h hA hB => ?_) (fun x y A B e h hA hB => ?_) _ A B (Nat.le_refl _)
  · rw [mergeL_cons, if_pos e]
    refine List.pairwise_cons.2 ⟨fun z hz => ?_, h (List.pairwise_cons.1 hA).2 hB⟩
    rcases (mergeL_mem _ _ z).1 hz with h1 | h1
    · exact (List.pairwise_cons.1 hA).1 z h1
    · have := rising_first hB z h1; omega
  · rw [mergeL_cons, if_neg e]
    refine List.pairwise_cons.2 ⟨fun z hz => ?_, h hA (List.pairwise_cons.1 hB).2⟩
    rcases (mergeL_mem _ _ z).1 hz with h1 | h1
    · have := rising_first hA z h1; omega
    · exact (List.pairwise_cons.1 hB).1 z h1
theorem mergeL_same (A B : List Tc) : Rising A → Same (A ++ B) (mergeL A B) := by
  refine mergeL_ind (P := fun A B => Rising A → Same (A ++ B) (mergeL A B)) (fun B _ => by rw [mergeL_nil]; exact Same.refl _) (fun A _ => by rw [mergeL_none, List.append_nil]; exact Same.refl _) (fun x y A B e h hA => ?_) (fun x y A B e h hA => ?_) _ A B (Nat.le_refl _)
  · rw [mergeL_cons, if_pos e]
    exact Same.app (Same.refl [x]) (h (List.pairwise_cons.1 hA).2)
  · rw [mergeL_cons, if_neg e]
    have h1 : Same ((x :: A) ++ [y]) ([y] ++ (x :: A)) := Same.exch (fun u hu v hv => by
      obtain rfl := List.mem_singleton.1 hu
      have := rising_first hA v hv
      omega)
    have h2 := (Same.app h1 (Same.refl B)).trans (by rw [List.append_assoc]; exact Same.app (Same.refl [y]) (h hA))
    simpa using h2
/-- What a stable sort of the two makes of them. -/
theorem merge_is {A B N : List Tc} (hA : Rising A) (hB : Rising B) (h : Stable (A ++ B) N) (hN : Rising N) : N = mergeL A B :=
  rising_unique _ _ hN (mergeL_rising A B hA hB) (h.1.symm.trans (mergeL_same A B hA))

theorem ins0 (A : Option Addr) (c : Nat) (w : World) :
    Calls Try.prog 76 #[.slice A 0 c, .int .i64 0, .int .i64 0, lessV] w fun e w' => e = .returned (.tuple #[]) ∧ w = w' := by
  go_enter Try.func76, Try.ntmps76
  go_wp2_with fail
  go_loopw [8, 9] (fun s8 _ wr => s8 = .int .i64 1 ∧ w = wr) (fun _ _ _ => 0)
  case atStart => exact ⟨rfl, rfl⟩
  case round =>
    obtain ⟨rfl, rfl⟩ := hrel
    go_wp2_with fail
    go_end0
    exact ⟨rfl, rfl⟩
theorem stable0 (A : Option Addr) (c : Nat) (w : World) :
    Calls Try.prog 66 #[.slice A 0 c, .int .i64 0, lessV] w fun e w' => e = .returned (.tuple #[]) ∧ w = w' := by
  have HI := Lib.hid (ins0 A c w)
  go_enter Try.func66, Try.ntmps66
  go_wp2_with fail
  go_loopw [7, 8] (fun s7 s8 wr => s7 = .int .i64 0 ∧ s8 = .int .i64 20 ∧ w = wr) (fun _ _ _ => 0)
  case atStart => exact ⟨rfl, rfl, rfl⟩
  case round =>
    obtain ⟨rfl, rfl, rfl⟩ := hrel
    go_wp2_with fail
    refine HI.out.mono ?_
    rintro e w1 ⟨rfl, rfl⟩
    clear HI
    go_wp2_with fail
    go_loopw [6, 7, 8, 9] (fun s6 _ _ _ wr => s6 = .int .i64 20 ∧ w = wr) (fun _ _ _ _ _ => 0)
    case atStart => exact ⟨rfl, rfl⟩
    case round =>
      obtain ⟨rfl, rfl⟩ := hrel
      go_wp2_with fail
      go_end0
      exact ⟨rfl, rfl⟩
theorem sortstable_any (w : World) (base : Nat) (v : Value) (D : List Tc) (h : OwnT w base v D) (hb : base ≤ w.heap.size) (hL : D.length ≤ 1000000) :
    Calls Try.prog 43 #[v, lessV] w fun e w' => e = .returned (.tuple #[]) ∧ ∃ N, Stable D N ∧ Rising N ∧ OwnT w' base v N ∧ Below base w w' := by
  by_cases h0 : 0 < D.length
  · obtain ⟨g, c, X, rfl, hg, hn, hm, hs, hsw⟩ := h.sw h0
    have HC := Lib.hid (stable_any w g c D.length X D hsw rfl hn hL)
    have HO := Lib.hid (fun (w1 : World) (N : List Tc) (hN : N.length = D.length) (h1 : SW w1 g X N) => h1.own hg (by rw [hN]; exact hn) hm (by rw [← hs, List.length_append, List.length_append, rowT_len, rowT_len, hN]))
    have HB := Lib.hid (fun (w1 : World) (h1 : Save (· = g) w w1) => h1.below hb (fun k hk => by rw [hk]; exact hg))
    clear h hsw hs hm hn
    go_enter Try.func43, Try.ntmps43
    go_wp2_with fail
    refine HC.out.mono ?_
    rintro e w1 ⟨rfl, N, hst, hr, hs, hsv⟩
    have HF : Hid (Stable D N ∧ Rising N ∧ OwnT w1 base (.slice (some ⟨g, 0, none⟩) D.length c) N ∧ Below base w w1) := Lib.hid ⟨hst, hr, by have := HO.out w1 N hst.2 hs; rwa [hst.2] at this, HB.out w1 hsv⟩
    clear hst hr hs hsv HC HO HB
    go_wp2_with fail
    go_end0
    exact ⟨rfl, N, HF.out⟩
  · obtain rfl : D = [] := List.eq_nil_of_length_eq_zero (by omega)
    obtain ⟨A, c, rfl, -, -⟩ := h.shape
    have HO := Lib.hid h
    have HC := Lib.hid (stable0 A c w)
    clear h
    go_enter Try.func43, Try.ntmps43
    go_wp2_with fail
    refine HC.out.mono ?_
    rintro e w1 ⟨rfl, rfl⟩
    go_wp2_with fail
    go_end0
    exact ⟨rfl, [], Stable.refl _, List.Pairwise.nil, HO.out, Below.refl _ _⟩
end Go.Proofs.Ytdmjfadeffcidaa
