
/- The order of events is one (pure). -/
import Derived.Test.YthmogabonfkmhaaGreatDoorF2
namespace Go.Proofs.YthmogabonfkmhaaGreatDoor
open Go.RowKit

/-- Lists of numbers, the first place at which they differ. -/
def lexI : List Int → List Int → Int
  | x :: l, y :: m => if x < y then -1 else if y < x then 1 else lexI l m
  | _, _ => 0

def Ev.ns (x : Ev) : List Int := [x.time, x.chip, x.seq, x.kind, x.a, x.b]

theorem orL_cons (x y : Int) (l : List Int) : orL (cmpI x y :: l) = if x < y then -1 else if y < x then 1 else orL l := by
  simp only [orL, cmpI]
  (repeat' split) <;> first | rfl | omega

theorem ordE_lex (x y : Ev) : ordE x y = lexI x.ns y.ns := by
  unfold ordE Ev.ns
  simp only [orL_cons, lexI]
  rfl

theorem lex_vals : ∀ l m : List Int, lexI l m = -1 ∨ lexI l m = 0 ∨ lexI l m = 1
  | [], _ => by simp [lexI]
  | _ :: _, [] => by simp [lexI]
  | x :: l, y :: m => by
    have := lex_vals l m
    simp only [lexI]
    (repeat' split) <;> omega
theorem lex_turn : ∀ l m : List Int, lexI m l = - lexI l m
  | [], [] => by simp [lexI]
  | [], _ :: _ => by simp [lexI]
  | _ :: _, [] => by simp [lexI]
  | x :: l, y :: m => by
    have := lex_turn l m
    simp only [lexI]
    (repeat' split) <;> omega
theorem lex_zero : ∀ l m : List Int, l.length = m.length → (lexI l m = 0 ↔ l = m)
  | [], [], _ => by simp [lexI]
  | [], _ :: _, h => by simp at h
  | _ :: _, [], h => by simp at h
  | x :: l, y :: m, h => by
    have := lex_zero l m (by simpa using h)
    simp only [lexI, List.cons.injEq]
    (repeat' split)
    · exact ⟨fun h => by omega, fun h => by omega⟩
    · exact ⟨fun h => by omega, fun h => by omega⟩
    · rw [this]; exact ⟨fun h => ⟨by omega, h⟩, fun h => h.2⟩
theorem lex_trans : ∀ l m k : List Int, l.length = m.length → m.length = k.length → lexI l m ≤ 0 → lexI m k ≤ 0 → lexI l k ≤ 0 ∧ (lexI l k = 0 → lexI l m = 0 ∧ lexI m k = 0)
  | [], [], [], _, _, _, _ => by simp [lexI]
  | [], [], _ :: _, _, h, _, _ => by simp at h
  | [], _ :: _, _, h, _, _, _ => by simp at h
  | _ :: _, [], _, h, _, _, _ => by simp at h
  | _ :: _, _ :: _, [], _, h, _, _ => by simp at h
  | x :: l, y :: m, z :: k, h1, h2, h3, h4 => by
    have ih := lex_trans l m k (by simpa using h1) (by simpa using h2)
    simp only [lexI] at h3 h4 ⊢
    (repeat' split at h3) <;> (repeat' split at h4) <;> (repeat' split) <;> first | omega | (have := ih (by omega) (by omega); omega) | exact ih (by omega) (by omega)

theorem ns_inj {x y : Ev} (h : x.ns = y.ns) : x = y := by
  obtain ⟨a, b, c, d, e, f⟩ := x
  obtain ⟨a', b', c', d', e', f'⟩ := y
  simp only [Ev.ns, List.cons.injEq, and_true] at h
  obtain ⟨rfl, rfl, rfl, rfl, rfl, rfl⟩ := h
  rfl
theorem ord_vals (x y : Ev) : ordE x y = -1 ∨ ordE x y = 0 ∨ ordE x y = 1 := by rw [ordE_lex]; exact lex_vals _ _
theorem ord_turn (x y : Ev) : ordE y x = - ordE x y := by rw [ordE_lex, ordE_lex]; exact lex_turn _ _
theorem ord_zero (x y : Ev) : ordE x y = 0 ↔ x = y := by
  rw [ordE_lex, lex_zero x.ns y.ns rfl]
  exact ⟨ns_inj, fun h => by rw [h]⟩
theorem ord_trans (x y z : Ev) (h : ordE x y ≤ 0) (k : ordE y z ≤ 0) : ordE x z ≤ 0 ∧ (ordE x z = 0 → ordE x y = 0 ∧ ordE y z = 0) := by
  rw [ordE_lex] at h k ⊢
  rw [ordE_lex, ordE_lex]
  exact lex_trans _ _ _ rfl rfl h k
theorem lex_one (x y : Int) (l m : List Int) : lexI (x :: l) (y :: m) = if x < y then -1 else if y < x then 1 else lexI l m := rfl
theorem ord_time (x y : Ev) (h : x.time ≠ y.time) : ordE x y < 0 ↔ x.time < y.time := by
  rw [ordE_lex]
  unfold Ev.ns
  rw [lex_one]
  generalize lexI _ _ = r
  (repeat' split) <;> omega
theorem ord_chip (x y : Ev) (h : x.time = y.time) (k : x.chip ≠ y.chip) : ordE x y < 0 ↔ x.chip < y.chip := by
  rw [ordE_lex]
  unfold Ev.ns
  rw [lex_one, if_neg (by omega), if_neg (by omega), lex_one]
  generalize lexI _ _ = r
  (repeat' split) <;> omega
theorem ord_key (a b c : Ev) : ordE a b = 1 ∨ (ordE a b = 0 ∧ ordE b c = 1) ∨ (ordE a b = 0 ∧ ordE b c = 0 ∧ ordE a c = 0) ∨ (ordE a b = 0 ∧ ordE b c = -1 ∧ ordE a c = -1) ∨ (ordE a b = -1 ∧ ordE b c = 1) ∨ (ordE a b = -1 ∧ ordE b c = 0 ∧ ordE a c = -1) ∨ (ordE a b = -1 ∧ ordE b c = -1 ∧ ordE a c = -1) := by
  have ht := ord_trans a b c
  have h0 := ord_zero a b
  rcases ord_vals a b with hx | hx | hx
  · rcases ord_vals b c with hy | hy | hy
    · obtain ⟨k1, k2⟩ := ht (by omega) (by omega)
      rcases ord_vals a c with hz | hz | hz
      · exact .inr (.inr (.inr (.inr (.inr (.inr ⟨hx, hy, hz⟩)))))
      · have := (k2 hz).1; omega
      · omega
    · obtain ⟨k1, k2⟩ := ht (by omega) (by omega)
      rcases ord_vals a c with hz | hz | hz
      · exact .inr (.inr (.inr (.inr (.inr (.inl ⟨hx, hy, hz⟩)))))
      · have := (k2 hz).1; omega
      · omega
    · exact .inr (.inr (.inr (.inr (.inl ⟨hx, hy⟩))))
  · have hab : a = b := h0.1 hx
    subst hab
    rcases ord_vals a c with hy | hy | hy
    · exact .inr (.inr (.inr (.inl ⟨hx, hy, hy⟩)))
    · exact .inr (.inr (.inl ⟨hx, hy, hy⟩))
    · exact .inr (.inl ⟨hx, hy⟩)
  · exact .inl hx
end Go.Proofs.YthmogabonfkmhaaGreatDoor
