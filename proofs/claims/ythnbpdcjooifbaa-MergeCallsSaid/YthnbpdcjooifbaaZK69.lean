/-  -/
import Derived.Test.YthnbpdcjooifbaaZK68
import Derived.Test.YthnbpdcjooifbaaJ25
namespace Go.Proofs.Ythnbpdcjooifbaa
open Go.RowKit
set_option linter.unusedSimpArgs false
set_option linter.unusedVariables false

/-- The answer is a list of these events, and this error. -/
def LsGives (R : List Ev) (z : Int) (w : World) (e : Ending) (w' : World) : Prop :=
  ∃ y : Ls, e = .returned (.tuple #[y.val, .int .i64 z]) ∧ y.l = R ∧ LsAt w' w'.heap.size y ∧ Below w.heap.size w w'
theorem gives_nil {z : Int} {w : World} {e : Ending} {w' : World} (he : e = nilE z) (hb : Below w.heap.size w w') : LsGives [] z w e w' :=
  ⟨Ls.none, he, rfl, ⟨Nat.le_refl _, by decide, fun h => absurd h (by decide)⟩, hb⟩

theorem merge_pure (L : List Ls) : ∃ (R : List Ev) (z : Int),
    (∀ (w : World) (e : Ending) (w' : World), MergeTo w L e w' → LsGives R z w e w') ∧ (∀ (w : World) (e : Ending) (w' : World), RMergeTo w L e w' → LsGives R z w e w') := by
  by_cases he : errs L = 0
  · by_cases hl : (allOf L).length ≤ 4194304
    · by_cases hnd : (allOf L).Nodup
      · by_cases hM : ∃ M : List Ev, M.Pairwise (Hp.lt' ole) ∧ M.Perm (allOf L)
        · obtain ⟨M, h1, h2⟩ := hM
          refine ⟨M, 0, fun w e w' hh => ?_, fun w e w' hh => ?_⟩
          · obtain ⟨hb, ⟨h3, _⟩ | ⟨_, h3, _⟩ | ⟨_, _, h3, _⟩ | ⟨_, _, _, M2, g, c2, q1, q2, rfl, q4⟩⟩ := hh
            · exact absurd he h3
            · omega
            · exact absurd hnd h3
            · obtain rfl : M2 = M := Hp.sorted_unique ole_anti q1 h1 (q2.trans h2.symm)
              have h5 := own_ls q4 M2.length (Nat.le_refl _)
              rw [List.take_length] at h5
              exact ⟨⟨some ⟨g, 0, none⟩, c2, M2⟩, rfl, rfl, h5, hb⟩
          · obtain ⟨hb, ⟨h3, _⟩ | ⟨_, h3, _⟩ | ⟨_, _, h3, _⟩ | ⟨_, _, _, y, q1, q2, rfl, q4⟩⟩ := hh
            · exact absurd he h3
            · omega
            · exact absurd hnd h3
            · exact ⟨y, rfl, Hp.sorted_unique ole_anti q1 h1 (q2.trans h2.symm), q4, hb⟩
        · refine ⟨[], 0, fun w e w' hh => ?_, fun w e w' hh => ?_⟩
          · obtain ⟨hb, ⟨h3, _⟩ | ⟨_, h3, _⟩ | ⟨_, _, h3, _⟩ | ⟨_, _, _, M2, g, c2, q1, q2, rfl, q4⟩⟩ := hh
            · exact absurd he h3
            · omega
            · exact absurd hnd h3
            · exact absurd ⟨M2, q1, q2⟩ hM
          · obtain ⟨hb, ⟨h3, _⟩ | ⟨_, h3, _⟩ | ⟨_, _, h3, _⟩ | ⟨_, _, _, y, q1, q2, rfl, q4⟩⟩ := hh
            · exact absurd he h3
            · omega
            · exact absurd hnd h3
            · exact absurd ⟨y.l, q1, q2⟩ hM
      · refine ⟨[], 2, fun w e w' hh => ?_, fun w e w' hh => ?_⟩
        · obtain ⟨hb, ⟨h3, _⟩ | ⟨_, h3, _⟩ | ⟨_, _, _, h3⟩ | ⟨_, _, h3, _⟩⟩ := hh
          · exact absurd he h3
          · omega
          · exact gives_nil h3 hb
          · exact absurd h3 hnd
        · obtain ⟨hb, ⟨h3, _⟩ | ⟨_, h3, _⟩ | ⟨_, _, _, h3⟩ | ⟨_, _, h3, _⟩⟩ := hh
          · exact absurd he h3
          · omega
          · exact gives_nil h3 hb
          · exact absurd h3 hnd
    · refine ⟨[], 3, fun w e w' hh => ?_, fun w e w' hh => ?_⟩
      · obtain ⟨hb, ⟨h3, _⟩ | ⟨_, _, h3⟩ | ⟨_, h3, _⟩ | ⟨_, h3, _⟩⟩ := hh
        · exact absurd he h3
        · exact gives_nil h3 hb
        · omega
        · omega
      · obtain ⟨hb, ⟨h3, _⟩ | ⟨_, _, h3⟩ | ⟨_, h3, _⟩ | ⟨_, h3, _⟩⟩ := hh
        · exact absurd he h3
        · exact gives_nil h3 hb
        · omega
        · omega
  · refine ⟨[], errs L, fun w e w' hh => ?_, fun w e w' hh => ?_⟩
    · obtain ⟨hb, ⟨_, h3⟩ | ⟨h3, _⟩ | ⟨h3, _⟩ | ⟨h3, _⟩⟩ := hh
      · exact gives_nil h3 hb
      · exact absurd h3 he
      · exact absurd h3 he
      · exact absurd h3 he
    · obtain ⟨hb, ⟨_, h3⟩ | ⟨h3, _⟩ | ⟨h3, _⟩ | ⟨h3, _⟩⟩ := hh
      · exact gives_nil h3 hb
      · exact absurd h3 he
      · exact absurd h3 he
      · exact absurd h3 he

theorem errs_map : ∀ (L L2 : List Ls), L2.map Ls.l = L.map Ls.l → errs L2 = errs L
  | [], [], _ => rfl
  | [], x :: t, h => by simp at h
  | x :: t, [], h => by simp at h
  | x :: t, y :: u, h => by
    simp only [List.map_cons, List.cons.injEq] at h
    unfold errs
    rw [h.1, errs_map t u h.2]
theorem both_merge (L L2 : List Ls) (hm : L2.map Ls.l = L.map Ls.l) (hn : L.length ≤ 1099511627776) : ∃ (R : List Ev) (z : Int),
    (∀ (w : World) (c : Nat) (O : Option Addr), LL w w.heap.size O c L2 → Calls Try.prog 10 #[.slice O L2.length c] w (LsGives R z w)) ∧
    (∀ (w : World) (c : Nat) (O : Option Addr), LL w w.heap.size O c L → Calls Try.prog 16 #[.slice O L.length c] w (LsGives R z w)) := by
  have hl : L2.length = L.length := by have := congrArg List.length hm; simpa using this
  have ha : allOf L2 = allOf L := by unfold allOf; rw [hm]
  have he := errs_map L L2 hm
  obtain ⟨R, z, h1, h2⟩ := merge_pure L
  refine ⟨R, z, fun w c O h => (merge_any w c O L2 h (by omega)).mono fun e w' hh => h1 w e w' ?_, fun w c O h => (rmerge_any w c O L h hn).mono fun e w' hh => h2 w e w' hh⟩
  unfold MergeTo at hh ⊢
  rw [he, ha] at hh
  exact hh

theorem both_hread (l : List Int) (hlen : l.length ≤ 1099511627776) (hb : AllB l) : ∃ (R : List Ev) (z : Int),
    (∀ (A : Option Addr) (c : Nat) (w : World) (B : Nat), RB w B A c l → B ≤ w.heap.size → Calls Try.prog 17 #[.slice A l.length c] w (LsGives R z w)) ∧
    (∀ (A : Option Addr) (c : Nat) (w : World) (B : Nat), RB w B A c l → B ≤ w.heap.size → Calls Try.prog 19 #[.slice A l.length c] w (LsGives R z w)) := by
  obtain ⟨h1, h2⟩ := hist_agree l hb
  by_cases hg : MGood l
  · refine ⟨mxs l (mcnt l), 0, fun A c w B h hB => (mread2_any w A c _ l rfl hlen B h hB).mono fun e w' hh => ?_, fun A c w B h hB => (r4read_any w A c _ l rfl hlen B h hB).mono fun e w' hh => ?_⟩
    · obtain ⟨⟨_, y, h3, h4, h5⟩ | ⟨h3, _⟩, hbw⟩ := hh
      · exact ⟨y, h3, h4, h5, hbw⟩
      · exact absurd hg h3
    · obtain ⟨⟨_, y, h3, h4, h5⟩ | ⟨h3, _⟩, hbw⟩ := hh
      · exact ⟨y, h3, h4.trans (h2 hg).symm, h5, hbw⟩
      · exact absurd (h1.1 hg) h3
  · refine ⟨[], 4, fun A c w B h hB => (mread2_any w A c _ l rfl hlen B h hB).mono fun e w' hh => ?_, fun A c w B h hB => (r4read_any w A c _ l rfl hlen B h hB).mono fun e w' hh => ?_⟩
    · obtain ⟨⟨h3, _⟩ | ⟨_, h3⟩, hbw⟩ := hh
      · exact absurd h3 hg
      · exact gives_nil h3 hbw
    · obtain ⟨⟨h3, _⟩ | ⟨_, h3⟩, hbw⟩ := hh
      · exact absurd (h1.2 h3) hg
      · exact gives_nil h3 hbw
end Go.Proofs.Ythnbpdcjooifbaa
