
/- Alone; MergeNames. -/
import Derived.Test.YtileglkimbkkgaaK15
namespace Go.Proofs.Ytileglkimbkkgaa
open Go.RowKit
set_option linter.unusedSimpArgs false
set_option linter.unusedVariables false

def AloneTo (l : List Ev) (chip : Int) (k : Nat) : Prop := ∀ i, i < k → (l.getD i evZ).chip = chip ∧ (l.getD i evZ).seq = i
instance (l : List Ev) (chip : Int) (k : Nat) : Decidable (AloneTo l chip k) := by unfold AloneTo; infer_instance
def aloneB (l : List Ev) (chip : Int) : Bool := decide (AloneTo l chip l.length ∧ chk l = 0)

set_option maxRecDepth 100000 in
set_option maxHeartbeats 2000000 in
theorem alone_any (w : World) (x : Ls) (chip : Int) (h : LsAt w w.heap.size x) : Calls Try.prog 13 #[x.val, .int .i64 chip] w fun e w' => e = .returned (.bool (aloneB x.l chip)) ∧ Below w.heap.size w w' := by
  have hcap := h.cap
  have hle := h.le
  unfold maxLen at hcap
  have HV := Lib.hid (show ∀ w', Below w.heap.size w w' → Calls Try.prog 25 #[x.val] w' fun e w2 => e = .returned (.int .i64 (chk x.l)) ∧ Below w'.heap.size w' w2 from
    fun w' hb => (mcheck_any w' x ((h.keep hb.block).more hb.size)).mono fun e w2 hc => hc.chk)
  unfold Ls.val at HV ⊢
  go_enter Try.func13, Try.ntmps13
  go_wp2_with fail
  go_loopw [9] (fun i wr => ∃ k : Nat, k ≤ x.l.length ∧ i = .int .i64 k ∧ AloneTo x.l chip k ∧ Below w.heap.size w wr) (fun i _ => x.l.length - (intOf i).toNat)
  case atStart => exact ⟨0, Nat.zero_le _, rfl, fun i hi => by omega, Below.refl _ _⟩
  case round =>
    obtain ⟨k, hk, rfl, ha, hb⟩ := hrel
    have HA := Lib.hid ha
    clear ha
    by_cases hlt : k < x.l.length
    · obtain ⟨b, o, hA, hu⟩ := h.ev hb hlt
      obtain ⟨u, hgu⟩ : ∃ u, x.l.getD k evZ = u := ⟨_, rfl⟩
      rw [hgu] at hu
      have HU := Lib.hid hgu
      rw [hA]
      clear hgu hA
      obtain ⟨c0, c1, c2, c3, c4, c5⟩ := hu
      by_cases hok : u.chip = chip ∧ u.seq = k
      · obtain ⟨h1, h2⟩ := hok
        have hn1 : (u.chip != chip) = false := by simp [h1]
        have hn2 : (u.seq != (k : Int)) = false := by simp [h2]
        have H1 := Lib.hid h1
        have H2 := Lib.hid h2
        clear h1 h2
        go_wp2_with fail
        refine ⟨⟨k + 1, by omega, by go_num, fun i hi => ?_, hb.alloc hb.size _⟩, by simp [intOf]; omega⟩
        by_cases e : i = k
        · subst e; rw [HU.out]; exact ⟨H1.out, H2.out⟩
        · exact HA.out i (by omega)
      · have H := Lib.hid hok
        have hF : aloneB x.l chip = false := decide_eq_false fun hc => hok (by have := hc.1 k hlt; rw [HU.out] at this; exact this)
        have HF := Lib.hid hF
        have hor : (u.chip != chip) = true ∨ ((u.chip != chip) = false ∧ (u.seq != (k : Int)) = true) := by
          by_cases e : u.chip = chip
          · right; exact ⟨by simp [e], by simp; exact fun e2 => hok ⟨e, e2⟩⟩
          · left; simp [e]
        clear hok hF
        rcases hor with h1 | ⟨h1, h2⟩
        all_goals
          go_wp2_with fail
          go_ret
          rw [HF.out]
          exact ⟨rfl, hb.alloc hb.size _⟩
    · obtain rfl : k = x.l.length := by omega
      go_wp2_with fail
      refine (HV.out _ hb).mono ?_
      rintro e w2 ⟨rfl, hb2⟩
      go_wp2_with fail
      go_ret
      have hF : aloneB x.l chip = (chk x.l == 0) := by
        unfold aloneB
        by_cases e : chk x.l = 0
        · rw [decide_eq_true ⟨HA.out, e⟩]; simp [e]
        · rw [decide_eq_false (fun hc => e hc.2)]; symm; simpa using e
      rw [hF]
      exact ⟨rfl, hb.trans (hb2.mono hb.size)⟩

theorem merge_twice {w w' : World} {g : Nat} {e : Ending} (h : MergeTo w [lsOf g lA, lsOf g lA] e w') : Below w.heap.size w w' ∧ e = .returned (.tuple #[.slice none 0 0, .int .i64 2]) := by
  have he : errs [lsOf g lA, lsOf g lA] = 0 := by
    show (if chk lA = 0 then (if chk lA = 0 then (0 : Int) else chk lA) else chk lA) = 0
    rw [if_pos chkA, if_pos chkA]
  have ha : allOf [lsOf g lA, lsOf g lA] = lA ++ (lA ++ []) := rfl
  obtain ⟨hb, h⟩ := h
  rw [ha] at h
  refine ⟨hb, ?_⟩
  rcases h with ⟨h, _⟩ | ⟨_, h, _⟩ | ⟨_, _, _, h⟩ | ⟨_, _, h, _⟩
  · exact absurd he h
  · exact absurd h (by decide)
  · exact h
  · exact absurd h (by decide +kernel)
theorem merge_none {w w' : World} {e : Ending} (h : MergeTo w [] e w') : Below w.heap.size w w' ∧ ∃ g c, e = .returned (.tuple #[.slice (some ⟨g, 0, none⟩) 0 c, .int .i64 0]) := by
  obtain ⟨hb, h⟩ := h
  refine ⟨hb, ?_⟩
  rcases h with ⟨h, _⟩ | ⟨_, h, _⟩ | ⟨_, _, h, _⟩ | ⟨_, _, _, M, g, c, _, q2, rfl, _⟩
  · exact absurd rfl h
  · exact absurd h (by decide)
  · exact absurd List.nodup_nil h
  · obtain rfl : M = [] := q2.eq_nil
    exact ⟨g, c, rfl⟩
theorem no_ls (w : World) (B : Nat) : LL w B none 0 [] := ⟨Nat.le_refl _, Nat.zero_le _, fun h => absurd h (by simp), fun _ h => by cases h⟩
end Go.Proofs.Ytileglkimbkkgaa
