/-  -/
import Derived.Test.YtofenjloieagaaaZT8
namespace Go.Proofs.Ytofenjloieagaaa
open Go.RowKit
set_option linter.unusedSimpArgs false
set_option linter.unusedVariables false
set_option maxRecDepth 100000

theorem growT_zero (w : World) : Calls Try.prog 52 #[.slice none 0 0, .int .i64 0] w fun e w' => ∃ v, e = .returned v ∧ OwnT w' w.heap.size v [] ∧ Below w.heap.size w w' := by
  go_enter Try.func52, Try.ntmps52
  go_wp2_with fail
  go_ret
  exact ⟨_, rfl, World.ownsRow_nil _ _ _ _, Below.refl _ _⟩

set_option maxHeartbeats 400000 in
theorem growT_pos (n : Nat) (w : World) (h0 : 0 < n) (hn : n ≤ 1000000) :
    Calls Try.prog 52 #[.slice none 0 0, .int .i64 n] w fun e w' => ∃ v, e = .returned v ∧ OwnT w' w.heap.size v [] ∧ Below w.heap.size w w' := by
  obtain ⟨i, hi, hz0, hz1, hz2⟩ := info_parts info_tc
  have hrun := fun ty => Go.Lib.run_append_nil_zeros (P := Try.prog) w 22 3 ty 45 i (.agg #[.int .i64 0, .int .i64 0, .int .i64 0, .bool false]) .i64 .i64 Try.underlying22 Try.underlying3 hi hz0 n h0 (by omega) (by omega) (by rw [hz2]; omega)
  go_enter Try.func52, Try.ntmps52
  go_wp2_with (at_builtin; refine Go.Lib.wpList_append_run _ rfl _ _ _ _ rfl _ _ rfl rfl _ _ (hrun _) ?_)
  go_ret
  refine ⟨_, rfl, ?_, ((Below.refl _ _).alloc (Nat.le_refl _) _).drew⟩
  have hge := grownCap_ge w n 0 45
  have hcm := grownCap_le_maxLen w n 0 45 (by unfold maxLen; omega)
  exact World.ownsRow_made w _ (grownCap w n 0 45) (Nat.le_refl _) hcm (by simp [size_zeroCells, Value.cells]; omega)

theorem growT_any (n : Nat) (w : World) (hn : n ≤ 1000000) :
    Calls Try.prog 52 #[.slice none 0 0, .int .i64 n] w fun e w' => ∃ v, e = .returned v ∧ OwnT w' w.heap.size v [] ∧ Below w.heap.size w w' := by
  rcases Nat.eq_zero_or_pos n with rfl | h
  · exact growT_zero w
  · exact growT_pos n w h hn

/-- A list in memory, as a value. -/
structure PT where
  A : Option Addr
  c : Nat
  l : List Tc
def flatT (ps : List PT) : List Tc := (ps.map (·.l)).flatten
theorem flatT_take (ps : List PT) (k : Nat) (h : k < ps.length) : flatT (ps.take (k + 1)) = flatT (ps.take k) ++ ps[k].l := by
  unfold flatT; rw [List.take_succ_eq_append_getElem h, List.map_append, List.flatten_append]; simp only [List.map_cons, List.map_nil, List.flatten_cons, List.flatten_nil, List.append_nil]
theorem flatT_le (ps : List PT) (k : Nat) : (flatT (ps.take k)).length ≤ (flatT ps).length := by
  have h : flatT ps = flatT (ps.take k) ++ flatT (ps.drop k) := by
    conv => lhs; rw [← List.take_append_drop k ps]
    unfold flatT; rw [List.map_append, List.flatten_append]
  rw [h, List.length_append]; omega
theorem flatT_all (ps : List PT) (k : Nat) (h : ps.length ≤ k) : flatT (ps.take k) = flatT ps := by rw [List.take_of_length_le h]

set_option maxHeartbeats 1000000 in
theorem concatT_any (g cp : Nat) (ps : List PT) (w : World) (hg : g < w.heap.size) (hps : ps.length ≤ 1000)
    (hcell : ∀ i (h : i < ps.length), w.cell? ⟨g, i, none⟩ = some (.slice ps[i].A ps[i].l.length ps[i].c))
    (hr : ∀ i (h : i < ps.length), TsAt w w.heap.size ps[i].A ps[i].l) (hn : ∀ i (h : i < ps.length), ps[i].A = none → ps[i].c = 0) (hlen : (flatT ps).length ≤ 1000000) :
    Calls Try.prog 26 #[.slice (some ⟨g, 0, none⟩) ps.length cp] w fun e w' => ∃ v, e = .returned v ∧ OwnT w' w.heap.size v (flatT ps) ∧ Below w.heap.size w w' := by
  go_enter Try.func26, Try.ntmps26
  go_wp2
  go_loop [3, 11] (fun s i => ∃ k : Nat, k ≤ ps.length ∧ i = .int .i64 k ∧ s = .int .i64 (flatT (ps.take k)).length) (fun _ i => ps.length - (intOf i).toNat)
  case atStart => exact ⟨0, Nat.zero_le _, rfl, rfl⟩
  case round =>
    obtain ⟨k, hk, rfl, rfl⟩ := hrel
    by_cases hlt : k < ps.length
    · have hc := hcell k hlt
      have hl := flatT_le ps k
      have hl1 := flatT_le ps (k + 1)
      have hft := flatT_take ps k hlt
      have hs : (flatT (ps.take (k + 1))).length = (flatT (ps.take k)).length + ps[k].l.length := by rw [hft]; simp
      rw [hs] at hl1
      have HS := Lib.hid hs
      clear hs hft
      go_wp2
      go_round
      case rel => exact ⟨k + 1, by omega, by go_num, by rw [HS.out]; go_num⟩
      case measure => simp [intOf]; omega
    · obtain rfl : k = ps.length := by omega
      have hall := flatT_all ps ps.length (Nat.le_refl _)
      rw [hall]
      clear hall hlt hk
      have HR := Lib.hid hr
      have HN := Lib.hid hn
      clear hr hn
      go_wp2_with (go_at_call 52; refine (growT_any _ _ hlen).mono ?_; rintro e w1 ⟨v1, rfl, hob1, hbel1⟩)
      have HO1 := Lib.hid hob1
      have HB1 := Lib.hid hbel1
      clear hob1 hbel1
      go_loopw [6, 8, 27] (fun v _ i wr => ∃ (k : Nat), k ≤ ps.length ∧ i = .int .i64 k ∧ OwnT wr w.heap.size v (flatT (ps.take k)) ∧ Below w.heap.size w wr) (fun _ _ i _ => ps.length - (intOf i).toNat)
      case atStart => exact ⟨0, Nat.zero_le _, rfl, HO1.out, HB1.out⟩
      case round =>
        rename World => wr
        obtain ⟨k, hk, rfl, hob, hbel⟩ := hrel
        have HO := Lib.hid hob
        have HB := Lib.hid hbel
        clear hob hbel HO1 HB1
        by_cases hlt : k < ps.length
        · have hck : wr.cell? ⟨g, k, none⟩ = some (.slice ps[k].A ps[k].l.length ps[k].c) := (HB.out.cell hg).trans (hcell k hlt)
          have HRk := Lib.hid ((HR.out k hlt).below HB.out)
          have HNk := Lib.hid (HN.out k hlt)
          have hl1 := flatT_le ps (k + 1)
          have hft := flatT_take ps k hlt
          rw [hft] at hl1
          have HF := Lib.hid hft
          have HLe : Hid ((flatT (ps.take k) ++ ps[k].l).length ≤ 1000000) := Lib.hid (by omega)
          clear hft hcell HR HN hl1
          generalize ps[k].l = pl at *
          generalize ps[k].A = pA at *
          generalize ps[k].c = pc at *
          go_wp2_with (at_builtin; refine wpList_append_ts rfl (.tmp 31) (.tmp 32) 22 rfl Try.underlying22 w.heap.size _ (flatT (ps.take k)) rfl HO.out w.heap.size pA pc pl rfl HRk.out HNk.out HLe.out HB.out.size ?_; intro v' w2 hown hg5; have HO2 := Lib.hid hown; have HG2 := Lib.hid hg5; clear hown hg5)
          refine ⟨⟨k + 1, by omega, by go_num, by rw [HF.out]; exact HO2.out, ?_⟩, by simp [intOf]; omega⟩
          exact HB.out.grown HG2.out HB.out.size (fun j hj => (HO.out.lt j hj).1)
        · obtain rfl : k = ps.length := by omega
          have HF : Hid (OwnT wr w.heap.size _ (flatT ps)) := Lib.hid (by have := HO.out; rw [flatT_all ps ps.length (Nat.le_refl _)] at this; exact this)
          clear HO HR HN
          go_wp2_with fail
          go_ret
          exact ⟨_, rfl, HF.out, HB.out⟩

theorem concatT2 (A1 A2 : Option Addr) (c1 c2 : Nat) (l1 l2 : List Tc) (w : World) (h1 : TsAt w w.heap.size A1 l1) (h2 : TsAt w w.heap.size A2 l2) (n1 : A1 = none → c1 = 0) (n2 : A2 = none → c2 = 0) (hlen : l1.length + l2.length ≤ 1000000) :
    Calls Try.prog 26 #[.slice (some ⟨w.heap.size, 0, none⟩) 2 2] (w.alloc (.cells #[.slice A1 l1.length c1, .slice A2 l2.length c2] 22)) fun e w' => ∃ v, e = .returned v ∧ OwnT w' w.heap.size v (l1 ++ l2) ∧ Below w.heap.size w w' := by
  refine (concatT_any w.heap.size 2 [⟨A1, c1, l1⟩, ⟨A2, c2, l2⟩] _ (by simp) (by simp) ?_ ?_ ?_ (by simp [flatT]; omega)).mono ?_
  · intro i hi
    match i, hi with
    | 0, _ => rw [World.cell?_alloc_at _ _ _ _ rfl]; rfl
    | 1, _ => rw [World.cell?_alloc_at _ _ _ _ rfl]; rfl
  · intro i hi
    match i, hi with
    | 0, _ => exact h1.on ((Below.refl _ _).alloc (Nat.le_refl _) _) (by simp)
    | 1, _ => exact h2.on ((Below.refl _ _).alloc (Nat.le_refl _) _) (by simp)
  · intro i hi
    match i, hi with
    | 0, _ => exact n1
    | 1, _ => exact n2
  · rintro e w' ⟨v, rfl, ho, hb⟩
    have e1 : flatT [⟨A1, c1, l1⟩, ⟨A2, c2, l2⟩] = l1 ++ l2 := by simp [flatT]
    rw [e1] at ho
    exact ⟨v, rfl, ownsRow_base_a ho (by simp), ((Below.refl _ w).alloc (Nat.le_refl _) _).trans (hb.mono (by simp))⟩
theorem OwnT.shape0 {w : World} {base : Nat} {v : Value} {M : List Tc} (h : OwnT w base v M) : ∃ A c, v = .slice A M.length c ∧ (A = none → c = 0) ∧ M.length ≤ c ∧ c ≤ maxLen := by
  rcases h.2 with ⟨rfl, h2⟩ | ⟨g, cap, cur, rfl, hb, hg, hn, hm, hs⟩
  · exact ⟨none, 0, by rw [h2], fun _ => rfl, by omega, by decide⟩
  · exact ⟨_, _, rfl, fun h => (by cases h), hn, hm⟩

/-- What Press puts together; what it answers. -/
def pressL (t u : Int) (ks : List Int) : List Tc := mkT t true ks ++ mkT u false ks
theorem pressL_len (t u : Int) (ks : List Int) : (pressL t u ks).length = ks.length + ks.length := by simp [pressL, mkT_len]
/-- A list, or nothing and an error. -/
def ListE (w : World) (z : Int) (M : List Tc) (e : Ending) (w' : World) : Prop :=
  (∃ v, e = .returned (.tuple #[v, .int .i64 z]) ∧ OwnT w' w.heap.size v (if z = 0 then M else [])) ∧ Below w.heap.size w w'

end Go.Proofs.Ytofenjloieagaaa
