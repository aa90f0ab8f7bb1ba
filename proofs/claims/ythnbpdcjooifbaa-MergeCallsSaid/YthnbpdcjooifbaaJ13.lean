/-    -/
import Derived.Test.YthnbpdcjooifbaaJ11
import Derived.Test.YthnbpdcjooifbaaJ12
import Derived.Test.YthnbpdcjooifbaaZK12
namespace Go.Proofs.Ythnbpdcjooifbaa
open Go.RowKit
set_option linter.unusedSimpArgs false
set_option linter.unusedVariables false

theorem lex_drop : ∀ (k : Nat) (l m : List Int), l.length = m.length → k ≤ l.length → (∀ j, j < k → l.getD j 0 = m.getD j 0) → lexI l m = lexI (l.drop k) (m.drop k)
  | 0, l, m, _, _, _ => by simp
  | k + 1, [], m, _, h, _ => by simp at h
  | k + 1, x :: t, [], h, _, _ => by simp at h
  | k + 1, x :: t, y :: u, h1, h2, h => by
    have h0 := h 0 (by omega)
    simp at h0
    subst h0
    rw [lex_one, if_neg (by omega), if_neg (by omega)]
    exact lex_drop k t u (by simpa using h1) (by simpa using h2) (fun j hj => by have := h (j + 1) (by omega); simpa using this)
theorem lex_at {k : Nat} {l m : List Int} (hl : l.length = m.length) (hk : k < l.length) (h : ∀ j, j < k → l.getD j 0 = m.getD j 0) : lexI l m = if l.getD k 0 < m.getD k 0 then -1 else if m.getD k 0 < l.getD k 0 then 1 else lexI (l.drop (k + 1)) (m.drop (k + 1)) := by
  rw [lex_drop k l m hl (by omega) h, List.drop_eq_getElem_cons hk, List.drop_eq_getElem_cons (by omega : k < m.length), lex_one]
  have e1 : l.getD k 0 = l[k] := by simp [List.getD_eq_getElem?_getD, hk]
  have e2 : m.getD k 0 = m[k] := by simp [List.getD_eq_getElem?_getD, (by omega : k < m.length)]
  rw [e1, e2]

theorem six_at {w : World} {g : Nat} {x : Ev} (h : w.heap[g]? = some (.cells #[.int .i64 x.time, .int .i64 x.chip, .int .i64 x.seq, .int .i64 x.kind, .int .i64 x.a, .int .i64 x.b] 2 (0, 0))) : ∀ k, k < 6 → w.cell? ⟨g, k, none⟩ = some (.int .i64 (x.ns.getD k 0)) := by
  intro k hk
  rw [cell_of_row w g _ _ _ _ h]
  match k, hk with
  | 0, _ | 1, _ | 2, _ | 3, _ | 4, _ | 5, _ => rfl

abbrev six64 (x : Ev) : Obj := .cells #[.int .i64 x.time, .int .i64 x.chip, .int .i64 x.seq, .int .i64 x.kind, .int .i64 x.a, .int .i64 x.b] 2

set_option maxRecDepth 100000 in
set_option maxHeartbeats 2000000 in
theorem r3_order (w : World) (x y : Ev) : Calls Try.prog 36 #[x.val, y.val] w fun e w' => e = .returned (.int .i64 (ordE x y)) ∧ Below w.heap.size w w' := by
  unfold Ev.val
  go_enter Try.func36, Try.ntmps36
  go_wp2_with fail
  have hB : Below w.heap.size w ((((w.alloc (evO x)).alloc (evO y)).alloc (six64 x)).alloc (six64 y)) := ((((Below.refl _ _).alloc (Nat.le_refl _) _).alloc (by simp) _).alloc (by simp; omega) _).alloc (by simp; omega) _
  have hX : ((((w.alloc (evO x)).alloc (evO y)).alloc (six64 x)).alloc (six64 y)).heap[w.heap.size + 1 + 1]? = some (six64 x) := by
    have h1 := heap_alloc_new ((w.alloc (evO x)).alloc (evO y)) (six64 x)
    have h2 := ((Below.refl _ (((w.alloc (evO x)).alloc (evO y)).alloc (six64 x))).alloc (B := (((w.alloc (evO x)).alloc (evO y)).alloc (six64 x)).heap.size) (Nat.le_refl _) (six64 y)).block (w.heap.size + 1 + 1) (by simp)
    exact h2.trans (by simpa using h1)
  have hY : ((((w.alloc (evO x)).alloc (evO y)).alloc (six64 x)).alloc (six64 y)).heap[w.heap.size + 1 + 1 + 1]? = some (six64 y) := by
    have h1 := heap_alloc_new (((w.alloc (evO x)).alloc (evO y)).alloc (six64 x)) (six64 y)
    simpa using h1
  have HB := Lib.hid hB
  have HX := Lib.hid hX
  have HY := Lib.hid hY
  unfold evO six64 at HB HX HY
  clear hB hX hY
  go_loopw [7] (fun i wr => ∃ k : Nat, k ≤ 6 ∧ i = .int .i64 k ∧ (∀ j, j < k → x.ns.getD j 0 = y.ns.getD j 0) ∧ Below w.heap.size w wr ∧ wr.heap[w.heap.size + 1 + 1]? = some (six64 x) ∧ wr.heap[w.heap.size + 1 + 1 + 1]? = some (six64 y)) (fun i _ => 6 - (intOf i).toNat)
  case atStart => exact ⟨0, by omega, rfl, fun j hj => by omega, HB.out, HX.out, HY.out⟩
  case round =>
    obtain ⟨k, hk, rfl, he, hb, hx, hy⟩ := hrel
    have HE := Lib.hid he
    have HX1 := Lib.hid hx
    have HY1 := Lib.hid hy
    by_cases hlt : k < 6
    · have c1 := six_at hx k hlt
      have c2 := six_at hy k hlt
      have hla := lex_at (l := x.ns) (m := y.ns) rfl (by show k < 6; exact hlt) he
      rw [← ordE_lex] at hla
      obtain ⟨u, hu⟩ : ∃ u, x.ns.getD k 0 = u := ⟨_, rfl⟩
      obtain ⟨v, hv⟩ : ∃ v, y.ns.getD k 0 = v := ⟨_, rfl⟩
      rw [hu] at c1
      rw [hv] at c2
      rw [hu, hv] at hla
      have HU := Lib.hid hu
      have HV := Lib.hid hv
      have HLA := Lib.hid hla
      clear hx hy he hu hv hla
      have hk6 : (k : Int) < 6 := by omega
      rcases Int.lt_trichotomy u v with h | h | h
      · go_wp2_with fail
        go_quiet (fail)
        go_wp2_with fail
        go_ret
        rw [HLA.out, if_pos h]
        exact ⟨rfl, ⟨hb.os, hb.tape, hb.output, hb.size, hb.block⟩⟩
      · have h1 : ¬ u < v := by omega
        have h2 : ¬ v < u := by omega
        have H := Lib.hid h
        clear h
        go_wp2_with fail
        go_quiet (fail)
        go_wp2_with fail
        go_quiet (fail)
        go_wp2_with fail
        refine ⟨⟨k + 1, by omega, by go_num, fun j hj => ?_, ⟨hb.os, hb.tape, hb.output, hb.size, hb.block⟩, HX1.out, HY1.out⟩, by simp [intOf]; omega⟩
        by_cases e : j = k
        · subst e; rw [HU.out, HV.out]; exact H.out
        · exact HE.out j (by omega)
      · have h1 : ¬ u < v := by omega
        go_wp2_with fail
        go_quiet (fail)
        go_wp2_with fail
        go_quiet (fail)
        go_wp2_with fail
        go_ret
        rw [HLA.out, if_neg (by omega), if_pos h]
        exact ⟨rfl, ⟨hb.os, hb.tape, hb.output, hb.size, hb.block⟩⟩
    · obtain rfl : k = 6 := by omega
      clear hx hy he
      go_wp2_with fail
      go_ret
      have hz : ordE x y = 0 := by
        rw [ordE_lex, lex_drop 6 x.ns y.ns rfl (Nat.le_refl _) HE.out]
        rfl
      rw [hz]
      exact ⟨rfl, hb⟩
end Go.Proofs.Ythnbpdcjooifbaa
namespace Go.Proofs.Ythnbpdcjooifbaa
open Go.RowKit
set_option linter.unusedSimpArgs false
set_option linter.unusedVariables false

theorem new_ll (w : World) (L : List Ls) (hr : ∀ x ∈ L, LsAt w w.heap.size x) (hm : L.length ≤ maxLen) (o : Obj) (ho : o = .cells (L.map Ls.val).toArray 25) : LL (w.alloc o) (w.alloc o).heap.size (some ⟨w.heap.size, 0, none⟩) L.length L := by
  subst ho
  have hb := (Below.refl w.heap.size w).alloc (Nat.le_refl _) (.cells (L.map Ls.val).toArray 25)
  refine ⟨Nat.le_refl _, hm, fun h0 => ⟨w.heap.size, 0, rfl, by simp, fun i hi => ?_⟩, fun x hx => ((hr x hx).keep hb.block).more (by simp)⟩
  rw [cell_of_row _ w.heap.size _ _ _ _ (heap_alloc_new w _), List.getElem?_toArray, Nat.zero_add, List.getElem?_map, List.getElem?_eq_getElem hi, List.getD_eq_getElem?_getD, List.getElem?_eq_getElem hi]
  rfl

theorem merge_ok {w w' : World} {L : List Ls} {e : Ending} (h : MergeTo w L e w') (he : ∀ x ∈ L, chk x.l = 0) (hl : (allOf L).length ≤ 4194304) : Below w.heap.size w w' ∧
    ((¬ (allOf L).Nodup ∧ e = .returned (.tuple #[.slice none 0 0, .int .i64 2])) ∨
     ((allOf L).Nodup ∧ ∃ (M : List Ev) (g c : Nat), M.Pairwise (Hp.lt' ole) ∧ M.Perm (allOf L) ∧ e = .returned (.tuple #[.slice (some ⟨g, 0, none⟩) M.length c, .int .i64 0]) ∧ LsAt w' w'.heap.size ⟨some ⟨g, 0, none⟩, c, M⟩)) := by
  have he0 : errs L = 0 := by
    refine errs_none L fun i hi => he _ ?_
    rw [List.getD_eq_getElem?_getD, List.getElem?_eq_getElem hi]
    exact List.getElem_mem hi
  obtain ⟨hb, h⟩ := h
  refine ⟨hb, ?_⟩
  rcases h with ⟨h, _⟩ | ⟨_, h, _⟩ | ⟨_, _, h1, h2⟩ | ⟨_, _, h1, M, g, c, q1, q2, q3, q4⟩
  · exact absurd he0 h
  · omega
  · exact .inl ⟨h1, h2⟩
  · have := own_ls q4 M.length (Nat.le_refl _)
    rw [List.take_length] at this
    exact .inr ⟨h1, M, g, c, q1, q2, q3, this⟩

theorem nil_ls (w : World) (B : Nat) : LsAt w B ⟨none, 0, []⟩ := ⟨Nat.le_refl _, Nat.zero_le _, fun h => absurd h (by simp)⟩

theorem chk_merged {M A : List Ev} (hs : M.Pairwise (Hp.lt' ole)) (hp : M.Perm A) (hm : ∀ e ∈ A, e.May) (hl : A.length ≤ 4194304) : chk M = 0 := by
  unfold chk
  rw [if_neg (by rw [hp.length_eq]; omega), if_pos (sorted_good (fun e he => hm e (hp.mem_iff.1 he)) hs)]

/-- Of a list without the same twice each of its members is there once. -/
theorem count_one {l : List Ev} (h : l.Nodup) : ∀ {e : Ev}, e ∈ l → l.count e = 1 := by
  induction l with
  | nil => intro e he; cases he
  | cons x t ih =>
    intro e he
    rw [List.nodup_cons] at h
    rcases List.mem_cons.1 he with rfl | he
    · rw [List.count_cons_self, List.count_eq_zero_of_not_mem h.1]
    · have hne : x ≠ e := fun e2 => h.1 (e2 ▸ he)
      rw [List.count_cons_of_ne hne, ih h.2 he]
theorem count_take {l : List Ev} {k : Nat} (hk : k < l.length) (e : Ev) : (l.take (k + 1)).count e = (l.take k).count e + if l.getD k evZ = e then 1 else 0 := by
  rw [List.take_succ_eq_append_getElem hk, List.count_append, getD_at l k hk]
  by_cases h : l[k] = e
  · rw [if_pos h, h]; simp
  · rw [if_neg h, List.count_cons_of_ne h]; rfl
end Go.Proofs.Ythnbpdcjooifbaa
namespace Go.Proofs.Ythnbpdcjooifbaa
open Go.RowKit
set_option linter.unusedSimpArgs false
set_option linter.unusedVariables false

theorem ole_total (x y : Ev) (h : ¬ ole x y) : ole y x := by
  unfold ole at *
  have := ord_turn x y
  omega

/-- All from at on come behind x. -/
def Past (M : List Ev) (x : Ev) (k : Nat) : Prop := k ≤ M.length ∧ ∀ i, k ≤ i → i < M.length → 0 < ordE (M.getD i evZ) x
theorem Past.all (M : List Ev) (x : Ev) : Past M x M.length := ⟨Nat.le_refl _, fun i h1 h2 => by omega⟩
theorem Past.down {M : List Ev} {x : Ev} {k : Nat} (h : Past M x (k + 1)) (hk : 0 < ordE (M.getD k evZ) x) : Past M x k :=
  ⟨by have := h.1; omega, fun i h1 h2 => by
    by_cases e : i = k
    · subst e; exact hk
    · exact h.2 i (by omega) h2⟩
def put (M : List Ev) (x : Ev) (k : Nat) : List Ev := M.take k ++ [x] ++ M.drop k
theorem put_perm (M : List Ev) (x : Ev) (k : Nat) : (put M x k).Perm (M ++ [x]) := by
  unfold put
  have h : (M.take k ++ M.drop k ++ [x]).Perm (M.take k ++ [x] ++ M.drop k) := by
    rw [List.append_assoc, List.append_assoc]
    exact (List.perm_append_comm).append_left _
  rw [List.take_append_drop] at h
  exact h.symm
theorem put_len (M : List Ev) (x : Ev) (k : Nat) : (put M x k).length = M.length + 1 := by
  rw [(put_perm M x k).length_eq]; simp
theorem put_sorted {M : List Ev} {x : Ev} {k : Nat} (hs : M.Pairwise ole) (hp : Past M x k) (hz : k = 0 ∨ ¬ 0 < ordE (M.getD (k - 1) evZ) x) : (put M x k).Pairwise ole := by
  have hget : ∀ i j, i < j → (hj : j < M.length) → ole (M.getD i evZ) (M.getD j evZ) := by
    intro i j hij hj
    rw [List.getD_eq_getElem?_getD, List.getD_eq_getElem?_getD, List.getElem?_eq_getElem (by omega), List.getElem?_eq_getElem hj]
    exact List.pairwise_iff_getElem.1 hs i j (by omega) hj hij
  have hbefore : ∀ y ∈ M.take k, ole y x := by
    intro y hy
    obtain ⟨i, hi, rfl⟩ := List.getElem_of_mem hy
    have hik : i < k := by rw [List.length_take] at hi; omega
    have hiM : i < M.length := by rw [List.length_take] at hi; omega
    rcases hz with h0 | h0
    · omega
    · have h1 : ole (M.getD (k - 1) evZ) x := by unfold ole; omega
      have he : (M.take k)[i] = M.getD i evZ := by rw [List.getElem_take, List.getD_eq_getElem?_getD, List.getElem?_eq_getElem hiM]; rfl
      rw [he]
      by_cases e : i = k - 1
      · rw [e]; exact h1
      · exact ole_trans _ _ _ (hget i (k - 1) (by omega) (by have := hp.1; omega)) h1
  have hbehind : ∀ y ∈ M.drop k, ole x y := by
    intro y hy
    obtain ⟨i, hi, rfl⟩ := List.getElem_of_mem hy
    rw [List.length_drop] at hi
    have he : (M.drop k)[i] = M.getD (k + i) evZ := by rw [List.getElem_drop, List.getD_eq_getElem?_getD, List.getElem?_eq_getElem (by omega)]; rfl
    rw [he]
    have h1 := hp.2 (k + i) (by omega) (by omega)
    exact ole_total _ _ (by unfold ole; omega)
  unfold put
  rw [List.pairwise_append, List.pairwise_append]
  refine ⟨⟨hs.sublist (List.take_sublist k M), List.pairwise_singleton _ _, fun a ha b hb => ?_⟩, hs.sublist (List.drop_sublist k M), fun a ha b hb => ?_⟩
  · rw [List.mem_singleton.1 hb]; exact hbefore a ha
  · rcases List.mem_append.1 ha with ha | ha
    · exact ole_trans _ _ _ (hbefore a ha) (hbehind b hb)
    · rw [List.mem_singleton.1 ha]; exact hbehind b hb

/-- Weakly sorted and nothing twice: sorted. -/
theorem sorted_strict {M : List Ev} (hs : M.Pairwise ole) (hn : M.Nodup) : M.Pairwise (Hp.lt' ole) :=
  List.Pairwise.imp₂ (fun a b h1 h2 => ⟨h1, h2⟩) hs hn
/-- The last Check of the reference: OK just where nothing is there twice. -/
theorem chk_sorted {M A : List Ev} (hs : M.Pairwise ole) (hp : M.Perm A) (hm : ∀ e ∈ A, e.May) (hl : A.length ≤ 4194304) : (A.Nodup → chk M = 0 ∧ M.Pairwise (Hp.lt' ole)) ∧ (¬ A.Nodup → chk M ≠ 0) := by
  constructor
  · intro hn
    have h1 := sorted_strict hs (hp.nodup_iff.2 hn)
    exact ⟨chk_merged h1 hp hm hl, h1⟩
  · intro hn hc
    exact hn (hp.nodup_iff.1 (Hp.sorted_nodup (good_sorted (chk_good hc).1)))
end Go.Proofs.Ythnbpdcjooifbaa
