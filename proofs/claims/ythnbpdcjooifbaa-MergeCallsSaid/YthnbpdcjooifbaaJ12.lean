/-     -/
import Derived.Test.YthnbpdcjooifbaaZK15
import Derived.Deep.Slices
namespace Go.Proofs.Ythnbpdcjooifbaa
open Go.RowKit
set_option linter.unusedSimpArgs false
set_option linter.unusedVariables false

def AloneTo (l : List Ev) (chip : Int) (k : Nat) : Prop := ∀ i, i < k → (l.getD i evZ).chip = chip ∧ (l.getD i evZ).seq = i
instance (l : List Ev) (chip : Int) (k : Nat) : Decidable (AloneTo l chip k) := by unfold AloneTo; infer_instance
def aloneB (l : List Ev) (chip : Int) : Bool := decide (AloneTo l chip l.length ∧ chk l = 0)

set_option maxRecDepth 100000 in
set_option maxHeartbeats 2000000 in
theorem alone_any (w : World) (x : Ls) (chip : Int) (h : LsAt w w.heap.size x) : Calls Try.prog 13 #[x.val, .int .i64 chip] w fun e w' => e = .returned (.bool (aloneB x.l chip)) ∧ Below w.heap.size w w' := by
  have hcap := h.cap
  have hle := h.le
  unfold maxLen at hcap
  have HV := Lib.hid (show ∀ w', Below w.heap.size w w' → Calls Try.prog 25 #[x.val] w' fun e w2 => e = .returned (.int .i64 (chk x.l)) ∧ Below w'.heap.size w' w2 from
    fun w' hb => (mcheck_any w' x ((h.keep hb.block).more hb.size)).mono fun e w2 hc => hc.chk)
  unfold Ls.val at HV ⊢
  go_enter Try.func13, Try.ntmps13
  go_wp2_with fail
  go_loopw [9] (fun i wr => ∃ k : Nat, k ≤ x.l.length ∧ i = .int .i64 k ∧ AloneTo x.l chip k ∧ Below w.heap.size w wr) (fun i _ => x.l.length - (intOf i).toNat)
  case atStart => exact ⟨0, Nat.zero_le _, rfl, fun i hi => by omega, Below.refl _ _⟩
  case round =>
    obtain ⟨k, hk, rfl, ha, hb⟩ := hrel
    have HA := Lib.hid ha
    clear ha
    by_cases hlt : k < x.l.length
    · obtain ⟨b, o, hA, hu⟩ := h.ev hb hlt
      obtain ⟨u, hgu⟩ : ∃ u, x.l.getD k evZ = u := ⟨_, rfl⟩
      rw [hgu] at hu
      have HU := Lib.hid hgu
      rw [hA]
      clear hgu hA
      obtain ⟨c0, c1, c2, c3, c4, c5⟩ := hu
      by_cases hok : u.chip = chip ∧ u.seq = k
      · obtain ⟨h1, h2⟩ := hok
        have hn1 : (u.chip != chip) = false := by simp [h1]
        have hn2 : (u.seq != (k : Int)) = false := by simp [h2]
        have H1 := Lib.hid h1
        have H2 := Lib.hid h2
        clear h1 h2
        go_wp2_with fail
        refine ⟨⟨k + 1, by omega, by go_num, fun i hi => ?_, hb.alloc hb.size _⟩, by simp [intOf]; omega⟩
        by_cases e : i = k
        · subst e; rw [HU.out]; exact ⟨H1.out, H2.out⟩
        · exact HA.out i (by omega)
      · have H := Lib.hid hok
        have hF : aloneB x.l chip = false := decide_eq_false fun hc => hok (by have := hc.1 k hlt; rw [HU.out] at this; exact this)
        have HF := Lib.hid hF
        have hor : (u.chip != chip) = true ∨ ((u.chip != chip) = false ∧ (u.seq != (k : Int)) = true) := by
          by_cases e : u.chip = chip
          · right; exact ⟨by simp [e], by simp; exact fun e2 => hok ⟨e, e2⟩⟩
          · left; simp [e]
        clear hok hF
        rcases hor with h1 | ⟨h1, h2⟩
        all_goals
          go_wp2_with fail
          go_ret
          rw [HF.out]
          exact ⟨rfl, hb.alloc hb.size _⟩
    · obtain rfl : k = x.l.length := by omega
      go_wp2_with fail
      refine (HV.out _ hb).mono ?_
      rintro e w2 ⟨rfl, hb2⟩
      go_wp2_with fail
      go_ret
      have hF : aloneB x.l chip = (chk x.l == 0) := by
        unfold aloneB
        by_cases e : chk x.l = 0
        · rw [decide_eq_true ⟨HA.out, e⟩]; simp [e]
        · rw [decide_eq_false (fun hc => e hc.2)]; symm; simpa using e
      rw [hF]
      exact ⟨rfl, hb.trans (hb2.mono hb.size)⟩

theorem merge_twice {w w' : World} {g : Nat} {e : Ending} (h : MergeTo w [lsOf g lA, lsOf g lA] e w') : Below w.heap.size w w' ∧ e = .returned (.tuple #[.slice none 0 0, .int .i64 2]) := by
  have he : errs [lsOf g lA, lsOf g lA] = 0 := by
    show (if chk lA = 0 then (if chk lA = 0 then (0 : Int) else chk lA) else chk lA) = 0
    rw [if_pos chkA, if_pos chkA]
  have ha : allOf [lsOf g lA, lsOf g lA] = lA ++ (lA ++ []) := rfl
  obtain ⟨hb, h⟩ := h
  rw [ha] at h
  refine ⟨hb, ?_⟩
  rcases h with ⟨h, _⟩ | ⟨_, h, _⟩ | ⟨_, _, _, h⟩ | ⟨_, _, h, _⟩
  · exact absurd he h
  · exact absurd h (by decide)
  · exact h
  · exact absurd h (by decide +kernel)
theorem merge_none {w w' : World} {e : Ending} (h : MergeTo w [] e w') : Below w.heap.size w w' ∧ ∃ g c, e = .returned (.tuple #[.slice (some ⟨g, 0, none⟩) 0 c, .int .i64 0]) := by
  obtain ⟨hb, h⟩ := h
  refine ⟨hb, ?_⟩
  rcases h with ⟨h, _⟩ | ⟨_, h, _⟩ | ⟨_, _, h, _⟩ | ⟨_, _, _, M, g, c, _, q2, rfl, _⟩
  · exact absurd rfl h
  · exact absurd h (by decide)
  · exact absurd List.nodup_nil h
  · obtain rfl : M = [] := q2.eq_nil
    exact ⟨g, c, rfl⟩
theorem no_ls (w : World) (B : Nat) : LL w B none 0 [] := ⟨Nat.le_refl _, Nat.zero_le _, fun h => absurd h (by simp), fun _ h => by cases h⟩
end Go.Proofs.Ythnbpdcjooifbaa
namespace Go.Proofs.Ythnbpdcjooifbaa
open Go.RowKit
set_option linter.unusedSimpArgs false
set_option linter.unusedVariables false

def lightB (L : List Ls) : Bool := decide (L.length ≤ 10 ∧ (allOf L).length ≤ 120)

set_option maxRecDepth 100000 in
set_option maxHeartbeats 1000000 in
theorem light_any (w : World) (c : Nat) (O : Option Addr) (L : List Ls) (h : LL w w.heap.size O c L) :
    Calls Try.prog 14 #[.slice O L.length c] w fun e w' => e = .returned (.bool (lightB L)) ∧ w = w' := by
  have hc := h.le
  have hm := h.cap
  unfold maxLen at hm
  go_enter Try.func14, Try.ntmps14
  go_wp2_with fail
  go_loop [3, 4] (fun n i => ∃ (k m : Nat), k ≤ L.length ∧ k ≤ 11 ∧ i = .int .i64 k ∧ n = .int .i64 m ∧ m ≤ k * 121 ∧ (m ≤ 120 ∨ (allOf (L.take k)).length ≤ 120 → m = (allOf (L.take k)).length)) (fun _ i => L.length - (intOf i).toNat)
  case atStart => exact ⟨0, 0, Nat.zero_le _, by omega, rfl, rfl, by omega, fun _ => rfl⟩
  case round =>
    obtain ⟨k, m, hk, hk11, rfl, rfl, hm1, hm2⟩ := hrel
    by_cases hlt : k < L.length ∧ k ≤ 10
    · obtain ⟨hlt, hk10⟩ := hlt
      obtain ⟨b, o, rfl, hb1, hc1⟩ := h.at_ (by omega)
      have hcell := hc1 k hlt
      have hmem : L.getD k Ls.none ∈ L := by rw [List.getD_eq_getElem?_getD, List.getElem?_eq_getElem hlt]; exact List.getElem_mem hlt
      have hrow := h.rows _ hmem
      have htake := all_take hlt
      obtain ⟨x, hx⟩ : ∃ x, L.getD k Ls.none = x := ⟨_, rfl⟩
      rw [hx] at hcell hrow htake
      have hxl := hrow.le
      have hxc := hrow.cap
      unfold maxLen at hxc
      unfold Ls.val at hcell
      have HT := Lib.hid htake
      have HM := Lib.hid hm2
      obtain ⟨q, hq⟩ : ∃ q : Nat, min (x.l.length : Int) 121 = q := ⟨min x.l.length 121, by omega⟩
      have HQ := Lib.hid hq
      have hq1 : q ≤ 121 := by omega
      clear htake hm2 hx hmem hc1
      go_wp2_with fail
      refine ⟨⟨k + 1, m + q, by omega, by omega, by go_num, by go_num, by omega, ?_⟩, by simp [intOf]; omega⟩
      intro hor
      have h1 := HT.out
      have h2 := HM.out
      have h3 := HQ.out
      omega
    · have HM := Lib.hid hm2
      clear hm2
      by_cases hl : L.length ≤ 10
      · obtain rfl : k = L.length := by omega
        clear hlt hk hk11
        have hk2 : (L.length : Int) ≤ 10 := by omega
        have hF : lightB L = decide ((m : Int) ≤ 120) := by
          unfold lightB
          rw [Bool.eq_iff_iff]
          simp only [decide_eq_true_eq]
          constructor
          · intro hc
            have := HM.out (.inr (by rw [List.take_length]; exact hc.2))
            rw [List.take_length] at this
            omega
          · intro hc
            have := HM.out (.inl (by omega))
            rw [List.take_length] at this
            exact ⟨hl, by omega⟩
        have HF := Lib.hid hF
        clear hF
        go_wp2_with fail
        go_ret
        rw [HF.out]
        exact ⟨rfl, rfl⟩
      · obtain rfl : k = 11 := by omega
        have hF : lightB L = false := decide_eq_false fun hc => hl hc.1
        have HF := Lib.hid hF
        have hl11 : 11 ≤ L.length := by omega
        clear hF hl hlt hk hk11
        by_cases e : 11 < L.length
        all_goals
          go_wp2_with fail
          go_ret
          rw [HF.out]
          exact ⟨rfl, rfl⟩
end Go.Proofs.Ythnbpdcjooifbaa
namespace Go.Proofs.Ythnbpdcjooifbaa
open Go.RowKit Go.ChangeShapes Go.WideShapes Go.ChangeAt Go.Deep
set_option maxRecDepth 100000
set_option linter.unusedSimpArgs false
set_option linter.unusedVariables false

theorem list_of {p : Nat → Ev → Prop} : ∀ n : Nat, (∀ i, i < n → ∃ s, p i s) → ∃ l : List Ev, l.length = n ∧ ∀ i, i < n → p i (l.getD i evZ)
  | 0, _ => ⟨[], rfl, fun i h => by omega⟩
  | n + 1, h => by
    obtain ⟨l, hl, hp⟩ := list_of n fun i hi => h i (by omega)
    obtain ⟨s, hs⟩ := h n (by omega)
    refine ⟨l ++ [s], by simp [hl], fun i hi => ?_⟩
    by_cases e : i = n
    · subst e
      have : (l ++ [s]).getD i evZ = s := by simp [List.getD_eq_getElem?_getD, ← hl]
      rw [this]; exact hs
    · have : (l ++ [s]).getD i evZ = l.getD i evZ := by
        simp only [List.getD_eq_getElem?_getD]
        rw [List.getElem?_append_left (by omega)]
      rw [this]
      exact hp i (by omega)

theorem ev_of_cells {H : Type} {enc : TypeId × Value → H} {W : World} {n : Nat} {cs : List Value} {y : DataW H × List MemPlace} {sp : Nat → Bool} (hl : cs.length = 6)
    (h : DataW.trod enc Try.prog W 0 sp true n 23 cs = some y) : ∃ s : Ev, cs = s.cells ∧ s.wf := by
  have h1 : Try.prog.cellsOf 3 = 1 := by kernel_rfl
  have h2 : Try.prog.cellsOf 2 = 1 := by kernel_rfl
  match cs, hl with
  | [c0, c1, c2, c3, c4, c5], _ =>
  obtain ⟨xs, n, _, _, hl, hlen, hfi⟩ := DataW.trod_struct Try.underlying23 h
  match xs, hlen with
  | [y0, y1, y2, y3, y4, y5], _ =>
  have t0 := hfi 0 _ rfl
  have t1 := hfi 1 _ rfl
  have t2 := hfi 2 _ rfl
  have t3 := hfi 3 _ rfl
  have t4 := hfi 4 _ rfl
  have t5 := hfi 5 _ rfl
  simp [h1, h2, Value.cells] at t0 t1 t2 t3 t4 t5
  obtain ⟨x0, e0, _, w0⟩ := DataW.trod_int Try.underlying2 t0
  obtain ⟨x1, e1, _, w1⟩ := DataW.trod_int Try.underlying3 t1
  obtain ⟨x2, e2, _, w2⟩ := DataW.trod_int Try.underlying2 t2
  obtain ⟨x3, e3, _, w3⟩ := DataW.trod_int Try.underlying3 t3
  obtain ⟨x4, e4, _, w4⟩ := DataW.trod_int Try.underlying3 t4
  obtain ⟨x5, e5, _, w5⟩ := DataW.trod_int Try.underlying3 t5
  simp at e0 e1 e2 e3 e4 e5
  subst e0 e1 e2 e3 e4 e5
  refine ⟨⟨x0, x1, x2, x3, x4, x5⟩, rfl, ?_⟩
  have b0 := bounds_i64 w0
  have b1 := bounds_i64 w1
  have b2 := bounds_i64 w2
  have b3 := bounds_i64 w3
  have b4 := bounds_i64 w4
  have b5 := bounds_i64 w5
  constructor <;> (dsimp only; omega)

/-- Cells from a place on are an event's. -/
theorem ev_at_cells {W : World} {a : Addr} {s : Ev} (h : ∀ i, i < 6 → W.cell? (a.add i) = s.cells[i]?) : a.spot = none ∧ EvAt W a.block a.off s := by
  have h0 := h 0 (by decide)
  have hspot : a.spot = none := by simpa [Addr.add] using World.cell?_spot h0
  obtain ⟨b, o, sp⟩ := a
  obtain rfl : sp = none := hspot
  have e : ∀ i, i < 6 → W.cell? ⟨b, o + i, none⟩ = s.cells[i]? := fun i hi => by
    have := h i hi
    rwa [show (⟨b, o, none⟩ : Addr).add i = ⟨b, o + i, none⟩ by unfold Addr.add; split <;> simp_all] at this
  exact ⟨rfl, ⟨e 0 (by decide), e 1 (by decide), e 2 (by decide), e 3 (by decide), e 4 (by decide), e 5 (by decide)⟩⟩

theorem open_evs {H : Type} {enc : TypeId × Value → H} {W : World} {a : Option Addr} {len cap : Nat} {d : DataW H} {p : List MemPlace}
    (h : DataW.Trod enc Try.prog W 0 (fun _ => true) true 25 (.slice a len cap) d p) : ∃ l : List Ev, len = l.length ∧ LsAt W W.heap.size ⟨a, cap, l⟩ ∧ (∀ e ∈ l, e.wf) ∧ (a = none → cap = 0) := by
  obtain ⟨fuel, hf⟩ := h
  have hC : Try.prog.cellsOf 23 = 6 := by kernel_rfl
  rcases open_slice Try.underlying25 hf with ⟨hcs, _⟩ | ⟨x, l, c, m, n, D, Pl, hcs, _, hl, hm, hmm, _, hi⟩
  · simp [Value.cells] at hcs
    obtain ⟨rfl, rfl, rfl⟩ := hcs
    exact ⟨[], rfl, ⟨Nat.le_refl _, Nat.zero_le _, fun h => absurd h (by simp)⟩, (fun _ h => by cases h), fun _ => rfl⟩
  · simp [Value.cells] at hcs
    obtain ⟨rfl, rfl, rfl⟩ := hcs
    simp at hmm
    subst hmm
    have key : ∀ i, i < len → ∃ s : Ev, (x.add (i * 6)).spot = none ∧ EvAt W (x.add (i * 6)).block (x.add (i * 6)).off s ∧ s.wf := fun i hil => by
      obtain ⟨cs', hc, ht⟩ := hi i (by omega)
      rw [hC] at hc
      obtain ⟨_, hcl, hat⟩ := World.cells?_some hc
      obtain ⟨s, rfl, hw⟩ := ev_of_cells hcl ht
      obtain ⟨q1, q2⟩ := ev_at_cells hat
      exact ⟨s, q1, q2, hw⟩
    obtain ⟨l, hll, hp⟩ := list_of len key
    refine ⟨l, hll.symm, ⟨by rw [hll]; exact hl, hm, fun h0 => ?_⟩, ?_, fun h => by cases h⟩
    · rw [hll] at h0
      have h00 := hp 0 h0
      have hx0 : x.add (0 * 6) = x := by simp [Addr.add]
      rw [hx0] at h00
      obtain ⟨b, o, sp⟩ := x
      obtain rfl : sp = none := h00.1
      refine ⟨b, o, rfl, World.block_lt_of_cell? _ _ h00.2.1.c0, fun i hil => ?_⟩
      have := (hp i (by rw [← hll]; exact hil)).2.1
      rwa [show (⟨b, o, none⟩ : Addr).add (i * 6) = ⟨b, o + i * 6, none⟩ by unfold Addr.add; split <;> simp_all] at this
    · intro e he
      obtain ⟨i, hil, rfl⟩ := List.mem_iff_getElem.1 he
      have := (hp i (by rw [← hll]; exact hil)).2.2
      rwa [getD_at l i hil] at this
end Go.Proofs.Ythnbpdcjooifbaa
namespace Go.Proofs.Ythnbpdcjooifbaa
open Go.RowKit
set_option linter.unusedSimpArgs false
set_option linter.unusedVariables false

theorem row_get : ∀ (l : List Ev) (i j : Nat), i < l.length → j < 6 → (rowV l)[i * 6 + j]? = (l.getD i evZ).cells[j]? := by
  intro l
  induction l with
  | nil => intro i j h _; simp at h
  | cons x t ih =>
    intro i j h hj
    have hc : x.cells.length = 6 := rfl
    unfold rowV at ih ⊢
    rw [List.flatMap_cons]
    cases i with
    | zero => rw [List.getElem?_append_left (by rw [hc]; omega)]; simp
    | succ i =>
      rw [List.getElem?_append_right (by rw [hc]; omega), hc, show (i + 1) * 6 + j - 6 = i * 6 + j by omega, ih i j (by simpa using h) hj]
      simp

theorem rowV_one {M : List Ev} : ∀ u ∈ rowV M, u.oneCell' = true := by
  intro u hu
  obtain ⟨x, _, hx⟩ := List.mem_flatMap.1 hu
  simp only [Ev.cells, List.mem_cons, List.mem_nil_iff, or_false] at hx
  rcases hx with rfl | rfl | rfl | rfl | rfl | rfl <;> rfl

theorem EvAt.cell {w : World} {b o : Nat} {x : Ev} (h : EvAt w b o x) {j : Nat} (hj : j < 6) : w.cell? ⟨b, o + j, none⟩ = x.cells[j]? := by
  match j, hj with
  | 0, _ => exact h.c0
  | 1, _ => exact h.c1
  | 2, _ => exact h.c2
  | 3, _ => exact h.c3
  | 4, _ => exact h.c4
  | 5, _ => exact h.c5

/-- The cells of a list that stands in memory. -/
theorem LsAt.cells {w : World} {B : Nat} {y : Ls} (h : LsAt w B y) {ad : Addr} (hA : y.A = some ad) : ∀ j u, (rowV y.l)[j]? = some u → w.cell? (ad.add j) = some u := by
  intro j u hu
  have hj : j < y.l.length * 6 := by
    have := (List.getElem?_eq_some_iff.1 hu).1
    rwa [cells_len] at this
  obtain ⟨b, o, h1, _, h3⟩ := h.at_ (by omega)
  rw [hA] at h1
  obtain rfl := Option.some.inj h1
  have hadd : (⟨b, o, none⟩ : Addr).add j = ⟨b, o + j, none⟩ := by unfold Addr.add; split <;> simp_all
  have hdm : j = j / 6 * 6 + j % 6 := by omega
  have h6 : j % 6 < 6 := Nat.mod_lt _ (by decide)
  rw [hadd, show o + j = o + j / 6 * 6 + j % 6 by omega, (h3 (j / 6) (by omega)).cell h6]
  rw [hdm, row_get y.l (j / 6) (j % 6) (by omega) h6] at hu
  exact hu

/-- APPEND OF A LIST, whatever its shape, to a row of the call's own. -/
theorem wpList_append_ls {w : World} {ops : Array Oper} {rest : List Oper} {o : Oper} {a : Act} {Q : Exit → Act → World → Prop} (hg : o.guard = none) (s x : Operand) (t : TypeId)
    (hop : o.op = Op.call { callee := Callee.builtin Builtin.append, args := #[s, x], argTypes := #[t, t] }) (h1 : Try.prog.underlying t = some (.slice 23))
    (base : Nat) (v : Value) (M : List Ev) (hs : a.eval s = v) (hown : w.ownsRow base 23 6 v M.length (rowV M)) (B : Nat) (y : Ls) (hx : a.eval x = y.val) (hy : LsAt w B y) (hn : y.A = none → y.c = 0)
    (b1 : (M ++ y.l).length ≤ 2932031007402) (hbase : base ≤ w.heap.size)
    (hK : ∀ v' w', w'.ownsRow base 23 6 v' (M ++ y.l).length (rowV (M ++ y.l)) → w.grownBy w' v.ownBlock → wpList Try.prog ops Q rest (a.put o.dst v') w') :
    wpList Try.prog ops Q (o :: rest) a w := by
  obtain ⟨i0, hi, hz0, hz1, hz2⟩ := info_parts info_ev
  have hr : rowV (M ++ y.l) = rowV M ++ rowV y.l := by unfold rowV; rw [List.flatMap_append]
  rw [List.length_append] at b1
  cases hA : y.A with
  | none =>
    have hl : y.l = [] := by
      by_cases h0 : 0 < y.l.length
      · obtain ⟨b, o, e, _⟩ := hy.at_ h0
        rw [hA] at e; cases e
      · exact List.eq_nil_of_length_eq_zero (by omega)
    refine wpList_append_own_none hg s x t hop base 23 i0 6 h1 hi v M.length (rowV M) hs hown (by rw [hx]; unfold Ls.val; rw [hA, hl, hn hA]; rfl) ?_
    exact hK v w (by rw [hl, List.append_nil]; exact hown) (World.grownBy.refl _ _)
  | some ad =>
    refine wpList_append_own w hg s x t hop base 23 i0 _ 6 48 h1 hi hz0 hz1 hz2 rfl (by decide) v M.length (rowV M) hs hown ad y.l.length y.c (rowV y.l) (by rw [hx]; unfold Ls.val; rw [hA]) (cells_len _) (hy.cells hA) rowV_one (by unfold maxLen; omega) (by omega) hbase ?_
    intro v' w' q1 q2 _
    refine hK v' w' ?_ q2
    rw [hr, List.length_append]
    exact q1
end Go.Proofs.Ythnbpdcjooifbaa
