/-  -/
import Derived.Test.YtofenjloieagaaaZW
import Derived.Test.YtofenjloieagaaaZQ3
import Derived.Deep.Slices
import Derived.Lib.Hide
import Derived.Laws.ResultCell
namespace Go.Proofs.Ytofenjloieagaaa
open Go.RowKit Go.ChangeShapes Go.WideShapes Go.ChangeAt Go.Deep
set_option linter.unusedSimpArgs false
set_option linter.unusedVariables false
set_option maxRecDepth 100000

structure Tc where
  time : Int
  what : Int
  key : Int
  on : Bool
def Tc.val (q : Tc) : Value := .agg #[.int .i64 q.time, .int .i64 q.what, .int .i64 q.key, .bool q.on]
def Tc.cells (q : Tc) : List Value := [.int .i64 q.time, .int .i64 q.what, .int .i64 q.key, .bool q.on]
structure Tc.wf (q : Tc) : Prop where
  time : -9223372036854775808 ≤ q.time ∧ q.time < 9223372036854775808
  what : -9223372036854775808 ≤ q.what ∧ q.what < 9223372036854775808
  key : -9223372036854775808 ≤ q.key ∧ q.key < 9223372036854775808
abbrev tcZ : Tc := ⟨0, 0, 0, false⟩
/-- What mayBe tells: all but that the time is none below 0. -/
def Tc.Fine (x : Tc) : Prop := (x.what = 1 ∧ x.time ≤ 1099511627776 ∧ 0 ≤ x.key ∧ x.key ≤ 39) ∨ (x.what = 2 ∧ x.time ≤ 1099511627776 ∧ x.key = 0)
instance (x : Tc) : Decidable x.Fine := by unfold Tc.Fine; infer_instance

/-- A touch in memory, from a place on. -/
structure TB (w : World) (b o : Nat) (q : Tc) : Prop where
  c0 : w.cell? ⟨b, o, none⟩ = some (.int .i64 q.time)
  c1 : w.cell? ⟨b, o + 1, none⟩ = some (.int .i64 q.what)
  c2 : w.cell? ⟨b, o + 2, none⟩ = some (.int .i64 q.key)
  c3 : w.cell? ⟨b, o + 3, none⟩ = some (.bool q.on)
theorem TB.below {w w' : World} {b o B : Nat} {q : Tc} (h : TB w b o q) (hb : Below B w w') (hB : b < B) : TB w' b o q :=
  ⟨(hb.cell hB).trans h.c0, (hb.cell hB).trans h.c1, (hb.cell hB).trans h.c2, (hb.cell hB).trans h.c3⟩
abbrev tcO (q : Tc) : Obj := .cells #[.int .i64 q.time, .int .i64 q.what, .int .i64 q.key, .bool q.on] 45
theorem TB.laid {w w' : World} (q : Tc) (h : Below (w.heap.size + 1) (w.alloc (tcO q)) w') : TB w' w.heap.size 0 q := by
  constructor <;> (rw [h.cell (by simp), World.cell?_alloc_at _ _ _ _ rfl]; rfl)
theorem TB.boxed {w w2 : World} {q : Tc} (hb : Below (w.alloc (tcO q)).heap.size (w.alloc (tcO q)) w2) : Below w.heap.size w w2 ∧ TB w2 w.heap.size 0 q ∧ w.heap.size < w2.heap.size := by
  have := hb.size
  simp at this
  exact ⟨((Below.refl _ _).alloc (Nat.le_refl _) _).trans (hb.mono (by simp)), TB.laid q (hb.mono (by simp)), by omega⟩
theorem TB.now (w : World) (q : Tc) : TB (w.alloc (tcO q)) w.heap.size 0 q := TB.laid q (Below.refl _ _)

/-- A list of touches in memory. -/
structure TsAt (w : World) (B : Nat) (A : Option Addr) (l : List Tc) : Prop where
  at_ : 0 < l.length → ∃ b o, A = some ⟨b, o, Option.none⟩ ∧ b < B ∧ ∀ i, i < l.length → TB w b (o + i * 4) (l.getD i tcZ)
theorem TsAt.below {w w' : World} {B : Nat} {A : Option Addr} {l : List Tc} (h : TsAt w B A l) (hb : Below B w w') : TsAt w' B A l :=
  ⟨fun h0 => by
    obtain ⟨b, o, h1, h2, h3⟩ := h.at_ h0
    exact ⟨b, o, h1, h2, fun i hi => (h3 i hi).below hb h2⟩⟩
theorem TsAt.more {w : World} {B B' : Nat} {A : Option Addr} {l : List Tc} (h : TsAt w B A l) (hB : B ≤ B') : TsAt w B' A l :=
  ⟨fun h0 => by
    obtain ⟨b, o, h1, h2, h3⟩ := h.at_ h0
    exact ⟨b, o, h1, by omega, h3⟩⟩
theorem TsAt.on {w w' : World} {B B' : Nat} {A : Option Addr} {l : List Tc} (h : TsAt w B A l) (hb : Below B w w') (hB : B ≤ B') : TsAt w' B' A l := (h.below hb).more hB
theorem TsAt.take {w : World} {B : Nat} {A : Option Addr} {l : List Tc} (h : TsAt w B A l) (n : Nat) : TsAt w B A (l.take n) :=
  ⟨fun h0 => by
    obtain ⟨b, o, h1, h2, h3⟩ := h.at_ (by simp at h0; omega)
    refine ⟨b, o, h1, h2, fun i hi => ?_⟩
    have : (l.take n).getD i tcZ = l.getD i tcZ := by
      simp only [List.length_take] at hi
      simp only [List.getD_eq_getElem?_getD]
      rw [List.getElem?_take_of_lt (by omega)]
    rw [this]
    exact h3 i (by simp only [List.length_take] at hi; omega)⟩

theorem list_pick {α : Type} (z : α) {p : Nat → α → Prop} : ∀ n : Nat, (∀ i, i < n → ∃ s, p i s) → ∃ l : List α, l.length = n ∧ ∀ i, i < n → p i (l.getD i z)
  | 0, _ => ⟨[], rfl, fun i h => by omega⟩
  | n + 1, h => by
    obtain ⟨l, hl, hp⟩ := list_pick z n fun i hi => h i (by omega)
    obtain ⟨s, hs⟩ := h n (by omega)
    refine ⟨l ++ [s], by simp [hl], fun i hi => ?_⟩
    by_cases e : i = n
    · subst e
      have : (l ++ [s]).getD i z = s := by simp [List.getD_eq_getElem?_getD, ← hl]
      rw [this]; exact hs
    · have : (l ++ [s]).getD i z = l.getD i z := by
        simp only [List.getD_eq_getElem?_getD]
        rw [List.getElem?_append_left (by omega)]
      rw [this]
      exact hp i (by omega)
theorem getD_mem {α : Type} (z : α) (l : List α) (i : Nat) (h : i < l.length) : l.getD i z ∈ l := by
  simp only [List.getD_eq_getElem?_getD, List.getElem?_eq_getElem h, Option.getD_some]
  exact List.getElem_mem h

theorem tc_of_cells {H : Type} {enc : TypeId × Value → H} {W : World} {n : Nat} {cs : List Value} {y : DataW H × List MemPlace} {sp : Nat → Bool} (hl : cs.length = 4)
    (h : DataW.trod enc Try.prog W 0 sp true n 45 cs = some y) : ∃ s : Tc, cs = s.cells ∧ s.wf := by
  have h1 : Try.prog.cellsOf 3 = 1 := by kernel_rfl
  have h2 : Try.prog.cellsOf 2 = 1 := by kernel_rfl
  have h3 : Try.prog.cellsOf 4 = 1 := by kernel_rfl
  match cs, hl with
  | [c0, c1, c2, c3], _ =>
  obtain ⟨xs, n, _, _, hl, hlen, hfi⟩ := DataW.trod_struct Try.underlying45 h
  match xs, hlen with
  | [y0, y1, y2, y3], _ =>
  have t0 := hfi 0 _ rfl
  have t1 := hfi 1 _ rfl
  have t2 := hfi 2 _ rfl
  have t3 := hfi 3 _ rfl
  simp [h1, h2, h3, Value.cells] at t0 t1 t2 t3
  obtain ⟨x0, e0, _, w0⟩ := DataW.trod_int Try.underlying2 t0
  obtain ⟨x1, e1, _, w1⟩ := DataW.trod_int Try.underlying3 t1
  obtain ⟨x2, e2, _, w2⟩ := DataW.trod_int Try.underlying3 t2
  obtain ⟨x3, e3, _⟩ := DataW.trod_bool Try.underlying4 t3
  simp at e0 e1 e2 e3
  subst e0 e1 e2 e3
  have b0 := bounds_i64 w0
  have b1 := bounds_i64 w1
  have b2 := bounds_i64 w2
  exact ⟨⟨x0, x1, x2, x3⟩, rfl, ⟨by dsimp only; omega, by dsimp only; omega, by dsimp only; omega⟩⟩

theorem open_touches {H : Type} {enc : TypeId × Value → H} {W : World} {a : Option Addr} {len cap : Nat} {d : DataW H} {p : List MemPlace}
    (h : DataW.Trod enc Try.prog W 0 (fun _ => true) true 22 (.slice a len cap) d p) : ∃ xs : List Tc, len = xs.length ∧ (TsAt W W.heap.size a xs ∧ len ≤ cap ∧ cap ≤ maxLen ∧ (∀ x ∈ xs, x.wf) ∧ (a = none → cap = 0)) := by
  obtain ⟨fuel, hf⟩ := h
  have hC : Try.prog.cellsOf 45 = 4 := by kernel_rfl
  rcases open_slice Try.underlying22 hf with ⟨hcs, _⟩ | ⟨x, l, c, m, n, D, Pl, hcs, _, hl, hm, hmm, _, hi⟩
  · simp [Value.cells] at hcs
    obtain ⟨rfl, rfl, rfl⟩ := hcs
    exact ⟨[], rfl, ⟨fun h => absurd h (by simp)⟩, Nat.le_refl _, Nat.zero_le _, (fun _ h => by cases h), fun _ => rfl⟩
  · simp [Value.cells] at hcs
    obtain ⟨rfl, rfl, rfl⟩ := hcs
    have key : ∀ i, i < len → ∃ s : Tc, (∀ j, j < 4 → W.cell? ((x.add (i * 4)).add j) = s.cells[j]?) ∧ s.wf := fun i hil => by
      have him : i < m := by
        have := hmm
        split at this <;> omega
      obtain ⟨cs', hc, ht⟩ := hi i him
      rw [hC] at hc
      obtain ⟨_, hcl, hat⟩ := World.cells?_some hc
      obtain ⟨s, rfl, hw⟩ := tc_of_cells hcl ht
      exact ⟨s, hat, hw⟩
    obtain ⟨ps, hll, hp⟩ := list_pick tcZ len key
    refine ⟨ps, hll.symm, ⟨fun h0 => ?_⟩, hl, hm, fun y hy => ?_, fun h => by cases h⟩
    · have h00 := (hp 0 (by rw [← hll]; exact h0)).1 0 (by decide)
      have hx0 : (x.add (0 * 4)).add 0 = x := by simp [Addr.add]
      rw [hx0] at h00
      have hspot : x.spot = none := by simpa [Addr.add] using World.cell?_spot (show W.cell? x = some _ from h00)
      obtain ⟨b, o, sp⟩ := x
      obtain rfl : sp = none := hspot
      refine ⟨b, o, rfl, World.block_lt_of_cell? _ _ (show W.cell? ⟨b, o, none⟩ = some _ from h00), fun i hil => ?_⟩
      have hh : ∀ j, j < 4 → W.cell? ⟨b, o + i * 4 + j, none⟩ = (ps.getD i tcZ).cells[j]? := fun j hj => by
        have := (hp i (by rw [← hll]; exact hil)).1 j hj
        rwa [show ((⟨b, o, none⟩ : Addr).add (i * 4)).add j = ⟨b, o + i * 4 + j, none⟩ by rw [Addr.add_lit, Addr.add_lit]] at this
      exact ⟨hh 0 (by decide), hh 1 (by decide), hh 2 (by decide), hh 3 (by decide)⟩
    · obtain ⟨i, hil, rfl⟩ := List.mem_iff_getElem.1 hy
      have := (hp i (by rw [← hll]; exact hil)).2
      have e : ps.getD i tcZ = ps[i] := by simp [List.getD_eq_getElem?_getD, hil]
      rwa [e] at this

set_option maxHeartbeats 1000000 in
theorem maybe_any (x : Tc) (w : World) : Calls Try.prog 42 #[x.val] w fun e w' => e = .returned (.bool (decide x.Fine)) ∧ Below w.heap.size w w' := by
  obtain ⟨t, k, y, n⟩ := x
  unfold Tc.Fine Tc.val
  simp only
  by_cases h1 : k = 1
  · subst h1
    go_enter Try.func42, Try.ntmps42
    go_wp2
    all_goals go_ret
    all_goals exact ⟨by simp [*] <;> omega, (Below.refl _ _).alloc (Nat.le_refl _) _⟩
  · by_cases h2 : k = 2
    · subst h2
      by_cases hy : y = 0
      · subst hy
        go_enter Try.func42, Try.ntmps42
        go_wp2
        all_goals go_ret
        all_goals exact ⟨by simp [*] <;> omega, (Below.refl _ _).alloc (Nat.le_refl _) _⟩
      · have hyb : (y == 0) = false := by simpa using hy
        go_enter Try.func42, Try.ntmps42
        go_wp2
        all_goals go_ret
        all_goals exact ⟨by simp [hy], (Below.refl _ _).alloc (Nat.le_refl _) _⟩
    · go_enter Try.func42, Try.ntmps42
      go_wp2
      go_ret
      exact ⟨by simp [h1, h2], (Below.refl _ _).alloc (Nat.le_refl _) _⟩

/-- The time of the touch ahead, 0 of the first. -/
def lastT (l : List Tc) (k : Nat) : Int := if k = 0 then 0 else (l.getD (k - 1) tcZ).time
theorem lastT_next (l : List Tc) (k : Nat) : lastT l (k + 1) = (l.getD k tcZ).time := rfl
/-- The first k touches may be, and their times do not fall. -/
def GoodTo (l : List Tc) (k : Nat) : Prop := ∀ i, i < k → (l.getD i tcZ).Fine ∧ lastT l i ≤ (l.getD i tcZ).time
instance (l : List Tc) (k : Nat) : Decidable (GoodTo l k) := by unfold GoodTo; infer_instance
/-- A list that may be. -/
def Good (l : List Tc) : Prop := l.length ≤ 65536 ∧ GoodTo l l.length
instance (l : List Tc) : Decidable (Good l) := by unfold Good; infer_instance
/-- Check's answer. -/
def errL (l : List Tc) : Int := if 65536 < l.length then 3 else if GoodTo l l.length then 0 else 2
theorem errL_zero {l : List Tc} : errL l = 0 ↔ Good l := by
  unfold errL Good
  split
  · constructor
    · intro h; cases h
    · intro h; omega
  · split
    · exact ⟨fun _ => ⟨by omega, by assumption⟩, fun _ => rfl⟩
    · exact ⟨fun h => (by cases h), fun h => absurd h.2 (by assumption)⟩

set_option maxHeartbeats 2000000 in
theorem check_any (w : World) (A : Option Addr) (c : Nat) (l : List Tc) (hl : TsAt w w.heap.size A l) (hc : l.length ≤ c ∧ c ≤ maxLen) :
    Calls Try.prog 13 #[.slice A l.length c] w fun e w' => e = .returned (.int .i64 (errL l)) ∧ Below w.heap.size w w' := by
  obtain ⟨hc1, hc2⟩ := hc
  unfold maxLen at hc2
  by_cases hlong : 65536 < l.length
  · have he : errL l = 3 := by unfold errL; rw [if_pos hlong]
    rw [he]
    go_enter Try.func13, Try.ntmps13
    go_wp2_with fail
    go_ret
    exact ⟨rfl, Below.refl _ _⟩
  · have HL := Lib.hid hl
    have HE0 := Lib.hid (show GoodTo l l.length → errL l = 0 from fun h => by unfold errL; rw [if_neg hlong, if_pos h])
    have HE1 := Lib.hid (show ¬ GoodTo l l.length → errL l = 2 from fun h => by unfold errL; rw [if_neg hlong, if_neg h])
    clear hl
    generalize errL l = er at *
    go_enter Try.func13, Try.ntmps13
    go_wp2_with fail
    go_loopw [3, 11] (fun s i wr => ∃ k : Nat, k ≤ l.length ∧ i = .int .i64 k ∧ s = .int .i64 (lastT l k) ∧ GoodTo l k ∧ Below w.heap.size w wr) (fun _ i _ => l.length - (intOf i).toNat)
    case atStart => exact ⟨0, Nat.zero_le _, rfl, rfl, fun i h => by omega, Below.refl _ _⟩
    case round =>
      rename World => wr
      obtain ⟨k, hk, rfl, rfl, hg, hb⟩ := hrel
      have HG := Lib.hid hg
      have HB := Lib.hid hb
      clear hg hb
      by_cases hlt : k < l.length
      · obtain ⟨b, o, hA, hb1, hat⟩ := HL.out.at_ (by omega)
        have hev := (hat k hlt).below HB.out hb1
        have HN := Lib.hid (lastT_next l k)
        have HC := Lib.hid (fun (W : World) => maybe_any (l.getD k tcZ) W)
        have HY := Lib.hid (show (l.getD k tcZ).Fine → lastT l k ≤ (l.getD k tcZ).time → GoodTo l (k + 1) from fun h1 h2 i hi => by
          by_cases e : i = k
          · subst e; exact ⟨h1, h2⟩
          · exact HG.out i (by omega))
        have HZ := Lib.hid (show ¬ ((l.getD k tcZ).Fine ∧ lastT l k ≤ (l.getD k tcZ).time) → ¬ GoodTo l l.length from fun h hg => h (hg k hlt))
        clear hat HG
        subst hA
        generalize lastT l k = s at *
        generalize l.getD k tcZ = y at *
        obtain ⟨t, kd, ky, n⟩ := y
        unfold Tc.val at HC
        simp only at HC HN HY HZ
        obtain ⟨c0, c1, c2, c3⟩ := hev
        simp only at c0 c1 c2 c3
        go_wp2_with fail
        refine (HC.out _).mono ?_
        rintro e w1 ⟨rfl, hb⟩
        obtain ⟨hB, hQ, hlt1⟩ := TB.boxed (q := ⟨t, kd, ky, n⟩) hb
        have HB1 := Lib.hid (HB.out.trans (hB.mono HB.out.size))
        obtain ⟨d0, d1, d2, d3⟩ := hQ
        simp only at d0 d1 d2 d3
        clear hb hB c0 c1 c2 c3 HB
        by_cases hf : (⟨t, kd, ky, n⟩ : Tc).Fine
        · simp only [hf, decide_true]
          by_cases hle : s ≤ t
          · have hn : decide (t < s) = false := decide_eq_false (by omega)
            have HYo := Lib.hid (HY.out hf hle)
            clear HY HZ hf
            go_wp2_with fail
            exact ⟨⟨k + 1, by omega, by go_num, by rw [HN.out], HYo.out, HB1.out⟩, by simp [intOf]; omega⟩
          · have hn : decide (t < s) = true := decide_eq_true (by omega)
            have HZo := Lib.hid (HE1.out (HZ.out fun h => hle h.2))
            clear HY HZ hf
            go_wp2_with fail
            go_ret
            exact ⟨by rw [HZo.out]; rfl, HB1.out⟩
        · simp only [hf, decide_false]
          have HZo := Lib.hid (HE1.out (HZ.out fun h => hf h.1))
          clear HY HZ hf
          go_wp2_with fail
          go_ret
          exact ⟨by rw [HZo.out]; rfl, HB1.out⟩
      · obtain rfl : k = l.length := by omega
        have HGo := Lib.hid (HE0.out HG.out)
        clear HG
        go_wp2_with fail
        go_ret
        exact ⟨by rw [HGo.out]; rfl, HB.out⟩
end Go.Proofs.Ytofenjloieagaaa
