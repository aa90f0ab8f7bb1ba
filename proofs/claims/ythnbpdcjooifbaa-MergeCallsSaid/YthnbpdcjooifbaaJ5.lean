/-       -/
import Derived.Test.YthnbpdcjooifbaaJ1
import Derived.ProofKit
import Derived.OpenShut
import Derived.Test.YthnbpdcjooifbaaJ3
import Derived.Test.YthnbpdcjooifbaaJ4
import Derived.Deep.DeepCutAuto
import Derived.Lib.SmallJoins
import Derived.Laws.ResultCell
namespace Go.Proofs.Ythnbpdcjooifbaa
open Go.RowKit Go.ChangeShapes Go.WideShapes Go.ChangeAt

theorem own : ownKnob Try.prog.godebug = none := by kernel_rfl
theorem laidOut : laidOutB Try.prog = true := by kernel_rfl

/-- A []byte that came in. -/
theorem open_bytes {H : Type} {enc : TypeId × Value → H} {W : World} {a : Option Addr} {len cap : Nat} {d : DataW H} {p : List MemPlace}
    (h : DataW.Trod enc Try.prog W 0 (fun _ => true) true 33 (.slice a len cap) d p) : ∃ l : List Int, len = l.length ∧ RB W W.heap.size a cap l := by
  obtain ⟨fuel, hf⟩ := h
  rcases open_ints Try.underlying33 Try.underlying5 (by kernel_rfl) hf with ⟨hcs, _⟩ | ⟨x, l, c, zs, hcs, _, hl, hm, hz, _, hcell, hwz⟩
  · simp [Value.cells] at hcs
    obtain ⟨rfl, rfl, rfl⟩ := hcs
    exact ⟨[], rfl, RB.nil _ _⟩
  · simp [Value.cells] at hcs
    obtain ⟨rfl, rfl, rfl⟩ := hcs
    have hz' : zs.length = cap := by simpa using hz
    have hb : AllB zs := fun n hn => by have := bounds_u8 (hwz n hn); omega
    have hlen : (zs.take len).length = len := by rw [List.length_take]; omega
    refine ⟨zs.take len, hlen.symm, by omega, hm, hb.take len, .inr ⟨x, rfl, fun h0 => ?_⟩⟩
    obtain ⟨b, off, rfl, hc⟩ := ints_at hcell (by omega)
    refine ⟨rfl, World.block_lt_of_cell? _ _ (hc 0 (by omega)), fun i hi => ?_⟩
    rw [hc i (by omega)]
    simp only [List.getD]
    rw [List.getElem?_take, if_pos (by omega)]
end Go.Proofs.Ythnbpdcjooifbaa
namespace Go.Proofs.Ythnbpdcjooifbaa
open Go.RowKit
set_option linter.unusedSimpArgs false

/-- An event's numbers. -/
structure Ev where
  time : Int
  chip : Int
  seq : Int
  kind : Int
  a : Int
  b : Int

def Ev.val (x : Ev) : Value := .agg #[.int .i64 x.time, .int .i64 x.chip, .int .i64 x.seq, .int .i64 x.kind, .int .i64 x.a, .int .i64 x.b]

def chipOf (k : Int) : Int := if 1 ≤ k ∧ k ≤ 6 then 1 else if 7 ≤ k ∧ k ≤ 10 then 2 else if k = 11 then 3 else if k = 12 then 4 else 0

def Ev.May (x : Ev) : Prop := chipOf x.kind ≠ 0 ∧ x.chip = chipOf x.kind ∧ 0 ≤ x.time ∧ x.time ≤ 1099511627776 ∧ 0 ≤ x.seq ∧ x.seq ≤ 4294967296 ∧ 0 ≤ x.a ∧ x.a ≤ 1048576 ∧ 0 ≤ x.b ∧ x.b ≤ 255

instance (x : Ev) : Decidable x.May := inferInstanceAs (Decidable (_ ∧ _))

theorem ret_i64 {a b : Int} (h : a = b) : Ending.returned (.int .i64 a) = .returned (.int .i64 b) := by rw [h]

set_option maxHeartbeats 800000 in
theorem chip_any (k : Int) (w : World) : Calls Try.prog 64 #[.int .i64 k] w fun e w' => e = .returned (.int .i64 (chipOf k)) ∧ w = w' := by
  go_enter Try.func64, Try.ntmps64
  go_wp2
  all_goals
    go_ret
    exact ⟨ret_i64 (by unfold chipOf; simp only [beq_iff_eq, beq_eq_false_iff_ne, ne_eq, Bool.not_eq_true, Bool.or_eq_true, Bool.or_eq_false_iff] at *; (repeat' split) <;> omega), rfl⟩

/-- What Check answers of x. -/
def ChecksAs (x : Ev) (B : Nat) (w : World) (e : Ending) (w' : World) : Prop := ((e = .returned (.int .i64 0) ∧ x.May) ∨ (e = .returned (.int .i64 2) ∧ ¬ x.May)) ∧ Below B w w'

theorem chipOf_bd (k : Int) : 0 ≤ chipOf k ∧ chipOf k ≤ 4 := by unfold chipOf; (repeat' split) <;> omega

set_option maxHeartbeats 1600000 in
theorem echeck_any (w : World) (x : Ev) : Calls Try.prog 60 #[x.val] w (ChecksAs x w.heap.size w) := by
  obtain ⟨t, c, s, k, a, b⟩ := x
  have hb := chipOf_bd k
  unfold Ev.val
  go_enter Try.func60, Try.ntmps60
  go_wp2_with (go_at_call 64; refine (chip_any _ _).mono ?_; rintro e w' ⟨rfl, rfl⟩)
  all_goals
    go_ret
    refine ⟨?_, (Below.refl _ _).alloc (Nat.le_refl _) _⟩
    simp only [beq_iff_eq, beq_eq_false_iff_ne, ne_eq, bne_iff_ne, bne_eq_false_iff_eq, decide_eq_true_eq, decide_eq_false_iff_not, Bool.not_eq_true, Bool.or_eq_true, Bool.or_eq_false_iff] at *
    first
      | (refine Or.inl ⟨rfl, ?_⟩; simp only [Ev.May]; omega)
      | (refine Or.inr ⟨rfl, ?_⟩; simp only [Ev.May]; omega)
end Go.Proofs.Ythnbpdcjooifbaa
namespace Go.Proofs.Ythnbpdcjooifbaa
open Go.RowKit
set_option linter.unusedSimpArgs false

/-- -1, 0, 1. -/
def cmpI (x y : Int) : Int := if x < y then -1 else if y < x then 1 else 0

def orL : List Int → Int
  | [] => 0
  | x :: l => if x = 0 then orL l else x

def ordE (x y : Ev) : Int := orL [cmpI x.time y.time, cmpI x.chip y.chip, cmpI x.seq y.seq, cmpI x.kind y.kind, cmpI x.a y.a, cmpI x.b y.b]

set_option maxHeartbeats 400000 in
theorem cmp64_any (x y : Int) (w : World) : Calls Try.prog 83 #[.int .i64 x, .int .i64 y] w fun e w' => e = .returned (.int .i64 (cmpI x y)) ∧ w = w' := by
  go_enter Try.func83, Try.ntmps83
  go_wp2
  all_goals
    go_ret
    exact ⟨ret_i64 (by unfold cmpI; (repeat' split) <;> first | rfl | omega), rfl⟩

set_option maxHeartbeats 400000 in
theorem cmp_any (x y : Int) (w : World) : Calls Try.prog 84 #[.int .i64 x, .int .i64 y] w fun e w' => e = .returned (.int .i64 (cmpI x y)) ∧ w = w' := by
  go_enter Try.func84, Try.ntmps84
  go_wp2
  all_goals
    go_ret
    exact ⟨ret_i64 (by unfold cmpI; (repeat' split) <;> first | rfl | omega), rfl⟩

theorem orL_drop (l : List Int) (k : Nat) (hk : k < l.length) (h0 : ∀ i, i < k → l.getD i 0 = 0) : orL l = orL (l.drop k) := by
  induction l generalizing k with
  | nil => simp
  | cons x l ih =>
    cases k with
    | zero => rfl
    | succ k =>
      have hx := h0 0 (by omega)
      simp at hx
      subst hx
      simp only [orL, if_true, List.drop_succ_cons]
      exact ih k (by simpa using hk) (fun i hi => by simpa using h0 (i + 1) (by omega))

theorem orL_at (l : List Int) (k : Nat) (hk : k < l.length) (h0 : ∀ i, i < k → l.getD i 0 = 0) (hx : l.getD k 0 ≠ 0) : orL l = l.getD k 0 := by
  rw [orL_drop l k hk h0]
  have : l.drop k = l.getD k 0 :: l.drop (k + 1) := by
    rw [List.drop_eq_getElem_cons hk, List.getD_eq_getElem?_getD, List.getElem?_eq_getElem hk]; rfl
  rw [this]
  simp only [orL]
  rw [if_neg hx]

theorem orL_none (l : List Int) (h0 : ∀ i, i < l.length → l.getD i 0 = 0) : orL l = 0 := by
  induction l with
  | nil => rfl
  | cons x l ih =>
    have hx := h0 0 (by simp)
    simp at hx
    subst hx
    simp only [orL, if_true]
    exact ih (fun i hi => by simpa using h0 (i + 1) (by simpa using hi))

set_option maxHeartbeats 800000 in
theorem or_any (g c : Nat) (l : List Int) (w : World) (hl : l.length ≤ 1000) (hc : ∀ i, i < l.length → w.cell? ⟨g, i, none⟩ = some (.int .i64 (l.getD i 0))) :
    Calls Try.prog 82 #[.slice (some ⟨g, 0, none⟩) l.length c] w fun e w' => e = .returned (.int .i64 (orL l)) ∧ w = w' := by
  have HC := Lib.hid hc
  clear hc
  go_enter Try.func82, Try.ntmps82
  go_wp2
  go_loop [8] (fun i => ∃ k : Nat, k ≤ l.length ∧ i = .int .i64 k ∧ Hid (∀ i, i < k → l.getD i 0 = 0)) (fun i => l.length - (intOf i).toNat)
  case atStart => exact ⟨0, Nat.zero_le _, rfl, Lib.hid (fun i h => absurd h (Nat.not_lt_zero i))⟩
  case round =>
    obtain ⟨k, hk, rfl, H0⟩ := hrel
    by_cases hlt : k < l.length
    · have hck := HC.out k hlt
      by_cases hx : l.getD k 0 = 0
      · rw [hx] at hck
        have H1 := Lib.hid hx
        clear hx
        go_wp2
        go_round
        case rel => exact ⟨k + 1, by omega, by go_num, Lib.hid (fun i hi => by
          by_cases he : i = k
          · rw [he]; exact H1.out
          · exact H0.out i (by omega))⟩
        case measure => simp [intOf]; omega
      · obtain ⟨x, hxd⟩ : ∃ x, l.getD k 0 = x := ⟨_, rfl⟩
        rw [hxd] at hck hx
        have H1 := Lib.hid hxd
        clear hxd
        have hb : (x != 0) = true := by simpa using hx
        go_wp2
        go_ret
        exact ⟨ret_i64 (by rw [orL_at l k hlt H0.out (by rw [H1.out]; exact hx), H1.out]), rfl⟩
    · go_wp2
      go_ret
      exact ⟨ret_i64 (by rw [orL_none l (fun i hi => H0.out i (by omega))]), rfl⟩

/-- An event in memory. -/
structure EV (w : World) (n : Nat) (x : Ev) : Prop where
  c0 : w.cell? ⟨n, 0, none⟩ = some (.int .i64 x.time)
  c1 : w.cell? ⟨n, 1, none⟩ = some (.int .i64 x.chip)
  c2 : w.cell? ⟨n, 2, none⟩ = some (.int .i64 x.seq)
  c3 : w.cell? ⟨n, 3, none⟩ = some (.int .i64 x.kind)
  c4 : w.cell? ⟨n, 4, none⟩ = some (.int .i64 x.a)
  c5 : w.cell? ⟨n, 5, none⟩ = some (.int .i64 x.b)
abbrev evO (x : Ev) : Obj := .cells #[.int .i64 x.time, .int .i64 x.chip, .int .i64 x.seq, .int .i64 x.kind, .int .i64 x.a, .int .i64 x.b] 23
theorem EV.below {w w' : World} {n B : Nat} {x : Ev} (h : EV w n x) (hb : Below B w w') (hB : n < B) : EV w' n x :=
  ⟨(hb.cell hB).trans h.c0, (hb.cell hB).trans h.c1, (hb.cell hB).trans h.c2, (hb.cell hB).trans h.c3, (hb.cell hB).trans h.c4, (hb.cell hB).trans h.c5⟩
theorem EV.laid (w : World) (x : Ev) : EV (w.alloc (evO x)) w.heap.size x := by
  constructor <;> (rw [World.cell?_alloc_at _ _ _ _ rfl]; rfl)
theorem EV.more {w : World} {n : Nat} {x : Ev} (h : EV w n x) (hn : n < w.heap.size) (o : Obj) : EV (w.alloc o) n x := h.below ((Below.refl w.heap.size _).alloc (Nat.le_refl _) _) hn
theorem EV.later {b : World} {n : Nat} {x : Ev} (h : EV b n x) (hn : n < b.heap.size) (p : Later (fun _ => False) b) : EV p.w n x := h.below p.ok.all hn

/-- Six numbers of the call's own. -/
theorem six_laid {w w' : World} (a0 a1 a2 a3 a4 a5 : Int) (h : Below (w.heap.size + 1) (w.alloc (.cells #[.int .i64 a0, .int .i64 a1, .int .i64 a2, .int .i64 a3, .int .i64 a4, .int .i64 a5] 3)) w') : ∀ i, i < [a0, a1, a2, a3, a4, a5].length → w'.cell? ⟨w.heap.size, i, none⟩ = some (.int .i64 ([a0, a1, a2, a3, a4, a5].getD i 0)) := by
  intro i hi
  rw [h.cell (by simp), World.cell?_alloc_at _ _ _ _ rfl]
  match i, hi with
  | 0, _ | 1, _ | 2, _ | 3, _ | 4, _ | 5, _ => rfl

set_option maxHeartbeats 1600000 in
set_option maxRecDepth 100000 in
theorem order_any (w : World) (x y : Ev) : Calls Try.prog 61 #[x.val, y.val] w fun e w' => e = .returned (.int .i64 (ordE x y)) ∧ Below w.heap.size w w' := by
  have hx := ((EV.laid w x).more (by simp) (evO y)).later (by simp; omega)
  have hy := (EV.laid (w.alloc (evO x)) y).later (by simp)
  rw [show (w.alloc (evO x)).heap.size = w.heap.size + 1 by simp] at hy
  obtain ⟨t, c, s, k, a, b⟩ := x
  obtain ⟨t2, c2, s2, k2, a2, b2⟩ := y
  have x0 := fun p => (hx p).c0
  have x1 := fun p => (hx p).c1
  have x2 := fun p => (hx p).c2
  have x3 := fun p => (hx p).c3
  have x4 := fun p => (hx p).c4
  have x5 := fun p => (hx p).c5
  have y0 := fun p => (hy p).c0
  have y1 := fun p => (hy p).c1
  have y2 := fun p => (hy p).c2
  have y3 := fun p => (hy p).c3
  have y4 := fun p => (hy p).c4
  have y5 := fun p => (hy p).c5
  clear hx hy
  simp only [evO] at x0 x1 x2 x3 x4 x5 y0 y1 y2 y3 y4 y5
  unfold Ev.val
  go_enter Try.func61, Try.ntmps61
  go_upto_region 1 with fail
  refine L.region_ (fun _ => False) (by kernel_rfl) ?_
  refine L.seg_ [0, 1, 2, 3, 5, 6, 7, 8, 10, 11, 12, 13, 15, 16, 17, 18, 20, 21, 22, 23, 25, 26, 27, 28] 9 _ (by kernel_rfl) (by kernel_rfl) (by kernel_rfl) (by simp only [pickOps, mask, plain, List.getElem?_toArray, List.getElem?_cons_zero, List.getElem?_cons_succ, if_true]; rfl) ?_
  repeat (go_big_quiet_step (fail))
  refine wpQuiet_nil ?_
  clear x0 x1 x2 x3 x4 x5 y0 y1 y2 y3 y4 y5
  refine L.calm_ (i := 4) (.int .i64 (cmpI t t2)) rfl (by kernel_rfl) (by kernel_rfl) (by kernel_rfl) (by kernel_rfl) ?_ ?_
  · intro wz _
    unfold Oper.does
    go_simp
    exact (cmp64_any t t2 wz).mono fun e w' ⟨he, hw⟩ => ⟨_, he, rfl, hw ▸ Save.refl _ _⟩
  refine L.calm_ (i := 9) (.int .i64 (cmpI c c2)) rfl (by kernel_rfl) (by kernel_rfl) (by kernel_rfl) (by kernel_rfl) ?_ ?_
  · intro wz _
    unfold Oper.does
    go_simp
    exact (cmp_any c c2 wz).mono fun e w' ⟨he, hw⟩ => ⟨_, he, rfl, hw ▸ Save.refl _ _⟩
  refine L.calm_ (i := 14) (.int .i64 (cmpI s s2)) rfl (by kernel_rfl) (by kernel_rfl) (by kernel_rfl) (by kernel_rfl) ?_ ?_
  · intro wz _
    unfold Oper.does
    go_simp
    exact (cmp64_any s s2 wz).mono fun e w' ⟨he, hw⟩ => ⟨_, he, rfl, hw ▸ Save.refl _ _⟩
  refine L.calm_ (i := 19) (.int .i64 (cmpI k k2)) rfl (by kernel_rfl) (by kernel_rfl) (by kernel_rfl) (by kernel_rfl) ?_ ?_
  · intro wz _
    unfold Oper.does
    go_simp
    exact (cmp_any k k2 wz).mono fun e w' ⟨he, hw⟩ => ⟨_, he, rfl, hw ▸ Save.refl _ _⟩
  refine L.calm_ (i := 24) (.int .i64 (cmpI a a2)) rfl (by kernel_rfl) (by kernel_rfl) (by kernel_rfl) (by kernel_rfl) ?_ ?_
  · intro wz _
    unfold Oper.does
    go_simp
    exact (cmp_any a a2 wz).mono fun e w' ⟨he, hw⟩ => ⟨_, he, rfl, hw ▸ Save.refl _ _⟩
  refine L.calm_ (i := 29) (.int .i64 (cmpI b b2)) rfl (by kernel_rfl) (by kernel_rfl) (by kernel_rfl) (by kernel_rfl) ?_ ?_
  · intro wz _
    unfold Oper.does
    go_simp
    exact (cmp_any b b2 wz).mono fun e w' ⟨he, hw⟩ => ⟨_, he, rfl, hw ▸ Save.refl _ _⟩
  refine L.call_ (i := 30) rfl (by kernel_rfl) (by kernel_rfl) ?_
  intro wa sa
  unfold Oper.does
  go_simp
  have hBa : Below w.heap.size w wa := (((Below.refl _ _).alloc (Nat.le_refl _) _).alloc (by simp) _).trans (sa.all.mono (by simp; omega))
  refine same_ sa (Save.of_below ((Below.refl _ _).alloc (Nat.le_refl _) _)) ?_
  clear sa
  refine L.call_ (i := 31) rfl (by kernel_rfl) (by kernel_rfl) ?_
  intro wb sb
  have h6 := six_laid (cmpI t t2) (cmpI c c2) (cmpI s s2) (cmpI k k2) (cmpI a a2) (cmpI b b2) (sb.all.mono (by simp))
  have hBb : Below w.heap.size w wb := (hBa.alloc hBa.size _).trans (sb.all.mono (by have := hBa.size; simp; omega))
  unfold Oper.does
  go_simp
  refine (or_any wa.heap.size 6 [cmpI t t2, cmpI c c2, cmpI s s2, cmpI k k2, cmpI a a2, cmpI b b2] wb (by simp) h6).mono ?_
  rintro e w' ⟨rfl, rfl⟩
  refine ⟨_, rfl, same_ sb (Save.refl _ _) ?_⟩
  clear h6 sb
  obtain ⟨r, hr⟩ : ∃ r, orL [cmpI t t2, cmpI c c2, cmpI s s2, cmpI k k2, cmpI a a2, cmpI b b2] = r := ⟨_, rfl⟩
  have HR := Lib.hid hr
  rw [hr]
  clear hr
  refine L.seg_ [32] 0 _ (by kernel_rfl) (by kernel_rfl) (by kernel_rfl) (by simp only [pickOps, mask, plain, List.getElem?_toArray, List.getElem?_cons_zero, List.getElem?_cons_succ, if_true]; rfl) ?_
  repeat (go_big_quiet_step (fail))
  refine wpQuiet_nil ?_
  refine L.end_ (by kernel_rfl) ?_
  intro wc sc
  have hBc := hBb.trans (sc.all.mono hBb.size)
  go_wp2
  go_ret
  exact ⟨ret_i64 HR.out.symm, hBc⟩
end Go.Proofs.Ythnbpdcjooifbaa
namespace Go.Proofs.Ythnbpdcjooifbaa
open Go.RowKit

/-- Lists of numbers, the first place at which they differ. -/
def lexI : List Int → List Int → Int
  | x :: l, y :: m => if x < y then -1 else if y < x then 1 else lexI l m
  | _, _ => 0

def Ev.ns (x : Ev) : List Int := [x.time, x.chip, x.seq, x.kind, x.a, x.b]

theorem orL_cons (x y : Int) (l : List Int) : orL (cmpI x y :: l) = if x < y then -1 else if y < x then 1 else orL l := by
  simp only [orL, cmpI]
  (repeat' split) <;> first | rfl | omega

theorem ordE_lex (x y : Ev) : ordE x y = lexI x.ns y.ns := by
  unfold ordE Ev.ns
  simp only [orL_cons, lexI]
  rfl

theorem lex_vals : ∀ l m : List Int, lexI l m = -1 ∨ lexI l m = 0 ∨ lexI l m = 1
  | [], _ => by simp [lexI]
  | _ :: _, [] => by simp [lexI]
  | x :: l, y :: m => by
    have := lex_vals l m
    simp only [lexI]
    (repeat' split) <;> omega
theorem lex_turn : ∀ l m : List Int, lexI m l = - lexI l m
  | [], [] => by simp [lexI]
  | [], _ :: _ => by simp [lexI]
  | _ :: _, [] => by simp [lexI]
  | x :: l, y :: m => by
    have := lex_turn l m
    simp only [lexI]
    (repeat' split) <;> omega
theorem lex_zero : ∀ l m : List Int, l.length = m.length → (lexI l m = 0 ↔ l = m)
  | [], [], _ => by simp [lexI]
  | [], _ :: _, h => by simp at h
  | _ :: _, [], h => by simp at h
  | x :: l, y :: m, h => by
    have := lex_zero l m (by simpa using h)
    simp only [lexI, List.cons.injEq]
    (repeat' split)
    · exact ⟨fun h => by omega, fun h => by omega⟩
    · exact ⟨fun h => by omega, fun h => by omega⟩
    · rw [this]; exact ⟨fun h => ⟨by omega, h⟩, fun h => h.2⟩
theorem lex_trans : ∀ l m k : List Int, l.length = m.length → m.length = k.length → lexI l m ≤ 0 → lexI m k ≤ 0 → lexI l k ≤ 0 ∧ (lexI l k = 0 → lexI l m = 0 ∧ lexI m k = 0)
  | [], [], [], _, _, _, _ => by simp [lexI]
  | [], [], _ :: _, _, h, _, _ => by simp at h
  | [], _ :: _, _, h, _, _, _ => by simp at h
  | _ :: _, [], _, h, _, _, _ => by simp at h
  | _ :: _, _ :: _, [], _, h, _, _ => by simp at h
  | x :: l, y :: m, z :: k, h1, h2, h3, h4 => by
    have ih := lex_trans l m k (by simpa using h1) (by simpa using h2)
    simp only [lexI] at h3 h4 ⊢
    (repeat' split at h3) <;> (repeat' split at h4) <;> (repeat' split) <;> first | omega | (have := ih (by omega) (by omega); omega) | exact ih (by omega) (by omega)

theorem ns_inj {x y : Ev} (h : x.ns = y.ns) : x = y := by
  obtain ⟨a, b, c, d, e, f⟩ := x
  obtain ⟨a', b', c', d', e', f'⟩ := y
  simp only [Ev.ns, List.cons.injEq, and_true] at h
  obtain ⟨rfl, rfl, rfl, rfl, rfl, rfl⟩ := h
  rfl
theorem ord_vals (x y : Ev) : ordE x y = -1 ∨ ordE x y = 0 ∨ ordE x y = 1 := by rw [ordE_lex]; exact lex_vals _ _
theorem ord_turn (x y : Ev) : ordE y x = - ordE x y := by rw [ordE_lex, ordE_lex]; exact lex_turn _ _
theorem ord_zero (x y : Ev) : ordE x y = 0 ↔ x = y := by
  rw [ordE_lex, lex_zero x.ns y.ns rfl]
  exact ⟨ns_inj, fun h => by rw [h]⟩
theorem ord_trans (x y z : Ev) (h : ordE x y ≤ 0) (k : ordE y z ≤ 0) : ordE x z ≤ 0 ∧ (ordE x z = 0 → ordE x y = 0 ∧ ordE y z = 0) := by
  rw [ordE_lex] at h k ⊢
  rw [ordE_lex, ordE_lex]
  exact lex_trans _ _ _ rfl rfl h k
theorem lex_one (x y : Int) (l m : List Int) : lexI (x :: l) (y :: m) = if x < y then -1 else if y < x then 1 else lexI l m := rfl
theorem ord_time (x y : Ev) (h : x.time ≠ y.time) : ordE x y < 0 ↔ x.time < y.time := by
  rw [ordE_lex]
  unfold Ev.ns
  rw [lex_one]
  generalize lexI _ _ = r
  (repeat' split) <;> omega
theorem ord_chip (x y : Ev) (h : x.time = y.time) (k : x.chip ≠ y.chip) : ordE x y < 0 ↔ x.chip < y.chip := by
  rw [ordE_lex]
  unfold Ev.ns
  rw [lex_one, if_neg (by omega), if_neg (by omega), lex_one]
  generalize lexI _ _ = r
  (repeat' split) <;> omega
theorem ord_key (a b c : Ev) : ordE a b = 1 ∨ (ordE a b = 0 ∧ ordE b c = 1) ∨ (ordE a b = 0 ∧ ordE b c = 0 ∧ ordE a c = 0) ∨ (ordE a b = 0 ∧ ordE b c = -1 ∧ ordE a c = -1) ∨ (ordE a b = -1 ∧ ordE b c = 1) ∨ (ordE a b = -1 ∧ ordE b c = 0 ∧ ordE a c = -1) ∨ (ordE a b = -1 ∧ ordE b c = -1 ∧ ordE a c = -1) := by
  have ht := ord_trans a b c
  have h0 := ord_zero a b
  rcases ord_vals a b with hx | hx | hx
  · rcases ord_vals b c with hy | hy | hy
    · obtain ⟨k1, k2⟩ := ht (by omega) (by omega)
      rcases ord_vals a c with hz | hz | hz
      · exact .inr (.inr (.inr (.inr (.inr (.inr ⟨hx, hy, hz⟩)))))
      · have := (k2 hz).1; omega
      · omega
    · obtain ⟨k1, k2⟩ := ht (by omega) (by omega)
      rcases ord_vals a c with hz | hz | hz
      · exact .inr (.inr (.inr (.inr (.inr (.inl ⟨hx, hy, hz⟩)))))
      · have := (k2 hz).1; omega
      · omega
    · exact .inr (.inr (.inr (.inr (.inl ⟨hx, hy⟩))))
  · have hab : a = b := h0.1 hx
    subst hab
    rcases ord_vals a c with hy | hy | hy
    · exact .inr (.inr (.inr (.inl ⟨hx, hy, hy⟩)))
    · exact .inr (.inr (.inl ⟨hx, hy, hy⟩))
    · exact .inr (.inl ⟨hx, hy⟩)
  · exact .inl hx
end Go.Proofs.Ythnbpdcjooifbaa
namespace Go.Proofs.Ythnbpdcjooifbaa
open Go.RowKit Go.ChangeShapes Go.WideShapes Go.ChangeAt
set_option maxRecDepth 100000

/-- Its numbers are of their kinds. -/
structure Ev.wf (x : Ev) : Prop where
  t : -9223372036854775808 ≤ x.time ∧ x.time ≤ 9223372036854775807
  c : -9223372036854775808 ≤ x.chip ∧ x.chip ≤ 9223372036854775807
  s : -9223372036854775808 ≤ x.seq ∧ x.seq ≤ 9223372036854775807
  k : -9223372036854775808 ≤ x.kind ∧ x.kind ≤ 9223372036854775807
  a : -9223372036854775808 ≤ x.a ∧ x.a ≤ 9223372036854775807
  b : -9223372036854775808 ≤ x.b ∧ x.b ≤ 9223372036854775807

theorem open_ev {H : Type} {enc : TypeId × Value → H} {W : World} {r : Reach} {b0 : Nat} {v : Value} {d : DataW H} {p : List MemPlace}
    (hv : Value.okWide Try.prog W r b0 23 v) (h : DataW.Trod enc Try.prog W 0 (fun _ => true) true 23 v d p) : ∃ s : Ev, v = s.val ∧ s.wf := by
  obtain ⟨cs, rfl, hsz⟩ := okWide_struct Try.underlying23 hv
  have hC : Try.prog.cellsOf 23 = 6 := by kernel_rfl
  have h1 : Try.prog.cellsOf 3 = 1 := by kernel_rfl
  have h2 : Try.prog.cellsOf 2 = 1 := by kernel_rfl
  rw [hC] at hsz
  obtain ⟨l⟩ := cs
  match l, hsz with
  | [c0, c1, c2, c3, c4, c5], _ =>
  obtain ⟨fuel, hf⟩ := h
  obtain ⟨xs, n, _, _, hl, hlen, hfi⟩ := DataW.trod_struct Try.underlying23 hf
  match xs, hlen with
  | [y0, y1, y2, y3, y4, y5], _ =>
  have t0 := hfi 0 _ rfl
  have t1 := hfi 1 _ rfl
  have t2 := hfi 2 _ rfl
  have t3 := hfi 3 _ rfl
  have t4 := hfi 4 _ rfl
  have t5 := hfi 5 _ rfl
  simp [h1, h2, Value.cells] at t0 t1 t2 t3 t4 t5
  obtain ⟨x0, e0, _, w0⟩ := DataW.trod_int Try.underlying2 t0
  obtain ⟨x1, e1, _, w1⟩ := DataW.trod_int Try.underlying3 t1
  obtain ⟨x2, e2, _, w2⟩ := DataW.trod_int Try.underlying2 t2
  obtain ⟨x3, e3, _, w3⟩ := DataW.trod_int Try.underlying3 t3
  obtain ⟨x4, e4, _, w4⟩ := DataW.trod_int Try.underlying3 t4
  obtain ⟨x5, e5, _, w5⟩ := DataW.trod_int Try.underlying3 t5
  simp at e0 e1 e2 e3 e4 e5
  subst e0 e1 e2 e3 e4 e5
  refine ⟨⟨x0, x1, x2, x3, x4, x5⟩, rfl, ?_⟩
  have b0 := bounds_i64 w0
  have b1 := bounds_i64 w1
  have b2 := bounds_i64 w2
  have b3 := bounds_i64 w3
  have b4 := bounds_i64 w4
  have b5 := bounds_i64 w5
  constructor <;> (dsimp only; omega)
end Go.Proofs.Ythnbpdcjooifbaa
namespace Go.Proofs.Ythnbpdcjooifbaa
open Go.RowKit
set_option linter.unusedSimpArgs false
set_option linter.unusedVariables false
set_option maxRecDepth 100000

/-- A block that is an event. -/
def EW (w : World) (b : Nat) (x : Ev) : Prop := w.heap[b]? = some (.cells #[.int .i64 x.time, .int .i64 x.chip, .int .i64 x.seq, .int .i64 x.kind, .int .i64 x.a, .int .i64 x.b] 23 (0, 0))
theorem EW.ev {w : World} {b : Nat} {x : Ev} (h : EW w b x) : EV w b x := by
  constructor <;> (rw [cell_of_row _ _ _ _ _ _ h]; rfl)
theorem EW.free {w : World} {b : Nat} {x : Ev} (h : EW w b x) (i : Nat) : w.frozen? ⟨b, i, none⟩ = false := frozen_of_row w b i _ _ h
theorem EW.lt {w : World} {b : Nat} {x : Ev} (h : EW w b x) : b < w.heap.size := (Array.getElem?_eq_some_iff.1 h).1
theorem EW.keep {w w' : World} {b : Nat} {x : Ev} (h : EW w b x) (hb : w'.heap[b]? = w.heap[b]?) : EW w' b x := hb.trans h
theorem EW.laid (w : World) (x : Ev) : EW (w.alloc (evO x)) w.heap.size x := heap_alloc_new _ _
theorem EW.below {w w' : World} {b B : Nat} {x : Ev} (h : EW w b x) (hb : Below B w w') (hB : b < B) : EW w' b x := h.keep (hb.block _ hB)
theorem EW.more {w : World} {b : Nat} {x : Ev} (h : EW w b x) (o : Obj) : EW (w.alloc o) b x := h.below ((Below.refl w.heap.size _).alloc (Nat.le_refl _) _) h.lt

def zeroE : Ev := ⟨0, 0, 0, 0, 0, 0⟩

/-- An event is stored. -/
abbrev putEv (w : World) (b : Nat) (x : Ev) : World := (((((w.setCell ⟨b, 0, none⟩ (.int .i64 x.time)).setCell ⟨b, 1, none⟩ (.int .i64 x.chip)).setCell ⟨b, 2, none⟩ (.int .i64 x.seq)).setCell ⟨b, 3, none⟩ (.int .i64 x.kind)).setCell ⟨b, 4, none⟩ (.int .i64 x.a)).setCell ⟨b, 5, none⟩ (.int .i64 x.b)
abbrev evC (a0 a1 a2 a3 a4 a5 : Int) : Option Obj := some (.cells #[.int .i64 a0, .int .i64 a1, .int .i64 a2, .int .i64 a3, .int .i64 a4, .int .i64 a5] 23 (0, 0))
theorem putEv_ew {w : World} {b : Nat} {y : Ev} (h : EW w b y) (x : Ev) : EW (putEv w b x) b x := by
  unfold EW at *
  have h0 : (w.setCell ⟨b, 0, none⟩ (.int .i64 x.time)).heap[b]? = evC x.time y.chip y.seq y.kind y.a y.b := by rw [heap_setCell_same _ b 0 _ _ _ h]; rfl
  have h1 : ((w.setCell ⟨b, 0, none⟩ (.int .i64 x.time)).setCell ⟨b, 1, none⟩ (.int .i64 x.chip)).heap[b]? = evC x.time x.chip y.seq y.kind y.a y.b := by rw [heap_setCell_same _ b 1 _ _ _ h0]; rfl
  have h2 : (((w.setCell ⟨b, 0, none⟩ (.int .i64 x.time)).setCell ⟨b, 1, none⟩ (.int .i64 x.chip)).setCell ⟨b, 2, none⟩ (.int .i64 x.seq)).heap[b]? = evC x.time x.chip x.seq y.kind y.a y.b := by rw [heap_setCell_same _ b 2 _ _ _ h1]; rfl
  have h3 : ((((w.setCell ⟨b, 0, none⟩ (.int .i64 x.time)).setCell ⟨b, 1, none⟩ (.int .i64 x.chip)).setCell ⟨b, 2, none⟩ (.int .i64 x.seq)).setCell ⟨b, 3, none⟩ (.int .i64 x.kind)).heap[b]? = evC x.time x.chip x.seq x.kind y.a y.b := by rw [heap_setCell_same _ b 3 _ _ _ h2]; rfl
  have h4 : (((((w.setCell ⟨b, 0, none⟩ (.int .i64 x.time)).setCell ⟨b, 1, none⟩ (.int .i64 x.chip)).setCell ⟨b, 2, none⟩ (.int .i64 x.seq)).setCell ⟨b, 3, none⟩ (.int .i64 x.kind)).setCell ⟨b, 4, none⟩ (.int .i64 x.a)).heap[b]? = evC x.time x.chip x.seq x.kind x.a y.b := by rw [heap_setCell_same _ b 4 _ _ _ h3]; rfl
  have h5 : ((((((w.setCell ⟨b, 0, none⟩ (.int .i64 x.time)).setCell ⟨b, 1, none⟩ (.int .i64 x.chip)).setCell ⟨b, 2, none⟩ (.int .i64 x.seq)).setCell ⟨b, 3, none⟩ (.int .i64 x.kind)).setCell ⟨b, 4, none⟩ (.int .i64 x.a)).setCell ⟨b, 5, none⟩ (.int .i64 x.b)).heap[b]? = evC x.time x.chip x.seq x.kind x.a x.b := by rw [heap_setCell_same _ b 5 _ _ _ h4]; rfl
  exact h5
theorem putEv_below (w : World) (b : Nat) (x : Ev) {B : Nat} (hB : B ≤ b) : Below B w (putEv w b x) :=
  ((((((Below.refl B w).setCell (p := ⟨b, 0, none⟩) hB _).setCell (p := ⟨b, 1, none⟩) hB _).setCell (p := ⟨b, 2, none⟩) hB _).setCell (p := ⟨b, 3, none⟩) hB _).setCell (p := ⟨b, 4, none⟩) hB _).setCell (p := ⟨b, 5, none⟩) hB _
theorem results_ev {fn : Func} {p u : Tmp} (h : fn.results = #[.cell p 23, .tmp u]) (tmps : Array Value) (w : World) (b : Nat) (x : Ev) (e : Value) (hp : tmps.getD p undef = .pointer (some ⟨b, 0, none⟩)) (hu : tmps.getD u undef = e) (hS : EW w b x) :
    (results fn tmps).run Try.prog w = .ok (.tuple #[x.val, e]) w := by
  rw [results_cell_tmp h, hp, hu]
  obtain ⟨c0, c1, c2, c3, c4, c5⟩ := hS.ev
  unfold Ev.val
  go_simp

theorem closed_ev (b : World) (n : Nat) (x : Ev) : M.Closed (fun w' => M.Base b w' ∧ EW w' n x) := fun w w1 h hs => ⟨M.closed_base b w w1 h.1 hs, h.2.keep (hs.all.block _ h.2.lt)⟩


/-- One number of it is stored. -/
theorem EW.put0 {w : World} {n : Nat} {x : Ev} (h : EW w n x) (v : Int) : EW (w.setCell ⟨n, 0, none⟩ (.int .i64 v)) n { x with time := v } := by
  unfold EW at *; rw [heap_setCell_same w n 0 _ _ _ h]; rfl
theorem EW.put1 {w : World} {n : Nat} {x : Ev} (h : EW w n x) (v : Int) : EW (w.setCell ⟨n, 1, none⟩ (.int .i64 v)) n { x with chip := v } := by
  unfold EW at *; rw [heap_setCell_same w n 1 _ _ _ h]; rfl
theorem EW.put2 {w : World} {n : Nat} {x : Ev} (h : EW w n x) (v : Int) : EW (w.setCell ⟨n, 2, none⟩ (.int .i64 v)) n { x with seq := v } := by
  unfold EW at *; rw [heap_setCell_same w n 2 _ _ _ h]; rfl
theorem EW.put3 {w : World} {n : Nat} {x : Ev} (h : EW w n x) (v : Int) : EW (w.setCell ⟨n, 3, none⟩ (.int .i64 v)) n { x with kind := v } := by
  unfold EW at *; rw [heap_setCell_same w n 3 _ _ _ h]; rfl
theorem EW.put4 {w : World} {n : Nat} {x : Ev} (h : EW w n x) (v : Int) : EW (w.setCell ⟨n, 4, none⟩ (.int .i64 v)) n { x with a := v } := by
  unfold EW at *; rw [heap_setCell_same w n 4 _ _ _ h]; rfl
theorem EW.put5 {w : World} {n : Nat} {x : Ev} (h : EW w n x) (v : Int) : EW (w.setCell ⟨n, 5, none⟩ (.int .i64 v)) n { x with b := v } := by
  unfold EW at *; rw [heap_setCell_same w n 5 _ _ _ h]; rfl
theorem EW.grown {w w' : World} {n g : Nat} {x : Ev} (h : EW w n x) (hg : w.grownBy w' (some g)) (hn : n ≠ g) : EW w' n x :=
  h.keep (hg.block n h.lt (fun e => by have := Option.some.inj e; omega))
end Go.Proofs.Ythnbpdcjooifbaa
