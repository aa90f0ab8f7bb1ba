/- The walk of TstateBack. -/
import Derived.Test.YthimgmcekhgclaaG
import Derived.Test.YthimgmcekhgclaaI
import Derived.Test.YthimgmcekhgclaaZ
import Derived.Test.YthimgmcekhgclaaM
namespace Go.Proofs.Ythimgmcekhgclaa
open Go.RowKit

theorem numsB_append (a b : List Int) : numsB (a ++ b) = numsB a ++ numsB b := by unfold numsB; simp
theorem numsB_cons (x : Int) (b : List Int) : numsB (x :: b) = numB x.toNat ++ numsB b := by unfold numsB; simp

/-- What was put is read. -/
theorem rdN_back (xs : List Int) (h : ∀ x ∈ xs, 0 ≤ x ∧ x < 9223372036854775808) : ∀ k, k ≤ xs.length → rdN (numsB xs) k = (xs.take k, (numsB (xs.take k)).length, 0)
  | 0, _ => rfl
  | k + 1, hk => by
    have ih := rdN_back xs h k (by omega)
    have hlt : k < xs.length := by omega
    have hsp : numsB xs = numsB (xs.take k) ++ (numB (xs[k]).toNat ++ numsB (xs.drop (k + 1))) := by
      rw [← numsB_cons, ← List.drop_eq_getElem_cons hlt, ← numsB_append, List.take_append_drop]
    obtain ⟨h0, h1⟩ := h xs[k] (List.getElem_mem hlt)
    have hst : numSt (numsB xs) (numsB (xs.take k)).length 0 = ((xs[k]).toNat, (numsB (xs.take k)).length + (numB (xs[k]).toNat).length, 0) := by
      unfold numSt
      rw [if_pos rfl, hsp, List.drop_left, numRd_numB _ (by omega)]
    have hct : countSt (numsB xs) (numsB (xs.take k)).length 0 9223372036854775807 = ((xs[k]).toNat, (numsB (xs.take k)).length + (numB (xs[k]).toNat).length, 0) := by
      unfold countSt
      rw [hst, if_neg (by simp only; omega)]
    simp only [rdN]
    rw [ih]
    simp only [hct]
    rw [List.take_succ_eq_append_getElem hlt, numsB_append, numsB_cons]
    have e : (((xs[k]).toNat : Nat) : Int) = xs[k] := Int.toNat_of_nonneg h0
    rw [e]
    simp [numsB]

theorem screen_back {s : Scr} (hm : s.May) : endSt (numsB s.nums) (rdN (numsB s.nums) 7).2.1 (rdN (numsB s.nums) 7).2.2 = 0 ∧ scrOf (rdN (numsB s.nums) 7).1 = s := by
  have h : ∀ x ∈ s.nums, 0 ≤ x ∧ x < 9223372036854775808 := by
    intro x hx
    obtain ⟨k, hk, rfl⟩ := List.getElem_of_mem hx
    have := Scr.may_num hm k hk
    rw [getD_lt hk] at this
    omega
  have hb := rdN_back s.nums h 7 (Nat.le_refl _)
  rw [hb, show s.nums.take 7 = s.nums from rfl]
  refine ⟨?_, rfl⟩
  unfold endSt
  rw [if_neg (by simp)]

theorem spot_back {s : Scr} {f l c : Int} (h : timeOk s f l c) :
    0 ≤ f * s.len + l * s.columns + c ∧ f * s.len + l * s.columns + c ≤ 1099511627776 ∧ (f * s.len + l * s.columns + c) / s.len = f ∧ (f * s.len + l * s.columns + c) % s.len / s.columns = l ∧ (f * s.len + l * s.columns + c) % s.len % s.columns = c := by
  obtain ⟨hm, ⟨f0, l0, l1, c0, c1⟩, ht⟩ := h
  have hl := (Scr.len_may hm).1
  have h1 := Int.mul_le_mul (show l + 1 ≤ s.lines by omega) (Int.le_refl s.columns) (by omega) (by omega)
  rw [Int.add_mul] at h1
  have h0 : 0 ≤ l * s.columns := Int.mul_nonneg l0 (by omega)
  have h2 : 0 ≤ f * s.len := Int.mul_nonneg f0 (by have := (Scr.len_may hm).2.1; omega)
  obtain ⟨e1, e2⟩ := mod_at (L := s.len) (q := f) (r := l * s.columns + c) (t := f * s.len + l * s.columns + c) (by omega) (by omega) (by omega)
  obtain ⟨e3, e4⟩ := mod_at (L := s.columns) (q := l) (r := c) (t := l * s.columns + c) rfl c0 c1
  rw [e1, e2, e3, e4]
  exact ⟨by omega, ht, rfl, rfl, rfl⟩

/-- A time's spot: its numbers, and those of the next. -/
theorem spot_step {s : Scr} (hm : s.May) {t : Int} (t0 : 0 ≤ t) (t1 : t < 1099511627776) :
    ∃ f l c : Int, t / s.len = f ∧ t % s.len / s.columns = l ∧ t % s.len % s.columns = c ∧ timeOk s f l c ∧ f * s.len + l * s.columns + c = t ∧ f ≤ 1099511627776 ∧
      (if c + 1 = s.columns then (if l + 1 = s.lines then (t + 1) / s.len = f + 1 ∧ (t + 1) % s.len / s.columns = 0 ∧ (t + 1) % s.len % s.columns = 0 else (t + 1) / s.len = f ∧ (t + 1) % s.len / s.columns = l + 1 ∧ (t + 1) % s.len % s.columns = 0)
        else (t + 1) / s.len = f ∧ (t + 1) % s.len / s.columns = l ∧ (t + 1) % s.len % s.columns = c + 1) := by
  obtain ⟨hl, hl0, hl1⟩ := Scr.len_may hm
  have hC := hm 1 (by omega)
  have hL := hm 0 (by omega)
  simp only [Scr.asks] at hC hL
  have hr0 : 0 ≤ t % s.len := Int.emod_nonneg t (by omega)
  have hr1 : t % s.len < s.len := Int.emod_lt_of_pos t (by omega)
  have hd : t = t / s.len * s.len + t % s.len := by have := Int.mul_ediv_add_emod t s.len; rw [Int.mul_comm] at this; omega
  have hf0 : 0 ≤ t / s.len := Int.ediv_nonneg t0 (by omega)
  have hf1 : t / s.len ≤ t := Int.ediv_le_self _ t0
  have hc0 : 0 ≤ t % s.len % s.columns := Int.emod_nonneg _ (by omega)
  have hc1 : t % s.len % s.columns < s.columns := Int.emod_lt_of_pos _ (by omega)
  have hd2 : t % s.len = t % s.len / s.columns * s.columns + t % s.len % s.columns := by have := Int.mul_ediv_add_emod (t % s.len) s.columns; rw [Int.mul_comm] at this; omega
  have hk0 : 0 ≤ t % s.len / s.columns := Int.ediv_nonneg hr0 (by omega)
  refine ⟨_, _, _, rfl, rfl, rfl, ?_⟩
  generalize t / s.len = f at *
  generalize t % s.len / s.columns = l at *
  generalize t % s.len % s.columns = c at *
  have hl2 : l < s.lines := by
    refine Int.lt_of_not_ge fun h => ?_
    have := Int.mul_le_mul h (Int.le_refl s.columns) (by omega) hk0
    omega
  refine ⟨⟨hm, ⟨hf0, hk0, hl2, hc0, hc1⟩, by omega⟩, by omega, by omega, ?_⟩
  split
  · split
    · rename_i h1 h2
      have h3 : l * s.columns + s.columns = s.lines * s.columns := by rw [← h2, Int.add_mul]; omega
      obtain ⟨e1, e2⟩ := mod_at (L := s.len) (q := f + 1) (r := 0) (t := t + 1) (by rw [Int.add_mul]; omega) (by omega) (by omega)
      rw [e1, e2]
      exact ⟨rfl, by simp, by simp⟩
    · rename_i h1 h2
      have h4 := Int.mul_le_mul (show l + 2 ≤ s.lines by omega) (Int.le_refl s.columns) (by omega) (by omega)
      rw [Int.add_mul] at h4
      obtain ⟨e1, e2⟩ := mod_at (L := s.len) (q := f) (r := (l + 1) * s.columns) (t := t + 1) (by rw [Int.add_mul]; omega) (by rw [Int.add_mul]; have := Int.mul_nonneg hk0 (show 0 ≤ s.columns by omega); omega) (by rw [Int.add_mul]; omega)
      obtain ⟨e3, e4⟩ := mod_at (L := s.columns) (q := l + 1) (r := 0) (t := (l + 1) * s.columns) (by omega) (by omega) (by omega)
      rw [e1, e2, e3, e4]
      exact ⟨rfl, rfl, rfl⟩
  · rename_i h1
    have h4 := Int.mul_le_mul (show l + 1 ≤ s.lines by omega) (Int.le_refl s.columns) (by omega) (by omega)
    rw [Int.add_mul] at h4
    have h5 := Int.mul_nonneg hk0 (show 0 ≤ s.columns by omega)
    obtain ⟨e1, e2⟩ := mod_at (L := s.len) (q := f) (r := l * s.columns + (c + 1)) (t := t + 1) (by omega) (by omega) (by omega)
    obtain ⟨e3, e4⟩ := mod_at (L := s.columns) (q := l) (r := c + 1) (t := l * s.columns + (c + 1)) rfl (by omega) (by omega)
    rw [e1, e2, e3, e4]
    exact ⟨rfl, rfl, rfl⟩

theorem scr_eta (s : Scr) : Scr.mk s.lines s.columns s.top s.rows s.left s.wide s.pulse = s := rfl

/-- A screen, a spot that goes on, a spot to compare with. -/
structure ST (w0 w : World) (S Q V : Nat) (s : Scr) (f l c vf vl vc : Int) : Prop where
  sb : SB w S s
  q : w.heap[Q]? = some (.cells #[.int .i64 f, .int .i64 l, .int .i64 c] 60 (0, 0))
  v : SP w V vf vl vc
  bel : Below S w0 w
  sq : S < Q
  qv : Q < V
theorem ST.at_ {w0 w : World} {S Q V : Nat} {s : Scr} {f l c vf vl vc : Int} (h : ST w0 w S Q V s f l c vf vl vc) :
    (w.cell? ⟨S, 0, none⟩ = some (.int .i64 s.lines) ∧ w.cell? ⟨S, 1, none⟩ = some (.int .i64 s.columns)) ∧
    (w.cell? ⟨Q, 0, none⟩ = some (.int .i64 f) ∧ w.cell? ⟨Q, 1, none⟩ = some (.int .i64 l) ∧ w.cell? ⟨Q, 2, none⟩ = some (.int .i64 c)) ∧
    (w.frozen? ⟨Q, 0, none⟩ = false ∧ w.frozen? ⟨Q, 1, none⟩ = false ∧ w.frozen? ⟨Q, 2, none⟩ = false) ∧
    (w.cell? ⟨V, 0, none⟩ = some (.int .i64 vf) ∧ w.cell? ⟨V, 1, none⟩ = some (.int .i64 vl) ∧ w.cell? ⟨V, 2, none⟩ = some (.int .i64 vc)) :=
  ⟨⟨h.sb.c0, h.sb.c1⟩, ⟨by rw [cell_of_row _ _ _ _ _ _ h.q]; rfl, by rw [cell_of_row _ _ _ _ _ _ h.q]; rfl, by rw [cell_of_row _ _ _ _ _ _ h.q]; rfl⟩,
    ⟨frozen_of_row _ _ _ _ _ h.q, frozen_of_row _ _ _ _ _ h.q, frozen_of_row _ _ _ _ _ h.q⟩, ⟨h.v.d0, h.v.d1, h.v.d2⟩⟩
theorem ST.turn {w0 w : World} {S Q V : Nat} {s : Scr} {f l c vf vl vc : Int} (h : ST w0 w S Q V s f l c vf vl vc) (i : Nat) (x : Value) {f' l' c' : Int}
    (hq : (w.setCell ⟨Q, i, none⟩ x).heap[Q]? = some (.cells #[.int .i64 f', .int .i64 l', .int .i64 c'] 60 (0, 0))) : ST w0 (w.setCell ⟨Q, i, none⟩ x) S Q V s f' l' c' vf vl vc := by
  have hqv := h.qv
  have hne : V ≠ Q := by omega
  have hk : ∀ j, (w.setCell ⟨Q, i, none⟩ x).cell? ⟨V, j, none⟩ = w.cell? ⟨V, j, none⟩ := fun j => World.cell?_of_block (heap_setCell_other w ⟨Q, i, none⟩ V x hne)
  exact ⟨h.sb.below ((Below.refl Q w).setCell (p := ⟨Q, i, none⟩) (Nat.le_refl Q) x) h.sq, hq, ⟨(hk 0).trans h.v.d0, (hk 1).trans h.v.d1, (hk 2).trans h.v.d2⟩, h.bel.setCell (Nat.le_of_lt h.sq) x, h.sq, h.qv⟩
theorem ST.put0 {w0 w : World} {S Q V : Nat} {s : Scr} {f l c vf vl vc : Int} (h : ST w0 w S Q V s f l c vf vl vc) (x : Int) : ST w0 (w.setCell ⟨Q, 0, none⟩ (.int .i64 x)) S Q V s x l c vf vl vc :=
  h.turn 0 _ (by rw [heap_setCell_same _ _ _ _ _ _ h.q]; rfl)
theorem ST.put1 {w0 w : World} {S Q V : Nat} {s : Scr} {f l c vf vl vc : Int} (h : ST w0 w S Q V s f l c vf vl vc) (x : Int) : ST w0 (w.setCell ⟨Q, 1, none⟩ (.int .i64 x)) S Q V s f x c vf vl vc :=
  h.turn 1 _ (by rw [heap_setCell_same _ _ _ _ _ _ h.q]; rfl)
theorem ST.put2 {w0 w : World} {S Q V : Nat} {s : Scr} {f l c vf vl vc : Int} (h : ST w0 w S Q V s f l c vf vl vc) (x : Int) : ST w0 (w.setCell ⟨Q, 2, none⟩ (.int .i64 x)) S Q V s f l x vf vl vc :=
  h.turn 2 _ (by rw [heap_setCell_same _ _ _ _ _ _ h.q]; rfl)

set_option maxHeartbeats 2000000 in
set_option maxRecDepth 100000 in
theorem back_not (w : World) (s : Scr) (t f l c : Int) (hm : ¬ s.May) : Calls Try.prog 11 #[s.val, .int .i64 t, spotV f l c] w fun e w' => e = .returned (.bool true) ∧ Below w.heap.size w w' := by
  have hval : s.val = .agg #[.int .i64 s.lines, .int .i64 s.columns, .int .i64 s.top, .int .i64 s.rows, .int .i64 s.left, .int .i64 s.wide, .int .i64 s.pulse] := rfl
  rw [hval]
  unfold spotV
  have HV := Lib.hid hval
  clear hval
  go_enter Try.func11, Try.ntmps11
  go_wp2_with fail
  refine (lives2_any _).mono ?_
  rintro e w2 ⟨rfl, hb⟩
  have hS2 : SB w2 w.heap.size s := SB.laid s ((((Below.refl _ _).alloc (by simp) _)).trans (hb.mono (by simp)))
  have hB2 : Below w.heap.size w w2 := (((Below.refl _ _).alloc (Nat.le_refl _) _).alloc (by simp) _).trans (hb.mono (by simp; omega))
  have hw2 : w.heap.size + 1 < w2.heap.size := by have := hb.size; simp at this; omega
  clear hb
  obtain ⟨c0, c1, c2, c3, c4, c5, c6⟩ := hS2
  go_wp2_with fail
  clear c0 c1 c2 c3 c4 c5 c6
  rw [← HV.out]
  refine (check_any _ s).mono ?_
  rintro e w3 ⟨h, hb⟩
  obtain rfl : e = .returned (.int .i64 2) := by
    rcases h with ⟨_, h⟩ | ⟨h, _⟩
    · exact absurd h hm
    · exact h
  clear h
  have hB3 := hB2.trans (hb.mono hB2.size)
  go_wp2_with fail
  go_ret
  exact ⟨rfl, hB3⟩

set_option maxHeartbeats 8000000 in
set_option maxRecDepth 100000 in
theorem back_may (w : World) (s : Scr) (t f l c : Int) (hm : s.May) (ht : (Lit.int .i64 t).wf = true) : Calls Try.prog 11 #[s.val, .int .i64 t, spotV f l c] w fun e w' => e = .returned (.bool true) ∧ Below w.heap.size w w' := by
  have hval : s.val = .agg #[.int .i64 s.lines, .int .i64 s.columns, .int .i64 s.top, .int .i64 s.rows, .int .i64 s.left, .int .i64 s.wide, .int .i64 s.pulse] := rfl
  have hvs : spotV f l c = .agg #[.int .i64 f, .int .i64 l, .int .i64 c] := rfl
  obtain ⟨t0, t1⟩ := bounds_i64 ht
  obtain ⟨hl, hl0, hl1⟩ := Scr.len_may hm
  have hC := hm 1 (by omega)
  have hL := hm 0 (by omega)
  simp only [Scr.asks] at hC hL
  rw [hval, hvs]
  have HV := Lib.hid hval
  have HVS := Lib.hid hvs
  clear hval hvs hl
  go_enter Try.func11, Try.ntmps11
  go_wp2_with fail
  refine (lives2_any _).mono ?_
  rintro e w2 ⟨rfl, hb⟩
  have hS2 : SB w2 w.heap.size s := SB.laid s ((((Below.refl _ _).alloc (by simp) _)).trans (hb.mono (by simp)))
  have hP2 : SP w2 (w.heap.size + 1) f l c := by
    have := SP.laid (w := w.alloc (.cells #[.int .i64 s.lines, .int .i64 s.columns, .int .i64 s.top, .int .i64 s.rows, .int .i64 s.left, .int .i64 s.wide, .int .i64 s.pulse] 52)) f l c (hb.mono (by simp))
    simpa using this
  have hB2 : Below w.heap.size w w2 := (((Below.refl _ _).alloc (Nat.le_refl _) _).alloc (by simp) _).trans (hb.mono (by simp; omega))
  have hw2 : w.heap.size + 1 < w2.heap.size := by have := hb.size; simp at this; omega
  clear hb
  obtain ⟨c0, c1, c2, c3, c4, c5, c6⟩ := hS2
  have hS2 : SB w2 w.heap.size s := ⟨c0, c1, c2, c3, c4, c5, c6⟩
  go_wp2_with fail
  clear c0 c1 c2 c3 c4 c5 c6
  rw [← HV.out]
  refine (check_any _ s).mono ?_
  rintro e w3 ⟨h, hb⟩
  obtain rfl : e = .returned (.int .i64 0) := by
    rcases h with ⟨h, _⟩ | ⟨_, h⟩
    · exact h
    · exact absurd hm h
  have hS3 := hS2.below hb (by omega)
  have hP3 := hP2.below hb (by omega)
  have hB3 := hB2.trans (hb.mono hB2.size)
  have hw3 : w.heap.size + 1 < w3.heap.size := by have := hb.size; omega
  clear h hb hS2 hP2 hB2
  obtain ⟨c0, c1, c2, c3, c4, c5, c6⟩ := hS3
  have hS3 : SB w3 w.heap.size s := ⟨c0, c1, c2, c3, c4, c5, c6⟩
  go_wp2_with fail
  clear c0 c1 c2 c3 c4 c5 c6
  rw [← HV.out]
  refine (bytes_may _ s hm).mono ?_
  rintro e w4 ⟨A, cp, rfl, ho, hb⟩
  have hS4 := hS3.below hb (by omega)
  have hP4 := hP3.below hb (by omega)
  have hB4 := hB3.trans (hb.mono hB3.size)
  have hw4 : w.heap.size + 1 < w4.heap.size := by have := hb.size; omega
  clear hb hS3 hP3 hB3
  go_wp2_with fail
  have hln := numsB_le s.nums
  refine (sread_any A cp _ (numsB s.nums) w4 w4.heap.size rfl ho.rb (Nat.le_refl _) (by have : s.nums.length = 7 := rfl; omega)).mono ?_
  rintro e w5 ⟨⟨he, _⟩, hb⟩
  obtain ⟨hx, hy⟩ := screen_back hm
  rw [hy] at he
  have he := he ⟨hx, hm⟩
  rw [HV.out] at he
  subst he
  have hS5 := hS4.below hb (by omega)
  have hP5 := hP4.below hb (by omega)
  have hB5 := hB4.trans (hb.mono hB4.size)
  have hw5 : w.heap.size + 1 < w5.heap.size := by have := hb.size; omega
  clear hb hS4 hP4 hB4 hx hy ho hln
  obtain ⟨c0, c1, c2, c3, c4, c5, c6⟩ := hS5
  have hS5 : SB w5 w.heap.size s := ⟨c0, c1, c2, c3, c4, c5, c6⟩
  obtain ⟨d0, d1, d2⟩ := hP5
  have hP5 : SP w5 (w.heap.size + 1) f l c := ⟨d0, d1, d2⟩
  have hwa : w.heap.size < w5.heap.size := by omega
  go_wp2_with fail
  clear c0 c1 c2 c3 c4 c5 c6 d0 d1 d2
  rw [← HV.out]
  refine (time_any _ s f l c).mono ?_
  rintro e w6 ⟨⟨hy, hn⟩, hb⟩
  have hS6 : SB w6 w.heap.size s := (hS5.below ((Below.refl _ _).alloc (Nat.le_refl _) _) hwa).below hb (by simp; omega)
  have hP6 : SP w6 (w.heap.size + 1) f l c := (hP5.below ((Below.refl _ _).alloc (Nat.le_refl _) _) hw5).below hb (by simp; omega)
  have hB6 : Below w.heap.size w w6 := (hB5.alloc hB5.size _).trans (hb.mono (by have := hB5.size; simp; omega))
  have hw6 : w.heap.size + 1 < w6.heap.size := by have := hb.size; simp at this; omega
  clear hb hS5 hP5 hB5 hw5 hwa
  obtain ⟨c0, c1, c2, c3, c4, c5, c6⟩ := hS6
  have hS6 : SB w6 w.heap.size s := ⟨c0, c1, c2, c3, c4, c5, c6⟩
  by_cases hto : timeOk s f l c
  · have he := hy hto
    obtain ⟨n0, n1, e1, e2, e3⟩ := spot_back hto
    obtain ⟨n, hnn⟩ : ∃ n, f * s.len + l * s.columns + c = n := ⟨_, rfl⟩
    rw [hnn] at he n0 n1 e1 e2 e3
    subst he
    have HTO := Lib.hid hto
    have E1 := Lib.hid e1
    have E2 := Lib.hid e2
    have E3 := Lib.hid e3
    clear hnn e1 e2 e3 hto hy hn
    go_wp2_with fail
    clear c0 c1 c2 c3 c4 c5 c6
    rw [← HV.out]
    refine (spot_any w6 s n).mono ?_
    rintro e w7 ⟨⟨he, _⟩, hb⟩
    have he := he ⟨hm, by omega, by omega⟩
    rw [E1.out, E2.out, E3.out] at he
    unfold spotV at he
    subst he
    have hS7 := hS6.below hb (by omega)
    have hP7 := hP6.below hb (by omega)
    have hB7 := hB6.trans (hb.mono hB6.size)
    have hw7 : w.heap.size + 1 < w7.heap.size := by have := hb.size; omega
    have hw7' : w.heap.size < w7.heap.size := by omega
    clear hb hS6 hP6 hB6 E1 E2 E3
    obtain ⟨c0, c1, c2, c3, c4, c5, c6⟩ := hS7
    have hS7 : SB w7 w.heap.size s := ⟨c0, c1, c2, c3, c4, c5, c6⟩
    obtain ⟨d0, d1, d2⟩ := hP7
    by_cases ht0 : t < 0
    · go_wp2_with fail
      go_ret
      exact ⟨rfl, hB7.alloc hB7.size _⟩
    · by_cases ht1 : 1099511627776 ≤ t
      · go_wp2_with fail
        go_ret
        exact ⟨rfl, hB7.alloc hB7.size _⟩
      · obtain ⟨F, K, C, e1, e2, e3, hok, heq, hF, hnx⟩ := spot_step hm (show 0 ≤ t by omega) (show t < 1099511627776 by omega)
        have E1 := Lib.hid e1
        have E2 := Lib.hid e2
        have E3 := Lib.hid e3
        have HQ := Lib.hid heq
        have HN := Lib.hid hnx
        have HK := Lib.hid hok
        clear e1 e2 e3 heq hnx hok
        go_wp2_with fail
        clear c0 c1 c2 c3 c4 c5 c6
        (try clear d0 d1 d2)
        rw [← HV.out]
        refine (spot_any _ s t).mono ?_
        rintro e w8 ⟨⟨he, _⟩, hb⟩
        have he := he ⟨hm, by omega, by omega⟩
        rw [E1.out, E2.out, E3.out] at he
        unfold spotV at he
        subst he
        have hS8 : SB w8 w.heap.size s := (hS7.below ((Below.refl _ _).alloc (Nat.le_refl _) _) (by omega)).below hb (by simp; omega)
        have hB8 : Below w.heap.size w w8 := (hB7.alloc hB7.size _).trans (hb.mono (by have := hB7.size; simp; omega))
        have hw8 : w.heap.size < w8.heap.size := by have := hb.size; (try simp at this); omega
        clear hb hS7 hB7
        obtain ⟨c0, c1, c2, c3, c4, c5, c6⟩ := hS8
        have hS8 : SB w8 w.heap.size s := ⟨c0, c1, c2, c3, c4, c5, c6⟩
        go_wp2_with fail
        clear c0 c1 c2 c3 c4 c5 c6
        rw [← HV.out]
        refine (time_any _ s F K C).mono ?_
        rintro e w9 ⟨⟨he, _⟩, hb⟩
        have he := he HK.out
        rw [HQ.out] at he
        subst he
        have hz := hb.size
        simp at hz
        have hS9 : SB w9 w.heap.size s := (hS8.below ((Below.refl _ _).alloc (Nat.le_refl _) _) hw8).below hb (by simp; omega)
        have hQ9 : w9.heap[w8.heap.size]? = some (.cells #[.int .i64 F, .int .i64 K, .int .i64 C] 60 (0, 0)) := by
          rw [hb.block _ (by simp)]
          exact heap_alloc_new _ _
        have hB9 : Below w.heap.size w w9 := (hB8.alloc hB8.size _).trans (hb.mono (by have := hB8.size; simp; omega))
        have hw9 : w8.heap.size < w9.heap.size := by omega
        have hw9' : w.heap.size < w9.heap.size := by omega
        clear hb hz hS8 hB8
        obtain ⟨c0, c1, c2, c3, c4, c5, c6⟩ := hS9
        have hS9 : SB w9 w.heap.size s := ⟨c0, c1, c2, c3, c4, c5, c6⟩
        go_wp2_with fail
        clear c0 c1 c2 c3 c4 c5 c6
        rw [← HV.out]
        refine (spot_any _ s (t + 1)).mono ?_
        rintro e w10 ⟨⟨he, _⟩, hb⟩
        have he := he ⟨hm, by omega, by omega⟩
        have hS10 : SB w10 w.heap.size s := hS9.below hb hw9'
        have hQ10 : w10.heap[w8.heap.size]? = some (.cells #[.int .i64 F, .int .i64 K, .int .i64 C] 60 (0, 0)) := by
          rw [hb.block _ hw9]
          exact hQ9
        have hB10 : Below w.heap.size w w10 := hB9.trans (hb.mono hB9.size)
        have hw10 : w8.heap.size < w10.heap.size := by have := hb.size; omega
        have hw10' : w.heap.size < w10.heap.size := by omega
        clear hb hS9 hB9 hQ9
        have hnx := HN.out
        obtain ⟨F0, K0, K1, C0, C1⟩ := HK.out.2.1
        by_cases hc : C + 1 = s.columns
        · rw [if_pos hc] at hnx
          have hcb : (C + 1 == s.columns) = true := by simpa using hc
          have HC := Lib.hid hc
          clear hc
          by_cases hk : K + 1 = s.lines
          · rw [if_pos hk] at hnx
            have hkb : (K + 1 == s.lines) = true := by simpa using hk
            have HKK := Lib.hid hk
            clear hk
            obtain ⟨g1, g2, g3⟩ := hnx
            rw [g1, g2, g3] at he
            unfold spotV at he
            subst he
            clear g1 g2 g3
            go_upto_region 21 with fail
            have hT : ST w (w10.alloc (.cells #[.int .i64 (F + 1), .int .i64 0, .int .i64 0] 60)) w.heap.size w8.heap.size w10.heap.size s F K C (F + 1) 0 0 :=
              ⟨hS10.below ((Below.refl _ _).alloc (Nat.le_refl _) _) hw10', by rw [((Below.refl _ _).alloc (Nat.le_refl _) _).block _ hw10]; exact hQ10, SP.laid (F + 1) 0 0 (Below.refl _ _), hB10.alloc hB10.size _, hw8, hw10⟩
            clear hS10 hQ10 hB10
            generalize w10.alloc (.cells #[.int .i64 (F + 1), .int .i64 0, .int .i64 0] 60) = wz at *
            obtain ⟨⟨c0, c1⟩, ⟨d0, d1, d2⟩, ⟨f0, f1, f2⟩, v0, v1, v2⟩ := hT.at_
            go_upto_region 22 with fail
            clear c0 c1 d0 d1 d2 f0 f1 f2 v0 v1 v2
            have hT2 := hT.put2 (C + 1)
            clear hT
            generalize wz.setCell ⟨w8.heap.size, 2, none⟩ (.int .i64 (C + 1)) = wy at *
            obtain ⟨⟨c0, c1⟩, ⟨d0, d1, d2⟩, ⟨f0, f1, f2⟩, v0, v1, v2⟩ := hT2.at_
            go_upto_region 24 with fail
            clear c0 c1 d0 d1 d2 f0 f1 f2 v0 v1 v2
            have hT3 := (hT2.put2 0).put1 (K + 1)
            clear hT2
            generalize (wy.setCell ⟨w8.heap.size, 2, none⟩ (.int .i64 0)).setCell ⟨w8.heap.size, 1, none⟩ (.int .i64 (K + 1)) = wx at *
            obtain ⟨⟨c0, c1⟩, ⟨d0, d1, d2⟩, ⟨f0, f1, f2⟩, v0, v1, v2⟩ := hT3.at_
            go_upto_region 26 with fail
            clear c0 c1 d0 d1 d2 f0 f1 f2 v0 v1 v2
            have hT4 := (hT3.put1 0).put0 (F + 1)
            clear hT3
            generalize (wx.setCell ⟨w8.heap.size, 1, none⟩ (.int .i64 0)).setCell ⟨w8.heap.size, 0, none⟩ (.int .i64 (F + 1)) = wv at *
            obtain ⟨⟨c0, c1⟩, ⟨d0, d1, d2⟩, ⟨f0, f1, f2⟩, v0, v1, v2⟩ := hT4.at_
            go_wp2_with fail
            go_ret
            exact ⟨rfl, hT4.bel⟩
          · rw [if_neg hk] at hnx
            have hkb : (K + 1 == s.lines) = false := by simpa using hk
            obtain ⟨g1, g2, g3⟩ := hnx
            rw [g1, g2, g3] at he
            unfold spotV at he
            subst he
            clear g1 g2 g3
            go_upto_region 21 with fail
            have hT : ST w (w10.alloc (.cells #[.int .i64 F, .int .i64 (K + 1), .int .i64 0] 60)) w.heap.size w8.heap.size w10.heap.size s F K C F (K + 1) 0 :=
              ⟨hS10.below ((Below.refl _ _).alloc (Nat.le_refl _) _) hw10', by rw [((Below.refl _ _).alloc (Nat.le_refl _) _).block _ hw10]; exact hQ10, SP.laid F (K + 1) 0 (Below.refl _ _), hB10.alloc hB10.size _, hw8, hw10⟩
            clear hS10 hQ10 hB10
            generalize w10.alloc (.cells #[.int .i64 F, .int .i64 (K + 1), .int .i64 0] 60) = wz at *
            obtain ⟨⟨c0, c1⟩, ⟨d0, d1, d2⟩, ⟨f0, f1, f2⟩, v0, v1, v2⟩ := hT.at_
            go_upto_region 22 with fail
            clear c0 c1 d0 d1 d2 f0 f1 f2 v0 v1 v2
            have hT2 := hT.put2 (C + 1)
            clear hT
            generalize wz.setCell ⟨w8.heap.size, 2, none⟩ (.int .i64 (C + 1)) = wy at *
            obtain ⟨⟨c0, c1⟩, ⟨d0, d1, d2⟩, ⟨f0, f1, f2⟩, v0, v1, v2⟩ := hT2.at_
            go_upto_region 24 with fail
            clear c0 c1 d0 d1 d2 f0 f1 f2 v0 v1 v2
            have hT3 := (hT2.put2 0).put1 (K + 1)
            clear hT2
            generalize (wy.setCell ⟨w8.heap.size, 2, none⟩ (.int .i64 0)).setCell ⟨w8.heap.size, 1, none⟩ (.int .i64 (K + 1)) = wx at *
            obtain ⟨⟨c0, c1⟩, ⟨d0, d1, d2⟩, ⟨f0, f1, f2⟩, v0, v1, v2⟩ := hT3.at_
            go_wp2_with fail
            go_ret
            exact ⟨rfl, hT3.bel⟩
        · rw [if_neg hc] at hnx
          have hcb : (C + 1 == s.columns) = false := by simpa using hc
          have hkb : (K == s.lines) = false := by simp; omega
          obtain ⟨g1, g2, g3⟩ := hnx
          rw [g1, g2, g3] at he
          unfold spotV at he
          subst he
          clear g1 g2 g3
          go_upto_region 21 with fail
          have hT : ST w (w10.alloc (.cells #[.int .i64 F, .int .i64 K, .int .i64 (C + 1)] 60)) w.heap.size w8.heap.size w10.heap.size s F K C F K (C + 1) :=
            ⟨hS10.below ((Below.refl _ _).alloc (Nat.le_refl _) _) hw10', by rw [((Below.refl _ _).alloc (Nat.le_refl _) _).block _ hw10]; exact hQ10, SP.laid F K (C + 1) (Below.refl _ _), hB10.alloc hB10.size _, hw8, hw10⟩
          clear hS10 hQ10 hB10
          generalize w10.alloc (.cells #[.int .i64 F, .int .i64 K, .int .i64 (C + 1)] 60) = wz at *
          obtain ⟨⟨c0, c1⟩, ⟨d0, d1, d2⟩, ⟨f0, f1, f2⟩, v0, v1, v2⟩ := hT.at_
          go_upto_region 22 with fail
          clear c0 c1 d0 d1 d2 f0 f1 f2 v0 v1 v2
          have hT2 := hT.put2 (C + 1)
          clear hT
          generalize wz.setCell ⟨w8.heap.size, 2, none⟩ (.int .i64 (C + 1)) = wy at *
          obtain ⟨⟨c0, c1⟩, ⟨d0, d1, d2⟩, ⟨f0, f1, f2⟩, v0, v1, v2⟩ := hT2.at_
          go_wp2_with fail
          go_ret
          exact ⟨rfl, hT2.bel⟩
  · have he := hn hto
    subst he
    clear hy hn hP6
    have hw6' : w.heap.size < w6.heap.size := by omega
    by_cases ht0 : t < 0
    · go_wp2_with fail
      go_ret
      exact ⟨rfl, hB6⟩
    · by_cases ht1 : 1099511627776 ≤ t
      · go_wp2_with fail
        go_ret
        exact ⟨rfl, hB6⟩
      · obtain ⟨F, K, C, e1, e2, e3, hok, heq, hF, hnx⟩ := spot_step hm (show 0 ≤ t by omega) (show t < 1099511627776 by omega)
        have E1 := Lib.hid e1
        have E2 := Lib.hid e2
        have E3 := Lib.hid e3
        have HQ := Lib.hid heq
        have HN := Lib.hid hnx
        have HK := Lib.hid hok
        clear e1 e2 e3 heq hnx hok
        go_wp2_with fail
        clear c0 c1 c2 c3 c4 c5 c6
        (try clear d0 d1 d2)
        rw [← HV.out]
        refine (spot_any _ s t).mono ?_
        rintro e w8 ⟨⟨he, _⟩, hb⟩
        have he := he ⟨hm, by omega, by omega⟩
        rw [E1.out, E2.out, E3.out] at he
        unfold spotV at he
        subst he
        have hS8 : SB w8 w.heap.size s := hS6.below hb (by omega)
        have hB8 : Below w.heap.size w w8 := hB6.trans (hb.mono hB6.size)
        have hw8 : w.heap.size < w8.heap.size := by have := hb.size; (try simp at this); omega
        clear hb hS6 hB6
        obtain ⟨c0, c1, c2, c3, c4, c5, c6⟩ := hS8
        have hS8 : SB w8 w.heap.size s := ⟨c0, c1, c2, c3, c4, c5, c6⟩
        go_wp2_with fail
        clear c0 c1 c2 c3 c4 c5 c6
        rw [← HV.out]
        refine (time_any _ s F K C).mono ?_
        rintro e w9 ⟨⟨he, _⟩, hb⟩
        have he := he HK.out
        rw [HQ.out] at he
        subst he
        have hz := hb.size
        simp at hz
        have hS9 : SB w9 w.heap.size s := (hS8.below ((Below.refl _ _).alloc (Nat.le_refl _) _) hw8).below hb (by simp; omega)
        have hQ9 : w9.heap[w8.heap.size]? = some (.cells #[.int .i64 F, .int .i64 K, .int .i64 C] 60 (0, 0)) := by
          rw [hb.block _ (by simp)]
          exact heap_alloc_new _ _
        have hB9 : Below w.heap.size w w9 := (hB8.alloc hB8.size _).trans (hb.mono (by have := hB8.size; simp; omega))
        have hw9 : w8.heap.size < w9.heap.size := by omega
        have hw9' : w.heap.size < w9.heap.size := by omega
        clear hb hz hS8 hB8
        obtain ⟨c0, c1, c2, c3, c4, c5, c6⟩ := hS9
        have hS9 : SB w9 w.heap.size s := ⟨c0, c1, c2, c3, c4, c5, c6⟩
        go_wp2_with fail
        clear c0 c1 c2 c3 c4 c5 c6
        rw [← HV.out]
        refine (spot_any _ s (t + 1)).mono ?_
        rintro e w10 ⟨⟨he, _⟩, hb⟩
        have he := he ⟨hm, by omega, by omega⟩
        have hS10 : SB w10 w.heap.size s := hS9.below hb hw9'
        have hQ10 : w10.heap[w8.heap.size]? = some (.cells #[.int .i64 F, .int .i64 K, .int .i64 C] 60 (0, 0)) := by
          rw [hb.block _ hw9]
          exact hQ9
        have hB10 : Below w.heap.size w w10 := hB9.trans (hb.mono hB9.size)
        have hw10 : w8.heap.size < w10.heap.size := by have := hb.size; omega
        have hw10' : w.heap.size < w10.heap.size := by omega
        clear hb hS9 hB9 hQ9
        have hnx := HN.out
        obtain ⟨F0, K0, K1, C0, C1⟩ := HK.out.2.1
        by_cases hc : C + 1 = s.columns
        · rw [if_pos hc] at hnx
          have hcb : (C + 1 == s.columns) = true := by simpa using hc
          have HC := Lib.hid hc
          clear hc
          by_cases hk : K + 1 = s.lines
          · rw [if_pos hk] at hnx
            have hkb : (K + 1 == s.lines) = true := by simpa using hk
            have HKK := Lib.hid hk
            clear hk
            obtain ⟨g1, g2, g3⟩ := hnx
            rw [g1, g2, g3] at he
            unfold spotV at he
            subst he
            clear g1 g2 g3
            go_upto_region 21 with fail
            have hT : ST w (w10.alloc (.cells #[.int .i64 (F + 1), .int .i64 0, .int .i64 0] 60)) w.heap.size w8.heap.size w10.heap.size s F K C (F + 1) 0 0 :=
              ⟨hS10.below ((Below.refl _ _).alloc (Nat.le_refl _) _) hw10', by rw [((Below.refl _ _).alloc (Nat.le_refl _) _).block _ hw10]; exact hQ10, SP.laid (F + 1) 0 0 (Below.refl _ _), hB10.alloc hB10.size _, hw8, hw10⟩
            clear hS10 hQ10 hB10
            generalize w10.alloc (.cells #[.int .i64 (F + 1), .int .i64 0, .int .i64 0] 60) = wz at *
            obtain ⟨⟨c0, c1⟩, ⟨d0, d1, d2⟩, ⟨f0, f1, f2⟩, v0, v1, v2⟩ := hT.at_
            go_upto_region 22 with fail
            clear c0 c1 d0 d1 d2 f0 f1 f2 v0 v1 v2
            have hT2 := hT.put2 (C + 1)
            clear hT
            generalize wz.setCell ⟨w8.heap.size, 2, none⟩ (.int .i64 (C + 1)) = wy at *
            obtain ⟨⟨c0, c1⟩, ⟨d0, d1, d2⟩, ⟨f0, f1, f2⟩, v0, v1, v2⟩ := hT2.at_
            go_upto_region 24 with fail
            clear c0 c1 d0 d1 d2 f0 f1 f2 v0 v1 v2
            have hT3 := (hT2.put2 0).put1 (K + 1)
            clear hT2
            generalize (wy.setCell ⟨w8.heap.size, 2, none⟩ (.int .i64 0)).setCell ⟨w8.heap.size, 1, none⟩ (.int .i64 (K + 1)) = wx at *
            obtain ⟨⟨c0, c1⟩, ⟨d0, d1, d2⟩, ⟨f0, f1, f2⟩, v0, v1, v2⟩ := hT3.at_
            go_upto_region 26 with fail
            clear c0 c1 d0 d1 d2 f0 f1 f2 v0 v1 v2
            have hT4 := (hT3.put1 0).put0 (F + 1)
            clear hT3
            generalize (wx.setCell ⟨w8.heap.size, 1, none⟩ (.int .i64 0)).setCell ⟨w8.heap.size, 0, none⟩ (.int .i64 (F + 1)) = wv at *
            obtain ⟨⟨c0, c1⟩, ⟨d0, d1, d2⟩, ⟨f0, f1, f2⟩, v0, v1, v2⟩ := hT4.at_
            go_wp2_with fail
            go_ret
            exact ⟨rfl, hT4.bel⟩
          · rw [if_neg hk] at hnx
            have hkb : (K + 1 == s.lines) = false := by simpa using hk
            obtain ⟨g1, g2, g3⟩ := hnx
            rw [g1, g2, g3] at he
            unfold spotV at he
            subst he
            clear g1 g2 g3
            go_upto_region 21 with fail
            have hT : ST w (w10.alloc (.cells #[.int .i64 F, .int .i64 (K + 1), .int .i64 0] 60)) w.heap.size w8.heap.size w10.heap.size s F K C F (K + 1) 0 :=
              ⟨hS10.below ((Below.refl _ _).alloc (Nat.le_refl _) _) hw10', by rw [((Below.refl _ _).alloc (Nat.le_refl _) _).block _ hw10]; exact hQ10, SP.laid F (K + 1) 0 (Below.refl _ _), hB10.alloc hB10.size _, hw8, hw10⟩
            clear hS10 hQ10 hB10
            generalize w10.alloc (.cells #[.int .i64 F, .int .i64 (K + 1), .int .i64 0] 60) = wz at *
            obtain ⟨⟨c0, c1⟩, ⟨d0, d1, d2⟩, ⟨f0, f1, f2⟩, v0, v1, v2⟩ := hT.at_
            go_upto_region 22 with fail
            clear c0 c1 d0 d1 d2 f0 f1 f2 v0 v1 v2
            have hT2 := hT.put2 (C + 1)
            clear hT
            generalize wz.setCell ⟨w8.heap.size, 2, none⟩ (.int .i64 (C + 1)) = wy at *
            obtain ⟨⟨c0, c1⟩, ⟨d0, d1, d2⟩, ⟨f0, f1, f2⟩, v0, v1, v2⟩ := hT2.at_
            go_upto_region 24 with fail
            clear c0 c1 d0 d1 d2 f0 f1 f2 v0 v1 v2
            have hT3 := (hT2.put2 0).put1 (K + 1)
            clear hT2
            generalize (wy.setCell ⟨w8.heap.size, 2, none⟩ (.int .i64 0)).setCell ⟨w8.heap.size, 1, none⟩ (.int .i64 (K + 1)) = wx at *
            obtain ⟨⟨c0, c1⟩, ⟨d0, d1, d2⟩, ⟨f0, f1, f2⟩, v0, v1, v2⟩ := hT3.at_
            go_wp2_with fail
            go_ret
            exact ⟨rfl, hT3.bel⟩
        · rw [if_neg hc] at hnx
          have hcb : (C + 1 == s.columns) = false := by simpa using hc
          have hkb : (K == s.lines) = false := by simp; omega
          obtain ⟨g1, g2, g3⟩ := hnx
          rw [g1, g2, g3] at he
          unfold spotV at he
          subst he
          clear g1 g2 g3
          go_upto_region 21 with fail
          have hT : ST w (w10.alloc (.cells #[.int .i64 F, .int .i64 K, .int .i64 (C + 1)] 60)) w.heap.size w8.heap.size w10.heap.size s F K C F K (C + 1) :=
            ⟨hS10.below ((Below.refl _ _).alloc (Nat.le_refl _) _) hw10', by rw [((Below.refl _ _).alloc (Nat.le_refl _) _).block _ hw10]; exact hQ10, SP.laid F K (C + 1) (Below.refl _ _), hB10.alloc hB10.size _, hw8, hw10⟩
          clear hS10 hQ10 hB10
          generalize w10.alloc (.cells #[.int .i64 F, .int .i64 K, .int .i64 (C + 1)] 60) = wz at *
          obtain ⟨⟨c0, c1⟩, ⟨d0, d1, d2⟩, ⟨f0, f1, f2⟩, v0, v1, v2⟩ := hT.at_
          go_upto_region 22 with fail
          clear c0 c1 d0 d1 d2 f0 f1 f2 v0 v1 v2
          have hT2 := hT.put2 (C + 1)
          clear hT
          generalize wz.setCell ⟨w8.heap.size, 2, none⟩ (.int .i64 (C + 1)) = wy at *
          obtain ⟨⟨c0, c1⟩, ⟨d0, d1, d2⟩, ⟨f0, f1, f2⟩, v0, v1, v2⟩ := hT2.at_
          go_wp2_with fail
          go_ret
          exact ⟨rfl, hT2.bel⟩

theorem walk_TstateBack (w : World) (s : Scr) (_ : s.wf) (t : Int) (ht : (Lit.int .i64 t).wf = true) (p : Int × Int × Int) (_ : SpotWf p) : Calls Try.prog 11 #[s.val, .int .i64 t, spotV p.1 p.2.1 p.2.2] w fun e w' => e = .returned (.bool true) ∧ Below w.heap.size w w' := by
  by_cases h : s.May
  · exact back_may w s t _ _ _ h ht
  · exact back_not w s t _ _ _ h
end Go.Proofs.Ythimgmcekhgclaa
