
/- A screen's bytes: fields, Bytes, Read. -/
import Derived.Test.YtpkmphalhmmbkaaK
import Derived.BigRegion
namespace Go.Proofs.Ytpkmphalhmmbkaa
open Go.RowKit

/-- The pointers to a screen's numbers. -/
def PT (w : World) (g b : Nat) : Prop := ∀ k, k < 7 → w.cell? ⟨g, k, none⟩ = some (.pointer (some ⟨b, k, none⟩))

theorem pt_laid (w : World) (b : Nat) {w' : World} (h : Below (w.heap.size + 1) (w.alloc (.cells #[.pointer (some ⟨b, 0, none⟩), .pointer (some ⟨b, 1, none⟩), .pointer (some ⟨b, 2, none⟩), .pointer (some ⟨b, 3, none⟩), .pointer (some ⟨b, 4, none⟩), .pointer (some ⟨b, 5, none⟩), .pointer (some ⟨b, 6, none⟩)] 78)) w') : PT w' w.heap.size b := by
  intro k hk
  rw [h.cell (by simp), World.cell?_alloc_at _ _ _ _ rfl]
  match k, hk with
  | 0, _ | 1, _ | 2, _ | 3, _ | 4, _ | 5, _ | 6, _ => rfl

set_option maxHeartbeats 2000000 in
set_option maxRecDepth 100000 in
theorem fields_any (w : World) (b : Nat) : Calls Try.prog 62 #[.pointer (some ⟨b, 0, none⟩)] w fun e w' => e = .returned (.slice (some ⟨w.heap.size, 0, none⟩) 7 7) ∧ PT w' w.heap.size b ∧ w.heap.size < w'.heap.size ∧ Below w.heap.size w w' := by
  go_enter Try.func62, Try.ntmps62
  go_wp2_with fail
  go_region
  all_goals (try go_wp2_with fail)
  all_goals go_ret
  all_goals exact ⟨rfl, pt_laid w b (Below.drew (Below.refl _ _)), by simp, ((Below.refl _ _).alloc (Nat.le_refl _) _).drew⟩

/-- A screen's numbers. -/
def Scr.nums (s : Scr) : List Int := [s.lines, s.columns, s.top, s.rows, s.left, s.wide, s.pulse]
/-- Numbers as bytes. -/
def numsB (l : List Int) : List Int := (l.map fun x => numB x.toNat).flatten
theorem numsB_take (l : List Int) (k : Nat) (h : k < l.length) : numsB (l.take (k + 1)) = numsB (l.take k) ++ numB (l.getD k 0).toNat := by
  unfold numsB
  rw [List.take_succ_eq_append_getElem h, List.map_append, List.flatten_append]
  simp [List.getD, h]
theorem numsB_le : ∀ l : List Int, (numsB l).length ≤ 9 * l.length
  | [] => by simp [numsB]
  | x :: l => by
    have h := numsB_le l
    have h1 := (numB_length x.toNat).2
    unfold numsB at *
    simp only [List.map_cons, List.flatten_cons, List.length_append, List.length_cons]
    omega
theorem Scr.may_num {s : Scr} (h : s.May) : ∀ k, k < 7 → 0 ≤ s.nums.getD k 0 ∧ s.nums.getD k 0 ≤ 400 := by
  intro k hk
  have a0 := h 0 (by omega)
  have a1 := h 1 (by omega)
  have a3 := h 3 (by omega)
  have a4 := h 4 (by omega)
  have a5 := h 5 (by omega)
  have a6 := h 6 (by omega)
  have a7 := h 7 (by omega)
  simp only [Scr.asks] at a0 a1 a3 a4 a5 a6 a7
  match k, hk with
  | 0, _ => show 0 ≤ s.lines ∧ s.lines ≤ 400; omega
  | 1, _ => show 0 ≤ s.columns ∧ s.columns ≤ 400; omega
  | 2, _ => show 0 ≤ s.top ∧ s.top ≤ 400; omega
  | 3, _ => show 0 ≤ s.rows ∧ s.rows ≤ 400; omega
  | 4, _ => show 0 ≤ s.left ∧ s.left ≤ 400; omega
  | 5, _ => show 0 ≤ s.wide ∧ s.wide ≤ 400; omega
  | 6, _ => show 0 ≤ s.pulse ∧ s.pulse ≤ 400; omega
theorem SB.nth {w : World} {b : Nat} {s : Scr} (h : SB w b s) : ∀ k, k < 7 → w.cell? ⟨b, k, none⟩ = some (.int .i64 (s.nums.getD k 0)) := by
  intro k hk
  match k, hk with
  | 0, _ => exact h.c0
  | 1, _ => exact h.c1
  | 2, _ => exact h.c2
  | 3, _ => exact h.c3
  | 4, _ => exact h.c4
  | 5, _ => exact h.c5
  | 6, _ => exact h.c6

/-- Bytes, and no error. -/
def BytesOk (B : Nat) (w : World) (l : List Int) (e : Ending) (w' : World) : Prop :=
  ∃ A c, e = .returned (.tuple #[.slice A l.length c, .int .i64 0]) ∧ OB w' B A c l ∧ Below B w w'

set_option maxHeartbeats 2000000 in
set_option maxRecDepth 100000 in
theorem bytes_not (w : World) (s : Scr) (hm : ¬ s.May) : Calls Try.prog 17 #[s.val] w fun e w' => e = .returned (.tuple #[.slice none 0 0, .int .i64 2]) ∧ Below w.heap.size w w' := by
  have hval : s.val = .agg #[.int .i64 s.lines, .int .i64 s.columns, .int .i64 s.top, .int .i64 s.rows, .int .i64 s.left, .int .i64 s.wide, .int .i64 s.pulse] := rfl
  rw [hval]
  have HV := Lib.hid hval
  clear hval
  go_enter Try.func17, Try.ntmps17
  go_wp2_with fail
  rw [← HV.out]
  refine (check_any _ s).mono ?_
  rintro e w2 ⟨h, hb⟩
  have hB2 : Below w.heap.size w w2 := ((Below.refl _ _).alloc (Nat.le_refl _) _).trans (hb.mono (by simp))
  obtain rfl : e = .returned (.int .i64 2) := by
    rcases h with ⟨_, h⟩ | ⟨h, _⟩
    · exact absurd h hm
    · exact h
  clear h hb
  go_wp2_with fail
  go_ret2
  exact ⟨rfl, hB2⟩

set_option maxHeartbeats 2000000 in
set_option maxRecDepth 100000 in
theorem bytes_may (w : World) (s : Scr) (hm : s.May) : Calls Try.prog 17 #[s.val] w (BytesOk w.heap.size w (numsB s.nums)) := by
  have hval : s.val = .agg #[.int .i64 s.lines, .int .i64 s.columns, .int .i64 s.top, .int .i64 s.rows, .int .i64 s.left, .int .i64 s.wide, .int .i64 s.pulse] := rfl
  rw [hval]
  have HV := Lib.hid hval
  clear hval
  go_enter Try.func17, Try.ntmps17
  go_wp2_with fail
  rw [← HV.out]
  refine (check_any _ s).mono ?_
  rintro e w2 ⟨h, hb⟩
  have hS2 : SB w2 w.heap.size s := SB.laid s (hb.mono (by simp))
  have hB2 : Below w.heap.size w w2 := ((Below.refl _ _).alloc (Nat.le_refl _) _).trans (hb.mono (by simp))
  have hw2 : w.heap.size < w2.heap.size := by have := hb.size; simp at this; omega
  obtain rfl : e = .returned (.int .i64 0) := by
    rcases h with ⟨h, _⟩ | ⟨_, h⟩
    · exact h
    · exact absurd hm h
  clear h hb
  go_wp2_with fail
  refine (fields_any _ _).mono ?_
  rintro e w3 ⟨rfl, hP3, hf3, hb⟩
  have hS3 := hS2.below hb hw2
  have hB3 := hB2.trans (hb.mono hB2.size)
  have hw3 : w.heap.size < w3.heap.size := by omega
  clear hb hS2 hB2
  obtain ⟨f, hf⟩ : ∃ f, w2.heap.size = f := ⟨_, rfl⟩
  rw [hf] at hP3 hf3 hw2 ⊢
  clear hf
  go_wp2_with fail
  go_loopw [5, 15] (fun v i wr => ∃ (k : Nat) (A : Option Addr) (c : Nat), k ≤ 7 ∧ i = .int .i64 k ∧ v = .slice A (numsB (s.nums.take k)).length c ∧ OB wr w.heap.size A c (numsB (s.nums.take k)) ∧ SB wr w.heap.size s ∧ PT wr f w.heap.size ∧ f < wr.heap.size ∧ Below w.heap.size w wr) (fun _ i _ => 7 - (intOf i).toNat)
  case atStart => exact ⟨0, none, 0, by omega, rfl, rfl, OB.nil _ _, hS3, hP3, hf3, hB3⟩
  case round =>
    obtain ⟨k, A, c, hk, rfl, rfl, ho, hS, hP, hfr, hB⟩ := hrel
    clear hS3 hP3 hf3 hB3
    by_cases hlt : k < 7
    · obtain ⟨hn0, hn1⟩ := Scr.may_num hm k hlt
      have hc := hS.nth k hlt
      have hp := hP k hlt
      have HT := Lib.hid (numsB_take s.nums k hlt)
      obtain ⟨v, hv⟩ : ∃ v : Nat, s.nums.getD k 0 = (v : Int) := ⟨(s.nums.getD k 0).toNat, by omega⟩
      rw [hv] at hn0 hn1 hc
      have hlb : (numsB (s.nums.take k)).length ≤ 63 := by
        have h1 := numsB_le (s.nums.take k)
        have h2 : (s.nums.take k).length ≤ 7 := by rw [List.length_take]; omega
        omega
      have HVN := Lib.hid hv
      clear hv
      go_wp2_with fail
      clear hc hp
      refine (number_any A _ c (numsB (s.nums.take k)) v wr wr.heap.size rfl ho.rb (Nat.le_refl _) (by omega) (by omega)).mono ?_
      rintro e w9 ⟨A9, c9, rfl, ho9, hb9⟩
      have hB9 := hB.trans (hb9.mono hB.size)
      have hS9 := hS.below hb9 (by omega)
      have hP9 : PT w9 f w.heap.size := fun j hj => (hb9.cell (by exact hfr)).trans (hP j hj)
      have hf9 : f < w9.heap.size := by have := hb9.size; omega
      clear hb9 ho hS hP
      go_wp2_with fail
      go_roundw
      case rel => exact ⟨k + 1, A9, c9, by omega, by go_num, by rw [HT.out, HVN.out, Int.toNat_natCast, List.length_append], by rw [HT.out, HVN.out, Int.toNat_natCast]; exact ho9.mono hB.size, hS9, hP9, hf9, hB9⟩
      case measure => simp [intOf]; omega
    · go_wp2_with fail
      go_ret2
      have HT : s.nums.take k = s.nums := List.take_of_length_le (show s.nums.length ≤ k by show 7 ≤ k; omega)
      rw [HT] at ho
      exact ⟨A, c, by rw [HT]; rfl, ho, hB⟩

/-- What Read reads: k numbers, the place, the error. -/
def rdN (l : List Int) : Nat → List Int × Nat × Int
  | 0 => ([], 0, 0)
  | k + 1 => ((rdN l k).1 ++ [((countSt l (rdN l k).2.1 (rdN l k).2.2 9223372036854775807).1 : Int)], (countSt l (rdN l k).2.1 (rdN l k).2.2 9223372036854775807).2.1, (countSt l (rdN l k).2.1 (rdN l k).2.2 9223372036854775807).2.2)
theorem rdN_length (l : List Int) : ∀ k, (rdN l k).1.length = k
  | 0 => rfl
  | k + 1 => by simp [rdN, rdN_length l k]
def scrOf (x : List Int) : Scr := ⟨x.getD 0 0, x.getD 1 0, x.getD 2 0, x.getD 3 0, x.getD 4 0, x.getD 5 0, x.getD 6 0⟩

/-- A block that is a screen. -/
def SW (w : World) (b : Nat) (s : Scr) : Prop := w.heap[b]? = some (.cells #[.int .i64 s.lines, .int .i64 s.columns, .int .i64 s.top, .int .i64 s.rows, .int .i64 s.left, .int .i64 s.wide, .int .i64 s.pulse] 23 (0, 0))
theorem SW.put {w : World} {b : Nat} {x : List Int} (h : SW w b (scrOf x)) (k : Nat) (hk : k < 7) (hx : x.length = k) (v : Int) : SW (w.setCell ⟨b, k, none⟩ (.int .i64 v)) b (scrOf (x ++ [v])) := by
  unfold SW at *
  rw [heap_setCell_same w b k _ _ _ h]
  match k, hk with
  | 0, _ => obtain rfl := List.length_eq_zero_iff.1 hx; rfl
  | 1, _ => match x, hx with | [a], _ => rfl
  | 2, _ => match x, hx with | [a, b], _ => rfl
  | 3, _ => match x, hx with | [a, b, c], _ => rfl
  | 4, _ => match x, hx with | [a, b, c, d], _ => rfl
  | 5, _ => match x, hx with | [a, b, c, d, e], _ => rfl
  | 6, _ => match x, hx with | [a, b, c, d, e, f], _ => rfl
theorem SW.sb {w : World} {b : Nat} {s : Scr} (h : SW w b s) : SB w b s := by
  constructor <;> (rw [cell_of_row _ _ _ _ _ _ h]; rfl)
theorem SW.free {w : World} {b : Nat} {s : Scr} (h : SW w b s) (i : Nat) : w.frozen? ⟨b, i, none⟩ = false := frozen_of_row w b i _ _ h
theorem SW.lt {w : World} {b : Nat} {s : Scr} (h : SW w b s) : b < w.heap.size := (Array.getElem?_eq_some_iff.1 h).1
theorem SW.keep {w w' : World} {b : Nat} {s : Scr} (h : SW w b s) (hb : w'.heap[b]? = w.heap[b]?) : SW w' b s := hb.trans h
theorem SW.laid (w : World) (s : Scr) : SW (w.alloc (.cells #[.int .i64 s.lines, .int .i64 s.columns, .int .i64 s.top, .int .i64 s.rows, .int .i64 s.left, .int .i64 s.wide, .int .i64 s.pulse] 23)) w.heap.size s := heap_alloc_new _ _
theorem below_grown {w w' : World} {g B : Nat} (hb : w.grownBy w' (some g)) (hg : B ≤ g) (hB : B ≤ w.heap.size) : Below B w w' := ⟨hb.os, hb.tape, hb.output, hb.size, fun k hk => hb.block k (by omega) (fun e => by have := Option.some.inj e; omega)⟩

/-- A screen is stored. -/
abbrev putScr (w : World) (b : Nat) (s : Scr) : World := ((((((w.setCell ⟨b, 0, none⟩ (.int .i64 s.lines)).setCell ⟨b, 1, none⟩ (.int .i64 s.columns)).setCell ⟨b, 2, none⟩ (.int .i64 s.top)).setCell ⟨b, 3, none⟩ (.int .i64 s.rows)).setCell ⟨b, 4, none⟩ (.int .i64 s.left)).setCell ⟨b, 5, none⟩ (.int .i64 s.wide)).setCell ⟨b, 6, none⟩ (.int .i64 s.pulse)
theorem putScr_sw {w : World} {b : Nat} {s0 : Scr} (h : SW w b s0) (s : Scr) : SW (putScr w b s) b s := by
  unfold SW at *
  have h0 : (w.setCell ⟨b, 0, none⟩ (.int .i64 s.lines)).heap[b]? = some (.cells #[.int .i64 s.lines, .int .i64 s0.columns, .int .i64 s0.top, .int .i64 s0.rows, .int .i64 s0.left, .int .i64 s0.wide, .int .i64 s0.pulse] 23 (0, 0)) := by rw [heap_setCell_same _ b 0 _ _ _ h]; rfl
  have h1 : ((w.setCell ⟨b, 0, none⟩ (.int .i64 s.lines)).setCell ⟨b, 1, none⟩ (.int .i64 s.columns)).heap[b]? = some (.cells #[.int .i64 s.lines, .int .i64 s.columns, .int .i64 s0.top, .int .i64 s0.rows, .int .i64 s0.left, .int .i64 s0.wide, .int .i64 s0.pulse] 23 (0, 0)) := by rw [heap_setCell_same _ b 1 _ _ _ h0]; rfl
  have h2 : (((w.setCell ⟨b, 0, none⟩ (.int .i64 s.lines)).setCell ⟨b, 1, none⟩ (.int .i64 s.columns)).setCell ⟨b, 2, none⟩ (.int .i64 s.top)).heap[b]? = some (.cells #[.int .i64 s.lines, .int .i64 s.columns, .int .i64 s.top, .int .i64 s0.rows, .int .i64 s0.left, .int .i64 s0.wide, .int .i64 s0.pulse] 23 (0, 0)) := by rw [heap_setCell_same _ b 2 _ _ _ h1]; rfl
  have h3 : ((((w.setCell ⟨b, 0, none⟩ (.int .i64 s.lines)).setCell ⟨b, 1, none⟩ (.int .i64 s.columns)).setCell ⟨b, 2, none⟩ (.int .i64 s.top)).setCell ⟨b, 3, none⟩ (.int .i64 s.rows)).heap[b]? = some (.cells #[.int .i64 s.lines, .int .i64 s.columns, .int .i64 s.top, .int .i64 s.rows, .int .i64 s0.left, .int .i64 s0.wide, .int .i64 s0.pulse] 23 (0, 0)) := by rw [heap_setCell_same _ b 3 _ _ _ h2]; rfl
  have h4 : (((((w.setCell ⟨b, 0, none⟩ (.int .i64 s.lines)).setCell ⟨b, 1, none⟩ (.int .i64 s.columns)).setCell ⟨b, 2, none⟩ (.int .i64 s.top)).setCell ⟨b, 3, none⟩ (.int .i64 s.rows)).setCell ⟨b, 4, none⟩ (.int .i64 s.left)).heap[b]? = some (.cells #[.int .i64 s.lines, .int .i64 s.columns, .int .i64 s.top, .int .i64 s.rows, .int .i64 s.left, .int .i64 s0.wide, .int .i64 s0.pulse] 23 (0, 0)) := by rw [heap_setCell_same _ b 4 _ _ _ h3]; rfl
  have h5 : ((((((w.setCell ⟨b, 0, none⟩ (.int .i64 s.lines)).setCell ⟨b, 1, none⟩ (.int .i64 s.columns)).setCell ⟨b, 2, none⟩ (.int .i64 s.top)).setCell ⟨b, 3, none⟩ (.int .i64 s.rows)).setCell ⟨b, 4, none⟩ (.int .i64 s.left)).setCell ⟨b, 5, none⟩ (.int .i64 s.wide)).heap[b]? = some (.cells #[.int .i64 s.lines, .int .i64 s.columns, .int .i64 s.top, .int .i64 s.rows, .int .i64 s.left, .int .i64 s.wide, .int .i64 s0.pulse] 23 (0, 0)) := by rw [heap_setCell_same _ b 5 _ _ _ h4]; rfl
  have h6 : (((((((w.setCell ⟨b, 0, none⟩ (.int .i64 s.lines)).setCell ⟨b, 1, none⟩ (.int .i64 s.columns)).setCell ⟨b, 2, none⟩ (.int .i64 s.top)).setCell ⟨b, 3, none⟩ (.int .i64 s.rows)).setCell ⟨b, 4, none⟩ (.int .i64 s.left)).setCell ⟨b, 5, none⟩ (.int .i64 s.wide)).setCell ⟨b, 6, none⟩ (.int .i64 s.pulse)).heap[b]? = some (.cells #[.int .i64 s.lines, .int .i64 s.columns, .int .i64 s.top, .int .i64 s.rows, .int .i64 s.left, .int .i64 s.wide, .int .i64 s.pulse] 23 (0, 0)) := by rw [heap_setCell_same _ b 6 _ _ _ h5]; rfl
  exact h6
theorem putScr_below (w : World) (b : Nat) (s : Scr) {B : Nat} (hB : B ≤ b) : Below B w (putScr w b s) :=
  (((((((Below.refl B w).setCell (p := ⟨b, 0, none⟩) hB _).setCell (p := ⟨b, 1, none⟩) hB _).setCell (p := ⟨b, 2, none⟩) hB _).setCell (p := ⟨b, 3, none⟩) hB _).setCell (p := ⟨b, 4, none⟩) hB _).setCell (p := ⟨b, 5, none⟩) hB _).setCell (p := ⟨b, 6, none⟩) hB _
theorem results_scr {fn : Func} {p u : Tmp} (h : fn.results = #[.cell p 23, .tmp u]) (tmps : Array Value) (w : World) (b : Nat) (s : Scr) (e : Value) (hp : tmps.getD p undef = .pointer (some ⟨b, 0, none⟩)) (hu : tmps.getD u undef = e) (hS : SW w b s) :
    (results fn tmps).run Try.prog w = .ok (.tuple #[s.val, e]) w := by
  rw [results_cell_tmp h, hp, hu]
  obtain ⟨c0, c1, c2, c3, c4, c5, c6⟩ := hS.sb
  unfold Scr.val
  go_simp

set_option maxHeartbeats 4000000 in
set_option maxRecDepth 100000 in
theorem sread_any (A : Option Addr) (c n : Nat) (l : List Int) (w : World) (B : Nat) (hn : n = l.length) (h : RB w B A c l) (hB : B ≤ w.heap.size) (hlen : l.length ≤ 1099511627776) :
    Calls Try.prog 19 #[.slice A n c] w fun e w' => ((endSt l (rdN l 7).2.1 (rdN l 7).2.2 = 0 ∧ (scrOf (rdN l 7).1).May → e = .returned (.tuple #[(scrOf (rdN l 7).1).val, .int .i64 0])) ∧ (¬ (endSt l (rdN l 7).2.1 (rdN l 7).2.2 = 0 ∧ (scrOf (rdN l 7).1).May) → e = .returned (.tuple #[(scrOf []).val, .int .i64 4]))) ∧ Below w.heap.size w w' := by
  subst hn
  go_enter Try.func19, Try.ntmps19
  go_wp2_with fail
  refine (new_any A c _ l _ B rfl ((h.alloc hB _).alloc (by simp; omega) _) (by simp; omega) hlen).mono ?_
  rintro e w2 ⟨g, A2, c2, rfl, hR, hb, hg, ha⟩
  simp at hg ha
  have hZ2 : RdrZ w2 (w.heap.size + 2) g A2 c2 l 0 0 := ⟨hR, by omega, ha⟩
  have hz := hb.size
  simp at hz
  have hS0 : SW w2 w.heap.size (scrOf []) := by
    unfold SW
    rw [hb.block _ (by simp; omega), ((Below.refl _ _).alloc (Nat.le_refl _) _).block _ (by simp)]
    exact SW.laid w (scrOf [])
  have hS1 : SW w2 (w.heap.size + 1) (scrOf []) := by
    have h1 : w2.heap[w.heap.size + 1]? = some (.cells #[.int .i64 0, .int .i64 0, .int .i64 0, .int .i64 0, .int .i64 0, .int .i64 0, .int .i64 0] 23) := by
      rw [hb.block _ (by simp)]
      simpa using heap_alloc_new (w.alloc (.cells #[.int .i64 0, .int .i64 0, .int .i64 0, .int .i64 0, .int .i64 0, .int .i64 0, .int .i64 0] 23)) (.cells #[.int .i64 0, .int .i64 0, .int .i64 0, .int .i64 0, .int .i64 0, .int .i64 0, .int .i64 0] 23)
    exact h1
  have hB2 : Below w.heap.size w w2 := (((Below.refl _ _).alloc (Nat.le_refl _) _).alloc (by simp) _).trans (hb.mono (by simp; omega))
  clear hb hR ha
  go_wp2_with fail
  refine (fields_any _ _).mono ?_
  rintro e w3 ⟨rfl, hP3, hf3, hb⟩
  have hZ3 := hZ2.belowH hb
  have hS03 := hS0.keep (hb.block _ (by omega))
  have hS13 := hS1.keep (hb.block _ (by omega))
  have hB3 := hB2.trans (hb.mono hB2.size)
  have hgf : g < w2.heap.size := hZ2.rdr.lt
  clear hb hZ2 hS0 hS1 hB2
  obtain ⟨f, hf⟩ : ∃ f, w2.heap.size = f := ⟨_, rfl⟩
  rw [hf] at hP3 hf3 hgf hz ⊢
  clear hf
  go_wp2_with fail
  go_loopw [12] (fun i wr => ∃ k : Nat, k ≤ 7 ∧ i = .int .i64 k ∧ SW wr (w.heap.size + 1) (scrOf (rdN l k).1) ∧ SW wr w.heap.size (scrOf []) ∧ PT wr f (w.heap.size + 1) ∧ f < wr.heap.size ∧ RdrZ wr (w.heap.size + 2) g A2 c2 l (rdN l k).2.1 (rdN l k).2.2 ∧ Below w.heap.size w wr) (fun i _ => 7 - (intOf i).toNat)
  case atStart => exact ⟨0, by omega, rfl, hS13, hS03, hP3, hf3, hZ3, hB3⟩
  case round =>
    obtain ⟨k, hk, rfl, hS1, hS0, hP, hfr, hZ, hBr⟩ := hrel
    clear hS13 hS03 hP3 hf3 hZ3 hB3
    have hlk := rdN_length l k
    by_cases hlt : k < 7
    · have hp := hP k hlt
      have HR := Lib.hid (show rdN l (k + 1) = ((rdN l k).1 ++ [((countSt l (rdN l k).2.1 (rdN l k).2.2 9223372036854775807).1 : Int)], (countSt l (rdN l k).2.1 (rdN l k).2.2 9223372036854775807).2.1, (countSt l (rdN l k).2.1 (rdN l k).2.2 9223372036854775807).2.2) from rfl)
      have hrc := rcount_any g A2 c2 l (rdN l k).2.1 (rdN l k).2.2 9223372036854775807 wr hZ.rdr (by omega)
      obtain ⟨r, hr⟩ : ∃ r, countSt l (rdN l k).2.1 (rdN l k).2.2 9223372036854775807 = r := ⟨_, rfl⟩
      rw [hr] at hrc HR
      have HC := Lib.hid hrc
      have HR' := Lib.hid hr
      clear hr hrc
      go_wp2_with fail
      clear hp
      refine HC.out.mono ?_
      rintro e w4 ⟨rfl, hR4, hg4⟩
      have hS14 := hS1.keep (hg4.block _ (by omega) (fun e => by have := Option.some.inj e; omega))
      have hS04 := hS0.keep (hg4.block _ (by omega) (fun e => by have := Option.some.inj e; omega))
      have hP4 : PT w4 f (w.heap.size + 1) := fun j hj => (World.cell?_of_block (hg4.block f hfr (fun e => by have := Option.some.inj e; omega))).trans (hP j hj)
      have hf4 : f < w4.heap.size := by have := hg4.size; omega
      have hB4 := hBr.trans (below_grown hg4 (by omega) hBr.size)
      have hZ4 := hZ.to hR4
      clear hS1 hS0 hP hZ hBr hR4 hg4
      have hfz := hS14.free k
      have hcl := hS14.sb.nth k hlt
      have hgw := grown_setCell w4 (w.heap.size + 1) k (.int .i64 r.1)
      have hput := hS14.put k hlt hlk r.1
      have HP := Lib.hid hput
      have HG := Lib.hid hgw
      clear hput hgw
      go_wp2_with fail
      go_roundw
      case rel =>
        refine ⟨k + 1, by omega, by go_num, by rw [HR.out]; exact HP.out, hS04.keep (HG.out.block _ (by omega) (fun e => by have := Option.some.inj e; omega)), fun j hj => (World.cell?_of_block (HG.out.block f hf4 (fun e => by have := Option.some.inj e; omega))).trans (hP4 j hj), by have := HG.out.size; omega, ?_, hB4.trans (below_grown HG.out (by omega) hB4.size)⟩
        rw [HR.out]
        exact hZ4.other HG.out (.inl (by omega))
      case measure => simp [intOf]; omega
    · go_wp2_with fail
      refine (rend_any g A2 c2 l _ _ wr hZ.rdr).mono ?_
      rintro e w4 ⟨rfl, hR4, hg4⟩
      have hS14 := hS1.keep (hg4.block _ (by omega) (fun e => by have := Option.some.inj e; omega))
      have hS04 := hS0.keep (hg4.block _ (by omega) (fun e => by have := Option.some.inj e; omega))
      have hB4 := hBr.trans (below_grown hg4 (by omega) hBr.size)
      clear hS1 hS0 hP hZ hBr hR4 hg4
      obtain rfl : k = 7 := by omega
      obtain ⟨x, hx⟩ : ∃ x, endSt l (rdN l 7).2.1 (rdN l 7).2.2 = x := ⟨_, rfl⟩
      obtain ⟨s, hs⟩ : ∃ s, scrOf (rdN l 7).1 = s := ⟨_, rfl⟩
      simp only [hx, hs] at hS14 ⊢
      have HX := Lib.hid hx
      have HS := Lib.hid hs
      clear hx hs hlk
      have hval : s.val = .agg #[.int .i64 s.lines, .int .i64 s.columns, .int .i64 s.top, .int .i64 s.rows, .int .i64 s.left, .int .i64 s.wide, .int .i64 s.pulse] := rfl
      have HV := Lib.hid hval
      clear hval
      by_cases hx0 : x = 0
      · subst hx0
        obtain ⟨c0, c1, c2', c3, c4, c5, c6⟩ := hS14.sb
        go_wp2_with fail
        clear c0 c1 c2' c3 c4 c5 c6
        rw [← HV.out]
        refine (check_any w4 s).mono ?_
        rintro e w5 ⟨hm, hb⟩
        have hS15 := hS14.keep (hb.block _ (by have := hS14.lt; omega))
        have hS05 := hS04.keep (hb.block _ (by have := hS04.lt; omega))
        have hB5 := hB4.trans (hb.mono hB4.size)
        clear hb hS14 hS04
        obtain ⟨c0, c1, c2', c3, c4, c5, c6⟩ := hS15.sb
        obtain ⟨d0, d1, d2, d3, d4, d5, d6⟩ := hS05.sb
        have g0 := hS05.free 0
        have g1 := hS05.free 1
        have g2 := hS05.free 2
        have g3 := hS05.free 3
        have g4 := hS05.free 4
        have g5 := hS05.free 5
        have g6 := hS05.free 6
        rcases hm with ⟨rfl, hm⟩ | ⟨rfl, hm⟩
        · go_wp2_with fail
          (try simp only [Exit.inBlock, Exit.then])
          exact bodyPost_ret (v := .tuple #[s.val, .int .i64 0]) (results_scr rfl _ _ _ s _ rfl rfl (putScr_sw hS05 s)) rfl ⟨⟨fun _ => by rw [HS.out], fun h => absurd ⟨HX.out, by rw [HS.out]; exact hm⟩ h⟩, hB5.trans (putScr_below _ _ s (Nat.le_refl _))⟩
        · go_wp2_with fail
          (try simp only [Exit.inBlock, Exit.then])
          exact bodyPost_ret (v := .tuple #[(scrOf []).val, .int .i64 4]) (results_scr rfl _ _ _ (scrOf []) _ rfl rfl (putScr_sw hS05 (scrOf []))) rfl ⟨⟨fun h => absurd (HS.out ▸ h.2) hm, fun _ => rfl⟩, hB5.trans (putScr_below _ _ (scrOf []) (Nat.le_refl _))⟩
      · have hxb : (x != 0) = true := by simpa using hx0
        obtain ⟨d0, d1, d2, d3, d4, d5, d6⟩ := hS04.sb
        have g0 := hS04.free 0
        have g1 := hS04.free 1
        have g2 := hS04.free 2
        have g3 := hS04.free 3
        have g4 := hS04.free 4
        have g5 := hS04.free 5
        have g6 := hS04.free 6
        go_wp2_with fail
        (try simp only [Exit.inBlock, Exit.then])
        exact bodyPost_ret (v := .tuple #[(scrOf []).val, .int .i64 4]) (results_scr rfl _ _ _ (scrOf []) _ rfl rfl (putScr_sw hS04 (scrOf []))) rfl ⟨⟨fun h => absurd (HX.out ▸ h.1) hx0, fun _ => rfl⟩, hB4.trans (putScr_below _ _ (scrOf []) (Nat.le_refl _))⟩
end Go.Proofs.Ytpkmphalhmmbkaa
