
/- Count: how many events of each kind. -/
import Derived.Test.YtileglkimbkkgaaK14
namespace Go.Proofs.Ytileglkimbkkgaa
open Go.RowKit
set_option linter.unusedSimpArgs false
set_option linter.unusedVariables false

/-- Thirteen numbers, as cells. -/
def ctA (f : Nat → Int) : Array Value := #[.int .i64 (f 0), .int .i64 (f 1), .int .i64 (f 2), .int .i64 (f 3), .int .i64 (f 4), .int .i64 (f 5), .int .i64 (f 6), .int .i64 (f 7), .int .i64 (f 8), .int .i64 (f 9), .int .i64 (f 10), .int .i64 (f 11), .int .i64 (f 12)]
def ctV (f : Nat → Int) : Value := .agg (ctA f)
def CT (w : World) (b : Nat) (f : Nat → Int) : Prop := w.heap[b]? = some (.cells (ctA f) 45 (0, 0))
theorem CT.at_ {w : World} {b : Nat} {f : Nat → Int} (h : CT w b f) (i : Nat) (hi : i < 13) : w.cell? ⟨b, i, none⟩ = some (.int .i64 (f i)) := by
  rw [cell_of_row _ _ _ _ _ _ h]
  match i, hi with
  | 0, _ | 1, _ | 2, _ | 3, _ | 4, _ | 5, _ | 6, _ | 7, _ | 8, _ | 9, _ | 10, _ | 11, _ | 12, _ => rfl
theorem CT.free {w : World} {b : Nat} {f : Nat → Int} (h : CT w b f) (i : Nat) : w.frozen? ⟨b, i, none⟩ = false := frozen_of_row w b i _ _ h
theorem CT.lt {w : World} {b : Nat} {f : Nat → Int} (h : CT w b f) : b < w.heap.size := (Array.getElem?_eq_some_iff.1 h).1
theorem CT.keep {w w' : World} {b : Nat} {f : Nat → Int} (h : CT w b f) (hb : w'.heap[b]? = w.heap[b]?) : CT w' b f := hb.trans h
theorem CT.below {w w' : World} {b B : Nat} {f : Nat → Int} (h : CT w b f) (hb : Below B w w') (hB : b < B) : CT w' b f := h.keep (hb.block _ hB)
theorem CT.laid (w : World) (f : Nat → Int) : CT (w.alloc (.cells (ctA f) 45)) w.heap.size f := heap_alloc_new _ _
theorem CT.more {w : World} {b : Nat} {f : Nat → Int} (h : CT w b f) (o : Obj) : CT (w.alloc o) b f := h.below ((Below.refl w.heap.size _).alloc (Nat.le_refl _) _) h.lt
def upF (f : Nat → Int) (i : Nat) (v : Int) : Nat → Int := fun j => if j = i then v else f j
theorem CT.put {w : World} {b : Nat} {f : Nat → Int} (h : CT w b f) (i : Nat) (hi : i < 13) (v : Int) : CT (w.setCell ⟨b, i, none⟩ (.int .i64 v)) b (upF f i v) := by
  unfold CT at *
  rw [heap_setCell_same w b i _ _ _ h]
  match i, hi with
  | 0, _ | 1, _ | 2, _ | 3, _ | 4, _ | 5, _ | 6, _ | 7, _ | 8, _ | 9, _ | 10, _ | 11, _ | 12, _ => rfl
theorem CT.other {w : World} {b c : Nat} {f : Nat → Int} (h : CT w b f) (hc : c ≠ b) (i : Nat) (v : Value) : CT (w.setCell ⟨c, i, none⟩ v) b f := h.keep (Below.heap_setCell _ _ _ _ (fun e => hc e.symm))
theorem ct_ext {f g : Nat → Int} (h : ∀ i, i < 13 → f i = g i) : ctA f = ctA g := by
  unfold ctA
  rw [h 0 (by decide), h 1 (by decide), h 2 (by decide), h 3 (by decide), h 4 (by decide), h 5 (by decide), h 6 (by decide), h 7 (by decide), h 8 (by decide), h 9 (by decide), h 10 (by decide), h 11 (by decide), h 12 (by decide)]
theorem CT.ext {w : World} {b : Nat} {f g : Nat → Int} (h : CT w b f) (e : ∀ i, i < 13 → f i = g i) : CT w b g := by
  unfold CT at *
  rw [h, ct_ext e]

/-- How many events of a kind there are. -/
def isK (i : Nat) (y : Ev) : Bool := decide (y.kind = i) && (chipOf y.kind != 0)
def cntF (M : List Ev) (i : Nat) : Int := (M.countP (isK i) : Nat)
theorem cntF_le (M : List Ev) (i : Nat) : 0 ≤ cntF M i ∧ cntF M i ≤ M.length := ⟨by unfold cntF; omega, by unfold cntF; have := List.countP_le_length (p := isK i) (l := M); omega⟩
theorem cntF_take (M : List Ev) (k i : Nat) (hk : k < M.length) : cntF (M.take (k + 1)) i = cntF (M.take k) i + (if isK i (M.getD k evZ) = true then 1 else 0) := by
  unfold cntF
  rw [List.take_succ_eq_append_getElem hk, List.countP_append, List.getD_eq_getElem?_getD, List.getElem?_eq_getElem hk]
  simp only [Option.getD_some, List.countP_cons, List.countP_nil]
  split <;> simp

set_option maxRecDepth 100000 in
theorem results_ct {fn : Func} {p : Tmp} (h : fn.results = #[.cell p 45]) (tmps : Array Value) (w : World) (b : Nat) (f : Nat → Int) (hp : tmps.getD p undef = .pointer (some ⟨b, 0, none⟩)) (hS : CT w b f) :
    (results fn tmps).run Try.prog w = .ok (ctV f) w := by
  have c0 := hS.at_ 0 (by decide)
  have c1 := hS.at_ 1 (by decide)
  have c2 := hS.at_ 2 (by decide)
  have c3 := hS.at_ 3 (by decide)
  have c4 := hS.at_ 4 (by decide)
  have c5 := hS.at_ 5 (by decide)
  have c6 := hS.at_ 6 (by decide)
  have c7 := hS.at_ 7 (by decide)
  have c8 := hS.at_ 8 (by decide)
  have c9 := hS.at_ 9 (by decide)
  have c10 := hS.at_ 10 (by decide)
  have c11 := hS.at_ 11 (by decide)
  have c12 := hS.at_ 12 (by decide)
  rw [results_cell1 h, hp]
  unfold ctV ctA
  go_simp

set_option maxRecDepth 100000 in
set_option maxHeartbeats 2000000 in
theorem count_any (w : World) (x : Ls) (h : LsAt w w.heap.size x) (hN : x.l.length ≤ 1048576) :
    Calls Try.prog 31 #[x.val] w fun e w' => e = .returned (ctV (cntF x.l)) ∧ Below w.heap.size w w' := by
  have hcap := h.cap
  have hle := h.le
  unfold maxLen at hcap
  unfold Ls.val
  go_enter Try.func31, Try.ntmps31
  go_wp2_with fail
  have hz0 : CT ((w.alloc (.cells (ctA fun _ => 0) 45)).alloc (.cells (ctA fun _ => 0) 45)) w.heap.size (fun _ => 0) := (CT.laid w _).more _
  have hz1 : CT ((w.alloc (.cells (ctA fun _ => 0) 45)).alloc (.cells (ctA fun _ => 0) 45)) (w.heap.size + 1) (fun _ => 0) := by have := CT.laid (w.alloc (.cells (ctA fun _ => 0) 45)) (fun _ => 0); rwa [World.size_alloc] at this
  have hbz : Below w.heap.size w ((w.alloc (.cells (ctA fun _ => 0) 45)).alloc (.cells (ctA fun _ => 0) 45)) := ((Below.refl _ w).alloc (Nat.le_refl _) _).alloc (by simp) _
  unfold ctA at hz0 hz1 hbz
  have HZ0 := Lib.hid hz0
  have HZ1 := Lib.hid hz1
  have HBZ := Lib.hid hbz
  clear hz0 hz1 hbz
  go_loopw [8] (fun i wr => ∃ k : Nat, k ≤ x.l.length ∧ i = .int .i64 k ∧ CT wr w.heap.size (fun _ => 0) ∧ CT wr (w.heap.size + 1) (cntF (x.l.take k)) ∧ Below w.heap.size w wr) (fun i _ => x.l.length - (intOf i).toNat)
  case atStart => exact ⟨0, Nat.zero_le _, rfl, HZ0.out, HZ1.out.ext (fun i hi => rfl), HBZ.out⟩
  case round =>
    clear HZ0 HZ1 HBZ
    obtain ⟨k, hk, rfl, hz, hc, hb⟩ := hrel
    by_cases hlt : k < x.l.length
    · have hft := fun i => cntF_take x.l k i hlt
      obtain ⟨b, o, hA, hb1, hat⟩ := h.at_ (by omega)
      have hu := (hat k hlt).keep (hb.block b hb1)
      obtain ⟨y, hy⟩ : ∃ y, x.l.getD k evZ = y := ⟨_, rfl⟩
      rw [show x.l.getD k ⟨0, 0, 0, 0, 0, 0⟩ = y from hy] at hu
      simp only [hy] at hft
      obtain ⟨d0, d1, d2, d3, d4, d5⟩ := hu
      have hle2 := cntF_le (x.l.take k)
      have hlen : (x.l.take k).length ≤ k := by simp; omega
      have HF := Lib.hid hft
      have HZ := Lib.hid hz
      have HC := Lib.hid hc
      clear hft hy hat
      rw [hA]
      by_cases hk0 : chipOf y.kind = 0
      · have hne : (chipOf y.kind != 0) = false := by simp [hk0]
        have HK := Lib.hid hne
        clear hk0 hz hc hle2
        go_wp2_with (go_at_call 64; refine (chip_any _ _).mono ?_; rintro e w' ⟨rfl, rfl⟩)
        go_roundw
        case rel =>
          refine ⟨k + 1, by omega, by go_num, HZ.out.more _, (HC.out.more _).ext fun i hi => ?_, hb.alloc hb.size _⟩
          rw [HF.out, if_neg (by simp [isK, HK.out]), Int.add_zero]
        case measure => simp [intOf]; omega
      · have hne : (chipOf y.kind != 0) = true := by simp [hk0]
        obtain ⟨m, hm, hm13⟩ : ∃ m : Nat, y.kind = m ∧ m < 13 := by
          have : 1 ≤ y.kind ∧ y.kind ≤ 12 := by unfold chipOf at hk0; (repeat' split at hk0) <;> omega
          exact ⟨y.kind.toNat, by omega, by omega⟩
        have HM := Lib.hid hm
        have hce := (hc.more (evO y)).at_ m hm13
        have hfr := (hc.more (evO y)).free m
        have hv := hle2 m
        rw [hm] at d3 hne
        unfold evO at hce hfr
        rw [hm] at hce hfr
        have HK := Lib.hid hne
        have hml := hm13
        obtain ⟨v, hvd⟩ : ∃ v, cntF (x.l.take k) m = v := ⟨_, rfl⟩
        rw [hvd] at hce hv
        have HV := Lib.hid hvd
        clear hk0 hz hc hle2 hm hvd
        go_wp2_with (go_at_call 64; refine (chip_any _ _).mono ?_; rintro e w' ⟨rfl, rfl⟩)
        refine ⟨⟨k + 1, by omega, by go_num, (HZ.out.more _).other (by omega) m _, ?_, (hb.alloc hb.size _).setCell (p := ⟨w.heap.size + 1, m, none⟩) (by simp) _⟩, by simp [intOf]; omega⟩
        refine ((HC.out.more _).put m hml (v + 1)).ext fun i hi => ?_
        rw [HF.out]
        unfold upF
        by_cases e : i = m
        · subst e
          rw [if_pos rfl, HV.out, if_pos (by simp [isK, HM.out, HK.out])]
        · rw [if_neg e, if_neg (by simp [isK, HM.out]; intro h1; omega), Int.add_zero]
    · obtain rfl : k = x.l.length := by omega
      rw [List.take_length] at hc
      have HC := Lib.hid hc
      have hlen := cntF_le x.l
      obtain ⟨f, hf⟩ : ∃ f, cntF x.l = f := ⟨_, rfl⟩
      rw [hf] at hc HC
      have c0 := hc.at_ 0 (by decide)
      have c1 := hc.at_ 1 (by decide)
      have c2 := hc.at_ 2 (by decide)
      have c3 := hc.at_ 3 (by decide)
      have c4 := hc.at_ 4 (by decide)
      have c5 := hc.at_ 5 (by decide)
      have c6 := hc.at_ 6 (by decide)
      have c7 := hc.at_ 7 (by decide)
      have c8 := hc.at_ 8 (by decide)
      have c9 := hc.at_ 9 (by decide)
      have c10 := hc.at_ 10 (by decide)
      have c11 := hc.at_ 11 (by decide)
      have c12 := hc.at_ 12 (by decide)
      have z0 := hz.free 0
      have z1 := hz.free 1
      have z2 := hz.free 2
      have z3 := hz.free 3
      have z4 := hz.free 4
      have z5 := hz.free 5
      have z6 := hz.free 6
      have z7 := hz.free 7
      have z8 := hz.free 8
      have z9 := hz.free 9
      have z10 := hz.free 10
      have z11 := hz.free 11
      have z12 := hz.free 12
      have y0 := hz.at_ 0 (by decide)
      have y1 := hz.at_ 1 (by decide)
      have y2 := hz.at_ 2 (by decide)
      have y3 := hz.at_ 3 (by decide)
      have y4 := hz.at_ 4 (by decide)
      have y5 := hz.at_ 5 (by decide)
      have y6 := hz.at_ 6 (by decide)
      have y7 := hz.at_ 7 (by decide)
      have y8 := hz.at_ 8 (by decide)
      have y9 := hz.at_ 9 (by decide)
      have y10 := hz.at_ 10 (by decide)
      have y11 := hz.at_ 11 (by decide)
      have y12 := hz.at_ 12 (by decide)
      have HZ := Lib.hid hz
      have HFF := Lib.hid hf
      clear hc hz hf hlen
      have HCT := Lib.hid ((((((((((((((HZ.out.put 0 (by decide) (f 0)).put 1 (by decide) (f 1)).put 2 (by decide) (f 2)).put 3 (by decide) (f 3)).put 4 (by decide) (f 4)).put 5 (by decide) (f 5)).put 6 (by decide) (f 6)).put 7 (by decide) (f 7)).put 8 (by decide) (f 8)).put 9 (by decide) (f 9)).put 10 (by decide) (f 10)).put 11 (by decide) (f 11)).put 12 (by decide) (f 12)).ext (g := f) fun i hi => match i, hi with | 0, _ | 1, _ | 2, _ | 3, _ | 4, _ | 5, _ | 6, _ | 7, _ | 8, _ | 9, _ | 10, _ | 11, _ | 12, _ => rfl)
      have HBB := Lib.hid ((((((((((((((hb.setCell (p := ⟨w.heap.size, 0, none⟩) (Nat.le_refl _) (.int .i64 (f 0))).setCell (p := ⟨w.heap.size, 1, none⟩) (Nat.le_refl _) (.int .i64 (f 1))).setCell (p := ⟨w.heap.size, 2, none⟩) (Nat.le_refl _) (.int .i64 (f 2))).setCell (p := ⟨w.heap.size, 3, none⟩) (Nat.le_refl _) (.int .i64 (f 3))).setCell (p := ⟨w.heap.size, 4, none⟩) (Nat.le_refl _) (.int .i64 (f 4))).setCell (p := ⟨w.heap.size, 5, none⟩) (Nat.le_refl _) (.int .i64 (f 5))).setCell (p := ⟨w.heap.size, 6, none⟩) (Nat.le_refl _) (.int .i64 (f 6))).setCell (p := ⟨w.heap.size, 7, none⟩) (Nat.le_refl _) (.int .i64 (f 7))).setCell (p := ⟨w.heap.size, 8, none⟩) (Nat.le_refl _) (.int .i64 (f 8))).setCell (p := ⟨w.heap.size, 9, none⟩) (Nat.le_refl _) (.int .i64 (f 9))).setCell (p := ⟨w.heap.size, 10, none⟩) (Nat.le_refl _) (.int .i64 (f 10))).setCell (p := ⟨w.heap.size, 11, none⟩) (Nat.le_refl _) (.int .i64 (f 11))).setCell (p := ⟨w.heap.size, 12, none⟩) (Nat.le_refl _) (.int .i64 (f 12))))
      go_wp2_with fail
      refine bodyPost_ret (results_ct rfl _ _ w.heap.size f rfl HCT.out) rfl ?_
      rw [HFF.out]
      exact ⟨rfl, HBB.out⟩
end Go.Proofs.Ytileglkimbkkgaa
