
/- The reference's Spot, Time. -/
import Derived.Test.YtljgpaiojeffcaaH5
import Derived.Test.YtljgpaiojeffcaaX5
namespace Go.Proofs.Ytljgpaiojeffcaa
open Go.RowKit
set_option linter.unusedSimpArgs false
set_option linter.unusedVariables false
set_option maxRecDepth 100000

theorem spot_new (w : World) (s : Scr) (b : World) (hb : Below ((w.alloc (scO s)).alloc (.cells #[.int .i64 0, .int .i64 0, .int .i64 0] 45)).heap.size ((w.alloc (scO s)).alloc (.cells #[.int .i64 0, .int .i64 0, .int .i64 0] 45)) b) :
    Below w.heap.size w b ∧ SB b w.heap.size s ∧ b.heap[w.heap.size + 1]? = some (.cells #[.int .i64 0, .int .i64 0, .int .i64 0] 45) ∧ w.heap.size + 1 < b.heap.size := by
  have hb1 := hb.size
  simp at hb1
  refine ⟨(((Below.refl _ _).alloc (Nat.le_refl _) _).alloc (by simp) _).trans (hb.mono (by simp; omega)), SB.laid s ((((Below.refl _ _).alloc (by simp) _)).trans (hb.mono (by simp))), ?_, by omega⟩
  rw [hb.block _ (by simp)]
  have := heap_alloc_new (w.alloc (scO s)) (.cells #[.int .i64 0, .int .i64 0, .int .i64 0] 45)
  simpa using this

/-- A block that is a spot. -/
def PW (w : World) (b : Nat) (f l c : Int) : Prop := w.heap[b]? = some (.cells #[.int .i64 f, .int .i64 l, .int .i64 c] 45 (0, 0))
theorem PW.sp {w : World} {b : Nat} {f l c : Int} (h : PW w b f l c) : SP w b f l c := by
  constructor <;> (rw [cell_of_row _ _ _ _ _ _ h]; rfl)
theorem PW.free {w : World} {b : Nat} {f l c : Int} (h : PW w b f l c) (i : Nat) : w.frozen? ⟨b, i, none⟩ = false := frozen_of_row w b i _ _ h
theorem PW.lt {w : World} {b : Nat} {f l c : Int} (h : PW w b f l c) : b < w.heap.size := (Array.getElem?_eq_some_iff.1 h).1
theorem PW.below {w w' : World} {b B : Nat} {f l c : Int} (h : PW w b f l c) (hb : Below B w w') (hB : b < B) : PW w' b f l c := (hb.block _ hB).trans h
abbrev putSp (w : World) (b : Nat) (f l c : Int) : World := ((w.setCell ⟨b, 0, none⟩ (.int .i64 f)).setCell ⟨b, 1, none⟩ (.int .i64 l)).setCell ⟨b, 2, none⟩ (.int .i64 c)
theorem putSp_pw {w : World} {b : Nat} {x y z : Int} (h : PW w b x y z) (f l c : Int) : PW (putSp w b f l c) b f l c := by
  unfold PW at *
  have h0 : (w.setCell ⟨b, 0, none⟩ (.int .i64 f)).heap[b]? = some (.cells #[.int .i64 f, .int .i64 y, .int .i64 z] 45 (0, 0)) := by rw [heap_setCell_same _ b 0 _ _ _ h]; rfl
  have h1 : ((w.setCell ⟨b, 0, none⟩ (.int .i64 f)).setCell ⟨b, 1, none⟩ (.int .i64 l)).heap[b]? = some (.cells #[.int .i64 f, .int .i64 l, .int .i64 z] 45 (0, 0)) := by rw [heap_setCell_same _ b 1 _ _ _ h0]; rfl
  have h2 : (((w.setCell ⟨b, 0, none⟩ (.int .i64 f)).setCell ⟨b, 1, none⟩ (.int .i64 l)).setCell ⟨b, 2, none⟩ (.int .i64 c)).heap[b]? = some (.cells #[.int .i64 f, .int .i64 l, .int .i64 c] 45 (0, 0)) := by rw [heap_setCell_same _ b 2 _ _ _ h1]; rfl
  exact h2
theorem putSp_below (w : World) (b : Nat) (f l c : Int) {B : Nat} (hB : B ≤ b) : Below B w (putSp w b f l c) :=
  (((Below.refl B w).setCell (p := ⟨b, 0, none⟩) hB _).setCell (p := ⟨b, 1, none⟩) hB _).setCell (p := ⟨b, 2, none⟩) hB _
theorem save_set {S : Nat → Prop} {w w1 : World} (h : Save S w w1) (b i : Nat) (v : Value) (hS : S b) : Save S w (w1.setCell ⟨b, i, none⟩ v) := by
  have hb := (Below.refl b w1).setCell (p := ⟨b, i, none⟩) (Nat.le_refl _) v
  refine h.trans ⟨hb.os, hb.tape, hb.output, hb.size, fun k hk hn => ?_⟩
  exact heap_setCell_other _ _ _ _ (fun e => hn (e ▸ hS))
theorem results_sp {fn : Func} {p u : Tmp} (h : fn.results = #[.cell p 45, .tmp u]) (tmps : Array Value) (w : World) (b : Nat) (f l c : Int) (e : Value) (hp : tmps.getD p undef = .pointer (some ⟨b, 0, none⟩)) (hu : tmps.getD u undef = e) (hS : PW w b f l c) :
    (results fn tmps).run Try.prog w = .ok (.tuple #[spotV f l c, e]) w := by
  rw [results_cell_tmp h, hp, hu]
  obtain ⟨c0, c1, c2⟩ := hS.sp
  unfold spotV
  go_simp

set_option maxHeartbeats 2000000 in
theorem rspot_any (w : World) (s : Scr) (t : Int) : Calls Try.prog 17 #[s.val, .int .i64 t] w fun e w' => ((s.May ∧ 0 ≤ t ∧ t ≤ 1099511627776 → e = .returned (.tuple #[spotV (t / s.len) (t % s.len / s.columns) (t % s.len % s.columns), .int .i64 0])) ∧ (¬ (s.May ∧ 0 ≤ t ∧ t ≤ 1099511627776) → e = .returned (.tuple #[spotV 0 0 0, .int .i64 2]))) ∧ Below w.heap.size w w' := by
  unfold Scr.val
  go_enter Try.func17, Try.ntmps17
  go_wp2_with fail
  by_cases hm : s.May
  · refine (rcheck_yes s hm _).mono ?_
    rintro e w2 ⟨rfl, hb⟩
    obtain ⟨hB, hS, hP, hlt⟩ := spot_new w s w2 hb
    clear hb
    have d0 : w2.cell? ⟨w.heap.size + 1, 0, none⟩ = some (.int .i64 0) := by rw [cell_of_row _ _ _ _ _ _ hP]; rfl
    have d1 : w2.cell? ⟨w.heap.size + 1, 1, none⟩ = some (.int .i64 0) := by rw [cell_of_row _ _ _ _ _ _ hP]; rfl
    have d2 : w2.cell? ⟨w.heap.size + 1, 2, none⟩ = some (.int .i64 0) := by rw [cell_of_row _ _ _ _ _ _ hP]; rfl
    have g0 := frozen_of_row w2 (w.heap.size + 1) 0 _ _ hP
    have g1 := frozen_of_row w2 (w.heap.size + 1) 1 _ _ hP
    have g2 := frozen_of_row w2 (w.heap.size + 1) 2 _ _ hP
    go_wp2_with fail
    refine (rmay_any _ _).mono ?_
    rintro e w3 ⟨rfl, rfl⟩
    by_cases h0 : 0 ≤ t ∧ t ≤ 1099511627776
    · rw [decide_eq_true h0]
      obtain ⟨hl, hL0, hL1⟩ := Scr.len_may hm
      have hC := hm 1 (by omega)
      simp only [Scr.asks] at hC
      obtain ⟨ht0, ht1⟩ := h0
      generalize hLe : s.len = L at *
      have HLE := Lib.hid hLe
      clear hl hLe
      have hdiv : t.tdiv L = t / L := Int.tdiv_eq_ediv_of_nonneg ht0
      have hmod : t.tmod L = t % L := Int.tmod_eq_emod_of_nonneg ht0
      have hr0 : 0 ≤ t % L := Int.emod_nonneg t (by omega)
      have hr1 : t % L < L := Int.emod_lt_of_pos t (by omega)
      have hq0 : 0 ≤ t / L := Int.ediv_nonneg ht0 (by omega)
      have hq1 : t / L ≤ t := Int.ediv_le_self L ht0
      have hk0 : 0 ≤ t % L / s.columns := Int.ediv_nonneg hr0 (by omega)
      have hk1 : t % L / s.columns ≤ t % L := Int.ediv_le_self _ hr0
      have hdiv2 : (t % L).tdiv s.columns = t % L / s.columns := Int.tdiv_eq_ediv_of_nonneg hr0
      have hmod2 : (t % L).tmod s.columns = t % L % s.columns := Int.tmod_eq_emod_of_nonneg hr0
      obtain ⟨c0, c1, c2, c3, c4, c5, c6⟩ := hS
      have hS : SB w2 w.heap.size s := ⟨c0, c1, c2, c3, c4, c5, c6⟩
      go_wp2_with fail
      clear c0 c1 c2 c3 c4 c5 c6 d0 d1 d2 g0 g1 g2
      refine (HLE.out ▸ rlen_any w2 s : Calls Try.prog 15 #[s.val] w2 fun e w' => e = .returned (.int .i64 L) ∧ Below w2.heap.size w2 w').mono ?_
      rintro e w3 ⟨rfl, sE⟩
      have hB := hB.trans (sE.mono hB.size)
      have hP : w3.heap[w.heap.size + 1]? = some (.cells #[.int .i64 0, .int .i64 0, .int .i64 0] 45) := by rw [sE.block _ hlt]; exact hP
      have hS := hS.below sE (by omega)
      have hlt3 : w.heap.size + 1 < w3.heap.size := by have := sE.size; omega
      clear sE
      obtain ⟨S, hSi⟩ : ∃ S : Nat → Prop, ∀ i, S i ↔ i = w.heap.size + 1 := ⟨_, fun _ => Iff.rfl⟩
      have HS := Lib.hid hSi
      have hs := fun p : Later S w3 => hS.below (p.ok.below (B := w.heap.size + 1) (by omega) (fun k hk => by have := (hSi k).1 hk; omega)) (by omega)
      clear hSi
      have c0 := fun p => (hs p).c0
      have c1 := fun p => (hs p).c1
      have c2 := fun p => (hs p).c2
      have c3 := fun p => (hs p).c3
      have c4 := fun p => (hs p).c4
      have c5 := fun p => (hs p).c5
      have c6 := fun p => (hs p).c6
      clear hs
      go_upto_region 2 with fail
      refine region_ S (by kernel_rfl) ?_
      refine seg_ [0, 1, 4, 5, 6, 7, 8, 9, 10, 11] 5 _ (by kernel_rfl) (by kernel_rfl) (by kernel_rfl) (by simp only [pickOps, mask, plain, List.getElem?_toArray, List.getElem?_cons_zero, List.getElem?_cons_succ, if_true]; rfl) ?_
      repeat (go_big_quiet_step (fail))
      refine wpQuiet_nil ?_
      clear c0 c1 c2 c3 c4 c5 c6
      refine callx_ (i := 2) rfl (by kernel_rfl) (by kernel_rfl) ?_
      intro nn
      unfold Oper.does
      go_simp
      refine (HLE.out ▸ rlen_any { w3 with drawn := nn } s : Calls Try.prog 15 #[s.val] { w3 with drawn := nn } fun e w' => e = .returned (.int .i64 L) ∧ Below w3.heap.size { w3 with drawn := nn } w').mono ?_
      rintro e w4 ⟨rfl, hb⟩
      refine ⟨_, rfl, same_ (Save.drawn S w3 nn) (Save.of_below hb) ?_⟩
      have hB4 : Below w.heap.size w w4 := hB.trans (((Save.drawn (fun _ => False) w3 nn).all.mono hB.size).trans (hb.mono hB.size))
      have hP4 : PW w4 (w.heap.size + 1) 0 0 0 := (hb.block _ hlt3).trans hP
      clear hb
      refine seg_ [3] 3 _ (by kernel_rfl) (by kernel_rfl) (by kernel_rfl) (by simp only [pickOps, mask, plain, List.getElem?_toArray, List.getElem?_cons_zero, List.getElem?_cons_succ, if_true]; rfl) ?_
      repeat (go_big_quiet_step (fail))
      refine wpQuiet_nil ?_
      refine calm_ (i := 12) (.agg #[.int .i64 (t / L), .int .i64 (t % L / s.columns), .int .i64 (t % L % s.columns)]) rfl (by kernel_rfl) (by kernel_rfl) (by kernel_rfl) (by kernel_rfl) ?_ ?_
      · intro wz sz
        unfold Oper.does
        go_simp
        exact ⟨_, rfl⟩
      go_simp
      refine callx_ (i := 13) rfl (by kernel_rfl) (by kernel_rfl) ?_
      intro nn
      have hB5 : Below w.heap.size w { w4 with drawn := nn } := hB4.trans ((Save.drawn (fun _ => False) w4 nn).all.mono hB4.size)
      have hP5 : PW { w4 with drawn := nn } (w.heap.size + 1) 0 0 0 := hP4
      have hV5 := Save.drawn S w4 nn
      generalize hw5 : ({ w4 with drawn := nn } : World) = w5 at *
      have hlt5 := hP5.lt
      obtain ⟨d0, d1, d2⟩ := hP5.sp
      have g0 := hP5.free 0
      have g1 := hP5.free 1
      have g2 := hP5.free 2
      unfold Oper.does
      go_simp
      clear d0 d1 d2 g0 g1 g2
      refine turn_ (S1 := fun _ => False) hV5 (save_set (save_set (save_set (Save.refl S w5) _ 0 _ ((HS.out _).2 rfl)) _ 1 _ ((HS.out _).2 rfl)) _ 2 _ ((HS.out _).2 rfl)) (fun i hi h => h.elim) ?_
      have hP6 := putSp_pw hP5 (t / L) (t % L / s.columns) (t % L % s.columns)
      have hB6 := hB5.trans (putSp_below w5 (w.heap.size + 1) (t / L) (t % L / s.columns) (t % L % s.columns) (B := w.heap.size) (by omega))
      refine seg_ [14] 0 _ (by kernel_rfl) (by kernel_rfl) (by kernel_rfl) (by simp only [pickOps, mask, plain, List.getElem?_toArray, List.getElem?_cons_zero, List.getElem?_cons_succ, if_true]; rfl) ?_
      repeat (go_big_quiet_step (fail))
      refine wpQuiet_nil ?_
      refine end_ (by kernel_rfl) ?_
      intro wE hE
      have hP7 := hP6.below hE.all hP6.lt
      have hB7 := hB6.trans (hE.all.mono hB6.size)
      clear hE hB6 hP6 hB5 hP5 hB4 hP4
      go_wp2_with fail
      (try simp only [Exit.inBlock, Exit.then])
      exact bodyPost_ret (v := .tuple #[spotV (t / L) (t % L / s.columns) (t % L % s.columns), .int .i64 0]) (results_sp rfl _ _ _ _ _ _ _ rfl rfl hP7) rfl ⟨⟨fun _ => by rw [HLE.out], fun h => absurd ⟨hm, ht0, ht1⟩ h⟩, hB7⟩
    · rw [decide_eq_false h0]
      go_wp2_with fail
      (try simp only [Exit.inBlock, Exit.then])
      refine bodyPost_ret (v := .tuple #[spotV 0 0 0, .int .i64 2]) ?_ rfl ⟨⟨fun h => absurd h.2 h0, fun _ => rfl⟩, ?_⟩
      · rw [results_cell_tmp rfl]
        go_simp
        rfl
      · (repeat' (first | exact hB | refine Below.drew ?_ | refine Below.setCell ?_ (Nat.le_succ _) _))
  · refine (rcheck_no s hm _).mono ?_
    rintro e w2 ⟨rfl, hb⟩
    obtain ⟨hB, hS, hP, hlt⟩ := spot_new w s w2 hb
    clear hb
    have d0 : w2.cell? ⟨w.heap.size + 1, 0, none⟩ = some (.int .i64 0) := by rw [cell_of_row _ _ _ _ _ _ hP]; rfl
    have d1 : w2.cell? ⟨w.heap.size + 1, 1, none⟩ = some (.int .i64 0) := by rw [cell_of_row _ _ _ _ _ _ hP]; rfl
    have d2 : w2.cell? ⟨w.heap.size + 1, 2, none⟩ = some (.int .i64 0) := by rw [cell_of_row _ _ _ _ _ _ hP]; rfl
    have g0 := frozen_of_row w2 (w.heap.size + 1) 0 _ _ hP
    have g1 := frozen_of_row w2 (w.heap.size + 1) 1 _ _ hP
    have g2 := frozen_of_row w2 (w.heap.size + 1) 2 _ _ hP
    go_wp2_with fail
    (try simp only [Exit.inBlock, Exit.then])
    refine bodyPost_ret (v := .tuple #[spotV 0 0 0, .int .i64 2]) ?_ rfl ⟨⟨fun h => absurd h.1 hm, fun _ => rfl⟩, ?_⟩
    · rw [results_cell_tmp rfl]
      go_simp
      rfl
    · (repeat' (first | exact hB | refine Below.drew ?_ | refine Below.setCell ?_ (Nat.le_succ _) _))
end Go.Proofs.Ytljgpaiojeffcaa
