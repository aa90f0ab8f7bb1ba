
/- BankSlots, walked. -/
import Derived.Test.YtflbedomkeophaaSN
namespace Go.Proofs.Ytflbedomkeophaa
open Go.RowKit
set_option linter.unusedSimpArgs false
set_option linter.unusedVariables false
set_option maxRecDepth 100000

theorem slB_even (A B : Int) (h : B % 2 = 0) : 8 ≤ slB A B 0 := by
  unfold slB; rw [if_pos h]
  show 8 ≤ 8 + (if bitP A 16 = true then 1 else 0) + (if bitP B 4 = true then 2 else 0)
  omega
theorem slB_odd (A B : Int) (hB : 0 ≤ B ∧ B < 256) (h : ¬ B % 2 = 0) (k : Nat) : slB A B k ≤ 7 := by
  unfold slB; rw [if_neg h]
  have h2 : (B / 2 % 4).toNat = 0 ∨ (B / 2 % 4).toNat = 1 ∨ (B / 2 % 4).toNat = 2 ∨ (B / 2 % 4).toNat = 3 := by omega
  rcases h2 with h2 | h2 | h2 | h2 <;> rw [h2] <;> (match k with
    | 0 => decide
    | 1 => decide
    | 2 => decide
    | 3 => decide
    | n + 4 => simp)
theorem slB_some (A B : Int) (hA : 0 ≤ A ∧ A < 256) (hB : 0 ≤ B ∧ B < 256) (k : Nat) (h0 : 0 < k) : slB A B k ≤ 7 := by
  by_cases h : B % 2 = 0
  · unfold slB; rw [if_pos h]
    match k, h0 with
    | 1, _ => show 5 ≤ 7; decide
    | 2, _ => show 2 ≤ 7; decide
    | n + 3, _ => show (A % 8).toNat ≤ 7; omega
  · exact slB_odd A B hB h k
theorem told_in (A B v : Int) (more : Bool) (hA : 0 ≤ A ∧ A < 256) (hB : 0 ≤ B ∧ B < 256) (hv : 0 ≤ v ∧ v < 256) : (0 ≤ tA A v more ∧ tA A v more < 256) ∧ 0 ≤ tB A B v more ∧ tB A B v more < 256 := by
  unfold tA tB
  split
  · exact ⟨by decide, by decide⟩
  · cases more
    · exact ⟨hv, hB⟩
    · exact ⟨hA, hv⟩
abbrev pageO (A B : Int) : Obj := .cells #[.int .u8 A, .int .u8 B] 34

theorem laid_kept {w7 W w8 : World} {o : Array Value} {t : TypeId} (hW : W = (w7.alloc (.cells o t)).drew) (hb : Below W.heap.size W w8) : w8.heap[w7.heap.size]? = some (.cells o t (0, 0)) := by
  rw [hb.block _ (by rw [hW]; simp), hW]
  exact heap_alloc_new _ _

theorem leaf_a {w w7 w8 : World} {A B a b : Int} {q : Nat} (hP : w7.heap[q]? = some (pageO A B)) (hB : Below w.heap.size w w7) (hb : Below w7.drew.heap.size w7.drew w8) :
    (w8.alloc (pageO a b)).heap[w8.heap.size]? = some (pageO a b) ∧ (w8.alloc (pageO a b)).heap[q]? = some (pageO A B) ∧ Below w.heap.size w (w8.alloc (pageO a b)) := by
  have hb' : Below w7.heap.size w7 w8 := ⟨hb.os, hb.tape, hb.output, hb.size, hb.block⟩
  have hq := (Array.getElem?_eq_some_iff.1 hP).1
  have h1 := hB.trans (hb'.mono hB.size)
  exact ⟨heap_alloc_new _ _, (heap_alloc_old w8 _ (Nat.lt_of_lt_of_le hq hb'.size)).trans ((hb'.block _ hq).trans hP), h1.alloc h1.size _⟩
theorem leaf_b {w w7 w8 : World} {A B a b : Int} {q : Nat} (hP : w7.heap[q]? = some (pageO A B)) (hB : Below w.heap.size w w7) (hb : Below (w7.alloc (pageO 0 0)).drew.heap.size (w7.alloc (pageO 0 0)).drew w8) (hz : w8.heap[w7.heap.size]? = some (pageO 0 0)) :
    ((w8.setCell ⟨w7.heap.size, 0, none⟩ (.int .u8 a)).setCell ⟨w7.heap.size, 1, none⟩ (.int .u8 b)).heap[w7.heap.size]? = some (pageO a b) ∧ ((w8.setCell ⟨w7.heap.size, 0, none⟩ (.int .u8 a)).setCell ⟨w7.heap.size, 1, none⟩ (.int .u8 b)).heap[q]? = some (pageO A B) ∧ Below w.heap.size w ((w8.setCell ⟨w7.heap.size, 0, none⟩ (.int .u8 a)).setCell ⟨w7.heap.size, 1, none⟩ (.int .u8 b)) := by
  have hq := (Array.getElem?_eq_some_iff.1 hP).1
  have hb' : Below w7.heap.size w7 w8 := ((Below.refl w7.heap.size w7).alloc (Nat.le_refl _) (pageO 0 0)).trans (Below.mono (⟨hb.os, hb.tape, hb.output, hb.size, hb.block⟩ : Below (w7.alloc (pageO 0 0)).heap.size (w7.alloc (pageO 0 0)) w8) (by simp))
  have h1 := hB.trans (hb'.mono hB.size)
  have hs := hB.size
  have e1 : (w8.setCell ⟨w7.heap.size, 0, none⟩ (.int .u8 a)).heap[w7.heap.size]? = some (pageO a 0) := by rw [heap_setCell_same w8 _ 0 _ _ _ hz]; rfl
  refine ⟨by rw [heap_setCell_same _ _ 1 _ _ _ e1]; rfl, ?_, (h1.setCell (p := ⟨w7.heap.size, 0, none⟩) hs _).setCell (p := ⟨w7.heap.size, 1, none⟩) hs _⟩
  rw [heap_setCell_other _ _ _ _ (by simp; omega), heap_setCell_other _ _ _ _ (by simp; omega)]
  exact (hb'.block _ hq).trans hP

set_option maxHeartbeats 4000000 in
theorem walk_BankSlots (w : World) (A0 B0 : Int) (hA0 : 0 ≤ A0 ∧ A0 < 256) (hB0 : 0 ≤ B0 ∧ B0 < 256) (P : Option Addr) (c n : Nat) (l : List Int) (hn : n = l.length) (h : RB w w.heap.size P c l) :
    Calls Try.prog 6 #[pgV A0 B0, .slice P n c] w fun e w' => e = .returned (.bool true) ∧ Below w.heap.size w w' := by
  subst hn
  have HR := Lib.hid h
  clear h
  unfold pgV
  by_cases hlong : 60 < l.length
  · go_enter Try.func6, Try.ntmps6
    go_wp2_with (go_at_call 10; (with_reducible refine (lives13 _).mono ?_); rintro e w1 ⟨rfl, hb1⟩)
    go_ret
    exact ⟨rfl, ((Below.refl _ _).alloc (Nat.le_refl _) _).trans (hb1.mono (by simp))⟩
  · go_enter Try.func6, Try.ntmps6
    go_upto_region 5 with (go_at_call 10; (with_reducible refine (lives13 _).mono ?_); rintro e w1 ⟨rfl, hb1⟩)
    have hp1 : w1.heap[w.heap.size]? = some (pageO A0 B0) := (hb1.block _ (by simp)).trans (heap_alloc_new _ _)
    have hbb : Below w.heap.size w w1 := ((Below.refl _ _).alloc (Nat.le_refl _) _).trans (hb1.mono (by simp))
    have HP := Lib.hid hp1
    have HB := Lib.hid hbb
    clear hp1 hbb hb1
    go_wp2_with fail
    go_loopw [5] (fun i wr => ∃ (k : Nat) (A B : Int), i = .int .i64 k ∧ k ≤ l.length ∧ Hid ((0 ≤ A ∧ A < 256) ∧ 0 ≤ B ∧ B < 256) ∧ Hid (wr.heap[w.heap.size]? = some (pageO A B)) ∧ Hid (Below w.heap.size w wr)) (fun i _ => l.length - (intOf i).toNat)
    case atStart => exact ⟨0, A0, B0, rfl, by omega, Lib.hid ⟨hA0, hB0⟩, HP, HB⟩
    case round =>
      rename World => wr
      obtain ⟨k, A, B, rfl, hk, HAB, HP, HB⟩ := hrel
      by_cases hlt : k < l.length
      · obtain ⟨hA, hB⟩ := HAB.out
        obtain ⟨hA1, hA2⟩ := id hA
        obtain ⟨hB1, hB2⟩ := id hB
        obtain ⟨pb, po, rfl, hpb, hcell⟩ := HR.out.pos (by omega)
        have hv := HR.out.bytes.getD k
        have HS := Lib.hid fun w => b_slots A B w hA hB
        unfold slV pgV at HS
        have p0 : wr.cell? ⟨w.heap.size, 0, none⟩ = some (.int .u8 A) := by rw [cell_of_row _ _ _ _ _ _ HP.out]; rfl
        have p1 : wr.cell? ⟨w.heap.size, 1, none⟩ = some (.int .u8 B) := by rw [cell_of_row _ _ _ _ _ _ HP.out]; rfl
        go_upto_region 9 with (go_at_call 21; (with_reducible refine (HS.out _).mono ?_); rintro e w2 ⟨rfl, hb2⟩)
        have hlP := (Array.getElem?_eq_some_iff.1 HP.out).1
        obtain ⟨W6, hW6⟩ : ∃ W6, w2.alloc (.cells #[.int .i64 (slB A B 0 : Nat), .int .i64 (slB A B 1 : Nat), .int .i64 (slB A B 2 : Nat), .int .i64 (slB A B 3 : Nat)] 52) = W6 := ⟨_, rfl⟩
        have h6 : W6.heap[w2.heap.size]? = some (.cells #[.int .i64 (slB A B 0 : Nat), .int .i64 (slB A B 1 : Nat), .int .i64 (slB A B 2 : Nat), .int .i64 (slB A B 3 : Nat)] 52 (0, 0)) := by rw [← hW6]; exact heap_alloc_new _ _
        have hb6 : Below wr.heap.size wr W6 := by rw [← hW6]; exact hb2.alloc hb2.size _
        have HP6 := Lib.hid ((hb6.block _ hlP).trans HP.out)
        have HB6 := Lib.hid (HB.out.trans (hb6.mono HB.out.size))
        obtain ⟨g6, hg6⟩ : ∃ g6, w2.heap.size = g6 := ⟨_, rfl⟩
        rw [hg6] at h6
        rw [hW6, hg6]
        have hc6 : ∀ j, j < 4 → W6.cell? ⟨g6, j, none⟩ = some (.int .i64 (slB A B j : Nat)) := fun j hj => by
          rw [cell_of_row _ _ _ _ _ _ h6]
          match j, hj with
          | 0, _ => rfl
          | 1, _ => rfl
          | 2, _ => rfl
          | 3, _ => rfl
        have HC6 := Lib.hid hc6
        have H6 := Lib.hid h6
        clear hb2 hb6 hW6 hg6 h6 hc6 p0 p1 HS hlP HP HB
        go_wp2_with fail
        go_loop [7] (fun i => ∃ j : Nat, i = .int .i64 j ∧ j ≤ 4) (fun i => 4 - (intOf i).toNat)
        case atStart => exact ⟨0, rfl, by omega⟩
        case round =>
          obtain ⟨j, rfl, hj⟩ := hrel
          by_cases hj4 : j < 4
          · have hc := HC6.out j hj4
            have hs := slB_lt A B hA hB j hj4
            have hs7 := slB_some A B hA hB j
            generalize slB A B j = s at *
            have t1 : ¬ ((s : Nat) : Int) < 0 := by omega
            have t2 : ¬ (11 : Int) < ((s : Nat) : Int) := by omega
            by_cases hj0 : 0 < j
            · have t3 : ¬ (7 : Int) < ((s : Nat) : Int) := by have := hs7 hj0; omega
              have t4 : (0 : Int) < ((j : Nat) : Int) := by omega
              clear hs7
              go_wp2_with fail
              exact ⟨⟨j + 1, by go_num, by omega⟩, by simp [intOf]; omega⟩
            · have t4 : ¬ (0 : Int) < ((j : Nat) : Int) := by omega
              clear hs7
              go_wp2_with fail
              exact ⟨⟨j + 1, by go_num, by omega⟩, by simp [intOf]; omega⟩
          · obtain rfl : j = 4 := by omega
            have p0 : W6.cell? ⟨w.heap.size, 0, none⟩ = some (.int .u8 A) := by rw [cell_of_row _ _ _ _ _ _ HP6.out]; rfl
            have p1 : W6.cell? ⟨w.heap.size, 1, none⟩ = some (.int .u8 B) := by rw [cell_of_row _ _ _ _ _ _ HP6.out]; rfl
            have q0 := HC6.out 0 (by decide)
            have q1 := HC6.out 1 (by decide)
            have q2 := HC6.out 2 (by decide)
            have q3 := HC6.out 3 (by decide)
            have hl6 : w.heap.size < W6.heap.size := (Array.getElem?_eq_some_iff.1 HP6.out).1
            have HX := Lib.hid (Below.refl W6.heap.size W6)
            have HPic := Lib.hid fun w => b_picture A B w
            unfold pgV at HPic
            obtain ⟨pic, hpic⟩ : ∃ pic : Int, (if bitP A 8 = true then 7 else 5) = pic := ⟨_, rfl⟩
            have hp57 : pic = 5 ∨ pic = 7 := by rw [← hpic]; split <;> simp
            rw [hpic] at HPic
            clear hpic
            obtain ⟨s0, hs0⟩ : ∃ s0, slB A B 0 = s0 := ⟨_, rfl⟩
            have hev := slB_even A B
            have hod := slB_odd A B hB
            have HTH := Lib.hid (slB_three A B)
            have hA8 : ((A % 8).toNat : Int) = A % 8 := by omega
            rw [hs0] at q0 hev
            have hod0 := fun h => hod h 0
            rw [hs0] at hod0
            clear hs0 hod
            have hsplit : (B % 2 = 0 ∧ 8 ≤ s0 ∧ slB A B 1 = 5 ∧ slB A B 2 = 2 ∧ slB A B 3 = (A % 8).toNat) ∨ (B % 2 = 1 ∧ s0 ≤ 7) := by
              by_cases he : B % 2 = 0
              · exact .inl ⟨he, hev he, HTH.out he⟩
              · exact .inr ⟨by omega, hod0 he⟩
            clear hev hod0 HTH
            go_upto_region 14 with fail
            go_cut [95] from 47 to 95 (fun c wx => c = .bool false ∧ Below W6.heap.size W6 wx)
            case first =>
              rcases hsplit with ⟨e1, e2, e3, e4, e5⟩ | ⟨e1, e2⟩
              · rw [e3] at q1
                rw [e4] at q2
                rw [e5, hA8] at q3
                clear e3 e4 e5 hA8
                have t1 : ¬ ((s0 : Nat) : Int) < 8 := by omega
                rcases hp57 with rfl | rfl
                all_goals
                  go_wp2_with (go_at_call 12; (with_reducible refine (HPic.out _).mono ?_); rintro e w7 ⟨rfl, hb7⟩; replace HX := Lib.hid (HX.out.trans (hb7.mono HX.out.size)); clear hb7; have p0 : w7.cell? ⟨w.heap.size, 0, none⟩ = some (.int .u8 A) := by { rw [cell_of_row _ _ _ _ _ _ ((HX.out.block _ hl6).trans HP6.out)]; rfl }; have p1 : w7.cell? ⟨w.heap.size, 1, none⟩ = some (.int .u8 B) := by { rw [cell_of_row _ _ _ _ _ _ ((HX.out.block _ hl6).trans HP6.out)]; rfl })
                  go_meet
                  exact ⟨rfl, HX.out⟩
              · have t1 : ¬ (7 : Int) < ((s0 : Nat) : Int) := by omega
                rcases hp57 with rfl | rfl
                all_goals
                  go_wp2_with (go_at_call 12; (with_reducible refine (HPic.out _).mono ?_); rintro e w7 ⟨rfl, hb7⟩; replace HX := Lib.hid (HX.out.trans (hb7.mono HX.out.size)); clear hb7; have p0 : w7.cell? ⟨w.heap.size, 0, none⟩ = some (.int .u8 A) := by { rw [cell_of_row _ _ _ _ _ _ ((HX.out.block _ hl6).trans HP6.out)]; rfl }; have p1 : w7.cell? ⟨w.heap.size, 1, none⟩ = some (.int .u8 B) := by { rw [cell_of_row _ _ _ _ _ _ ((HX.out.block _ hl6).trans HP6.out)]; rfl })
                  go_meet
                  exact ⟨rfl, HX.out⟩
            case rest =>
              obtain ⟨rfl, hcut7⟩ := hcut
              rename World => w7
              have HB7 := Lib.hid (HB6.out.trans (hcut7.mono HB6.out.size))
              have HP7 := Lib.hid ((hcut7.block _ hl6).trans HP6.out)
              clear HX HP6 HC6 H6 HPic q0 q1 q2 q3 p0 p1 hsplit hp57 hA8 hcut7
              have p0 : w7.cell? ⟨w.heap.size, 0, none⟩ = some (.int .u8 A) := by rw [cell_of_row _ _ _ _ _ _ HP7.out]; rfl
              have p1 : w7.cell? ⟨w.heap.size, 1, none⟩ = some (.int .u8 B) := by rw [cell_of_row _ _ _ _ _ _ HP7.out]; rfl
              have hcl : w7.cell? ⟨pb, po + k, none⟩ = some (.int .u8 (l.getD k 0)) := (HB7.out.cell (show pb < w.heap.size from hpb)).trans (hcell k hlt)
              have hl7 := (Array.getElem?_eq_some_iff.1 HP7.out).1
              have hcl2 : (w7.alloc (.cells #[.int .u8 0, .int .u8 0] 34)).cell? ⟨pb, po + k, none⟩ = some (.int .u8 (l.getD k 0)) := (World.cell?_of_block (heap_alloc_old w7 _ (show pb < w7.heap.size by omega))).trans hcl
              have p02 : (w7.alloc (.cells #[.int .u8 0, .int .u8 0] 34)).cell? ⟨w.heap.size, 0, none⟩ = some (.int .u8 A) := (World.cell?_of_block (heap_alloc_old w7 _ hl7)).trans p0
              have p12 : (w7.alloc (.cells #[.int .u8 0, .int .u8 0] 34)).cell? ⟨w.heap.size, 1, none⟩ = some (.int .u8 B) := (World.cell?_of_block (heap_alloc_old w7 _ hl7)).trans p1
              have hv' := hv
              generalize l.getD k 0 = v at *
              have HT := Lib.hid fun more w => b_told A B v more w
              unfold pgV at HT
              go_upto_region 16 with fail
              go_cut [8, 9] from 96 to 107 (fun q e wx => ∃ (gq : Nat) (more : Bool), q = .pointer (some ⟨gq, 0, none⟩) ∧ e = .int .i64 (tE A) ∧ Hid (wx.heap[gq]? = some (pageO (tA A v more) (tB A B v more))) ∧ Hid (wx.heap[w.heap.size]? = some (pageO A B)) ∧ Hid (Below w.heap.size w wx))
              case first =>
                go_region_law (go_simp; go_at_call 23; (with_reducible refine (HT.out _ _).mono ?_); rintro e w8 ⟨rfl, hb8⟩; (try (have z := laid_kept (w7 := w7) (o := #[.int .u8 0, .int .u8 0]) (t := 34) rfl hb8; have z0 : w8.cell? ⟨w7.heap.size, 0, none⟩ = some (.int .u8 0) := (cell_of_row _ _ _ _ _ _ z); have z1 : w8.cell? ⟨w7.heap.size, 1, none⟩ = some (.int .u8 0) := (cell_of_row _ _ _ _ _ _ z); have z2 : w8.frozen? ⟨w7.heap.size, 0, none⟩ = false := frozen_of_row _ _ _ _ _ z; have z3 : w8.frozen? ⟨w7.heap.size, 1, none⟩ = false := frozen_of_row _ _ _ _ _ z)))
                all_goals
                  go_wp2_with fail
                  go_meet
                  first
                    | exact ⟨_, _, rfl, rfl, Lib.hid (leaf_a HP7.out HB7.out hb8).1, Lib.hid (leaf_a HP7.out HB7.out hb8).2.1, Lib.hid (leaf_a HP7.out HB7.out hb8).2.2⟩
                    | exact ⟨_, _, rfl, rfl, Lib.hid (leaf_b HP7.out HB7.out hb8 z).1, Lib.hid (leaf_b HP7.out HB7.out hb8 z).2.1, Lib.hid (leaf_b HP7.out HB7.out hb8 z).2.2⟩
              case rest =>
                obtain ⟨gq, more, rfl, rfl, HQ, HP8, HB8⟩ := hcut
                rename World => w9
                clear HB7 HP7 p0 p1 p02 p12 hcl hcl2 hl7
                have HT2 := Lib.hid (told_in A B v more hA hB hv')
                have d0 : w9.cell? ⟨w.heap.size, 0, none⟩ = some (.int .u8 A) := by rw [cell_of_row _ _ _ _ _ _ HP8.out]; rfl
                have neq0 : ∀ w, (binOp .neq 34 (.agg #[.int .u8 0, .int .u8 0]) (.agg #[.int .u8 0, .int .u8 0])).run Try.prog w = .ok (.bool false) w := fun w => by go_simp
                cases hbit : bitP A 32 with
                | true =>
                  have hQ := HQ.out
                  unfold tA tB pageO at hQ
                  rw [hbit] at hQ
                  simp only [if_true] at hQ
                  have x0 : w9.cell? ⟨gq, 0, none⟩ = some (.int .u8 0) := by rw [cell_of_row _ _ _ _ _ _ hQ]; rfl
                  have x1 : w9.cell? ⟨gq, 1, none⟩ = some (.int .u8 0) := by rw [cell_of_row _ _ _ _ _ _ hQ]; rfl
                  rw [show tE A = 10 by unfold tE; rw [hbit]; rfl]
                  unfold bitP at hbit
                  clear hQ HQ
                  go_wp2_with fail
                  exact ⟨⟨k + 1, A, B, by go_num, by omega, HAB, HP8, HB8⟩, by simp [intOf]; omega⟩
                | false =>
                  rw [show tE A = 0 by unfold tE; rw [hbit]; rfl]
                  unfold bitP at hbit
                  generalize tA A v more = qA at *
                  generalize tB A B v more = qB at *
                  have x0 : w9.cell? ⟨gq, 0, none⟩ = some (.int .u8 qA) := by rw [cell_of_row _ _ _ _ _ _ HQ.out]; rfl
                  have x1 : w9.cell? ⟨gq, 1, none⟩ = some (.int .u8 qB) := by rw [cell_of_row _ _ _ _ _ _ HQ.out]; rfl
                  go_wp2_with (refine wpList_store_row rfl 34 _ _ rfl w.heap.size _ rfl rfl _ _ HP8.out infoPg rfl (by rw [List.all_toArray]; rfl) ?_)
                  exact ⟨⟨k + 1, qA, qB, by go_num, by omega, HT2, Lib.hid (setRow_heap _ _ _ _ _ _ HP8.out), Lib.hid (below_setRow HB8.out (Nat.le_refl _) _)⟩, by simp [intOf]; omega⟩
      · obtain rfl : k = l.length := by omega
        go_wp2_with fail
        go_ret
        exact ⟨rfl, HB.out⟩
end Go.Proofs.Ytflbedomkeophaa
