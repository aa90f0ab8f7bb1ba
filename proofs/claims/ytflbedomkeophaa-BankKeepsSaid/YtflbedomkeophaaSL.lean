
/- Package bank: New, walked. -/
import Derived.Test.YtflbedomkeophaaSK
namespace Go.Proofs.Ytflbedomkeophaa
open Go.RowKit
set_option linter.unusedSimpArgs false
set_option linter.unusedVariables false
set_option maxRecDepth 100000

theorem new_ok {w wr : World} {ps : List Pt} {x : Mo} {sr cs : Nat} (hm : ∀ y ∈ ps, y.may) (h : MB wr (fun k => w.heap.size ≤ k) x sr cs) (hA : x.A = 0) (hB : x.B = 0) (hL : x.L = newL ps) (hb : Below w.heap.size w wr) :
    NewTo w ps (.returned (.tuple #[ptrV x.m, .int .i64 0])) wr := ⟨fun _ => ⟨x, sr, cs, rfl, h, hA, hB, hL⟩, fun h2 => absurd hm h2, hb⟩
theorem new_bad {w wr : World} {ps : List Pt} (hm : ¬ ∀ y ∈ ps, y.may) (hb : Below w.heap.size w wr) :
    NewTo w ps (.returned (.tuple #[.pointer none, .int .i64 2])) wr := ⟨fun h => absurd h hm, fun _ => rfl, hb⟩

set_option maxHeartbeats 4000000 in
theorem bnew_any (w : World) (A : Option Addr) (n c : Nat) (ps : List Pt) (h : PtsAt w w.heap.size A c ps) (hw : ∀ x ∈ ps, x.wf) (hn : n = ps.length) (hN : ps.length ≤ 1000000) :
    Calls Try.prog 7 #[.slice A n c] w (NewTo w ps) := by
  subst hn
  have HL := Lib.hid h
  have HW := Lib.hid hw
  have hcap := h.cap
  have hle := h.le
  unfold maxLen at hcap
  clear h hw
  go_enter Try.func7, Try.ntmps7
  go_wp2_with fail
  go_loopw [12] (fun i wr => ∃ k : Nat, i = .int .i64 k ∧ k ≤ ps.length ∧ Hid (∀ j, j < k → (ps.getD j ptZ).may) ∧ Hid (Below w.heap.size w wr)) (fun i _ => ps.length - (intOf i).toNat)
  case atStart => exact ⟨0, rfl, by omega, Lib.hid fun j hj => absurd hj (Nat.not_lt_zero _), Lib.hid (Below.refl _ _)⟩
  case round =>
    rename World => wr
    obtain ⟨k, rfl, hk, HG, HB⟩ := hrel
    by_cases hlt : k < ps.length
    · obtain ⟨b, o, rfl, hb, -⟩ := HL.out.at_ (by omega)
      obtain ⟨y, hy⟩ : ∃ y, ps.getD k ptZ = y := ⟨_, rfl⟩
      obtain ⟨g0, g1, g2⟩ := (HL.out.below HB.out).one k hlt y hy
      have hmem : y ∈ ps := by rw [← hy, getD_pt ps k hlt]; exact List.getElem_mem _
      have hyw := HW.out y hmem
      have HC := Lib.hid fun w => b_check y.b y.p y.A y.l.length y.c w hyw.p hyw.l
      have HY := Lib.hid hy
      clear hy
      by_cases hmay : y.may
      · rw [(may_of y).2 hmay] at HC
        have HM := Lib.hid hmay
        clear hmay hyw hmem
        go_wp2_with (go_at_call 24; (with_reducible refine (HC.out _).mono ?_); rintro e w2 ⟨rfl, hb2⟩)
        refine ⟨⟨k + 1, by go_num, by omega, Lib.hid fun j hj => ?_, Lib.hid ?_⟩, by simp [intOf]; omega⟩
        · rcases Nat.lt_or_ge j k with h1 | h1
          · exact HG.out j h1
          · obtain rfl : j = k := by omega
            rw [HY.out]; exact HM.out
        · exact (HB.out.alloc HB.out.size _).trans (hb2.mono (by have := HB.out.size; simp; omega))
      · rw [not_may_of y hmay] at HC
        have HM := Lib.hid (show ¬ ∀ x ∈ ps, x.may from fun h => hmay (h y hmem))
        clear hmay hyw hmem
        go_wp2_with (go_at_call 24; (with_reducible refine (HC.out _).mono ?_); rintro e w2 ⟨rfl, hb2⟩)
        go_ret2
        exact new_bad HM.out ((HB.out.alloc HB.out.size _).trans (hb2.mono (by have := HB.out.size; simp; omega)))
    · obtain rfl : k = ps.length := by omega
      have hall : ∀ x ∈ ps, x.may := fun x hx => by
        obtain ⟨i, hi, rfl⟩ := List.mem_iff_getElem.1 hx
        rw [← getD_pt ps i hi]; exact HG.out i hi
      have HA := Lib.hid hall
      clear hall HG
      go_wp2_with fail
      obtain ⟨W0, hW0⟩ : ∃ W0, wr.alloc (.cells #[.bool true, .int .u8 0, .int .u8 0, .slice none 0 0, .slice none 0 0] 62) = W0 := ⟨_, rfl⟩
      have hN0 : Nb w W0 wr.heap.size (.slice none 0 0) [] := by
        rw [← hW0]
        exact ⟨heap_alloc_new _ _, World.ownsRow_nil _ _ _ _, (fun g h => by cases h), List.nodup_nil, HB.out.size, HB.out.alloc HB.out.size _⟩
      have HN0 := Lib.hid hN0
      rw [hW0]
      clear hW0 hN0
      obtain ⟨m, hm⟩ : ∃ m, wr.heap.size = m := ⟨_, rfl⟩
      rw [hm] at HN0 ⊢
      clear hm
      go_loopw [24] (fun i wq => ∃ (G : List Nat) (v : Value), i = .int .i64 G.length ∧ G.length ≤ 12 ∧ Hid (Nb w wq m v G)) (fun i _ => 12 - (intOf i).toNat)
      case atStart => exact ⟨[], _, rfl, by decide, HN0⟩
      case round =>
        rename World => wq
        obtain ⟨G, v, rfl, hk2, HN⟩ := hrel
        by_cases hlt2 : G.length < 12
        · have hnb := run_bank_zero
          have hml : m < wq.heap.size := (Array.getElem?_eq_some_iff.1 HN.out.self).1
          have d3 : wq.cell? ⟨m, 3, none⟩ = some v := by rw [cell_of_row _ _ _ _ _ _ HN.out.self]; rfl
          obtain ⟨i0, hi, hz0, hz1, hz2⟩ := info_parts info_ptr
          have HI := Lib.hid (And.intro hi (And.intro hz0 (And.intro hz1 hz2)))
          clear hi hz0 hz1 hz2
          obtain ⟨W, hW⟩ : ∃ W, (wq.alloc (.cells bk0 65)).alloc (.cells #[ptrV wq.heap.size] 63) = W := ⟨_, rfl⟩
          have hbW : Below wq.heap.size wq W := by rw [← hW]; exact ((Below.refl _ _).alloc (Nat.le_refl _) _).alloc (by simp) _
          have hWs : W.heap.size = wq.heap.size + 2 := by rw [← hW]; simp
          have hcW : ∀ j u, [ptrV wq.heap.size][j]? = some u → W.cell? ((⟨wq.heap.size + 1, 0, none⟩ : Addr).add j) = some u := by
            intro j u hu
            cases j with
            | zero =>
              obtain rfl : ptrV wq.heap.size = u := by simpa using hu
              have e : (⟨wq.heap.size + 1, 0, none⟩ : Addr).add 0 = ⟨wq.heap.size + 1, 0, none⟩ := rfl
              rw [e, ← hW, cell_of_row _ _ _ _ _ (0, 0) (heap_alloc2_new _ _ _)]
              rfl
            | succ j => simp at hu
          have HO := Lib.hid (HN.out.own.kept (gw_below hbW none) (by cases hv : v.ownBlock <;> simp))
          have HCW := Lib.hid hcW
          have hbs := HN.out.bel.size
          have HWe := Lib.hid hW.symm
          clear hcW hbW
          go_wp2_with (at_builtin; refine w_append rfl (.tmp 30) (.tmp 32) 60 rfl w.heap.size 63 i0 (.pointer none) 1 8 Try.underlying60 HI.out.1 HI.out.2.1 HI.out.2.2.1 HI.out.2.2.2 rfl (by decide) v G.length (G.map ptrV) rfl HO.out ⟨wq.heap.size + 1, 0, none⟩ 1 1 [ptrV wq.heap.size] rfl rfl HCW.out (fun u hu => by obtain rfl := List.mem_singleton.1 hu; rfl) (by unfold maxLen; omega) (by omega) (by omega) ?_; intro v' w1 hown' hgrow; obtain ⟨g', c', rfl⟩ := row_shape hown'; obtain ⟨q1, q2, q3⟩ := Nb.step HN.out HWe.out hown' hgrow; have HN2 := Lib.hid q3; clear q3 hown' hgrow)
          exact ⟨⟨G ++ [wq.heap.size], _, by rw [List.length_append]; go_num, by rw [List.length_append]; simp; omega, Lib.hid (HN2.out.twin rfl rfl rfl rfl)⟩, by simp [intOf]; omega⟩
        · have h12 : G.length = 12 := by omega
          obtain ⟨br, cb, gs, hmc⟩ := HN.out.whole h12
          have HM := Lib.hid hmc
          have HBQ := Lib.hid HN.out.bel
          clear hmc HN
          rw [h12]
          clear h12 hk2 hlt2
          go_wp2_with fail
          go_loopw [39] (fun i wc => ∃ (k : Nat), i = .int .i64 k ∧ k ≤ ps.length ∧ Hid (MC wc (fun k => w.heap.size ≤ k) ⟨m, br, cb, gs, 0, 0, newL (ps.take k)⟩ (.slice none 0 0)) ∧ Hid (Below w.heap.size w wc)) (fun i _ => ps.length - (intOf i).toNat)
          case atStart => exact ⟨0, rfl, by omega, HM, HBQ⟩
          case round =>
            rename World => wc
            obtain ⟨k, rfl, hk3, HM3, HB3⟩ := hrel
            by_cases hlt3 : k < ps.length
            · obtain ⟨bb, o, rfl, hbb, -⟩ := HL.out.at_ (by omega)
              obtain ⟨y, hy⟩ : ∃ y, ps.getD k ptZ = y := ⟨_, rfl⟩
              have hL3 := HL.out.below HB3.out
              obtain ⟨g0, g1, g2⟩ := hL3.one k hlt3 y hy
              have hmem : y ∈ ps := by rw [← hy, getD_pt ps k hlt3]; exact List.getElem_mem _
              have hmay := HA.out y hmem
              have hRB := hL3.bytes y hmem
              have hyn := (HW.out y hmem).n
              have HY := Lib.hid hy
              clear hy hL3
              obtain ⟨m1, m2, m3, m4⟩ := id hmay
              have HMay := Lib.hid hmay
              obtain ⟨yb, hyb⟩ : ∃ yb : Nat, y.b = yb := ⟨y.b.toNat, by omega⟩
              obtain ⟨yp, hyp⟩ : ∃ yp : Nat, y.p = yp := ⟨y.p.toNat, by omega⟩
              have hq12 : yb < 12 := by omega
              have hi1 : ((yb : Nat) : Int) < 12 := by omega
              have hi2 : ((yp : Nat) : Int) ≤ 16384 := by omega
              have hbW : Below wc.heap.size wc (wc.alloc y.obj) := (Below.refl _ _).alloc (Nat.le_refl _) _
              have hMW := HM3.out.other (gw_below hbW none) (fun k e => by cases e)
              obtain ⟨-, -, c3, -, -⟩ := hMW.page
              have d1 := hMW.bs yb hq12
              have hrow := hMW.bk yb hq12
              have HMW := Lib.hid hMW
              have HRow := Lib.hid hrow
              have HRB := Lib.hid (hRB.below (Below.alloc (Below.refl _ _) HB3.out.size y.obj))
              have HAll := Lib.hid hRB.bytes
              clear hMW hrow hRB hmay hmem hbW
              unfold Pt.obj at HMW HRow HRB c3 d1
              rw [hyb, hyp] at HMW HRow HRB c3 d1
              rw [hyb] at g0
              rw [hyp] at g1
              obtain ⟨L, hL⟩ : ∃ L, y.l.length = L := ⟨_, rfl⟩
              have HYL := Lib.hid hL
              rw [hL] at g2 m4 HMW HRow HRB c3 d1
              clear hL
              dsimp only at c3 d1 HRow
              unfold ptrV at d1
              generalize y.A = yA at *
              generalize y.c = yc at *
              go_upto_region 16 with fail
              have HN3 := Lib.hid (newL_take ps k hlt3)
              have HE := Lib.hid (show y.b.toNat = yb ∧ y.p.toNat = yp by omega)
              have HLn := Lib.hid (show (newL (ps.take k) yb).length = 16384 from HMW.out.len yb hq12)
              have hne : 0 < L → ¬ 16384 = yp := fun h => by omega
              have HPos : Hid (0 < (y.l.map (Value.int .u8)).length → some (if 16384 = yp then (⟨gs yb, 0, none⟩ : Addr) else ⟨gs yb, yp, none⟩) = some ⟨gs yb, yp, none⟩ ∧ ∃ ad, yA = some ad ∧ ∀ j v, (y.l.map (Value.int .u8))[j]? = some v → (wc.alloc (.cells #[.int .i64 (yb : Nat), .int .i64 (yp : Nat), .slice yA L yc] 29)).drew.cell? (ad.add j) = some v) := Lib.hid fun h0 => by
                refine ⟨?_, rb_src HRB.out.drew h0⟩
                rw [List.length_map, HYL.out] at h0
                rw [if_neg (hne h0)]
              clear hne
              go_region_law ((refine b_copy rfl (.tmp 54) (.tmp 56) 27 27 rfl 5 Try.underlying27 (by kernel_rfl) (some (if 16384 = yp then ⟨gs yb, 0, none⟩ else ⟨gs yb, yp, none⟩)) yA (16384 - yp) (16384 - yp) L yc (by simp [Act.eval, Act.put]) (by simp [Act.eval, Act.put]) (gs yb) yp ((newL (ps.take k) yb).map (Value.int .u8)) 65 HRow.out (y.l.map (Value.int .u8)) (by rw [List.length_map, HYL.out]; exact (Nat.min_eq_left (by omega)).symm) HPos.out (by rw [List.length_map, List.length_map, HYL.out, HLn.out]; omega) (ints_oneCell _ _) ?_); intro w4 hg4 hb4; have HG4 := Lib.hid hg4; have HB4 := Lib.hid (grown_undrew hb4); clear hg4 hb4)
              all_goals
                have hm4 := HMW.out.patched y HMay.out HAll.out (by rw [HE.out.1, HE.out.2]; exact HG4.out) (by rw [HE.out.1]; exact HB4.out)
                have HM4 := Lib.hid hm4
                clear hm4
                go_wp2_with fail
                have hb4 := HB3.out.alloc HB3.out.size (.cells #[.int .i64 (yb : Nat), .int .i64 (yp : Nat), .slice yA L yc] 29)
                have hb5 := hb4.grown HB4.out hb4.size (fun k e => by obtain rfl := Option.some.inj e; exact HM3.out.pg yb hq12)
                exact ⟨⟨k + 1, by go_num, by omega, Lib.hid (by rw [HN3.out, HY.out]; exact HM4.out), Lib.hid hb5⟩, by simp [intOf]; omega⟩
            · obtain rfl : k = ps.length := by omega
              rw [List.take_length] at HM3
              have HT := Lib.hid (turn_any wc _ _ _ HM3.out (fun k hk => Nat.le_trans HB3.out.size hk) 0 0 (by decide) (by decide))
              dsimp only at HT
              unfold pgV at HT
              go_wp2_with (go_at_call 25; (with_reducible refine HT.out.mono ?_); rintro e w5 ⟨rfl, sr, cs, hm5, hg5⟩)
              go_ret2
              exact new_ok HA.out hm5 rfl rfl rfl (HB3.out.grown hg5 HB3.out.size (fun k e => by obtain rfl := Option.some.inj e; exact HM3.out.pm))
end Go.Proofs.Ytflbedomkeophaa
