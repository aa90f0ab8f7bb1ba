
/- Registers, the document's own: Read. -/
import Derived.Test.YtedlfcmlchjjlaaYX
import Derived.Test.YtedlfcmlchjjlaaYU
namespace Go.Proofs.Ytedlfcmlchjjlaa
open Go.RowKit
set_option linter.unusedSimpArgs false
set_option linter.unusedVariables false
set_option maxRecDepth 100000

/-- The registers that bytes tell, byte by byte. -/
def tB (B : Nat → Int) : Rg := ⟨B 0, B 1, B 2, B 3, B 4, B 5, B 6, B 7, B 8, B 9, B 10 * 256 + B 11, B 12 * 256 + B 13, B 14 * 256 + B 15, B 16 * 256 + B 17, B 18 * 256 + B 19, B 20 * 256 + B 21, B 22 * 256 + B 23, B 24 * 256 + B 25, B 26 * 256 + B 27, bitOf (B 28) 0, bitOf (B 28) 1, B 29, bitOf (B 28) 2, bitOf (B 28) 3⟩
theorem tB_l (l : List Int) : tB (fun i => l.getD i 0) = tR l := rfl
def rB0 (B : Nat → Int) : Rg := ⟨B 0, B 1, B 2, B 3, B 4, B 5, B 6, B 7, B 8, B 9, 0, 0, 0, 0, 0, 0, 0, 0, 0, false, false, 0, false, false⟩
def putW (r : Rg) (j : Nat) (v : Int) : Rg :=
  match j with
  | 0 => { r with IX := v }
  | 1 => { r with IY := v }
  | 2 => { r with SP := v }
  | 3 => { r with PC := v }
  | 4 => { r with WZ := v }
  | 5 => { r with AF2 := v }
  | 6 => { r with BC2 := v }
  | 7 => { r with DE2 := v }
  | _ => { r with HL2 := v }
def putQ (r : Rg) (j : Nat) (v : Bool) : Rg :=
  match j with
  | 0 => { r with IFF1 := v }
  | 1 => { r with IFF2 := v }
  | 2 => { r with Halt := v }
  | _ => { r with Late := v }
theorem tB_eq (B : Nat → Int) : { (putQ (putQ (putQ (putQ (putW (putW (putW (putW (putW (putW (putW (putW (putW (rB0 B) 0 (B 10 * 256 + B 11)) 1 (B 12 * 256 + B 13)) 2 (B 14 * 256 + B 15)) 3 (B 16 * 256 + B 17)) 4 (B 18 * 256 + B 19)) 5 (B 20 * 256 + B 21)) 6 (B 22 * 256 + B 23)) 7 (B 24 * 256 + B 25)) 8 (B 26 * 256 + B 27)) 0 (bitOf (B 28) 0)) 1 (bitOf (B 28) 1)) 2 (bitOf (B 28) 2)) 3 (bitOf (B 28) 3) : Rg) with IM := B 29 } = tB B := rfl
def wF (B : Nat → Int) : Nat → Array Value
  | 0 => #[.int .u16 0, .int .u16 0, .int .u16 0, .int .u16 0, .int .u16 0, .int .u16 0, .int .u16 0, .int .u16 0, .int .u16 0]
  | k + 1 => (wF B k).setIfInBounds k (.int .u16 (B (10 + 2 * k) * 256 + B (11 + 2 * k)))
theorem wF_size (B : Nat → Int) : ∀ k, (wF B k).size = 9
  | 0 => rfl
  | k + 1 => by unfold wF; rw [Array.size_setIfInBounds]; exact wF_size B k
theorem wF_9 (B : Nat → Int) : wF B 9 = #[.int .u16 (B 10 * 256 + B 11), .int .u16 (B 12 * 256 + B 13), .int .u16 (B 14 * 256 + B 15), .int .u16 (B 16 * 256 + B 17), .int .u16 (B 18 * 256 + B 19), .int .u16 (B 20 * 256 + B 21), .int .u16 (B 22 * 256 + B 23), .int .u16 (B 24 * 256 + B 25), .int .u16 (B 26 * 256 + B 27)] := by kernel_rfl

/-- A block that is some registers. -/
def regsA : Option Obj → Prop := fun o => ∃ r : Rg, o = some (.cells r.cells 24 (0, 0))
/-- A block that is nine words. -/
def nineA : Option Obj → Prop := fun o => ∃ cs : Array Value, o = some (.cells cs 78 (0, 0)) ∧ cs.size = 9
theorem closed_rg (b : World) (n : Nat) (r : Rg) : M.Closed (fun w' => M.Base b w' ∧ RgW w' n r) := fun w w1 h hs => ⟨M.closed_base b w w1 h.1 hs, h.2.keep (hs.all.block _ h.2.lt)⟩

theorem r8_read_len (A : Option Addr) (n c : Nat) (hn : n ≠ 32) (w : World) : Calls Try.prog 12 #[.slice A n c] w fun e w' => e = .returned (.tuple #[zeroR.val, .int .i64 4]) ∧ Below w.heap.size w w' := by
  obtain ⟨w1, hw1⟩ : ∃ w1, w.alloc (rgO zeroR) = w1 := ⟨_, rfl⟩
  have HZ1 := Lib.hid (show RowW w1 w.heap.size zeroR.cells from hw1 ▸ RgW.laid w zeroR)
  have hB1 : Below w.heap.size w w1 := hw1 ▸ (Below.refl _ _).alloc (Nat.le_refl _) _
  unfold rgO zeroR at hw1
  have hn' : ((n : Int) != 32) = true := by rw [bne_iff_ne]; omega
  go_enter Try.func12, Try.ntmps12
  go_wp2_with (refine wpList_store_row rfl 24 _ _ rfl w.heap.size zeroR.cells rfl rfl _ _ HZ1.out rg_info rfl (rg_one _) ?_)
  (try simp only [Exit.inBlock, Exit.then])
  exact bodyPost_ret (results_row_tmp rfl _ _ _ _ _ (0, 0) _ _ rfl rfl (setRow_heap _ _ _ _ _ _ HZ1.out) Try.underlying24 rfl rg_info) rfl ⟨rfl, below_setRow hB1 (Nat.le_refl _) _⟩

set_option maxHeartbeats 16000000 in
theorem r8_read (bb off c : Nat) (l : List Int) (w : World) (h : RB w w.heap.size (some ⟨bb, off, none⟩) c l) (hl : l.length = 32) : Calls Try.prog 12 #[.slice (some ⟨bb, off, none⟩) 32 c] w fun e w' => e = .returned (.tuple #[(readR l).val, .int .i64 (readE l)]) ∧ Below w.heap.size w w' := by
  generalize hX : readR l = X
  generalize hE : readE l = E
  unfold readR at hX
  unfold readE at hE
  have hok := tR_ok h.bytes
  obtain ⟨b', off', he, hbb, hcell⟩ := h.pos (by omega)
  simp only [Option.some.injEq, Addr.mk.injEq, and_true] at he
  obtain ⟨rfl, rfl⟩ := he
  have hby := fun i => h.bytes.getD i
  have hcap := h.le
  have HTl := Lib.hid (tB_l l)
  rw [hl] at hcap hcell
  have HH := Lib.hid h
  obtain ⟨B, hB⟩ : ∃ B : Nat → Int, (fun i => l.getD i 0) = B := ⟨_, rfl⟩
  rw [hB] at HTl
  have hBi : ∀ i, l.getD i 0 = B i := fun i => congrFun hB i
  simp only [hBi] at hcell hby
  have HX := Lib.hid hX
  have HE := Lib.hid hE
  have HL32 := Lib.hid hl
  clear hX hE hB hBi h hl
  obtain ⟨w1, hw1⟩ : ∃ w1, w.alloc (rgO zeroR) = w1 := ⟨_, rfl⟩
  have HZ1 := Lib.hid (show RgW w1 w.heap.size zeroR from hw1 ▸ RgW.laid w zeroR)
  have hB1 : Below w.heap.size w w1 := hw1 ▸ (Below.refl _ _).alloc (Nat.le_refl _) _
  have HCl := Lib.hid (fun (w' : World) (hb : Below w.heap.size w w') (i : Nat) (hi : i < 32) => (hb.cell (p := ⟨bb, off + i, none⟩) hbb).trans (hcell i hi))
  unfold rgO zeroR at hw1
  clear hcell
  have G := fun (p : M.Of (M.Base w1)) => hB1.trans (p.ok.2.mono hB1.size)
  have x0 := fun p => HCl.out _ (G p) 0 (by decide)
  have x1 := fun p => HCl.out _ (G p) 1 (by decide)
  have x2 := fun p => HCl.out _ (G p) 2 (by decide)
  have x3 := fun p => HCl.out _ (G p) 3 (by decide)
  have x4 := fun p => HCl.out _ (G p) 4 (by decide)
  have x5 := fun p => HCl.out _ (G p) 5 (by decide)
  have x6 := fun p => HCl.out _ (G p) 6 (by decide)
  have x7 := fun p => HCl.out _ (G p) 7 (by decide)
  have x8 := fun p => HCl.out _ (G p) 8 (by decide)
  have x9 := fun p => HCl.out _ (G p) 9 (by decide)
  simp only [Nat.add_zero] at x0
  go_enter Try.func12, Try.ntmps12
  go_upto_region 3 with fail
  refine M.region_ (by kernel_rfl) ?_
  refine M.seg_ [0, 1, 2, 3, 4, 5, 6, 7, 8, 9, 10, 11, 12, 13, 14, 15, 16, 17, 18, 19, 20, 21, 22, 23, 24, 25, 26, 27, 28, 29, 30] 2 _ _ (M.Base.refl _) (by kernel_rfl) (by kernel_rfl) (by kernel_rfl) (by simp only [pickOps, mask, plain, List.getElem?_toArray, List.getElem?_cons_zero, List.getElem?_cons_succ, if_true, Bool.false_eq_true, if_false]; rfl) ?_
  repeat (go_big_quiet_step (fail))
  refine wpQuiet_nil ?_
  clear G x0 x1 x2 x3 x4 x5 x6 x7 x8 x9
  refine M.call_ (i := 31) rfl (by kernel_rfl) (by kernel_rfl) ?_
  intro wz sz
  unfold Oper.does
  go_simp
  refine ⟨fun w' => M.Base w1 w' ∧ RgW w' wz.heap.size zeroR, ⟨M.Base.below sz ((Below.refl _ _).alloc sz.1 _), RgW.laid wz zeroR⟩, closed_rg _ _ _, fun _ h => h.1, ?_⟩
  have hN : w1.heap.size ≤ wz.heap.size := sz.1
  clear sz
  generalize wz.heap.size = N at *
  refine M.call_ (i := 32) rfl (by kernel_rfl) (by kernel_rfl) ?_
  intro wy sy
  refine does_store_row 24 _ _ rfl N (rB0 B).cells rfl rfl 24 _ sy.2 rg_info rfl (rg_one (rB0 B)) ?_
  refine ⟨fun w' => M.Base w1 w' ∧ RgW w' N (rB0 B), ⟨M.Base.below sy.1 (below_setRow (Below.refl _ _) hN _), setRow_heap _ _ _ _ _ _ sy.2⟩, closed_rg _ _ _, fun _ h => h.1, ?_⟩
  clear sy
  refine M.end_ (by kernel_rfl) ?_
  intro wc sc
  have hR := sc.2
  have hZ := HZ1.out.below sc.1.2 HZ1.out.lt
  have hBc := hB1.trans (sc.1.2.mono hB1.size)
  have hNZ : w.heap.size < N := by have := HZ1.out.lt; omega
  clear sc HZ1 hB1 hw1
  obtain ⟨w4, hw4⟩ : ∃ w4, wc.alloc (.cells #[.int .u16 0, .int .u16 0, .int .u16 0, .int .u16 0, .int .u16 0, .int .u16 0, .int .u16 0, .int .u16 0, .int .u16 0] 78) = w4 := ⟨_, rfl⟩
  obtain ⟨N2, hN2⟩ : ∃ N2, wc.heap.size = N2 := ⟨_, rfl⟩
  have hF4 : w4.heap[N2]? = some (.cells (wF B 0) 78 (0, 0)) := by rw [← hw4, ← hN2]; exact heap_alloc_new _ _
  have hR4 : RgW w4 N (rB0 B) := by rw [← hw4]; exact hR.more _
  have hZ4 : RgW w4 w.heap.size zeroR := by rw [← hw4]; exact hZ.more _
  have hB4 : Below w.heap.size w w4 := by rw [← hw4]; exact hBc.alloc hBc.size _
  have hNN : N < N2 := by have := hR.lt; omega
  clear hR hZ hBc
  have HF4 := Lib.hid hF4
  have HR4 := Lib.hid hR4
  have HZ4 := Lib.hid hZ4
  have HB4 := Lib.hid hB4
  clear hF4 hR4 hZ4 hB4
  go_wp2_with fail
  clear hw4 hN2
  obtain ⟨F, hF⟩ : ∃ F, wF B = F := ⟨_, rfl⟩
  have HFs := Lib.hid (fun k => (show F (k + 1) = (F k).setIfInBounds k (.int .u16 (B (10 + 2 * k) * 256 + B (11 + 2 * k))) by rw [← hF]; rfl))
  have HFz := Lib.hid (fun k => (show (F k).size = 9 by rw [← hF]; exact wF_size B k))
  have HF9 := Lib.hid ((congrFun hF 9).symm.trans (wF_9 B))
  rw [hF] at HF4
  clear hF
  go_loopw [6] (fun i wr => ∃ k : Nat, k ≤ 9 ∧ i = .int .i64 k ∧ wr.heap[N2]? = some (.cells (F k) 78 (0, 0)) ∧ RgW wr N (rB0 B) ∧ RgW wr w.heap.size zeroR ∧ Below w.heap.size w wr) (fun i _ => 9 - (intOf i).toNat)
  case atStart => exact ⟨0, by omega, rfl, HF4.out, HR4.out, HZ4.out, HB4.out⟩
  case round =>
    clear HF4 HR4 HZ4 HB4
    obtain ⟨k, hk, rfl, hFr, hR, hZ, hBr⟩ := hrel
    have hN2lt : N2 < wr.heap.size := (Array.getElem?_eq_some_iff.1 hFr).1
    by_cases hlt : k < 9
    · obtain ⟨C0, hC0⟩ : ∃ C0, M.But wr N2 nineA = C0 := ⟨_, rfl⟩
      have hbn : bb ≠ N2 := by omega
      have hbl : bb < wr.heap.size := by omega
      have xa := fun p : M.Of (M.But wr N2 nineA) => (World.cell?_of_block (a := ⟨bb, off + (10 + 2 * k), none⟩) (p.ok.other hbl hbn)).trans (HCl.out _ hBr (10 + 2 * k) (by omega))
      have xb := fun p : M.Of (M.But wr N2 nineA) => (World.cell?_of_block (a := ⟨bb, off + (11 + 2 * k), none⟩) (p.ok.other hbl hbn)).trans (HCl.out _ hBr (11 + 2 * k) (by omega))
      have b1 := hby (10 + 2 * k)
      have b2 := hby (11 + 2 * k)
      have hS := HFs.out k
      have hz := HFz.out k
      have HFr := Lib.hid hFr
      have HRr := Lib.hid hR
      have HZr := Lib.hid hZ
      have HBr := Lib.hid hBr
      generalize B (10 + 2 * k) = P at *
      generalize B (11 + 2 * k) = Q at *
      generalize F k = cs at *
      obtain ⟨ds, hds⟩ : ∃ ds, F (k + 1) = ds := ⟨_, rfl⟩
      rw [hds] at hS
      have HDs := Lib.hid hds
      clear hds
      have HS := Lib.hid hS
      clear hFr hR hZ hBr hS C0 hC0
      have hin : nineA (wr.heap[N2]?) := ⟨cs, HFr.out, hz⟩
      haveI : Nonempty (M.Of (M.But wr N2 nineA)) := ⟨⟨wr, M.But.refl hN2lt hin⟩⟩
      go_upto_region 8 with fail
      refine M.regionD_ (M.But wr N2 nineA) (M.But wr N2 (fun o => o = some (.cells cs 78 (0, 0)))) (M.closed_but _ _ _) (M.But.weaken (fun o ho => ⟨cs, ho, hz⟩)) (fun n => M.But.start hN2lt HFr.out n) (by kernel_rfl) ?_
      refine M.seg_ [0, 1, 2, 3, 4, 5, 6, 7, 8, 9, 10, 11, 12] 3 _ _ (M.But.refl hN2lt hin) (by kernel_rfl) (by kernel_rfl) (by kernel_rfl) (by simp only [pickOps, mask, plain, List.getElem?_toArray, List.getElem?_cons_zero, List.getElem?_cons_succ, if_true, Bool.false_eq_true, if_false]; rfl) ?_
      repeat (go_big_quiet_step (fail))
      refine wpQuiet_nil ?_
      clear xa xb
      refine M.calm_ (i := 13) (.int .u16 (P * 256 + Q)) rfl (by kernel_rfl) (by kernel_rfl) (by kernel_rfl) (by kernel_rfl) ?_ ?_
      · intro wz sz
        unfold Oper.does
        go_simp
        exact (r7_pair _ _ wz b1.1 b1.2 b2.1 b2.2).mono fun e w' ⟨he, hw⟩ => ⟨_, he, rfl, hw ▸ Save.refl _ _⟩
      go_simp
      refine M.seg_ [14] 1 _ _ (M.But.refl hN2lt hin) (by kernel_rfl) (by kernel_rfl) (by kernel_rfl) (by simp only [pickOps, mask, plain, List.getElem?_toArray, List.getElem?_cons_zero, List.getElem?_cons_succ, if_true, Bool.false_eq_true, if_false]; rfl) ?_
      repeat (go_big_quiet_step (fail))
      refine wpQuiet_nil ?_
      refine M.call_ (i := 15) rfl (by kernel_rfl) (by kernel_rfl) ?_
      intro wz sz
      have ff : wz.frozen? ⟨N2, k, none⟩ = false := frozen_of_row wz N2 k _ _ sz.2.2
      have gg : ∃ v, wz.cell? ⟨N2, k, none⟩ = some v := by rw [cell_of_row _ _ _ _ _ _ sz.2.2]; exact some_at (by rw [hz]; exact hlt)
      obtain ⟨v, gg⟩ := gg
      unfold Oper.does
      go_simp
      refine ⟨M.But wr N2 (fun o => o = some (.cells ds 78 (0, 0))), sz.step (save_setCell wz N2 k _) (by rw [HS.out]; exact heap_setCell_same wz N2 k _ _ _ sz.2.2), M.closed_but _ _ _, M.But.weaken (fun o ho => ⟨ds, ho, by rw [HS.out, Array.size_setIfInBounds]; exact hz⟩), ?_⟩
      clear ff gg sz
      refine M.end_ (by kernel_rfl) ?_
      intro wc sc
      have hFc := sc.2.2
      have hRc : RgW wc N (rB0 B) := (sc.other HRr.out.lt (by omega)).trans HRr.out
      have hZc : RgW wc w.heap.size zeroR := (sc.other HZr.out.lt (by omega)).trans HZr.out
      have hBc := HBr.out.trans (sc.below (by omega))
      clear sc HFr HRr HZr HBr
      go_wp2_with fail
      go_roundw
      case rel => exact ⟨k + 1, by omega, by go_num, by rw [HDs.out]; exact hFc, hRc, hZc, hBc⟩
      case measure => simp [intOf]; omega
    · rw [show ((k : Nat) : Int) = 9 by omega]
      obtain rfl : k = 9 := by omega
      rw [HF9.out] at hFr
      clear HFs HFz HF9
      obtain ⟨W0, hW0⟩ : ∃ v, B 10 * 256 + B 11 = v := ⟨_, rfl⟩
      obtain ⟨W1, hW1⟩ : ∃ v, B 12 * 256 + B 13 = v := ⟨_, rfl⟩
      obtain ⟨W2, hW2⟩ : ∃ v, B 14 * 256 + B 15 = v := ⟨_, rfl⟩
      obtain ⟨W3, hW3⟩ : ∃ v, B 16 * 256 + B 17 = v := ⟨_, rfl⟩
      obtain ⟨W4, hW4⟩ : ∃ v, B 18 * 256 + B 19 = v := ⟨_, rfl⟩
      obtain ⟨W5, hW5⟩ : ∃ v, B 20 * 256 + B 21 = v := ⟨_, rfl⟩
      obtain ⟨W6, hW6⟩ : ∃ v, B 22 * 256 + B 23 = v := ⟨_, rfl⟩
      obtain ⟨W7, hW7⟩ : ∃ v, B 24 * 256 + B 25 = v := ⟨_, rfl⟩
      obtain ⟨W8, hW8⟩ : ∃ v, B 26 * 256 + B 27 = v := ⟨_, rfl⟩
      obtain ⟨rw0, hrw0⟩ : ∃ r, rB0 B = r := ⟨_, rfl⟩
      obtain ⟨rw1, hrw1⟩ : ∃ r, putW rw0 0 W0 = r := ⟨_, rfl⟩
      obtain ⟨rw2, hrw2⟩ : ∃ r, putW rw1 1 W1 = r := ⟨_, rfl⟩
      obtain ⟨rw3, hrw3⟩ : ∃ r, putW rw2 2 W2 = r := ⟨_, rfl⟩
      obtain ⟨rw4, hrw4⟩ : ∃ r, putW rw3 3 W3 = r := ⟨_, rfl⟩
      obtain ⟨rw5, hrw5⟩ : ∃ r, putW rw4 4 W4 = r := ⟨_, rfl⟩
      obtain ⟨rw6, hrw6⟩ : ∃ r, putW rw5 5 W5 = r := ⟨_, rfl⟩
      obtain ⟨rw7, hrw7⟩ : ∃ r, putW rw6 6 W6 = r := ⟨_, rfl⟩
      obtain ⟨rw8, hrw8⟩ : ∃ r, putW rw7 7 W7 = r := ⟨_, rfl⟩
      obtain ⟨rw9, hrw9⟩ : ∃ r, putW rw8 8 W8 = r := ⟨_, rfl⟩
      obtain ⟨Q0, hQ0⟩ : ∃ v, bitOf (B 28) 0 = v := ⟨_, rfl⟩
      obtain ⟨rq1, hrq1⟩ : ∃ r, putQ rw9 0 Q0 = r := ⟨_, rfl⟩
      obtain ⟨Q1, hQ1⟩ : ∃ v, bitOf (B 28) 1 = v := ⟨_, rfl⟩
      obtain ⟨rq2, hrq2⟩ : ∃ r, putQ rq1 1 Q1 = r := ⟨_, rfl⟩
      obtain ⟨Q2, hQ2⟩ : ∃ v, bitOf (B 28) 2 = v := ⟨_, rfl⟩
      obtain ⟨rq3, hrq3⟩ : ∃ r, putQ rq2 2 Q2 = r := ⟨_, rfl⟩
      obtain ⟨Q3, hQ3⟩ : ∃ v, bitOf (B 28) 3 = v := ⟨_, rfl⟩
      obtain ⟨rq4, hrq4⟩ : ∃ r, putQ rq3 3 Q3 = r := ⟨_, rfl⟩
      have hfin : ({ rq4 with IM := B 29 } : Rg) = tR l := by rw [← HTl.out, ← tB_eq, ← hrq4, ← hrq3, ← hrq2, ← hrq1, ← hrw9, ← hrw8, ← hrw7, ← hrw6, ← hrw5, ← hrw4, ← hrw3, ← hrw2, ← hrw1, ← hrw0, ← hW0, ← hW1, ← hW2, ← hW3, ← hW4, ← hW5, ← hW6, ← hW7, ← hW8, ← hQ0, ← hQ1, ← hQ2, ← hQ3]
      have HEw0 := Lib.hid hrw1
      have HEw1 := Lib.hid hrw2
      have HEw2 := Lib.hid hrw3
      have HEw3 := Lib.hid hrw4
      have HEw4 := Lib.hid hrw5
      have HEw5 := Lib.hid hrw6
      have HEw6 := Lib.hid hrw7
      have HEw7 := Lib.hid hrw8
      have HEw8 := Lib.hid hrw9
      have HEq0 := Lib.hid hrq1
      have HQ0 := Lib.hid hQ0
      have HEq1 := Lib.hid hrq2
      have HQ1 := Lib.hid hQ1
      have HEq2 := Lib.hid hrq3
      have HQ2 := Lib.hid hQ2
      have HEq3 := Lib.hid hrq4
      have HQ3 := Lib.hid hQ3
      have HFin := Lib.hid hfin
      rw [hrw0] at hR
      rw [hW0, hW1, hW2, hW3, hW4, hW5, hW6, hW7, hW8] at hFr
      clear hrw0 hrw1 hrw2 hrw3 hrw4 hrw5 hrw6 hrw7 hrw8 hrw9 hrq1 hrq2 hrq3 hrq4 hQ0 hQ1 hQ2 hQ3 hW0 hW1 hW2 hW3 hW4 hW5 hW6 hW7 hW8 hfin
      have HRr := Lib.hid hR
      have HZr := Lib.hid hZ
      have HBr := Lib.hid hBr
      have hNlt := hR.lt
      have hne : N2 ≠ N := by omega
      have y0 := fun p : M.Of (M.But wr N regsA) => (show p.w.cell? ⟨N2, 0, none⟩ = some (.int .u16 W0) from by rw [cell_of_row _ _ _ _ _ _ ((p.ok.other hN2lt hne).trans hFr)]; rfl)
      have y1 := fun p : M.Of (M.But wr N regsA) => (show p.w.cell? ⟨N2, 1, none⟩ = some (.int .u16 W1) from by rw [cell_of_row _ _ _ _ _ _ ((p.ok.other hN2lt hne).trans hFr)]; rfl)
      have y2 := fun p : M.Of (M.But wr N regsA) => (show p.w.cell? ⟨N2, 2, none⟩ = some (.int .u16 W2) from by rw [cell_of_row _ _ _ _ _ _ ((p.ok.other hN2lt hne).trans hFr)]; rfl)
      have y3 := fun p : M.Of (M.But wr N regsA) => (show p.w.cell? ⟨N2, 3, none⟩ = some (.int .u16 W3) from by rw [cell_of_row _ _ _ _ _ _ ((p.ok.other hN2lt hne).trans hFr)]; rfl)
      have y4 := fun p : M.Of (M.But wr N regsA) => (show p.w.cell? ⟨N2, 4, none⟩ = some (.int .u16 W4) from by rw [cell_of_row _ _ _ _ _ _ ((p.ok.other hN2lt hne).trans hFr)]; rfl)
      have y5 := fun p : M.Of (M.But wr N regsA) => (show p.w.cell? ⟨N2, 5, none⟩ = some (.int .u16 W5) from by rw [cell_of_row _ _ _ _ _ _ ((p.ok.other hN2lt hne).trans hFr)]; rfl)
      have y6 := fun p : M.Of (M.But wr N regsA) => (show p.w.cell? ⟨N2, 6, none⟩ = some (.int .u16 W6) from by rw [cell_of_row _ _ _ _ _ _ ((p.ok.other hN2lt hne).trans hFr)]; rfl)
      have y7 := fun p : M.Of (M.But wr N regsA) => (show p.w.cell? ⟨N2, 7, none⟩ = some (.int .u16 W7) from by rw [cell_of_row _ _ _ _ _ _ ((p.ok.other hN2lt hne).trans hFr)]; rfl)
      have y8 := fun p : M.Of (M.But wr N regsA) => (show p.w.cell? ⟨N2, 8, none⟩ = some (.int .u16 W8) from by rw [cell_of_row _ _ _ _ _ _ ((p.ok.other hN2lt hne).trans hFr)]; rfl)
      have hin : regsA (wr.heap[N]?) := ⟨rw0, hR⟩
      haveI : Nonempty (M.Of (M.But wr N regsA)) := ⟨⟨wr, M.But.refl hNlt hin⟩⟩
      clear hFr hR hZ hBr
      go_upto_region 9 with fail
      refine M.regionD_ (M.But wr N regsA) (M.But wr N (fun o => o = some (.cells (rw0).cells 24 (0, 0)))) (M.closed_but _ _ _) (M.But.weaken (fun o ho => ⟨rw0, ho⟩)) (fun n => M.But.start hNlt HRr.out n) (by kernel_rfl) ?_
      refine M.seg_ [0, 1, 2, 3, 4, 5, 6, 7, 8, 9, 10, 11, 12, 13, 14, 15, 16, 17] 18 _ _ (M.But.refl hNlt hin) (by kernel_rfl) (by kernel_rfl) (by kernel_rfl) (by simp only [pickOps, mask, plain, List.getElem?_toArray, List.getElem?_cons_zero, List.getElem?_cons_succ, if_true, Bool.false_eq_true, if_false]; rfl) ?_
      repeat (go_big_quiet_step (fail))
      refine wpQuiet_nil ?_
      clear y0 y1 y2 y3 y4 y5 y6 y7 y8
      refine M.seg_ [18] 17 _ _ (M.But.refl hNlt hin) (by kernel_rfl) (by kernel_rfl) (by kernel_rfl) (by simp only [pickOps, mask, plain, List.getElem?_toArray, List.getElem?_cons_zero, List.getElem?_cons_succ, if_true, Bool.false_eq_true, if_false]; rfl) ?_
      repeat (go_big_quiet_step (fail))
      refine wpQuiet_nil ?_
      refine M.call_ (i := 19) rfl (by kernel_rfl) (by kernel_rfl) ?_
      intro wz sz
      have hB0 : RgW wz N rw0 := sz.2.2
      have gg := hB0.gIX
      have ff := hB0.free 10
      have hnx : RgW (wz.setCell ⟨N, 10, none⟩ (.int .u16 W0)) N rw1 := by rw [← HEw0.out]; exact hB0.sIX _
      unfold Oper.does
      go_simp
      refine ⟨M.But wr N (fun o => o = some (.cells (rw1 : Rg).cells 24 (0, 0))), sz.step (save_setCell wz N 10 _) hnx, M.closed_but _ _ _, M.But.weaken (fun o ho => ⟨rw1, ho⟩), ?_⟩
      clear gg ff hB0 hnx sz
      go_simp
      refine M.seg_ [20] 15 _ _ (M.But.refl hNlt hin) (by kernel_rfl) (by kernel_rfl) (by kernel_rfl) (by simp only [pickOps, mask, plain, List.getElem?_toArray, List.getElem?_cons_zero, List.getElem?_cons_succ, if_true, Bool.false_eq_true, if_false]; rfl) ?_
      repeat (go_big_quiet_step (fail))
      refine wpQuiet_nil ?_
      refine M.call_ (i := 21) rfl (by kernel_rfl) (by kernel_rfl) ?_
      intro wz sz
      have hB0 : RgW wz N rw1 := sz.2.2
      have gg := hB0.gIY
      have ff := hB0.free 11
      have hnx : RgW (wz.setCell ⟨N, 11, none⟩ (.int .u16 W1)) N rw2 := by rw [← HEw1.out]; exact hB0.sIY _
      unfold Oper.does
      go_simp
      refine ⟨M.But wr N (fun o => o = some (.cells (rw2 : Rg).cells 24 (0, 0))), sz.step (save_setCell wz N 11 _) hnx, M.closed_but _ _ _, M.But.weaken (fun o ho => ⟨rw2, ho⟩), ?_⟩
      clear gg ff hB0 hnx sz
      go_simp
      refine M.seg_ [22] 13 _ _ (M.But.refl hNlt hin) (by kernel_rfl) (by kernel_rfl) (by kernel_rfl) (by simp only [pickOps, mask, plain, List.getElem?_toArray, List.getElem?_cons_zero, List.getElem?_cons_succ, if_true, Bool.false_eq_true, if_false]; rfl) ?_
      repeat (go_big_quiet_step (fail))
      refine wpQuiet_nil ?_
      refine M.call_ (i := 23) rfl (by kernel_rfl) (by kernel_rfl) ?_
      intro wz sz
      have hB0 : RgW wz N rw2 := sz.2.2
      have gg := hB0.gSP
      have ff := hB0.free 12
      have hnx : RgW (wz.setCell ⟨N, 12, none⟩ (.int .u16 W2)) N rw3 := by rw [← HEw2.out]; exact hB0.sSP _
      unfold Oper.does
      go_simp
      refine ⟨M.But wr N (fun o => o = some (.cells (rw3 : Rg).cells 24 (0, 0))), sz.step (save_setCell wz N 12 _) hnx, M.closed_but _ _ _, M.But.weaken (fun o ho => ⟨rw3, ho⟩), ?_⟩
      clear gg ff hB0 hnx sz
      go_simp
      refine M.seg_ [24] 11 _ _ (M.But.refl hNlt hin) (by kernel_rfl) (by kernel_rfl) (by kernel_rfl) (by simp only [pickOps, mask, plain, List.getElem?_toArray, List.getElem?_cons_zero, List.getElem?_cons_succ, if_true, Bool.false_eq_true, if_false]; rfl) ?_
      repeat (go_big_quiet_step (fail))
      refine wpQuiet_nil ?_
      refine M.call_ (i := 25) rfl (by kernel_rfl) (by kernel_rfl) ?_
      intro wz sz
      have hB0 : RgW wz N rw3 := sz.2.2
      have gg := hB0.gPC
      have ff := hB0.free 13
      have hnx : RgW (wz.setCell ⟨N, 13, none⟩ (.int .u16 W3)) N rw4 := by rw [← HEw3.out]; exact hB0.sPC _
      unfold Oper.does
      go_simp
      refine ⟨M.But wr N (fun o => o = some (.cells (rw4 : Rg).cells 24 (0, 0))), sz.step (save_setCell wz N 13 _) hnx, M.closed_but _ _ _, M.But.weaken (fun o ho => ⟨rw4, ho⟩), ?_⟩
      clear gg ff hB0 hnx sz
      go_simp
      refine M.seg_ [26] 9 _ _ (M.But.refl hNlt hin) (by kernel_rfl) (by kernel_rfl) (by kernel_rfl) (by simp only [pickOps, mask, plain, List.getElem?_toArray, List.getElem?_cons_zero, List.getElem?_cons_succ, if_true, Bool.false_eq_true, if_false]; rfl) ?_
      repeat (go_big_quiet_step (fail))
      refine wpQuiet_nil ?_
      refine M.call_ (i := 27) rfl (by kernel_rfl) (by kernel_rfl) ?_
      intro wz sz
      have hB0 : RgW wz N rw4 := sz.2.2
      have gg := hB0.gWZ
      have ff := hB0.free 14
      have hnx : RgW (wz.setCell ⟨N, 14, none⟩ (.int .u16 W4)) N rw5 := by rw [← HEw4.out]; exact hB0.sWZ _
      unfold Oper.does
      go_simp
      refine ⟨M.But wr N (fun o => o = some (.cells (rw5 : Rg).cells 24 (0, 0))), sz.step (save_setCell wz N 14 _) hnx, M.closed_but _ _ _, M.But.weaken (fun o ho => ⟨rw5, ho⟩), ?_⟩
      clear gg ff hB0 hnx sz
      go_simp
      refine M.seg_ [28] 7 _ _ (M.But.refl hNlt hin) (by kernel_rfl) (by kernel_rfl) (by kernel_rfl) (by simp only [pickOps, mask, plain, List.getElem?_toArray, List.getElem?_cons_zero, List.getElem?_cons_succ, if_true, Bool.false_eq_true, if_false]; rfl) ?_
      repeat (go_big_quiet_step (fail))
      refine wpQuiet_nil ?_
      refine M.call_ (i := 29) rfl (by kernel_rfl) (by kernel_rfl) ?_
      intro wz sz
      have hB0 : RgW wz N rw5 := sz.2.2
      have gg := hB0.gAF2
      have ff := hB0.free 15
      have hnx : RgW (wz.setCell ⟨N, 15, none⟩ (.int .u16 W5)) N rw6 := by rw [← HEw5.out]; exact hB0.sAF2 _
      unfold Oper.does
      go_simp
      refine ⟨M.But wr N (fun o => o = some (.cells (rw6 : Rg).cells 24 (0, 0))), sz.step (save_setCell wz N 15 _) hnx, M.closed_but _ _ _, M.But.weaken (fun o ho => ⟨rw6, ho⟩), ?_⟩
      clear gg ff hB0 hnx sz
      go_simp
      refine M.seg_ [30] 5 _ _ (M.But.refl hNlt hin) (by kernel_rfl) (by kernel_rfl) (by kernel_rfl) (by simp only [pickOps, mask, plain, List.getElem?_toArray, List.getElem?_cons_zero, List.getElem?_cons_succ, if_true, Bool.false_eq_true, if_false]; rfl) ?_
      repeat (go_big_quiet_step (fail))
      refine wpQuiet_nil ?_
      refine M.call_ (i := 31) rfl (by kernel_rfl) (by kernel_rfl) ?_
      intro wz sz
      have hB0 : RgW wz N rw6 := sz.2.2
      have gg := hB0.gBC2
      have ff := hB0.free 16
      have hnx : RgW (wz.setCell ⟨N, 16, none⟩ (.int .u16 W6)) N rw7 := by rw [← HEw6.out]; exact hB0.sBC2 _
      unfold Oper.does
      go_simp
      refine ⟨M.But wr N (fun o => o = some (.cells (rw7 : Rg).cells 24 (0, 0))), sz.step (save_setCell wz N 16 _) hnx, M.closed_but _ _ _, M.But.weaken (fun o ho => ⟨rw7, ho⟩), ?_⟩
      clear gg ff hB0 hnx sz
      go_simp
      refine M.seg_ [32] 3 _ _ (M.But.refl hNlt hin) (by kernel_rfl) (by kernel_rfl) (by kernel_rfl) (by simp only [pickOps, mask, plain, List.getElem?_toArray, List.getElem?_cons_zero, List.getElem?_cons_succ, if_true, Bool.false_eq_true, if_false]; rfl) ?_
      repeat (go_big_quiet_step (fail))
      refine wpQuiet_nil ?_
      refine M.call_ (i := 33) rfl (by kernel_rfl) (by kernel_rfl) ?_
      intro wz sz
      have hB0 : RgW wz N rw7 := sz.2.2
      have gg := hB0.gDE2
      have ff := hB0.free 17
      have hnx : RgW (wz.setCell ⟨N, 17, none⟩ (.int .u16 W7)) N rw8 := by rw [← HEw7.out]; exact hB0.sDE2 _
      unfold Oper.does
      go_simp
      refine ⟨M.But wr N (fun o => o = some (.cells (rw8 : Rg).cells 24 (0, 0))), sz.step (save_setCell wz N 17 _) hnx, M.closed_but _ _ _, M.But.weaken (fun o ho => ⟨rw8, ho⟩), ?_⟩
      clear gg ff hB0 hnx sz
      go_simp
      refine M.seg_ [34] 1 _ _ (M.But.refl hNlt hin) (by kernel_rfl) (by kernel_rfl) (by kernel_rfl) (by simp only [pickOps, mask, plain, List.getElem?_toArray, List.getElem?_cons_zero, List.getElem?_cons_succ, if_true, Bool.false_eq_true, if_false]; rfl) ?_
      repeat (go_big_quiet_step (fail))
      refine wpQuiet_nil ?_
      refine M.call_ (i := 35) rfl (by kernel_rfl) (by kernel_rfl) ?_
      intro wz sz
      have hB0 : RgW wz N rw8 := sz.2.2
      have gg := hB0.gHL2
      have ff := hB0.free 18
      have hnx : RgW (wz.setCell ⟨N, 18, none⟩ (.int .u16 W8)) N rw9 := by rw [← HEw8.out]; exact hB0.sHL2 _
      unfold Oper.does
      go_simp
      refine ⟨M.But wr N (fun o => o = some (.cells (rw9 : Rg).cells 24 (0, 0))), sz.step (save_setCell wz N 18 _) hnx, M.closed_but _ _ _, M.But.weaken (fun o ho => ⟨rw9, ho⟩), ?_⟩
      clear gg ff hB0 hnx sz
      go_simp
      refine M.end_ (by kernel_rfl) ?_
      intro wc sc
      have hR9 : RgW wc N rw9 := sc.2.2
      have hZ9 : RgW wc w.heap.size zeroR := (sc.other HZr.out.lt (by omega)).trans HZr.out
      have hB9 := HBr.out.trans (sc.below (by omega))
      clear sc HRr HZr HBr this hin HEw0 HEw1 HEw2 HEw3 HEw4 HEw5 HEw6 HEw7 HEw8
      have HR9 := Lib.hid hR9
      have HZ9 := Lib.hid hZ9
      have HB9 := Lib.hid hB9
      have hNlt9 := hR9.lt
      have hbN : bb ≠ N := by omega
      have hbl9 : bb < wc.heap.size := by omega
      have x28 := fun p : M.Of (M.But wc N regsA) => (World.cell?_of_block (a := ⟨bb, off + 28, none⟩) (p.ok.other hbl9 hbN)).trans (HCl.out _ hB9 28 (by decide))
      have b28 := hby 28
      have HCn := Lib.hid (fun k hk => HCl.out wc hB9 k hk)
      have b29 := hby 29
      clear hR9 hZ9 hB9 hby
      obtain ⟨b, hb⟩ : ∃ b, B 28 = b := ⟨_, rfl⟩
      rw [hb] at x28 b28 HQ0 HQ1 HQ2 HQ3
      obtain ⟨b280, b281⟩ := b28
      have r0 : b.tmod 2 = b % 2 := Int.tmod_eq_emod_of_nonneg b280
      have r1 : IntKind.u8.wrap (b.tdiv 2) = b / 2 := by rw [wrap_u8, Int.tdiv_eq_ediv_of_nonneg b280]; omega
      have r2 : IntKind.u8.wrap (b.tdiv 4) = b / 4 := by rw [wrap_u8, Int.tdiv_eq_ediv_of_nonneg b280]; omega
      have r3 : IntKind.u8.wrap (b.tdiv 8) = b / 8 := by rw [wrap_u8, Int.tdiv_eq_ediv_of_nonneg b280]; omega
      have r4 : (b / 2).tmod 2 = b / 2 % 2 := Int.tmod_eq_emod_of_nonneg (by omega)
      have r5 : (b / 4).tmod 2 = b / 4 % 2 := Int.tmod_eq_emod_of_nonneg (by omega)
      have r6 : (b / 8).tmod 2 = b / 8 % 2 := Int.tmod_eq_emod_of_nonneg (by omega)
      have bq : ∀ x : Int, (x % 2 == 1) = (x % 2 != 0) := fun x => by
        have : x % 2 = 0 ∨ x % 2 = 1 := by omega
        rcases this with h | h <;> rw [h] <;> rfl
      have s0 : (b % 2 == 1) = Q0 := (bq b).trans HQ0.out
      have s1 : (b / 2 % 2 == 1) = Q1 := (bq (b / 2)).trans HQ1.out
      have s2 : (b / 4 % 2 == 1) = Q2 := (bq (b / 4)).trans HQ2.out
      have s3 : (b / 8 % 2 == 1) = Q3 := (bq (b / 8)).trans HQ3.out
      have Hb := Lib.hid hb
      clear hb bq
      have hin : regsA (wc.heap[N]?) := ⟨rw9, HR9.out⟩
      haveI : Nonempty (M.Of (M.But wc N regsA)) := ⟨⟨wc, M.But.refl hNlt9 hin⟩⟩
      go_upto_region 10 with fail
      refine M.regionD_ (M.But wc N regsA) (M.But wc N (fun o => o = some (.cells rw9.cells 24 (0, 0)))) (M.closed_but _ _ _) (M.But.weaken (fun o ho => ⟨rw9, ho⟩)) (fun n => M.But.start hNlt9 HR9.out n) (by kernel_rfl) ?_
      have hNlt := hNlt9
      refine M.seg_ [0, 1, 2, 3, 4, 5, 6, 7, 8, 9, 10, 11, 12, 13, 14, 15, 16, 17, 18, 19, 20, 21, 22] 8 _ _ (M.But.refl hNlt hin) (by kernel_rfl) (by kernel_rfl) (by kernel_rfl) (by simp only [pickOps, mask, plain, List.getElem?_toArray, List.getElem?_cons_zero, List.getElem?_cons_succ, if_true, Bool.false_eq_true, if_false]; rfl) ?_
      repeat (go_big_quiet_step (fail))
      refine wpQuiet_nil ?_
      clear x28 r0 r1 r2 r3 r4 r5 r6 s0 s1 s2 s3
      refine M.seg_ [23] 7 _ _ (M.But.refl hNlt hin) (by kernel_rfl) (by kernel_rfl) (by kernel_rfl) (by simp only [pickOps, mask, plain, List.getElem?_toArray, List.getElem?_cons_zero, List.getElem?_cons_succ, if_true, Bool.false_eq_true, if_false]; rfl) ?_
      repeat (go_big_quiet_step (fail))
      refine wpQuiet_nil ?_
      refine M.call_ (i := 24) rfl (by kernel_rfl) (by kernel_rfl) ?_
      intro wz sz
      have hB0 : RgW wz N rw9 := sz.2.2
      have gg := hB0.gIFF1
      have ff := hB0.free 19
      have hnx : RgW (wz.setCell ⟨N, 19, none⟩ (.bool Q0)) N rq1 := by rw [← HEq0.out]; exact hB0.sIFF1 _
      unfold Oper.does
      go_simp
      refine ⟨M.But wc N (fun o => o = some (.cells (rq1 : Rg).cells 24 (0, 0))), sz.step (save_setCell wz N 19 _) hnx, M.closed_but _ _ _, M.But.weaken (fun o ho => ⟨rq1, ho⟩), ?_⟩
      clear gg ff hB0 hnx sz
      go_simp
      refine M.seg_ [25] 5 _ _ (M.But.refl hNlt hin) (by kernel_rfl) (by kernel_rfl) (by kernel_rfl) (by simp only [pickOps, mask, plain, List.getElem?_toArray, List.getElem?_cons_zero, List.getElem?_cons_succ, if_true, Bool.false_eq_true, if_false]; rfl) ?_
      repeat (go_big_quiet_step (fail))
      refine wpQuiet_nil ?_
      refine M.call_ (i := 26) rfl (by kernel_rfl) (by kernel_rfl) ?_
      intro wz sz
      have hB0 : RgW wz N rq1 := sz.2.2
      have gg := hB0.gIFF2
      have ff := hB0.free 20
      have hnx : RgW (wz.setCell ⟨N, 20, none⟩ (.bool Q1)) N rq2 := by rw [← HEq1.out]; exact hB0.sIFF2 _
      unfold Oper.does
      go_simp
      refine ⟨M.But wc N (fun o => o = some (.cells (rq2 : Rg).cells 24 (0, 0))), sz.step (save_setCell wz N 20 _) hnx, M.closed_but _ _ _, M.But.weaken (fun o ho => ⟨rq2, ho⟩), ?_⟩
      clear gg ff hB0 hnx sz
      go_simp
      refine M.seg_ [27] 3 _ _ (M.But.refl hNlt hin) (by kernel_rfl) (by kernel_rfl) (by kernel_rfl) (by simp only [pickOps, mask, plain, List.getElem?_toArray, List.getElem?_cons_zero, List.getElem?_cons_succ, if_true, Bool.false_eq_true, if_false]; rfl) ?_
      repeat (go_big_quiet_step (fail))
      refine wpQuiet_nil ?_
      refine M.call_ (i := 28) rfl (by kernel_rfl) (by kernel_rfl) ?_
      intro wz sz
      have hB0 : RgW wz N rq2 := sz.2.2
      have gg := hB0.gHalt
      have ff := hB0.free 22
      have hnx : RgW (wz.setCell ⟨N, 22, none⟩ (.bool Q2)) N rq3 := by rw [← HEq2.out]; exact hB0.sHalt _
      unfold Oper.does
      go_simp
      refine ⟨M.But wc N (fun o => o = some (.cells (rq3 : Rg).cells 24 (0, 0))), sz.step (save_setCell wz N 22 _) hnx, M.closed_but _ _ _, M.But.weaken (fun o ho => ⟨rq3, ho⟩), ?_⟩
      clear gg ff hB0 hnx sz
      go_simp
      refine M.seg_ [29] 1 _ _ (M.But.refl hNlt hin) (by kernel_rfl) (by kernel_rfl) (by kernel_rfl) (by simp only [pickOps, mask, plain, List.getElem?_toArray, List.getElem?_cons_zero, List.getElem?_cons_succ, if_true, Bool.false_eq_true, if_false]; rfl) ?_
      repeat (go_big_quiet_step (fail))
      refine wpQuiet_nil ?_
      refine M.call_ (i := 30) rfl (by kernel_rfl) (by kernel_rfl) ?_
      intro wz sz
      have hB0 : RgW wz N rq3 := sz.2.2
      have gg := hB0.gLate
      have ff := hB0.free 23
      have hnx : RgW (wz.setCell ⟨N, 23, none⟩ (.bool Q3)) N rq4 := by rw [← HEq3.out]; exact hB0.sLate _
      unfold Oper.does
      go_simp
      refine ⟨M.But wc N (fun o => o = some (.cells (rq4 : Rg).cells 24 (0, 0))), sz.step (save_setCell wz N 23 _) hnx, M.closed_but _ _ _, M.But.weaken (fun o ho => ⟨rq4, ho⟩), ?_⟩
      clear gg ff hB0 hnx sz
      go_simp
      refine M.end_ (by kernel_rfl) ?_
      intro wd sd
      have hRd : RgW wd N rq4 := sd.2.2
      have hZd : RgW wd w.heap.size zeroR := (sd.other HZ9.out.lt (by omega)).trans HZ9.out
      have hBd := HB9.out.trans (sd.below (by omega))
      have x29 := HCl.out wd hBd 29 (by decide)
      have gg := hRd.gIM
      have ff := hRd.free 21
      obtain ⟨t, ht⟩ : ∃ t, tR l = t := ⟨_, rfl⟩
      rw [ht] at HFin hok
      have hRe : RgW (wd.setCell ⟨N, 21, none⟩ (.int .i64 (B 29))) N t := by rw [← HFin.out]; exact hRd.sIM _
      have hZe : RgW (wd.setCell ⟨N, 21, none⟩ (.int .i64 (B 29))) w.heap.size zeroR := hZd.set_other _ _ (by show w.heap.size ≠ N; omega)
      have hBe : Below w.heap.size w (wd.setCell ⟨N, 21, none⟩ (.int .i64 (B 29))) := hBd.setCell (p := ⟨N, 21, none⟩) (show w.heap.size ≤ N by omega) _
      have HRe := Lib.hid hRe
      have HZe := Lib.hid hZe
      have HBe := Lib.hid hBe
      have HTe := Lib.hid ht
      clear sd hRd hZd hBd hRe hZe hBe ht HR9 HZ9 HB9 HCn this hin HEq0 HEq1 HEq2 HEq3 HFin
      go_wp2_with (refine wpList_load_row rfl 24 _ rfl N rfl _ _ (0, 0) _ HRe.out Try.underlying24 rfl rg_info ?_)
      generalize wd.setCell ⟨N, 21, none⟩ (.int .i64 (B 29)) = we at *
      clear x29 gg ff
      by_cases hm : t.May
      · refine (r8_bytes_may t hok hm _).mono ?_
        rintro e w4 ⟨⟨A4, c4, rfl, ho4⟩, hb⟩
        have hN4 := HRe.out.below hb HRe.out.lt
        have hZ4 := HZe.out.below hb HZe.out.lt
        have hB4 := HBe.out.trans (hb.mono HBe.out.size)
        have hH4 := HH.out.below hB4
        have s1 := run_string_rb w4 _ A4 c4 _ ho4.rb
        have s2 := run_string_rb w4 _ _ c l hH4
        rw [bytesR_len] at s1
        rw [HL32.out] at s2
        clear hb HRe HZe HBe hH4
        by_cases hq : bytesR t = l
        · rw [hq] at s1
          generalize strOfNums l = SS at s1 s2
          have HX2 := Lib.hid (show t = X from HTe.out.symm.trans ((if_pos (show readOk l by unfold readOk; rw [HTe.out]; exact ⟨hm, hq⟩)).symm.trans HX.out))
          have HE2 := Lib.hid (show (0 : Int) = E from (if_pos (show readOk l by unfold readOk; rw [HTe.out]; exact ⟨hm, hq⟩)).symm.trans HE.out)
          have HN4 := Lib.hid hN4
          clear hq hm hN4 ho4
          go_wp2_with (first | (refine wpList_load_row rfl 24 _ rfl N rfl _ _ (0, 0) _ HN4.out Try.underlying24 rfl rg_info ?_) | (refine wpList_store_row rfl 24 _ _ rfl w.heap.size t.cells rfl rfl _ _ hZ4 rg_info rfl (rg_one _) ?_))
          (try simp only [Exit.inBlock, Exit.then])
          exact bodyPost_ret (results_row_tmp rfl _ _ _ _ _ (0, 0) _ _ rfl rfl (setRow_heap _ _ _ _ _ _ hZ4) Try.underlying24 rfl rg_info) rfl ⟨by rw [← HX2.out, ← HE2.out]; rfl, below_setRow hB4 (Nat.le_refl _) _⟩
        · have hd : ((strOfNums (bytesR t)).toList == (strOfNums l).toList) = false := by
            rw [ByteArray.toList_eq, ByteArray.toList_eq, beq_eq_false_iff_ne]
            exact fun e => hq (strOfNums_inj ho4.bytes HH.out.bytes (Go.WideShapes.bytes_inj e))
          generalize strOfNums l = S2 at s2 hd
          generalize strOfNums (bytesR t) = S1 at s1 hd
          have HX2 := Lib.hid (show zeroR = X from (if_neg (show ¬ readOk l by unfold readOk; rw [HTe.out]; exact fun h => hq h.2)).symm.trans HX.out)
          have HE2 := Lib.hid (show (4 : Int) = E from (if_neg (show ¬ readOk l by unfold readOk; rw [HTe.out]; exact fun h => hq h.2)).symm.trans HE.out)
          clear hq hm hN4 ho4
          go_wp2_with (refine wpList_store_row rfl 24 _ _ rfl w.heap.size zeroR.cells rfl rfl _ _ hZ4 rg_info rfl (rg_one _) ?_)
          (try simp only [Exit.inBlock, Exit.then])
          exact bodyPost_ret (results_row_tmp rfl _ _ _ _ _ (0, 0) _ _ rfl rfl (setRow_heap _ _ _ _ _ _ hZ4) Try.underlying24 rfl rg_info) rfl ⟨by rw [← HX2.out, ← HE2.out]; rfl, below_setRow hB4 (Nat.le_refl _) _⟩
      · refine (r8_bytes_no t hm _).mono ?_
        rintro e w4 ⟨rfl, hb⟩
        have hZ4 := HZe.out.below hb HZe.out.lt
        have hB4 := HBe.out.trans (hb.mono HBe.out.size)
        have HX2 := Lib.hid (show zeroR = X from (if_neg (show ¬ readOk l by unfold readOk; rw [HTe.out]; exact fun h => hm h.1)).symm.trans HX.out)
        have HE2 := Lib.hid (show (4 : Int) = E from (if_neg (show ¬ readOk l by unfold readOk; rw [HTe.out]; exact fun h => hm h.1)).symm.trans HE.out)
        clear hb hm HRe HZe HBe
        go_wp2_with (refine wpList_store_row rfl 24 _ _ rfl w.heap.size zeroR.cells rfl rfl _ _ hZ4 rg_info rfl (rg_one _) ?_)
        (try simp only [Exit.inBlock, Exit.then])
        exact bodyPost_ret (results_row_tmp rfl _ _ _ _ _ (0, 0) _ _ rfl rfl (setRow_heap _ _ _ _ _ _ hZ4) Try.underlying24 rfl rg_info) rfl ⟨by rw [← HX2.out, ← HE2.out]; rfl, below_setRow hB4 (Nat.le_refl _) _⟩
theorem r8_read_any (A : Option Addr) (c n : Nat) (l : List Int) (w : World) (hn : n = l.length) (h : RB w w.heap.size A c l) : Calls Try.prog 12 #[.slice A n c] w fun e w' => e = .returned (.tuple #[(rdR l).val, .int .i64 (rdE l)]) ∧ Below w.heap.size w w' := by
  subst hn
  unfold rdR rdE
  by_cases hl : l.length = 32
  · rw [if_pos hl, if_pos hl]
    obtain ⟨bb, off, rfl, -, -⟩ := h.pos (by omega)
    have := r8_read bb off c l w h hl
    rw [← hl] at this
    exact this
  · rw [if_neg hl, if_neg hl]
    exact r8_read_len A l.length c hl w
end Go.Proofs.Ytedlfcmlchjjlaa
