/-   -/
import Derived.Test.YtgaihekapakoeaaGreatDoorJ20
import Derived.Test.YtgaihekapakoeaaGreatDoorShelfB
import Derived.Test.YtgaihekapakoeaaGreatDoorJ19
set_option linter.unusedVariables false
set_option linter.unusedSimpArgs false
namespace Go.Proofs.YtgaihekapakoeaaGreatDoor
open Go.RowKit


set_option maxRecDepth 100000

def rdC (r : Rd) : Array Value := #[.string ⟨r.rest.toArray⟩, .int .i64 (r.op : Int), .bool r.is]
def RdW (w : World) (b : Nat) (r : Rd) : Prop := w.heap[b]? = some (.cells (rdC r) 152 (0, 0))
theorem RdW.free {w : World} {b : Nat} {r : Rd} (h : RdW w b r) (k : Nat) : w.frozen? ⟨b, k, none⟩ = false := frozen_of_row w b k _ _ h
theorem RdW.lt {w : World} {b : Nat} {r : Rd} (h : RdW w b r) : b < w.heap.size := (Array.getElem?_eq_some_iff.1 h).1
theorem RdW.keep {w w' : World} {b : Nat} {r : Rd} (h : RdW w b r) (hb : w'.heap[b]? = w.heap[b]?) : RdW w' b r := hb.trans h
theorem RdW.at_ {w : World} {b : Nat} {r : Rd} (h : RdW w b r) (k : Nat) (v : Value) (hv : (rdC r)[k]? = some v) : w.cell? ⟨b, k, none⟩ = some v := by rw [cell_of_row _ _ _ _ _ _ h]; exact hv
theorem RdW.g0 {w : World} {b : Nat} {r : Rd} (h : RdW w b r) : w.cell? ⟨b, 0, none⟩ = some (.string ⟨r.rest.toArray⟩) := h.at_ 0 _ rfl
theorem RdW.g1 {w : World} {b : Nat} {r : Rd} (h : RdW w b r) : w.cell? ⟨b, 1, none⟩ = some (.int .i64 (r.op : Int)) := h.at_ 1 _ rfl
theorem RdW.g2 {w : World} {b : Nat} {r : Rd} (h : RdW w b r) : w.cell? ⟨b, 2, none⟩ = some (.bool r.is) := h.at_ 2 _ rfl
theorem RdW.p0 {w : World} {b : Nat} {r : Rd} (h : RdW w b r) (l : List UInt8) : RdW (w.setCell ⟨b, 0, none⟩ (.string ⟨l.toArray⟩)) b ⟨l, r.op, r.is⟩ := by
 unfold RdW at *; rw [heap_setCell_same w b 0 _ _ _ h]; rfl
theorem RdW.p1 {w : World} {b : Nat} {r : Rd} (h : RdW w b r) (n : Nat) : RdW (w.setCell ⟨b, 1, none⟩ (.int .i64 (n : Int))) b ⟨r.rest, n, r.is⟩ := by
 unfold RdW at *; rw [heap_setCell_same w b 1 _ _ _ h]; rfl
theorem RdW.p2 {w : World} {b : Nat} {r : Rd} (h : RdW w b r) (q : Bool) : RdW (w.setCell ⟨b, 2, none⟩ (.bool q)) b ⟨r.rest, r.op, q⟩ := by
 unfold RdW at *; rw [heap_setCell_same w b 2 _ _ _ h]; rfl
def Turns (w : World) (b : Nat) (r' : Rd) (e : Ending) (w' : World) : Prop := e = .returned (.tuple #[]) ∧ RdW w' b r' ∧ Save (· = b) w w'

set_option maxHeartbeats 1000000 in
theorem n_byte (w : World) (B : Nat) (hV : VT w B) (k : Nat) (hk : k < 8) : Calls Tryz.prog 169 #[.int .i64 (k : Int)] w fun e w' => e = .returned (.string ⟨(nameT k).toArray⟩) ∧ w = w' := by
 have hf : w.cell? ⟨5, k, none⟩ = some (.string ⟨(nameT k).toArray⟩) := hV.names.2 k hk
 have hk2 : (k : Int) < 8 := by omega
 generalize nameT k = l at *
 clear hV
 go_enter Tryz.func169, Tryz.ntmps169
 go_wp2
 go_ret
 exact ⟨rfl, rfl⟩

set_option maxHeartbeats 1000000 in
theorem n_pair (w : World) (B : Nat) (hV : VT w B) (k : Nat) (hk : k < 4) : Calls Tryz.prog 170 #[.int .i64 (k : Int)] w fun e w' => e = .returned (.string ⟨(pairT k).toArray⟩) ∧ w = w' := by
 have hf : w.cell? ⟨6, k, none⟩ = some (.string ⟨(pairT k).toArray⟩) := hV.pairs.2 k hk
 have hk2 : (k : Int) < 4 := by omega
 generalize pairT k = l at *
 clear hV
 go_enter Tryz.func170, Tryz.ntmps170
 go_wp2
 go_ret
 exact ⟨rfl, rfl⟩

set_option maxHeartbeats 1000000 in
theorem n_cond (w : World) (B : Nat) (hV : VT w B) (k : Nat) (hk : k < 8) : Calls Tryz.prog 172 #[.int .i64 (k : Int)] w fun e w' => e = .returned (.string ⟨(condT k).toArray⟩) ∧ w = w' := by
 have hf : w.cell? ⟨1, k, none⟩ = some (.string ⟨(condT k).toArray⟩) := hV.conds.2 k hk
 have hk2 : (k : Int) < 8 := by omega
 generalize condT k = l at *
 clear hV
 go_enter Tryz.func172, Tryz.ntmps172
 go_wp2
 go_ret
 exact ⟨rfl, rfl⟩

set_option maxHeartbeats 1000000 in
theorem n_shift (w : World) (B : Nat) (hV : VT w B) (k : Nat) (hk : k < 8) : Calls Tryz.prog 175 #[.int .i64 (k : Int)] w fun e w' => e = .returned (.string ⟨(shiftT k).toArray⟩) ∧ w = w' := by
 have hf : w.cell? ⟨2, k, none⟩ = some (.string ⟨(shiftT k).toArray⟩) := hV.shifts.2 k hk
 have hk2 : (k : Int) < 8 := by omega
 generalize shiftT k = l at *
 clear hV
 go_enter Tryz.func175, Tryz.ntmps175
 go_wp2
 go_ret
 exact ⟨rfl, rfl⟩

set_option maxHeartbeats 1000000 in
theorem n_oper (w : World) (B : Nat) (hV : VT w B) (k : Nat) (hk : k < 8) : Calls Tryz.prog 176 #[.int .i64 (k : Int)] w fun e w' => e = .returned (.string ⟨(operT k).toArray⟩) ∧ w = w' := by
 have hf : w.cell? ⟨3, k, none⟩ = some (.string ⟨(operT k).toArray⟩) := hV.opers.2 k hk
 have hk2 : (k : Int) < 8 := by omega
 generalize operT k = l at *
 clear hV
 go_enter Tryz.func176, Tryz.ntmps176
 go_wp2
 go_ret
 exact ⟨rfl, rfl⟩

set_option maxHeartbeats 1000000 in
theorem n_stack (w : World) (B : Nat) (hV : VT w B) (k : Nat) (hk : k < 4) : Calls Tryz.prog 171 #[.int .i64 (k : Int)] w fun e w' => e = .returned (.string ⟨(stackT k).toArray⟩) ∧ w = w' := by
 have hf : w.cell? ⟨6, k, none⟩ = some (.string ⟨(pairT k).toArray⟩) := hV.pairs.2 k hk
 have hk2 : (k : Int) < 4 := by omega
 by_cases h3 : k = 3
 ·subst h3
  clear hV hf
  go_enter Tryz.func171, Tryz.ntmps171
  go_wp2
  go_ret
  exact ⟨rfl, rfl⟩
 ·have he : ((k : Int) == 3) = false := beq_eq_false_iff_ne.2 (by omega)
  have hl : stackT k = pairT k := by unfold stackT pairT; rw [if_neg h3]
  rw [hl]
  generalize pairT k = l at *
  clear hV h3 hl
  go_enter Tryz.func171, Tryz.ntmps171
  go_wp2
  go_ret
  exact ⟨rfl, rfl⟩
theorem n_dig (w : World) (k : Nat) (hk : k < 8) : Calls Tryz.prog 173 #[.int .i64 (k : Int)] w fun e w' => e = .returned (.string ⟨(digT k).toArray⟩) ∧ w = w' := by
 have h := itoa_lt8 k hk
 have hd : digT k = Lib.decDigits k := by
  unfold Lib.itoa at h
  rw [if_neg (by omega), Int.toNat_natCast] at h
  rw [h]; rfl
 rw [hd]
 refine (Tryz.strconv_Itoa_small k (by omega) w).mono ?_
 rintro e w' ⟨rfl, rfl⟩
 exact ⟨rfl, rfl⟩
set_option maxHeartbeats 1000000 in
theorem n_tens (w : World) (k : Nat) (hk : k < 8) : Calls Tryz.prog 174 #[.int .i64 (k : Int)] w fun e w' => e = .returned (.string ⟨(tensT k).toArray⟩) ∧ w = w' := by
 have h := itoa_tens k hk
 have hd : tensT k = Lib.decDigits (8 * k) := by
  unfold Lib.itoa at h
  rw [if_neg (by omega), show (8 * (k : Int)).toNat = 8 * k by omega] at h
  exact h.symm
 rw [hd]
 have HI := z_ (Tryz.strconv_Itoa_small (8 * k) (by omega) w)
 have hk2 : (k : Int) < 8 := by omega
 have he : ((8 * k : Nat) : Int) = 8 * (k : Int) := by push_cast; rfl
 rw [he] at HI
 generalize Lib.decDigits (8 * k) = l at *
 clear h hd he
 go_enter Tryz.func174, Tryz.ntmps174
 go_wp2_with (go_at_call 173; (with_reducible refine HI.out.mono ?_); rintro e w' ⟨rfl, rfl⟩)
 go_ret
 exact ⟨rfl, rfl⟩
theorem cut_prefix (w : World) (s p : List UInt8) : Calls Tryz.prog 58 #[.string ⟨s.toArray⟩, .string ⟨p.toArray⟩] w fun e w' => e = .returned (.tuple #[.string ⟨(Lib.trimPrefix s p).toArray⟩, .bool (Lib.hasPrefix s p)]) ∧ w = w' := by
 refine (Tryz.strings_CutPrefix ⟨s.toArray⟩ ⟨p.toArray⟩ w).mono ?_
 rintro e w' ⟨rfl, rfl⟩
 exact ⟨rfl, rfl⟩
end Go.Proofs.YtgaihekapakoeaaGreatDoor
namespace Go.Proofs.YtgaihekapakoeaaGreatDoor
open Go.RowKit


set_option maxRecDepth 100000

theorem save_drew (S : Nat → Prop) (w : World) : Save S w w.drew := ⟨rfl, rfl, rfl, Nat.le_refl _, fun _ _ _ => rfl⟩
theorem or_3 : ∀ a : Fin 256, ∀ k : Fin 8, bits .or .i64 (a.val : Int) ((k.val : Int) * 8) = ((a.val ||| (k.val <<< 3) : Nat) : Int) := by decide +kernel
theorem or_0 : ∀ a : Fin 256, ∀ k : Fin 8, bits .or .i64 (a.val : Int) ((k.val : Int)) = ((a.val ||| (k.val <<< 0) : Nat) : Int) := by decide +kernel
theorem or_4 : ∀ a : Fin 256, ∀ k : Fin 4, bits .or .i64 (a.val : Int) ((k.val : Int) * 16) = ((a.val ||| (k.val <<< 4) : Nat) : Int) := by decide +kernel
set_option maxHeartbeats 4000000 in
theorem r_byte3 (w : World) (b : Nat) (r : Rd) (hV : VT w w.heap.size) (hr : RdW w b r) (ho : r.op < 256) :
  Calls Tryz.prog 168 #[.pointer (some ⟨b, 0, none⟩), .int .i64 3, .int .i64 8, .func (.func 169) #[] #[]] w (Turns w b (nameF nameT 3 r 8 0)) := by
 have HT := z_ (fun (w1 : World) (hb : Below w.heap.size w w1) k (hk : k < 8) => n_byte w1 _ (hV.below hb) k hk)
 have HC := z_ (fun (w1 : World) p => cut_prefix w1 r.rest p)
 obtain ⟨F, hF⟩ : ∃ F, nameF nameT 3 r = F := ⟨_, rfl⟩
 have F0 := z_ (show ∀ k, F 0 k = ⟨r.rest, r.op, false⟩ from fun k => by rw [← hF]; rfl)
 have F1 := z_ (show ∀ n k, F (n + 1) k = if Lib.hasPrefix r.rest (nameT k) = true then ⟨Lib.trimPrefix r.rest (nameT k), r.op ||| (k <<< 3), r.is⟩ else F n (k + 1) from fun n k => by rw [← hF]; rfl)
 rw [hF]
 obtain ⟨R, hR⟩ : ∃ R, F 8 0 = R := ⟨_, rfl⟩
 rw [hR]
 have HR := z_ hR
 obtain ⟨tab, htab⟩ : ∃ tab, nameT = tab := ⟨_, rfl⟩
 rw [htab] at HT F1
 have Hr := z_ hr
 have Ho := z_ ho
 clear hF hR htab hr ho
 go_enter Tryz.func168, Tryz.ntmps168
 go_wp2_with fail
 go_loopw [12] (fun v wr => ∃ k : Nat, k ≤ 8 ∧ v = .int .i64 k ∧ M.Base w wr ∧ Hid (F (8 - k) k = R)) (fun v _ => 8 - (intOf v).toNat)
 case atStart => exact ⟨0, by omega, rfl, M.Base.refl _, z_ HR.out⟩
 case round =>
  obtain ⟨k, hk, rfl, hb, hrel⟩ := hrel
  have hb2 := z_ hb
  have hrw : RdW wr b r := Hr.out.keep (hb.2.block _ Hr.out.lt)
  by_cases he : k < 8
  ·have hHT := z_ (HT.out wr hb.2 k he)
   have hHC := z_ (fun w1 => HC.out w1 (tab k))
   have HK := F1.out (8 - (k + 1)) k
   rw [show 8 - (k + 1) + 1 = 8 - k by omega, hrel.out] at HK
   have HTT := z_ (fun (w1 : World) (h1 : M.Base wr w1) => HT.out w1 (hb2.out.below (h1.2.mono hb2.out.1)).2 k he)
   obtain ⟨t, ht⟩ : ∃ t, tab k = t := ⟨_, rfl⟩
   rw [ht] at HK hHC HTT
   obtain ⟨q, hq⟩ : ∃ q, Lib.hasPrefix r.rest t = q := ⟨_, rfl⟩
   obtain ⟨u, hu⟩ : ∃ u, Lib.trimPrefix r.rest t = u := ⟨_, rfl⟩
   rw [hq, hu] at hHC HK
   obtain ⟨s, hs⟩ : ∃ s, r.rest = s := ⟨_, rfl⟩
   rw [hs] at hHC
   have f0 : ∀ p : M.Of (M.Base wr), p.w.cell? ⟨b, 0, none⟩ = some (.string ⟨s.toArray⟩) := fun p => hs ▸ (hrw.keep (p.ok.2.block _ hrw.lt)).g0
   have HKK := z_ HK
   clear HK
   have Hrw := z_ hrw
   have Hs := z_ hs
   clear hb hrw ht hq hu hs hHT hrel
   go_upto_region 3 with fail
   refine M.rg ?_
   refine M.sg [0, 1, 2, 3, 4, 5] 7 ?_
   repeat (go_big_quiet_step (fail))
   refine wpQuiet_nil ?_
   refine M.cm 6 (.string ⟨t.toArray⟩) ?_ ?_
   ·intro wz sz
    unfold Oper.does
    go_simp
    exact (HTT.out wz sz).mono fun e w' ⟨he, hw⟩ => ⟨_, he, rfl, hw ▸ Save.refl _ _⟩
   go_simp
   refine M.cm 7 (.tuple #[.string ⟨u.toArray⟩, .bool q]) ?_ ?_
   ·intro wz sz
    unfold Oper.does
    go_simp
    exact (hHC.out wz).mono fun e w' ⟨he, hw⟩ => ⟨_, he, rfl, hw ▸ Save.refl _ _⟩
   go_simp
   refine M.sg [8, 9, 10, 11, 12] 0 ?_
   repeat (go_big_quiet_step (fail))
   refine wpQuiet_nil ?_
   refine M.en ?_
   intro wc sc
   have hrc : RdW wc b r := Hrw.out.keep (sc.2.block _ Hrw.out.lt)
   have hbc : M.Base w wc := hb2.out.below (sc.2.mono hb2.out.1)
   have Hbc := z_ hbc
   have Hrc := z_ hrc
   have g1 := hrc.g1
   have l2 : (k : Int) < 8 := by omega
   clear sc f0 hrc hbc
   cases q with
   | true =>
    have HK := HKK.out
    rw [if_pos rfl] at HK
    have hor : bits .or .i64 (r.op : Int) ((k : Int) * 8) = ((r.op ||| (k <<< 3) : Nat) : Int) := or_3 ⟨r.op, Ho.out⟩ ⟨k, by omega⟩
    obtain ⟨op, hop⟩ : ∃ op, r.op = op := ⟨_, rfl⟩
    obtain ⟨nx, hnx⟩ : ∃ nx, op ||| (k <<< 3) = nx := ⟨_, rfl⟩
    rw [hop] at hor g1
    rw [hop, hnx] at HK
    have HE := z_ HK
    clear HK
    rw [hnx] at hor
    have g0 := Hrc.out.g0
    obtain ⟨v0, hv0⟩ : ∃ v0, Value.string ⟨r.rest.toArray⟩ = v0 := ⟨_, rfl⟩
    rw [hv0] at g0
    have fz0 := Hrc.out.free 0
    have fz1 := Hrc.out.free 1
    have k1 : (wc.setCell ⟨b, 0, none⟩ (.string ⟨u.toArray⟩)).cell? ⟨b, 1, none⟩ = some (.int .i64 (op : Int)) := hop ▸ (Hrc.out.p0 u).g1
    have k0 : (wc.setCell ⟨b, 1, none⟩ (.int .i64 (nx : Int))).cell? ⟨b, 0, none⟩ = some v0 := hv0 ▸ (Hrc.out.p1 nx).g0
    have z1 := (Hrc.out.p0 u).free 1
    have z0 := (Hrc.out.p1 nx).free 0
    clear hop hnx hv0
    go_upto_region 5 with fail
    go_region
    all_goals
     go_wp2_with fail
     go_end0
     first
      | exact ⟨rfl, HE.out ▸ (Hrc.out.p0 u).p1 nx, (((Save.of_below Hbc.out.2).trans (save_setCell _ _ _ _)).trans (save_setCell _ _ _ _)).trans (save_drew _ _)⟩
      | exact ⟨rfl, HE.out ▸ (Hrc.out.p1 nx).p0 u, (((Save.of_below Hbc.out.2).trans (save_setCell _ _ _ _)).trans (save_setCell _ _ _ _)).trans (save_drew _ _)⟩
   | false =>
    have HK := HKK.out
    rw [if_neg (by decide)] at HK
    have HE := z_ HK
    clear HK
    go_wp2_with fail
    go_roundw
    case rel => exact ⟨k + 1, by omega, by go_num, Hbc.out, z_ HE.out.symm⟩
    case measure => simp [intOf]; omega
  ·obtain rfl : k = 8 := by omega
   have g2 := hrw.g2
   have fz2 := hrw.free 2
   have Hrw := z_ hrw
   clear hb hrw
   go_wp2_with fail
   go_end0
   have e : R = ⟨r.rest, r.op, false⟩ := by
    have := hrel.out
    rw [Nat.sub_self, F0.out] at this
    exact this.symm
   exact ⟨rfl, e ▸ Hrw.out.p2 false, (Save.of_below hb2.out.2).trans (save_setCell _ _ _ _)⟩

set_option maxHeartbeats 4000000 in
theorem r_byte0 (w : World) (b : Nat) (r : Rd) (hV : VT w w.heap.size) (hr : RdW w b r) (ho : r.op < 256) :
  Calls Tryz.prog 168 #[.pointer (some ⟨b, 0, none⟩), .int .i64 0, .int .i64 8, .func (.func 169) #[] #[]] w (Turns w b (nameF nameT 0 r 8 0)) := by
 have HT := z_ (fun (w1 : World) (hb : Below w.heap.size w w1) k (hk : k < 8) => n_byte w1 _ (hV.below hb) k hk)
 have HC := z_ (fun (w1 : World) p => cut_prefix w1 r.rest p)
 obtain ⟨F, hF⟩ : ∃ F, nameF nameT 0 r = F := ⟨_, rfl⟩
 have F0 := z_ (show ∀ k, F 0 k = ⟨r.rest, r.op, false⟩ from fun k => by rw [← hF]; rfl)
 have F1 := z_ (show ∀ n k, F (n + 1) k = if Lib.hasPrefix r.rest (nameT k) = true then ⟨Lib.trimPrefix r.rest (nameT k), r.op ||| (k <<< 0), r.is⟩ else F n (k + 1) from fun n k => by rw [← hF]; rfl)
 rw [hF]
 obtain ⟨R, hR⟩ : ∃ R, F 8 0 = R := ⟨_, rfl⟩
 rw [hR]
 have HR := z_ hR
 obtain ⟨tab, htab⟩ : ∃ tab, nameT = tab := ⟨_, rfl⟩
 rw [htab] at HT F1
 have Hr := z_ hr
 have Ho := z_ ho
 clear hF hR htab hr ho
 go_enter Tryz.func168, Tryz.ntmps168
 go_wp2_with fail
 go_loopw [12] (fun v wr => ∃ k : Nat, k ≤ 8 ∧ v = .int .i64 k ∧ M.Base w wr ∧ Hid (F (8 - k) k = R)) (fun v _ => 8 - (intOf v).toNat)
 case atStart => exact ⟨0, by omega, rfl, M.Base.refl _, z_ HR.out⟩
 case round =>
  obtain ⟨k, hk, rfl, hb, hrel⟩ := hrel
  have hb2 := z_ hb
  have hrw : RdW wr b r := Hr.out.keep (hb.2.block _ Hr.out.lt)
  by_cases he : k < 8
  ·have hHT := z_ (HT.out wr hb.2 k he)
   have hHC := z_ (fun w1 => HC.out w1 (tab k))
   have HK := F1.out (8 - (k + 1)) k
   rw [show 8 - (k + 1) + 1 = 8 - k by omega, hrel.out] at HK
   have HTT := z_ (fun (w1 : World) (h1 : M.Base wr w1) => HT.out w1 (hb2.out.below (h1.2.mono hb2.out.1)).2 k he)
   obtain ⟨t, ht⟩ : ∃ t, tab k = t := ⟨_, rfl⟩
   rw [ht] at HK hHC HTT
   obtain ⟨q, hq⟩ : ∃ q, Lib.hasPrefix r.rest t = q := ⟨_, rfl⟩
   obtain ⟨u, hu⟩ : ∃ u, Lib.trimPrefix r.rest t = u := ⟨_, rfl⟩
   rw [hq, hu] at hHC HK
   obtain ⟨s, hs⟩ : ∃ s, r.rest = s := ⟨_, rfl⟩
   rw [hs] at hHC
   have f0 : ∀ p : M.Of (M.Base wr), p.w.cell? ⟨b, 0, none⟩ = some (.string ⟨s.toArray⟩) := fun p => hs ▸ (hrw.keep (p.ok.2.block _ hrw.lt)).g0
   have HKK := z_ HK
   clear HK
   have Hrw := z_ hrw
   have Hs := z_ hs
   clear hb hrw ht hq hu hs hHT hrel
   go_upto_region 3 with fail
   refine M.rg ?_
   refine M.sg [0, 1, 2, 3, 4, 5] 7 ?_
   repeat (go_big_quiet_step (fail))
   refine wpQuiet_nil ?_
   refine M.cm 6 (.string ⟨t.toArray⟩) ?_ ?_
   ·intro wz sz
    unfold Oper.does
    go_simp
    exact (HTT.out wz sz).mono fun e w' ⟨he, hw⟩ => ⟨_, he, rfl, hw ▸ Save.refl _ _⟩
   go_simp
   refine M.cm 7 (.tuple #[.string ⟨u.toArray⟩, .bool q]) ?_ ?_
   ·intro wz sz
    unfold Oper.does
    go_simp
    exact (hHC.out wz).mono fun e w' ⟨he, hw⟩ => ⟨_, he, rfl, hw ▸ Save.refl _ _⟩
   go_simp
   refine M.sg [8, 9, 10, 11, 12] 0 ?_
   repeat (go_big_quiet_step (fail))
   refine wpQuiet_nil ?_
   refine M.en ?_
   intro wc sc
   have hrc : RdW wc b r := Hrw.out.keep (sc.2.block _ Hrw.out.lt)
   have hbc : M.Base w wc := hb2.out.below (sc.2.mono hb2.out.1)
   have Hbc := z_ hbc
   have Hrc := z_ hrc
   have g1 := hrc.g1
   have l2 : (k : Int) < 8 := by omega
   clear sc f0 hrc hbc
   cases q with
   | true =>
    have HK := HKK.out
    rw [if_pos rfl] at HK
    have hor : bits .or .i64 (r.op : Int) ((k : Int)) = ((r.op ||| (k <<< 0) : Nat) : Int) := or_0 ⟨r.op, Ho.out⟩ ⟨k, by omega⟩
    obtain ⟨op, hop⟩ : ∃ op, r.op = op := ⟨_, rfl⟩
    obtain ⟨nx, hnx⟩ : ∃ nx, op ||| (k <<< 0) = nx := ⟨_, rfl⟩
    rw [hop] at hor g1
    rw [hop, hnx] at HK
    have HE := z_ HK
    clear HK
    rw [hnx] at hor
    have g0 := Hrc.out.g0
    obtain ⟨v0, hv0⟩ : ∃ v0, Value.string ⟨r.rest.toArray⟩ = v0 := ⟨_, rfl⟩
    rw [hv0] at g0
    have fz0 := Hrc.out.free 0
    have fz1 := Hrc.out.free 1
    have k1 : (wc.setCell ⟨b, 0, none⟩ (.string ⟨u.toArray⟩)).cell? ⟨b, 1, none⟩ = some (.int .i64 (op : Int)) := hop ▸ (Hrc.out.p0 u).g1
    have k0 : (wc.setCell ⟨b, 1, none⟩ (.int .i64 (nx : Int))).cell? ⟨b, 0, none⟩ = some v0 := hv0 ▸ (Hrc.out.p1 nx).g0
    have z1 := (Hrc.out.p0 u).free 1
    have z0 := (Hrc.out.p1 nx).free 0
    clear hop hnx hv0
    go_upto_region 5 with fail
    go_region
    all_goals
     go_wp2_with fail
     go_end0
     first
      | exact ⟨rfl, HE.out ▸ (Hrc.out.p0 u).p1 nx, (((Save.of_below Hbc.out.2).trans (save_setCell _ _ _ _)).trans (save_setCell _ _ _ _)).trans (save_drew _ _)⟩
      | exact ⟨rfl, HE.out ▸ (Hrc.out.p1 nx).p0 u, (((Save.of_below Hbc.out.2).trans (save_setCell _ _ _ _)).trans (save_setCell _ _ _ _)).trans (save_drew _ _)⟩
   | false =>
    have HK := HKK.out
    rw [if_neg (by decide)] at HK
    have HE := z_ HK
    clear HK
    go_wp2_with fail
    go_roundw
    case rel => exact ⟨k + 1, by omega, by go_num, Hbc.out, z_ HE.out.symm⟩
    case measure => simp [intOf]; omega
  ·obtain rfl : k = 8 := by omega
   have g2 := hrw.g2
   have fz2 := hrw.free 2
   have Hrw := z_ hrw
   clear hb hrw
   go_wp2_with fail
   go_end0
   have e : R = ⟨r.rest, r.op, false⟩ := by
    have := hrel.out
    rw [Nat.sub_self, F0.out] at this
    exact this.symm
   exact ⟨rfl, e ▸ Hrw.out.p2 false, (Save.of_below hb2.out.2).trans (save_setCell _ _ _ _)⟩

set_option maxHeartbeats 4000000 in
theorem r_pair (w : World) (b : Nat) (r : Rd) (hV : VT w w.heap.size) (hr : RdW w b r) (ho : r.op < 256) :
  Calls Tryz.prog 168 #[.pointer (some ⟨b, 0, none⟩), .int .i64 4, .int .i64 4, .func (.func 170) #[] #[]] w (Turns w b (nameF pairT 4 r 4 0)) := by
 have HT := z_ (fun (w1 : World) (hb : Below w.heap.size w w1) k (hk : k < 4) => n_pair w1 _ (hV.below hb) k hk)
 have HC := z_ (fun (w1 : World) p => cut_prefix w1 r.rest p)
 obtain ⟨F, hF⟩ : ∃ F, nameF pairT 4 r = F := ⟨_, rfl⟩
 have F0 := z_ (show ∀ k, F 0 k = ⟨r.rest, r.op, false⟩ from fun k => by rw [← hF]; rfl)
 have F1 := z_ (show ∀ n k, F (n + 1) k = if Lib.hasPrefix r.rest (pairT k) = true then ⟨Lib.trimPrefix r.rest (pairT k), r.op ||| (k <<< 4), r.is⟩ else F n (k + 1) from fun n k => by rw [← hF]; rfl)
 rw [hF]
 obtain ⟨R, hR⟩ : ∃ R, F 4 0 = R := ⟨_, rfl⟩
 rw [hR]
 have HR := z_ hR
 obtain ⟨tab, htab⟩ : ∃ tab, pairT = tab := ⟨_, rfl⟩
 rw [htab] at HT F1
 have Hr := z_ hr
 have Ho := z_ ho
 clear hF hR htab hr ho
 go_enter Tryz.func168, Tryz.ntmps168
 go_wp2_with fail
 go_loopw [12] (fun v wr => ∃ k : Nat, k ≤ 4 ∧ v = .int .i64 k ∧ M.Base w wr ∧ Hid (F (4 - k) k = R)) (fun v _ => 4 - (intOf v).toNat)
 case atStart => exact ⟨0, by omega, rfl, M.Base.refl _, z_ HR.out⟩
 case round =>
  obtain ⟨k, hk, rfl, hb, hrel⟩ := hrel
  have hb2 := z_ hb
  have hrw : RdW wr b r := Hr.out.keep (hb.2.block _ Hr.out.lt)
  by_cases he : k < 4
  ·have hHT := z_ (HT.out wr hb.2 k he)
   have hHC := z_ (fun w1 => HC.out w1 (tab k))
   have HK := F1.out (4 - (k + 1)) k
   rw [show 4 - (k + 1) + 1 = 4 - k by omega, hrel.out] at HK
   have HTT := z_ (fun (w1 : World) (h1 : M.Base wr w1) => HT.out w1 (hb2.out.below (h1.2.mono hb2.out.1)).2 k he)
   obtain ⟨t, ht⟩ : ∃ t, tab k = t := ⟨_, rfl⟩
   rw [ht] at HK hHC HTT
   obtain ⟨q, hq⟩ : ∃ q, Lib.hasPrefix r.rest t = q := ⟨_, rfl⟩
   obtain ⟨u, hu⟩ : ∃ u, Lib.trimPrefix r.rest t = u := ⟨_, rfl⟩
   rw [hq, hu] at hHC HK
   obtain ⟨s, hs⟩ : ∃ s, r.rest = s := ⟨_, rfl⟩
   rw [hs] at hHC
   have f0 : ∀ p : M.Of (M.Base wr), p.w.cell? ⟨b, 0, none⟩ = some (.string ⟨s.toArray⟩) := fun p => hs ▸ (hrw.keep (p.ok.2.block _ hrw.lt)).g0
   have HKK := z_ HK
   clear HK
   have Hrw := z_ hrw
   have Hs := z_ hs
   clear hb hrw ht hq hu hs hHT hrel
   go_upto_region 3 with fail
   refine M.rg ?_
   refine M.sg [0, 1, 2, 3, 4, 5] 7 ?_
   repeat (go_big_quiet_step (fail))
   refine wpQuiet_nil ?_
   refine M.cm 6 (.string ⟨t.toArray⟩) ?_ ?_
   ·intro wz sz
    unfold Oper.does
    go_simp
    exact (HTT.out wz sz).mono fun e w' ⟨he, hw⟩ => ⟨_, he, rfl, hw ▸ Save.refl _ _⟩
   go_simp
   refine M.cm 7 (.tuple #[.string ⟨u.toArray⟩, .bool q]) ?_ ?_
   ·intro wz sz
    unfold Oper.does
    go_simp
    exact (hHC.out wz).mono fun e w' ⟨he, hw⟩ => ⟨_, he, rfl, hw ▸ Save.refl _ _⟩
   go_simp
   refine M.sg [8, 9, 10, 11, 12] 0 ?_
   repeat (go_big_quiet_step (fail))
   refine wpQuiet_nil ?_
   refine M.en ?_
   intro wc sc
   have hrc : RdW wc b r := Hrw.out.keep (sc.2.block _ Hrw.out.lt)
   have hbc : M.Base w wc := hb2.out.below (sc.2.mono hb2.out.1)
   have Hbc := z_ hbc
   have Hrc := z_ hrc
   have g1 := hrc.g1
   have l2 : (k : Int) < 8 := by omega
   clear sc f0 hrc hbc
   cases q with
   | true =>
    have HK := HKK.out
    rw [if_pos rfl] at HK
    have hor : bits .or .i64 (r.op : Int) ((k : Int) * 16) = ((r.op ||| (k <<< 4) : Nat) : Int) := or_4 ⟨r.op, Ho.out⟩ ⟨k, by omega⟩
    obtain ⟨op, hop⟩ : ∃ op, r.op = op := ⟨_, rfl⟩
    obtain ⟨nx, hnx⟩ : ∃ nx, op ||| (k <<< 4) = nx := ⟨_, rfl⟩
    rw [hop] at hor g1
    rw [hop, hnx] at HK
    have HE := z_ HK
    clear HK
    rw [hnx] at hor
    have g0 := Hrc.out.g0
    obtain ⟨v0, hv0⟩ : ∃ v0, Value.string ⟨r.rest.toArray⟩ = v0 := ⟨_, rfl⟩
    rw [hv0] at g0
    have fz0 := Hrc.out.free 0
    have fz1 := Hrc.out.free 1
    have k1 : (wc.setCell ⟨b, 0, none⟩ (.string ⟨u.toArray⟩)).cell? ⟨b, 1, none⟩ = some (.int .i64 (op : Int)) := hop ▸ (Hrc.out.p0 u).g1
    have k0 : (wc.setCell ⟨b, 1, none⟩ (.int .i64 (nx : Int))).cell? ⟨b, 0, none⟩ = some v0 := hv0 ▸ (Hrc.out.p1 nx).g0
    have z1 := (Hrc.out.p0 u).free 1
    have z0 := (Hrc.out.p1 nx).free 0
    clear hop hnx hv0
    go_upto_region 5 with fail
    go_region
    all_goals
     go_wp2_with fail
     go_end0
     first
      | exact ⟨rfl, HE.out ▸ (Hrc.out.p0 u).p1 nx, (((Save.of_below Hbc.out.2).trans (save_setCell _ _ _ _)).trans (save_setCell _ _ _ _)).trans (save_drew _ _)⟩
      | exact ⟨rfl, HE.out ▸ (Hrc.out.p1 nx).p0 u, (((Save.of_below Hbc.out.2).trans (save_setCell _ _ _ _)).trans (save_setCell _ _ _ _)).trans (save_drew _ _)⟩
   | false =>
    have HK := HKK.out
    rw [if_neg (by decide)] at HK
    have HE := z_ HK
    clear HK
    go_wp2_with fail
    go_roundw
    case rel => exact ⟨k + 1, by omega, by go_num, Hbc.out, z_ HE.out.symm⟩
    case measure => simp [intOf]; omega
  ·obtain rfl : k = 4 := by omega
   have g2 := hrw.g2
   have fz2 := hrw.free 2
   have Hrw := z_ hrw
   clear hb hrw
   go_wp2_with fail
   go_end0
   have e : R = ⟨r.rest, r.op, false⟩ := by
    have := hrel.out
    rw [Nat.sub_self, F0.out] at this
    exact this.symm
   exact ⟨rfl, e ▸ Hrw.out.p2 false, (Save.of_below hb2.out.2).trans (save_setCell _ _ _ _)⟩

set_option maxHeartbeats 4000000 in
theorem r_stack (w : World) (b : Nat) (r : Rd) (hV : VT w w.heap.size) (hr : RdW w b r) (ho : r.op < 256) :
  Calls Tryz.prog 168 #[.pointer (some ⟨b, 0, none⟩), .int .i64 4, .int .i64 4, .func (.func 171) #[] #[]] w (Turns w b (nameF stackT 4 r 4 0)) := by
 have HT := z_ (fun (w1 : World) (hb : Below w.heap.size w w1) k (hk : k < 4) => n_stack w1 _ (hV.below hb) k hk)
 have HC := z_ (fun (w1 : World) p => cut_prefix w1 r.rest p)
 obtain ⟨F, hF⟩ : ∃ F, nameF stackT 4 r = F := ⟨_, rfl⟩
 have F0 := z_ (show ∀ k, F 0 k = ⟨r.rest, r.op, false⟩ from fun k => by rw [← hF]; rfl)
 have F1 := z_ (show ∀ n k, F (n + 1) k = if Lib.hasPrefix r.rest (stackT k) = true then ⟨Lib.trimPrefix r.rest (stackT k), r.op ||| (k <<< 4), r.is⟩ else F n (k + 1) from fun n k => by rw [← hF]; rfl)
 rw [hF]
 obtain ⟨R, hR⟩ : ∃ R, F 4 0 = R := ⟨_, rfl⟩
 rw [hR]
 have HR := z_ hR
 obtain ⟨tab, htab⟩ : ∃ tab, stackT = tab := ⟨_, rfl⟩
 rw [htab] at HT F1
 have Hr := z_ hr
 have Ho := z_ ho
 clear hF hR htab hr ho
 go_enter Tryz.func168, Tryz.ntmps168
 go_wp2_with fail
 go_loopw [12] (fun v wr => ∃ k : Nat, k ≤ 4 ∧ v = .int .i64 k ∧ M.Base w wr ∧ Hid (F (4 - k) k = R)) (fun v _ => 4 - (intOf v).toNat)
 case atStart => exact ⟨0, by omega, rfl, M.Base.refl _, z_ HR.out⟩
 case round =>
  obtain ⟨k, hk, rfl, hb, hrel⟩ := hrel
  have hb2 := z_ hb
  have hrw : RdW wr b r := Hr.out.keep (hb.2.block _ Hr.out.lt)
  by_cases he : k < 4
  ·have hHT := z_ (HT.out wr hb.2 k he)
   have hHC := z_ (fun w1 => HC.out w1 (tab k))
   have HK := F1.out (4 - (k + 1)) k
   rw [show 4 - (k + 1) + 1 = 4 - k by omega, hrel.out] at HK
   have HTT := z_ (fun (w1 : World) (h1 : M.Base wr w1) => HT.out w1 (hb2.out.below (h1.2.mono hb2.out.1)).2 k he)
   obtain ⟨t, ht⟩ : ∃ t, tab k = t := ⟨_, rfl⟩
   rw [ht] at HK hHC HTT
   obtain ⟨q, hq⟩ : ∃ q, Lib.hasPrefix r.rest t = q := ⟨_, rfl⟩
   obtain ⟨u, hu⟩ : ∃ u, Lib.trimPrefix r.rest t = u := ⟨_, rfl⟩
   rw [hq, hu] at hHC HK
   obtain ⟨s, hs⟩ : ∃ s, r.rest = s := ⟨_, rfl⟩
   rw [hs] at hHC
   have f0 : ∀ p : M.Of (M.Base wr), p.w.cell? ⟨b, 0, none⟩ = some (.string ⟨s.toArray⟩) := fun p => hs ▸ (hrw.keep (p.ok.2.block _ hrw.lt)).g0
   have HKK := z_ HK
   clear HK
   have Hrw := z_ hrw
   have Hs := z_ hs
   clear hb hrw ht hq hu hs hHT hrel
   go_upto_region 3 with fail
   refine M.rg ?_
   refine M.sg [0, 1, 2, 3, 4, 5] 7 ?_
   repeat (go_big_quiet_step (fail))
   refine wpQuiet_nil ?_
   refine M.cm 6 (.string ⟨t.toArray⟩) ?_ ?_
   ·intro wz sz
    unfold Oper.does
    go_simp
    exact (HTT.out wz sz).mono fun e w' ⟨he, hw⟩ => ⟨_, he, rfl, hw ▸ Save.refl _ _⟩
   go_simp
   refine M.cm 7 (.tuple #[.string ⟨u.toArray⟩, .bool q]) ?_ ?_
   ·intro wz sz
    unfold Oper.does
    go_simp
    exact (hHC.out wz).mono fun e w' ⟨he, hw⟩ => ⟨_, he, rfl, hw ▸ Save.refl _ _⟩
   go_simp
   refine M.sg [8, 9, 10, 11, 12] 0 ?_
   repeat (go_big_quiet_step (fail))
   refine wpQuiet_nil ?_
   refine M.en ?_
   intro wc sc
   have hrc : RdW wc b r := Hrw.out.keep (sc.2.block _ Hrw.out.lt)
   have hbc : M.Base w wc := hb2.out.below (sc.2.mono hb2.out.1)
   have Hbc := z_ hbc
   have Hrc := z_ hrc
   have g1 := hrc.g1
   have l2 : (k : Int) < 8 := by omega
   clear sc f0 hrc hbc
   cases q with
   | true =>
    have HK := HKK.out
    rw [if_pos rfl] at HK
    have hor : bits .or .i64 (r.op : Int) ((k : Int) * 16) = ((r.op ||| (k <<< 4) : Nat) : Int) := or_4 ⟨r.op, Ho.out⟩ ⟨k, by omega⟩
    obtain ⟨op, hop⟩ : ∃ op, r.op = op := ⟨_, rfl⟩
    obtain ⟨nx, hnx⟩ : ∃ nx, op ||| (k <<< 4) = nx := ⟨_, rfl⟩
    rw [hop] at hor g1
    rw [hop, hnx] at HK
    have HE := z_ HK
    clear HK
    rw [hnx] at hor
    have g0 := Hrc.out.g0
    obtain ⟨v0, hv0⟩ : ∃ v0, Value.string ⟨r.rest.toArray⟩ = v0 := ⟨_, rfl⟩
    rw [hv0] at g0
    have fz0 := Hrc.out.free 0
    have fz1 := Hrc.out.free 1
    have k1 : (wc.setCell ⟨b, 0, none⟩ (.string ⟨u.toArray⟩)).cell? ⟨b, 1, none⟩ = some (.int .i64 (op : Int)) := hop ▸ (Hrc.out.p0 u).g1
    have k0 : (wc.setCell ⟨b, 1, none⟩ (.int .i64 (nx : Int))).cell? ⟨b, 0, none⟩ = some v0 := hv0 ▸ (Hrc.out.p1 nx).g0
    have z1 := (Hrc.out.p0 u).free 1
    have z0 := (Hrc.out.p1 nx).free 0
    clear hop hnx hv0
    go_upto_region 5 with fail
    go_region
    all_goals
     go_wp2_with fail
     go_end0
     first
      | exact ⟨rfl, HE.out ▸ (Hrc.out.p0 u).p1 nx, (((Save.of_below Hbc.out.2).trans (save_setCell _ _ _ _)).trans (save_setCell _ _ _ _)).trans (save_drew _ _)⟩
      | exact ⟨rfl, HE.out ▸ (Hrc.out.p1 nx).p0 u, (((Save.of_below Hbc.out.2).trans (save_setCell _ _ _ _)).trans (save_setCell _ _ _ _)).trans (save_drew _ _)⟩
   | false =>
    have HK := HKK.out
    rw [if_neg (by decide)] at HK
    have HE := z_ HK
    clear HK
    go_wp2_with fail
    go_roundw
    case rel => exact ⟨k + 1, by omega, by go_num, Hbc.out, z_ HE.out.symm⟩
    case measure => simp [intOf]; omega
  ·obtain rfl : k = 4 := by omega
   have g2 := hrw.g2
   have fz2 := hrw.free 2
   have Hrw := z_ hrw
   clear hb hrw
   go_wp2_with fail
   go_end0
   have e : R = ⟨r.rest, r.op, false⟩ := by
    have := hrel.out
    rw [Nat.sub_self, F0.out] at this
    exact this.symm
   exact ⟨rfl, e ▸ Hrw.out.p2 false, (Save.of_below hb2.out.2).trans (save_setCell _ _ _ _)⟩

set_option maxHeartbeats 4000000 in
theorem r_cond8 (w : World) (b : Nat) (r : Rd) (hV : VT w w.heap.size) (hr : RdW w b r) (ho : r.op < 256) :
  Calls Tryz.prog 168 #[.pointer (some ⟨b, 0, none⟩), .int .i64 3, .int .i64 8, .func (.func 172) #[] #[]] w (Turns w b (nameF condT 3 r 8 0)) := by
 have HT := z_ (fun (w1 : World) (hb : Below w.heap.size w w1) k (hk : k < 8) => n_cond w1 _ (hV.below hb) k hk)
 have HC := z_ (fun (w1 : World) p => cut_prefix w1 r.rest p)
 obtain ⟨F, hF⟩ : ∃ F, nameF condT 3 r = F := ⟨_, rfl⟩
 have F0 := z_ (show ∀ k, F 0 k = ⟨r.rest, r.op, false⟩ from fun k => by rw [← hF]; rfl)
 have F1 := z_ (show ∀ n k, F (n + 1) k = if Lib.hasPrefix r.rest (condT k) = true then ⟨Lib.trimPrefix r.rest (condT k), r.op ||| (k <<< 3), r.is⟩ else F n (k + 1) from fun n k => by rw [← hF]; rfl)
 rw [hF]
 obtain ⟨R, hR⟩ : ∃ R, F 8 0 = R := ⟨_, rfl⟩
 rw [hR]
 have HR := z_ hR
 obtain ⟨tab, htab⟩ : ∃ tab, condT = tab := ⟨_, rfl⟩
 rw [htab] at HT F1
 have Hr := z_ hr
 have Ho := z_ ho
 clear hF hR htab hr ho
 go_enter Tryz.func168, Tryz.ntmps168
 go_wp2_with fail
 go_loopw [12] (fun v wr => ∃ k : Nat, k ≤ 8 ∧ v = .int .i64 k ∧ M.Base w wr ∧ Hid (F (8 - k) k = R)) (fun v _ => 8 - (intOf v).toNat)
 case atStart => exact ⟨0, by omega, rfl, M.Base.refl _, z_ HR.out⟩
 case round =>
  obtain ⟨k, hk, rfl, hb, hrel⟩ := hrel
  have hb2 := z_ hb
  have hrw : RdW wr b r := Hr.out.keep (hb.2.block _ Hr.out.lt)
  by_cases he : k < 8
  ·have hHT := z_ (HT.out wr hb.2 k he)
   have hHC := z_ (fun w1 => HC.out w1 (tab k))
   have HK := F1.out (8 - (k + 1)) k
   rw [show 8 - (k + 1) + 1 = 8 - k by omega, hrel.out] at HK
   have HTT := z_ (fun (w1 : World) (h1 : M.Base wr w1) => HT.out w1 (hb2.out.below (h1.2.mono hb2.out.1)).2 k he)
   obtain ⟨t, ht⟩ : ∃ t, tab k = t := ⟨_, rfl⟩
   rw [ht] at HK hHC HTT
   obtain ⟨q, hq⟩ : ∃ q, Lib.hasPrefix r.rest t = q := ⟨_, rfl⟩
   obtain ⟨u, hu⟩ : ∃ u, Lib.trimPrefix r.rest t = u := ⟨_, rfl⟩
   rw [hq, hu] at hHC HK
   obtain ⟨s, hs⟩ : ∃ s, r.rest = s := ⟨_, rfl⟩
   rw [hs] at hHC
   have f0 : ∀ p : M.Of (M.Base wr), p.w.cell? ⟨b, 0, none⟩ = some (.string ⟨s.toArray⟩) := fun p => hs ▸ (hrw.keep (p.ok.2.block _ hrw.lt)).g0
   have HKK := z_ HK
   clear HK
   have Hrw := z_ hrw
   have Hs := z_ hs
   clear hb hrw ht hq hu hs hHT hrel
   go_upto_region 3 with fail
   refine M.rg ?_
   refine M.sg [0, 1, 2, 3, 4, 5] 7 ?_
   repeat (go_big_quiet_step (fail))
   refine wpQuiet_nil ?_
   refine M.cm 6 (.string ⟨t.toArray⟩) ?_ ?_
   ·intro wz sz
    unfold Oper.does
    go_simp
    exact (HTT.out wz sz).mono fun e w' ⟨he, hw⟩ => ⟨_, he, rfl, hw ▸ Save.refl _ _⟩
   go_simp
   refine M.cm 7 (.tuple #[.string ⟨u.toArray⟩, .bool q]) ?_ ?_
   ·intro wz sz
    unfold Oper.does
    go_simp
    exact (hHC.out wz).mono fun e w' ⟨he, hw⟩ => ⟨_, he, rfl, hw ▸ Save.refl _ _⟩
   go_simp
   refine M.sg [8, 9, 10, 11, 12] 0 ?_
   repeat (go_big_quiet_step (fail))
   refine wpQuiet_nil ?_
   refine M.en ?_
   intro wc sc
   have hrc : RdW wc b r := Hrw.out.keep (sc.2.block _ Hrw.out.lt)
   have hbc : M.Base w wc := hb2.out.below (sc.2.mono hb2.out.1)
   have Hbc := z_ hbc
   have Hrc := z_ hrc
   have g1 := hrc.g1
   have l2 : (k : Int) < 8 := by omega
   clear sc f0 hrc hbc
   cases q with
   | true =>
    have HK := HKK.out
    rw [if_pos rfl] at HK
    have hor : bits .or .i64 (r.op : Int) ((k : Int) * 8) = ((r.op ||| (k <<< 3) : Nat) : Int) := or_3 ⟨r.op, Ho.out⟩ ⟨k, by omega⟩
    obtain ⟨op, hop⟩ : ∃ op, r.op = op := ⟨_, rfl⟩
    obtain ⟨nx, hnx⟩ : ∃ nx, op ||| (k <<< 3) = nx := ⟨_, rfl⟩
    rw [hop] at hor g1
    rw [hop, hnx] at HK
    have HE := z_ HK
    clear HK
    rw [hnx] at hor
    have g0 := Hrc.out.g0
    obtain ⟨v0, hv0⟩ : ∃ v0, Value.string ⟨r.rest.toArray⟩ = v0 := ⟨_, rfl⟩
    rw [hv0] at g0
    have fz0 := Hrc.out.free 0
    have fz1 := Hrc.out.free 1
    have k1 : (wc.setCell ⟨b, 0, none⟩ (.string ⟨u.toArray⟩)).cell? ⟨b, 1, none⟩ = some (.int .i64 (op : Int)) := hop ▸ (Hrc.out.p0 u).g1
    have k0 : (wc.setCell ⟨b, 1, none⟩ (.int .i64 (nx : Int))).cell? ⟨b, 0, none⟩ = some v0 := hv0 ▸ (Hrc.out.p1 nx).g0
    have z1 := (Hrc.out.p0 u).free 1
    have z0 := (Hrc.out.p1 nx).free 0
    clear hop hnx hv0
    go_upto_region 5 with fail
    go_region
    all_goals
     go_wp2_with fail
     go_end0
     first
      | exact ⟨rfl, HE.out ▸ (Hrc.out.p0 u).p1 nx, (((Save.of_below Hbc.out.2).trans (save_setCell _ _ _ _)).trans (save_setCell _ _ _ _)).trans (save_drew _ _)⟩
      | exact ⟨rfl, HE.out ▸ (Hrc.out.p1 nx).p0 u, (((Save.of_below Hbc.out.2).trans (save_setCell _ _ _ _)).trans (save_setCell _ _ _ _)).trans (save_drew _ _)⟩
   | false =>
    have HK := HKK.out
    rw [if_neg (by decide)] at HK
    have HE := z_ HK
    clear HK
    go_wp2_with fail
    go_roundw
    case rel => exact ⟨k + 1, by omega, by go_num, Hbc.out, z_ HE.out.symm⟩
    case measure => simp [intOf]; omega
  ·obtain rfl : k = 8 := by omega
   have g2 := hrw.g2
   have fz2 := hrw.free 2
   have Hrw := z_ hrw
   clear hb hrw
   go_wp2_with fail
   go_end0
   have e : R = ⟨r.rest, r.op, false⟩ := by
    have := hrel.out
    rw [Nat.sub_self, F0.out] at this
    exact this.symm
   exact ⟨rfl, e ▸ Hrw.out.p2 false, (Save.of_below hb2.out.2).trans (save_setCell _ _ _ _)⟩

set_option maxHeartbeats 4000000 in
theorem r_cond4 (w : World) (b : Nat) (r : Rd) (hV : VT w w.heap.size) (hr : RdW w b r) (ho : r.op < 256) :
  Calls Tryz.prog 168 #[.pointer (some ⟨b, 0, none⟩), .int .i64 3, .int .i64 4, .func (.func 172) #[] #[]] w (Turns w b (nameF condT 3 r 4 0)) := by
 have HT := z_ (fun (w1 : World) (hb : Below w.heap.size w w1) k (hk : k < 4) => n_cond w1 _ (hV.below hb) k (by omega))
 have HC := z_ (fun (w1 : World) p => cut_prefix w1 r.rest p)
 obtain ⟨F, hF⟩ : ∃ F, nameF condT 3 r = F := ⟨_, rfl⟩
 have F0 := z_ (show ∀ k, F 0 k = ⟨r.rest, r.op, false⟩ from fun k => by rw [← hF]; rfl)
 have F1 := z_ (show ∀ n k, F (n + 1) k = if Lib.hasPrefix r.rest (condT k) = true then ⟨Lib.trimPrefix r.rest (condT k), r.op ||| (k <<< 3), r.is⟩ else F n (k + 1) from fun n k => by rw [← hF]; rfl)
 rw [hF]
 obtain ⟨R, hR⟩ : ∃ R, F 4 0 = R := ⟨_, rfl⟩
 rw [hR]
 have HR := z_ hR
 obtain ⟨tab, htab⟩ : ∃ tab, condT = tab := ⟨_, rfl⟩
 rw [htab] at HT F1
 have Hr := z_ hr
 have Ho := z_ ho
 clear hF hR htab hr ho
 go_enter Tryz.func168, Tryz.ntmps168
 go_wp2_with fail
 go_loopw [12] (fun v wr => ∃ k : Nat, k ≤ 4 ∧ v = .int .i64 k ∧ M.Base w wr ∧ Hid (F (4 - k) k = R)) (fun v _ => 4 - (intOf v).toNat)
 case atStart => exact ⟨0, by omega, rfl, M.Base.refl _, z_ HR.out⟩
 case round =>
  obtain ⟨k, hk, rfl, hb, hrel⟩ := hrel
  have hb2 := z_ hb
  have hrw : RdW wr b r := Hr.out.keep (hb.2.block _ Hr.out.lt)
  by_cases he : k < 4
  ·have hHT := z_ (HT.out wr hb.2 k he)
   have hHC := z_ (fun w1 => HC.out w1 (tab k))
   have HK := F1.out (4 - (k + 1)) k
   rw [show 4 - (k + 1) + 1 = 4 - k by omega, hrel.out] at HK
   have HTT := z_ (fun (w1 : World) (h1 : M.Base wr w1) => HT.out w1 (hb2.out.below (h1.2.mono hb2.out.1)).2 k he)
   obtain ⟨t, ht⟩ : ∃ t, tab k = t := ⟨_, rfl⟩
   rw [ht] at HK hHC HTT
   obtain ⟨q, hq⟩ : ∃ q, Lib.hasPrefix r.rest t = q := ⟨_, rfl⟩
   obtain ⟨u, hu⟩ : ∃ u, Lib.trimPrefix r.rest t = u := ⟨_, rfl⟩
   rw [hq, hu] at hHC HK
   obtain ⟨s, hs⟩ : ∃ s, r.rest = s := ⟨_, rfl⟩
   rw [hs] at hHC
   have f0 : ∀ p : M.Of (M.Base wr), p.w.cell? ⟨b, 0, none⟩ = some (.string ⟨s.toArray⟩) := fun p => hs ▸ (hrw.keep (p.ok.2.block _ hrw.lt)).g0
   have HKK := z_ HK
   clear HK
   have Hrw := z_ hrw
   have Hs := z_ hs
   clear hb hrw ht hq hu hs hHT hrel
   go_upto_region 3 with fail
   refine M.rg ?_
   refine M.sg [0, 1, 2, 3, 4, 5] 7 ?_
   repeat (go_big_quiet_step (fail))
   refine wpQuiet_nil ?_
   refine M.cm 6 (.string ⟨t.toArray⟩) ?_ ?_
   ·intro wz sz
    unfold Oper.does
    go_simp
    exact (HTT.out wz sz).mono fun e w' ⟨he, hw⟩ => ⟨_, he, rfl, hw ▸ Save.refl _ _⟩
   go_simp
   refine M.cm 7 (.tuple #[.string ⟨u.toArray⟩, .bool q]) ?_ ?_
   ·intro wz sz
    unfold Oper.does
    go_simp
    exact (hHC.out wz).mono fun e w' ⟨he, hw⟩ => ⟨_, he, rfl, hw ▸ Save.refl _ _⟩
   go_simp
   refine M.sg [8, 9, 10, 11, 12] 0 ?_
   repeat (go_big_quiet_step (fail))
   refine wpQuiet_nil ?_
   refine M.en ?_
   intro wc sc
   have hrc : RdW wc b r := Hrw.out.keep (sc.2.block _ Hrw.out.lt)
   have hbc : M.Base w wc := hb2.out.below (sc.2.mono hb2.out.1)
   have Hbc := z_ hbc
   have Hrc := z_ hrc
   have g1 := hrc.g1
   have l2 : (k : Int) < 8 := by omega
   clear sc f0 hrc hbc
   cases q with
   | true =>
    have HK := HKK.out
    rw [if_pos rfl] at HK
    have hor : bits .or .i64 (r.op : Int) ((k : Int) * 8) = ((r.op ||| (k <<< 3) : Nat) : Int) := or_3 ⟨r.op, Ho.out⟩ ⟨k, by omega⟩
    obtain ⟨op, hop⟩ : ∃ op, r.op = op := ⟨_, rfl⟩
    obtain ⟨nx, hnx⟩ : ∃ nx, op ||| (k <<< 3) = nx := ⟨_, rfl⟩
    rw [hop] at hor g1
    rw [hop, hnx] at HK
    have HE := z_ HK
    clear HK
    rw [hnx] at hor
    have g0 := Hrc.out.g0
    obtain ⟨v0, hv0⟩ : ∃ v0, Value.string ⟨r.rest.toArray⟩ = v0 := ⟨_, rfl⟩
    rw [hv0] at g0
    have fz0 := Hrc.out.free 0
    have fz1 := Hrc.out.free 1
    have k1 : (wc.setCell ⟨b, 0, none⟩ (.string ⟨u.toArray⟩)).cell? ⟨b, 1, none⟩ = some (.int .i64 (op : Int)) := hop ▸ (Hrc.out.p0 u).g1
    have k0 : (wc.setCell ⟨b, 1, none⟩ (.int .i64 (nx : Int))).cell? ⟨b, 0, none⟩ = some v0 := hv0 ▸ (Hrc.out.p1 nx).g0
    have z1 := (Hrc.out.p0 u).free 1
    have z0 := (Hrc.out.p1 nx).free 0
    clear hop hnx hv0
    go_upto_region 5 with fail
    go_region
    all_goals
     go_wp2_with fail
     go_end0
     first
      | exact ⟨rfl, HE.out ▸ (Hrc.out.p0 u).p1 nx, (((Save.of_below Hbc.out.2).trans (save_setCell _ _ _ _)).trans (save_setCell _ _ _ _)).trans (save_drew _ _)⟩
      | exact ⟨rfl, HE.out ▸ (Hrc.out.p1 nx).p0 u, (((Save.of_below Hbc.out.2).trans (save_setCell _ _ _ _)).trans (save_setCell _ _ _ _)).trans (save_drew _ _)⟩
   | false =>
    have HK := HKK.out
    rw [if_neg (by decide)] at HK
    have HE := z_ HK
    clear HK
    go_wp2_with fail
    go_roundw
    case rel => exact ⟨k + 1, by omega, by go_num, Hbc.out, z_ HE.out.symm⟩
    case measure => simp [intOf]; omega
  ·obtain rfl : k = 4 := by omega
   have g2 := hrw.g2
   have fz2 := hrw.free 2
   have Hrw := z_ hrw
   clear hb hrw
   go_wp2_with fail
   go_end0
   have e : R = ⟨r.rest, r.op, false⟩ := by
    have := hrel.out
    rw [Nat.sub_self, F0.out] at this
    exact this.symm
   exact ⟨rfl, e ▸ Hrw.out.p2 false, (Save.of_below hb2.out.2).trans (save_setCell _ _ _ _)⟩

set_option maxHeartbeats 4000000 in
theorem r_dig (w : World) (b : Nat) (r : Rd) (hV : VT w w.heap.size) (hr : RdW w b r) (ho : r.op < 256) :
  Calls Tryz.prog 168 #[.pointer (some ⟨b, 0, none⟩), .int .i64 3, .int .i64 8, .func (.func 173) #[] #[]] w (Turns w b (nameF digT 3 r 8 0)) := by
 have HT := z_ (fun (w1 : World) (hb : Below w.heap.size w w1) k (hk : k < 8) => n_dig w1 k hk)
 have HC := z_ (fun (w1 : World) p => cut_prefix w1 r.rest p)
 obtain ⟨F, hF⟩ : ∃ F, nameF digT 3 r = F := ⟨_, rfl⟩
 have F0 := z_ (show ∀ k, F 0 k = ⟨r.rest, r.op, false⟩ from fun k => by rw [← hF]; rfl)
 have F1 := z_ (show ∀ n k, F (n + 1) k = if Lib.hasPrefix r.rest (digT k) = true then ⟨Lib.trimPrefix r.rest (digT k), r.op ||| (k <<< 3), r.is⟩ else F n (k + 1) from fun n k => by rw [← hF]; rfl)
 rw [hF]
 obtain ⟨R, hR⟩ : ∃ R, F 8 0 = R := ⟨_, rfl⟩
 rw [hR]
 have HR := z_ hR
 obtain ⟨tab, htab⟩ : ∃ tab, digT = tab := ⟨_, rfl⟩
 rw [htab] at HT F1
 have Hr := z_ hr
 have Ho := z_ ho
 clear hF hR htab hr ho
 go_enter Tryz.func168, Tryz.ntmps168
 go_wp2_with fail
 go_loopw [12] (fun v wr => ∃ k : Nat, k ≤ 8 ∧ v = .int .i64 k ∧ M.Base w wr ∧ Hid (F (8 - k) k = R)) (fun v _ => 8 - (intOf v).toNat)
 case atStart => exact ⟨0, by omega, rfl, M.Base.refl _, z_ HR.out⟩
 case round =>
  obtain ⟨k, hk, rfl, hb, hrel⟩ := hrel
  have hb2 := z_ hb
  have hrw : RdW wr b r := Hr.out.keep (hb.2.block _ Hr.out.lt)
  by_cases he : k < 8
  ·have hHT := z_ (HT.out wr hb.2 k he)
   have hHC := z_ (fun w1 => HC.out w1 (tab k))
   have HK := F1.out (8 - (k + 1)) k
   rw [show 8 - (k + 1) + 1 = 8 - k by omega, hrel.out] at HK
   have HTT := z_ (fun (w1 : World) (h1 : M.Base wr w1) => HT.out w1 (hb2.out.below (h1.2.mono hb2.out.1)).2 k he)
   obtain ⟨t, ht⟩ : ∃ t, tab k = t := ⟨_, rfl⟩
   rw [ht] at HK hHC HTT
   obtain ⟨q, hq⟩ : ∃ q, Lib.hasPrefix r.rest t = q := ⟨_, rfl⟩
   obtain ⟨u, hu⟩ : ∃ u, Lib.trimPrefix r.rest t = u := ⟨_, rfl⟩
   rw [hq, hu] at hHC HK
   obtain ⟨s, hs⟩ : ∃ s, r.rest = s := ⟨_, rfl⟩
   rw [hs] at hHC
   have f0 : ∀ p : M.Of (M.Base wr), p.w.cell? ⟨b, 0, none⟩ = some (.string ⟨s.toArray⟩) := fun p => hs ▸ (hrw.keep (p.ok.2.block _ hrw.lt)).g0
   have HKK := z_ HK
   clear HK
   have Hrw := z_ hrw
   have Hs := z_ hs
   clear hb hrw ht hq hu hs hHT hrel
   go_upto_region 3 with fail
   refine M.rg ?_
   refine M.sg [0, 1, 2, 3, 4, 5] 7 ?_
   repeat (go_big_quiet_step (fail))
   refine wpQuiet_nil ?_
   refine M.cm 6 (.string ⟨t.toArray⟩) ?_ ?_
   ·intro wz sz
    unfold Oper.does
    go_simp
    exact (HTT.out wz sz).mono fun e w' ⟨he, hw⟩ => ⟨_, he, rfl, hw ▸ Save.refl _ _⟩
   go_simp
   refine M.cm 7 (.tuple #[.string ⟨u.toArray⟩, .bool q]) ?_ ?_
   ·intro wz sz
    unfold Oper.does
    go_simp
    exact (hHC.out wz).mono fun e w' ⟨he, hw⟩ => ⟨_, he, rfl, hw ▸ Save.refl _ _⟩
   go_simp
   refine M.sg [8, 9, 10, 11, 12] 0 ?_
   repeat (go_big_quiet_step (fail))
   refine wpQuiet_nil ?_
   refine M.en ?_
   intro wc sc
   have hrc : RdW wc b r := Hrw.out.keep (sc.2.block _ Hrw.out.lt)
   have hbc : M.Base w wc := hb2.out.below (sc.2.mono hb2.out.1)
   have Hbc := z_ hbc
   have Hrc := z_ hrc
   have g1 := hrc.g1
   have l2 : (k : Int) < 8 := by omega
   clear sc f0 hrc hbc
   cases q with
   | true =>
    have HK := HKK.out
    rw [if_pos rfl] at HK
    have hor : bits .or .i64 (r.op : Int) ((k : Int) * 8) = ((r.op ||| (k <<< 3) : Nat) : Int) := or_3 ⟨r.op, Ho.out⟩ ⟨k, by omega⟩
    obtain ⟨op, hop⟩ : ∃ op, r.op = op := ⟨_, rfl⟩
    obtain ⟨nx, hnx⟩ : ∃ nx, op ||| (k <<< 3) = nx := ⟨_, rfl⟩
    rw [hop] at hor g1
    rw [hop, hnx] at HK
    have HE := z_ HK
    clear HK
    rw [hnx] at hor
    have g0 := Hrc.out.g0
    obtain ⟨v0, hv0⟩ : ∃ v0, Value.string ⟨r.rest.toArray⟩ = v0 := ⟨_, rfl⟩
    rw [hv0] at g0
    have fz0 := Hrc.out.free 0
    have fz1 := Hrc.out.free 1
    have k1 : (wc.setCell ⟨b, 0, none⟩ (.string ⟨u.toArray⟩)).cell? ⟨b, 1, none⟩ = some (.int .i64 (op : Int)) := hop ▸ (Hrc.out.p0 u).g1
    have k0 : (wc.setCell ⟨b, 1, none⟩ (.int .i64 (nx : Int))).cell? ⟨b, 0, none⟩ = some v0 := hv0 ▸ (Hrc.out.p1 nx).g0
    have z1 := (Hrc.out.p0 u).free 1
    have z0 := (Hrc.out.p1 nx).free 0
    clear hop hnx hv0
    go_upto_region 5 with fail
    go_region
    all_goals
     go_wp2_with fail
     go_end0
     first
      | exact ⟨rfl, HE.out ▸ (Hrc.out.p0 u).p1 nx, (((Save.of_below Hbc.out.2).trans (save_setCell _ _ _ _)).trans (save_setCell _ _ _ _)).trans (save_drew _ _)⟩
      | exact ⟨rfl, HE.out ▸ (Hrc.out.p1 nx).p0 u, (((Save.of_below Hbc.out.2).trans (save_setCell _ _ _ _)).trans (save_setCell _ _ _ _)).trans (save_drew _ _)⟩
   | false =>
    have HK := HKK.out
    rw [if_neg (by decide)] at HK
    have HE := z_ HK
    clear HK
    go_wp2_with fail
    go_roundw
    case rel => exact ⟨k + 1, by omega, by go_num, Hbc.out, z_ HE.out.symm⟩
    case measure => simp [intOf]; omega
  ·obtain rfl : k = 8 := by omega
   have g2 := hrw.g2
   have fz2 := hrw.free 2
   have Hrw := z_ hrw
   clear hb hrw
   go_wp2_with fail
   go_end0
   have e : R = ⟨r.rest, r.op, false⟩ := by
    have := hrel.out
    rw [Nat.sub_self, F0.out] at this
    exact this.symm
   exact ⟨rfl, e ▸ Hrw.out.p2 false, (Save.of_below hb2.out.2).trans (save_setCell _ _ _ _)⟩

set_option maxHeartbeats 4000000 in
theorem r_tens (w : World) (b : Nat) (r : Rd) (hV : VT w w.heap.size) (hr : RdW w b r) (ho : r.op < 256) :
  Calls Tryz.prog 168 #[.pointer (some ⟨b, 0, none⟩), .int .i64 3, .int .i64 8, .func (.func 174) #[] #[]] w (Turns w b (nameF tensT 3 r 8 0)) := by
 have HT := z_ (fun (w1 : World) (hb : Below w.heap.size w w1) k (hk : k < 8) => n_tens w1 k hk)
 have HC := z_ (fun (w1 : World) p => cut_prefix w1 r.rest p)
 obtain ⟨F, hF⟩ : ∃ F, nameF tensT 3 r = F := ⟨_, rfl⟩
 have F0 := z_ (show ∀ k, F 0 k = ⟨r.rest, r.op, false⟩ from fun k => by rw [← hF]; rfl)
 have F1 := z_ (show ∀ n k, F (n + 1) k = if Lib.hasPrefix r.rest (tensT k) = true then ⟨Lib.trimPrefix r.rest (tensT k), r.op ||| (k <<< 3), r.is⟩ else F n (k + 1) from fun n k => by rw [← hF]; rfl)
 rw [hF]
 obtain ⟨R, hR⟩ : ∃ R, F 8 0 = R := ⟨_, rfl⟩
 rw [hR]
 have HR := z_ hR
 obtain ⟨tab, htab⟩ : ∃ tab, tensT = tab := ⟨_, rfl⟩
 rw [htab] at HT F1
 have Hr := z_ hr
 have Ho := z_ ho
 clear hF hR htab hr ho
 go_enter Tryz.func168, Tryz.ntmps168
 go_wp2_with fail
 go_loopw [12] (fun v wr => ∃ k : Nat, k ≤ 8 ∧ v = .int .i64 k ∧ M.Base w wr ∧ Hid (F (8 - k) k = R)) (fun v _ => 8 - (intOf v).toNat)
 case atStart => exact ⟨0, by omega, rfl, M.Base.refl _, z_ HR.out⟩
 case round =>
  obtain ⟨k, hk, rfl, hb, hrel⟩ := hrel
  have hb2 := z_ hb
  have hrw : RdW wr b r := Hr.out.keep (hb.2.block _ Hr.out.lt)
  by_cases he : k < 8
  ·have hHT := z_ (HT.out wr hb.2 k he)
   have hHC := z_ (fun w1 => HC.out w1 (tab k))
   have HK := F1.out (8 - (k + 1)) k
   rw [show 8 - (k + 1) + 1 = 8 - k by omega, hrel.out] at HK
   have HTT := z_ (fun (w1 : World) (h1 : M.Base wr w1) => HT.out w1 (hb2.out.below (h1.2.mono hb2.out.1)).2 k he)
   obtain ⟨t, ht⟩ : ∃ t, tab k = t := ⟨_, rfl⟩
   rw [ht] at HK hHC HTT
   obtain ⟨q, hq⟩ : ∃ q, Lib.hasPrefix r.rest t = q := ⟨_, rfl⟩
   obtain ⟨u, hu⟩ : ∃ u, Lib.trimPrefix r.rest t = u := ⟨_, rfl⟩
   rw [hq, hu] at hHC HK
   obtain ⟨s, hs⟩ : ∃ s, r.rest = s := ⟨_, rfl⟩
   rw [hs] at hHC
   have f0 : ∀ p : M.Of (M.Base wr), p.w.cell? ⟨b, 0, none⟩ = some (.string ⟨s.toArray⟩) := fun p => hs ▸ (hrw.keep (p.ok.2.block _ hrw.lt)).g0
   have HKK := z_ HK
   clear HK
   have Hrw := z_ hrw
   have Hs := z_ hs
   clear hb hrw ht hq hu hs hHT hrel
   go_upto_region 3 with fail
   refine M.rg ?_
   refine M.sg [0, 1, 2, 3, 4, 5] 7 ?_
   repeat (go_big_quiet_step (fail))
   refine wpQuiet_nil ?_
   refine M.cm 6 (.string ⟨t.toArray⟩) ?_ ?_
   ·intro wz sz
    unfold Oper.does
    go_simp
    exact (HTT.out wz sz).mono fun e w' ⟨he, hw⟩ => ⟨_, he, rfl, hw ▸ Save.refl _ _⟩
   go_simp
   refine M.cm 7 (.tuple #[.string ⟨u.toArray⟩, .bool q]) ?_ ?_
   ·intro wz sz
    unfold Oper.does
    go_simp
    exact (hHC.out wz).mono fun e w' ⟨he, hw⟩ => ⟨_, he, rfl, hw ▸ Save.refl _ _⟩
   go_simp
   refine M.sg [8, 9, 10, 11, 12] 0 ?_
   repeat (go_big_quiet_step (fail))
   refine wpQuiet_nil ?_
   refine M.en ?_
   intro wc sc
   have hrc : RdW wc b r := Hrw.out.keep (sc.2.block _ Hrw.out.lt)
   have hbc : M.Base w wc := hb2.out.below (sc.2.mono hb2.out.1)
   have Hbc := z_ hbc
   have Hrc := z_ hrc
   have g1 := hrc.g1
   have l2 : (k : Int) < 8 := by omega
   clear sc f0 hrc hbc
   cases q with
   | true =>
    have HK := HKK.out
    rw [if_pos rfl] at HK
    have hor : bits .or .i64 (r.op : Int) ((k : Int) * 8) = ((r.op ||| (k <<< 3) : Nat) : Int) := or_3 ⟨r.op, Ho.out⟩ ⟨k, by omega⟩
    obtain ⟨op, hop⟩ : ∃ op, r.op = op := ⟨_, rfl⟩
    obtain ⟨nx, hnx⟩ : ∃ nx, op ||| (k <<< 3) = nx := ⟨_, rfl⟩
    rw [hop] at hor g1
    rw [hop, hnx] at HK
    have HE := z_ HK
    clear HK
    rw [hnx] at hor
    have g0 := Hrc.out.g0
    obtain ⟨v0, hv0⟩ : ∃ v0, Value.string ⟨r.rest.toArray⟩ = v0 := ⟨_, rfl⟩
    rw [hv0] at g0
    have fz0 := Hrc.out.free 0
    have fz1 := Hrc.out.free 1
    have k1 : (wc.setCell ⟨b, 0, none⟩ (.string ⟨u.toArray⟩)).cell? ⟨b, 1, none⟩ = some (.int .i64 (op : Int)) := hop ▸ (Hrc.out.p0 u).g1
    have k0 : (wc.setCell ⟨b, 1, none⟩ (.int .i64 (nx : Int))).cell? ⟨b, 0, none⟩ = some v0 := hv0 ▸ (Hrc.out.p1 nx).g0
    have z1 := (Hrc.out.p0 u).free 1
    have z0 := (Hrc.out.p1 nx).free 0
    clear hop hnx hv0
    go_upto_region 5 with fail
    go_region
    all_goals
     go_wp2_with fail
     go_end0
     first
      | exact ⟨rfl, HE.out ▸ (Hrc.out.p0 u).p1 nx, (((Save.of_below Hbc.out.2).trans (save_setCell _ _ _ _)).trans (save_setCell _ _ _ _)).trans (save_drew _ _)⟩
      | exact ⟨rfl, HE.out ▸ (Hrc.out.p1 nx).p0 u, (((Save.of_below Hbc.out.2).trans (save_setCell _ _ _ _)).trans (save_setCell _ _ _ _)).trans (save_drew _ _)⟩
   | false =>
    have HK := HKK.out
    rw [if_neg (by decide)] at HK
    have HE := z_ HK
    clear HK
    go_wp2_with fail
    go_roundw
    case rel => exact ⟨k + 1, by omega, by go_num, Hbc.out, z_ HE.out.symm⟩
    case measure => simp [intOf]; omega
  ·obtain rfl : k = 8 := by omega
   have g2 := hrw.g2
   have fz2 := hrw.free 2
   have Hrw := z_ hrw
   clear hb hrw
   go_wp2_with fail
   go_end0
   have e : R = ⟨r.rest, r.op, false⟩ := by
    have := hrel.out
    rw [Nat.sub_self, F0.out] at this
    exact this.symm
   exact ⟨rfl, e ▸ Hrw.out.p2 false, (Save.of_below hb2.out.2).trans (save_setCell _ _ _ _)⟩

set_option maxHeartbeats 4000000 in
theorem r_shift (w : World) (b : Nat) (r : Rd) (hV : VT w w.heap.size) (hr : RdW w b r) (ho : r.op < 256) :
  Calls Tryz.prog 168 #[.pointer (some ⟨b, 0, none⟩), .int .i64 3, .int .i64 8, .func (.func 175) #[] #[]] w (Turns w b (nameF shiftT 3 r 8 0)) := by
 have HT := z_ (fun (w1 : World) (hb : Below w.heap.size w w1) k (hk : k < 8) => n_shift w1 _ (hV.below hb) k hk)
 have HC := z_ (fun (w1 : World) p => cut_prefix w1 r.rest p)
 obtain ⟨F, hF⟩ : ∃ F, nameF shiftT 3 r = F := ⟨_, rfl⟩
 have F0 := z_ (show ∀ k, F 0 k = ⟨r.rest, r.op, false⟩ from fun k => by rw [← hF]; rfl)
 have F1 := z_ (show ∀ n k, F (n + 1) k = if Lib.hasPrefix r.rest (shiftT k) = true then ⟨Lib.trimPrefix r.rest (shiftT k), r.op ||| (k <<< 3), r.is⟩ else F n (k + 1) from fun n k => by rw [← hF]; rfl)
 rw [hF]
 obtain ⟨R, hR⟩ : ∃ R, F 8 0 = R := ⟨_, rfl⟩
 rw [hR]
 have HR := z_ hR
 obtain ⟨tab, htab⟩ : ∃ tab, shiftT = tab := ⟨_, rfl⟩
 rw [htab] at HT F1
 have Hr := z_ hr
 have Ho := z_ ho
 clear hF hR htab hr ho
 go_enter Tryz.func168, Tryz.ntmps168
 go_wp2_with fail
 go_loopw [12] (fun v wr => ∃ k : Nat, k ≤ 8 ∧ v = .int .i64 k ∧ M.Base w wr ∧ Hid (F (8 - k) k = R)) (fun v _ => 8 - (intOf v).toNat)
 case atStart => exact ⟨0, by omega, rfl, M.Base.refl _, z_ HR.out⟩
 case round =>
  obtain ⟨k, hk, rfl, hb, hrel⟩ := hrel
  have hb2 := z_ hb
  have hrw : RdW wr b r := Hr.out.keep (hb.2.block _ Hr.out.lt)
  by_cases he : k < 8
  ·have hHT := z_ (HT.out wr hb.2 k he)
   have hHC := z_ (fun w1 => HC.out w1 (tab k))
   have HK := F1.out (8 - (k + 1)) k
   rw [show 8 - (k + 1) + 1 = 8 - k by omega, hrel.out] at HK
   have HTT := z_ (fun (w1 : World) (h1 : M.Base wr w1) => HT.out w1 (hb2.out.below (h1.2.mono hb2.out.1)).2 k he)
   obtain ⟨t, ht⟩ : ∃ t, tab k = t := ⟨_, rfl⟩
   rw [ht] at HK hHC HTT
   obtain ⟨q, hq⟩ : ∃ q, Lib.hasPrefix r.rest t = q := ⟨_, rfl⟩
   obtain ⟨u, hu⟩ : ∃ u, Lib.trimPrefix r.rest t = u := ⟨_, rfl⟩
   rw [hq, hu] at hHC HK
   obtain ⟨s, hs⟩ : ∃ s, r.rest = s := ⟨_, rfl⟩
   rw [hs] at hHC
   have f0 : ∀ p : M.Of (M.Base wr), p.w.cell? ⟨b, 0, none⟩ = some (.string ⟨s.toArray⟩) := fun p => hs ▸ (hrw.keep (p.ok.2.block _ hrw.lt)).g0
   have HKK := z_ HK
   clear HK
   have Hrw := z_ hrw
   have Hs := z_ hs
   clear hb hrw ht hq hu hs hHT hrel
   go_upto_region 3 with fail
   refine M.rg ?_
   refine M.sg [0, 1, 2, 3, 4, 5] 7 ?_
   repeat (go_big_quiet_step (fail))
   refine wpQuiet_nil ?_
   refine M.cm 6 (.string ⟨t.toArray⟩) ?_ ?_
   ·intro wz sz
    unfold Oper.does
    go_simp
    exact (HTT.out wz sz).mono fun e w' ⟨he, hw⟩ => ⟨_, he, rfl, hw ▸ Save.refl _ _⟩
   go_simp
   refine M.cm 7 (.tuple #[.string ⟨u.toArray⟩, .bool q]) ?_ ?_
   ·intro wz sz
    unfold Oper.does
    go_simp
    exact (hHC.out wz).mono fun e w' ⟨he, hw⟩ => ⟨_, he, rfl, hw ▸ Save.refl _ _⟩
   go_simp
   refine M.sg [8, 9, 10, 11, 12] 0 ?_
   repeat (go_big_quiet_step (fail))
   refine wpQuiet_nil ?_
   refine M.en ?_
   intro wc sc
   have hrc : RdW wc b r := Hrw.out.keep (sc.2.block _ Hrw.out.lt)
   have hbc : M.Base w wc := hb2.out.below (sc.2.mono hb2.out.1)
   have Hbc := z_ hbc
   have Hrc := z_ hrc
   have g1 := hrc.g1
   have l2 : (k : Int) < 8 := by omega
   clear sc f0 hrc hbc
   cases q with
   | true =>
    have HK := HKK.out
    rw [if_pos rfl] at HK
    have hor : bits .or .i64 (r.op : Int) ((k : Int) * 8) = ((r.op ||| (k <<< 3) : Nat) : Int) := or_3 ⟨r.op, Ho.out⟩ ⟨k, by omega⟩
    obtain ⟨op, hop⟩ : ∃ op, r.op = op := ⟨_, rfl⟩
    obtain ⟨nx, hnx⟩ : ∃ nx, op ||| (k <<< 3) = nx := ⟨_, rfl⟩
    rw [hop] at hor g1
    rw [hop, hnx] at HK
    have HE := z_ HK
    clear HK
    rw [hnx] at hor
    have g0 := Hrc.out.g0
    obtain ⟨v0, hv0⟩ : ∃ v0, Value.string ⟨r.rest.toArray⟩ = v0 := ⟨_, rfl⟩
    rw [hv0] at g0
    have fz0 := Hrc.out.free 0
    have fz1 := Hrc.out.free 1
    have k1 : (wc.setCell ⟨b, 0, none⟩ (.string ⟨u.toArray⟩)).cell? ⟨b, 1, none⟩ = some (.int .i64 (op : Int)) := hop ▸ (Hrc.out.p0 u).g1
    have k0 : (wc.setCell ⟨b, 1, none⟩ (.int .i64 (nx : Int))).cell? ⟨b, 0, none⟩ = some v0 := hv0 ▸ (Hrc.out.p1 nx).g0
    have z1 := (Hrc.out.p0 u).free 1
    have z0 := (Hrc.out.p1 nx).free 0
    clear hop hnx hv0
    go_upto_region 5 with fail
    go_region
    all_goals
     go_wp2_with fail
     go_end0
     first
      | exact ⟨rfl, HE.out ▸ (Hrc.out.p0 u).p1 nx, (((Save.of_below Hbc.out.2).trans (save_setCell _ _ _ _)).trans (save_setCell _ _ _ _)).trans (save_drew _ _)⟩
      | exact ⟨rfl, HE.out ▸ (Hrc.out.p1 nx).p0 u, (((Save.of_below Hbc.out.2).trans (save_setCell _ _ _ _)).trans (save_setCell _ _ _ _)).trans (save_drew _ _)⟩
   | false =>
    have HK := HKK.out
    rw [if_neg (by decide)] at HK
    have HE := z_ HK
    clear HK
    go_wp2_with fail
    go_roundw
    case rel => exact ⟨k + 1, by omega, by go_num, Hbc.out, z_ HE.out.symm⟩
    case measure => simp [intOf]; omega
  ·obtain rfl : k = 8 := by omega
   have g2 := hrw.g2
   have fz2 := hrw.free 2
   have Hrw := z_ hrw
   clear hb hrw
   go_wp2_with fail
   go_end0
   have e : R = ⟨r.rest, r.op, false⟩ := by
    have := hrel.out
    rw [Nat.sub_self, F0.out] at this
    exact this.symm
   exact ⟨rfl, e ▸ Hrw.out.p2 false, (Save.of_below hb2.out.2).trans (save_setCell _ _ _ _)⟩

set_option maxHeartbeats 4000000 in
theorem r_oper (w : World) (b : Nat) (r : Rd) (hV : VT w w.heap.size) (hr : RdW w b r) (ho : r.op < 256) :
  Calls Tryz.prog 168 #[.pointer (some ⟨b, 0, none⟩), .int .i64 3, .int .i64 8, .func (.func 176) #[] #[]] w (Turns w b (nameF operT 3 r 8 0)) := by
 have HT := z_ (fun (w1 : World) (hb : Below w.heap.size w w1) k (hk : k < 8) => n_oper w1 _ (hV.below hb) k hk)
 have HC := z_ (fun (w1 : World) p => cut_prefix w1 r.rest p)
 obtain ⟨F, hF⟩ : ∃ F, nameF operT 3 r = F := ⟨_, rfl⟩
 have F0 := z_ (show ∀ k, F 0 k = ⟨r.rest, r.op, false⟩ from fun k => by rw [← hF]; rfl)
 have F1 := z_ (show ∀ n k, F (n + 1) k = if Lib.hasPrefix r.rest (operT k) = true then ⟨Lib.trimPrefix r.rest (operT k), r.op ||| (k <<< 3), r.is⟩ else F n (k + 1) from fun n k => by rw [← hF]; rfl)
 rw [hF]
 obtain ⟨R, hR⟩ : ∃ R, F 8 0 = R := ⟨_, rfl⟩
 rw [hR]
 have HR := z_ hR
 obtain ⟨tab, htab⟩ : ∃ tab, operT = tab := ⟨_, rfl⟩
 rw [htab] at HT F1
 have Hr := z_ hr
 have Ho := z_ ho
 clear hF hR htab hr ho
 go_enter Tryz.func168, Tryz.ntmps168
 go_wp2_with fail
 go_loopw [12] (fun v wr => ∃ k : Nat, k ≤ 8 ∧ v = .int .i64 k ∧ M.Base w wr ∧ Hid (F (8 - k) k = R)) (fun v _ => 8 - (intOf v).toNat)
 case atStart => exact ⟨0, by omega, rfl, M.Base.refl _, z_ HR.out⟩
 case round =>
  obtain ⟨k, hk, rfl, hb, hrel⟩ := hrel
  have hb2 := z_ hb
  have hrw : RdW wr b r := Hr.out.keep (hb.2.block _ Hr.out.lt)
  by_cases he : k < 8
  ·have hHT := z_ (HT.out wr hb.2 k he)
   have hHC := z_ (fun w1 => HC.out w1 (tab k))
   have HK := F1.out (8 - (k + 1)) k
   rw [show 8 - (k + 1) + 1 = 8 - k by omega, hrel.out] at HK
   have HTT := z_ (fun (w1 : World) (h1 : M.Base wr w1) => HT.out w1 (hb2.out.below (h1.2.mono hb2.out.1)).2 k he)
   obtain ⟨t, ht⟩ : ∃ t, tab k = t := ⟨_, rfl⟩
   rw [ht] at HK hHC HTT
   obtain ⟨q, hq⟩ : ∃ q, Lib.hasPrefix r.rest t = q := ⟨_, rfl⟩
   obtain ⟨u, hu⟩ : ∃ u, Lib.trimPrefix r.rest t = u := ⟨_, rfl⟩
   rw [hq, hu] at hHC HK
   obtain ⟨s, hs⟩ : ∃ s, r.rest = s := ⟨_, rfl⟩
   rw [hs] at hHC
   have f0 : ∀ p : M.Of (M.Base wr), p.w.cell? ⟨b, 0, none⟩ = some (.string ⟨s.toArray⟩) := fun p => hs ▸ (hrw.keep (p.ok.2.block _ hrw.lt)).g0
   have HKK := z_ HK
   clear HK
   have Hrw := z_ hrw
   have Hs := z_ hs
   clear hb hrw ht hq hu hs hHT hrel
   go_upto_region 3 with fail
   refine M.rg ?_
   refine M.sg [0, 1, 2, 3, 4, 5] 7 ?_
   repeat (go_big_quiet_step (fail))
   refine wpQuiet_nil ?_
   refine M.cm 6 (.string ⟨t.toArray⟩) ?_ ?_
   ·intro wz sz
    unfold Oper.does
    go_simp
    exact (HTT.out wz sz).mono fun e w' ⟨he, hw⟩ => ⟨_, he, rfl, hw ▸ Save.refl _ _⟩
   go_simp
   refine M.cm 7 (.tuple #[.string ⟨u.toArray⟩, .bool q]) ?_ ?_
   ·intro wz sz
    unfold Oper.does
    go_simp
    exact (hHC.out wz).mono fun e w' ⟨he, hw⟩ => ⟨_, he, rfl, hw ▸ Save.refl _ _⟩
   go_simp
   refine M.sg [8, 9, 10, 11, 12] 0 ?_
   repeat (go_big_quiet_step (fail))
   refine wpQuiet_nil ?_
   refine M.en ?_
   intro wc sc
   have hrc : RdW wc b r := Hrw.out.keep (sc.2.block _ Hrw.out.lt)
   have hbc : M.Base w wc := hb2.out.below (sc.2.mono hb2.out.1)
   have Hbc := z_ hbc
   have Hrc := z_ hrc
   have g1 := hrc.g1
   have l2 : (k : Int) < 8 := by omega
   clear sc f0 hrc hbc
   cases q with
   | true =>
    have HK := HKK.out
    rw [if_pos rfl] at HK
    have hor : bits .or .i64 (r.op : Int) ((k : Int) * 8) = ((r.op ||| (k <<< 3) : Nat) : Int) := or_3 ⟨r.op, Ho.out⟩ ⟨k, by omega⟩
    obtain ⟨op, hop⟩ : ∃ op, r.op = op := ⟨_, rfl⟩
    obtain ⟨nx, hnx⟩ : ∃ nx, op ||| (k <<< 3) = nx := ⟨_, rfl⟩
    rw [hop] at hor g1
    rw [hop, hnx] at HK
    have HE := z_ HK
    clear HK
    rw [hnx] at hor
    have g0 := Hrc.out.g0
    obtain ⟨v0, hv0⟩ : ∃ v0, Value.string ⟨r.rest.toArray⟩ = v0 := ⟨_, rfl⟩
    rw [hv0] at g0
    have fz0 := Hrc.out.free 0
    have fz1 := Hrc.out.free 1
    have k1 : (wc.setCell ⟨b, 0, none⟩ (.string ⟨u.toArray⟩)).cell? ⟨b, 1, none⟩ = some (.int .i64 (op : Int)) := hop ▸ (Hrc.out.p0 u).g1
    have k0 : (wc.setCell ⟨b, 1, none⟩ (.int .i64 (nx : Int))).cell? ⟨b, 0, none⟩ = some v0 := hv0 ▸ (Hrc.out.p1 nx).g0
    have z1 := (Hrc.out.p0 u).free 1
    have z0 := (Hrc.out.p1 nx).free 0
    clear hop hnx hv0
    go_upto_region 5 with fail
    go_region
    all_goals
     go_wp2_with fail
     go_end0
     first
      | exact ⟨rfl, HE.out ▸ (Hrc.out.p0 u).p1 nx, (((Save.of_below Hbc.out.2).trans (save_setCell _ _ _ _)).trans (save_setCell _ _ _ _)).trans (save_drew _ _)⟩
      | exact ⟨rfl, HE.out ▸ (Hrc.out.p1 nx).p0 u, (((Save.of_below Hbc.out.2).trans (save_setCell _ _ _ _)).trans (save_setCell _ _ _ _)).trans (save_drew _ _)⟩
   | false =>
    have HK := HKK.out
    rw [if_neg (by decide)] at HK
    have HE := z_ HK
    clear HK
    go_wp2_with fail
    go_roundw
    case rel => exact ⟨k + 1, by omega, by go_num, Hbc.out, z_ HE.out.symm⟩
    case measure => simp [intOf]; omega
  ·obtain rfl : k = 8 := by omega
   have g2 := hrw.g2
   have fz2 := hrw.free 2
   have Hrw := z_ hrw
   clear hb hrw
   go_wp2_with fail
   go_end0
   have e : R = ⟨r.rest, r.op, false⟩ := by
    have := hrel.out
    rw [Nat.sub_self, F0.out] at this
    exact this.symm
   exact ⟨rfl, e ▸ Hrw.out.p2 false, (Save.of_below hb2.out.2).trans (save_setCell _ _ _ _)⟩
end Go.Proofs.YtgaihekapakoeaaGreatDoor
