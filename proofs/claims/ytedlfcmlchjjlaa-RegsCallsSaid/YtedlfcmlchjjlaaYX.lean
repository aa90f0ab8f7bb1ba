
/- Registers, the document's own: Bytes. -/
import Derived.Test.YtedlfcmlchjjlaaYV
import Derived.Test.YtedlfcmlchjjlaaYW
import Derived.Test.YtedlfcmlchjjlaaYP
namespace Go.Proofs.Ytedlfcmlchjjlaa
open Go.RowKit
set_option linter.unusedSimpArgs false
set_option linter.unusedVariables false
set_option maxRecDepth 100000

theorem M.regionD_ {P : Program} {ops : Array Oper} {id : Nat} {Q : Exit → Act → World → Prop} {a : Act} {w : World} (C0 C : World → Prop) (hc : M.Closed C) (hsub : ∀ w, C w → C0 w) (h0 : ∀ n, C { w with drawn := n }) (hm : P.follows .mixedOrders = true)
    (H : M.wpAnyM P .any ops C0 (fun a' C => ∀ w', C w' → Q .normal a' w') ops.size (Array.replicate ops.size false) a C) : (Code.region id ops true).wp P Q a w :=
  wp_region_any hm (M.wpAny_of_m (C0 := C0) (fun _ _ w' hw' hF => hF w' hw') _ _ _ _ _ (h0 _) hc hsub H)
theorem OB.apart {w : World} {B c N : Nat} {A : Option Addr} {l : List Int} {cs : Array Value} {t : TypeId} {fr : Nat × Nat} (h : OB w B A c l) (hN : w.heap[N]? = some (.cells cs t fr)) (ht : t ≠ 5) : some N ≠ (Value.slice A l.length c).ownBlock := by
  rcases h.own.2 with ⟨h1, h2⟩ | ⟨g, cap, cur, h1, hb, hg, hx⟩
  · rw [h1]; intro e; cases e
  · rw [h1]
    intro e
    obtain rfl : N = g := Option.some.inj e
    rw [hg] at hN
    injection hN with hN
    injection hN with h3 h4 h5
    exact ht h4.symm
theorem r8_sum1 (g : Nat) (A1 : Option Addr) (c1 n1 : Nat) (l1 : List Int) (w : World) (hg : g = w.heap.size) (hn : n1 = l1.length) (h1 : RB w w.heap.size A1 c1 l1) (hlen : l1.length ≤ 140737488355328) :
    Calls Try.prog 50 #[.slice (some ⟨g, 0, none⟩) 1 1] (w.alloc (.cells #[.slice A1 n1 c1] 25)) fun e w' => e = .returned (.int .u16 (sumL l1).toNat) ∧ w.alloc (.cells #[.slice A1 n1 c1] 25) = w' := by
  subst hg hn
  refine (refSum_any w.heap.size 1 [⟨A1, c1, l1⟩] _ (by simp) ?_ ?_ (by simp [flat]; omega)).mono fun e w' h => ?_
  · intro i hi
    have : i = 0 := by simp at hi; omega
    subst this
    rw [World.cell?_alloc_at _ _ _ _ rfl]; rfl
  · intro i hi
    have : i = 0 := by simp at hi; omega
    subst this
    exact (h1.alloc (Nat.le_refl _) _).more (by simp)
  · simpa [flat] using h

theorem wrds_row {r : Rg} {k : Nat} (hk : k < 9) : (#[.int .u16 r.IX, .int .u16 r.IY, .int .u16 r.SP, .int .u16 r.PC, .int .u16 r.WZ, .int .u16 r.AF2, .int .u16 r.BC2, .int .u16 r.DE2, .int .u16 r.HL2] : Array Value)[k]? = some (.int .u16 ((wrds r).getD k 0)) := by
  match k, hk with
  | 0, _ | 1, _ | 2, _ | 3, _ | 4, _ | 5, _ | 6, _ | 7, _ | 8, _ => rfl
theorem two_more (r : Rg) {k : Nat} (hk : k < 9) : sing r ++ twoB ((wrds r).take (k + 1)) = (sing r ++ twoB ((wrds r).take k)) ++ [(wrds r).getD k 0 / 256, (wrds r).getD k 0 % 256] := by
  rw [take_more (l := wrds r) (k := k) hk, twoB_append, List.append_assoc]; rfl
theorem RB.lit2g (w : World) (g : Nat) (u v : Int) (hg : g = w.heap.size) (h0 : 0 ≤ u) (h1 : u < 256) (k0 : 0 ≤ v) (k1 : v < 256) : RB (w.alloc (.cells #[.int .u8 u, .int .u8 v] 5)) (g + 1) (some ⟨g, 0, none⟩) 2 [u, v] := by
  subst hg
  exact (OB.lit w [u, v] (AllB.cons h0 h1 (AllB.one k0 k1)) (by unfold maxLen; simp)).rb.more (by simp)
theorem OB.pos9 {w : World} {B c : Nat} {A : Option Addr} {l : List Int} (h : OB w B A c l) (hl : 0 < l.length) : ∃ g, A = some ⟨g, 0, none⟩ ∧ B ≤ g ∧ g < w.heap.size := by
  have hlt := h.own.lt
  rcases h.own.2 with ⟨_, h2⟩ | ⟨g, cap, cur, h1, hb, _⟩
  · omega
  · injection h1 with h3 h4 h5
    exact ⟨g, h3, hb, (hlt g (by rw [h3]; rfl)).2⟩
theorem bits_sum : ∀ a b c d : Bool, (bitN 1 a + bitN 2 b) % 256 = sw4 a b c d 2 ∧ (sw4 a b c d 2 + bitN 4 c) % 256 = sw4 a b c d 3 ∧ (sw4 a b c d 3 + bitN 8 d) % 256 = sw4 a b c d 4 := by decide +kernel
theorem OB.save9 {w w' : World} {B : Nat} {A : Option Addr} {c : Nat} {l : List Int} (h : OB w B A c l) (hs : Save (fun _ => False) w w') : OB w' B A c l := h.below hs.all (Nat.le_refl _)
theorem r8_bytes_no (r : Rg) (hm : ¬ r.May) (w : World) : Calls Try.prog 9 #[r.val] w fun e w' => e = .returned (.tuple #[.slice none 0 0, .int .i64 2]) ∧ Below w.heap.size w w' := by
  have HC := Lib.hid (fun w => r8_check r w)
  rw [if_neg hm] at HC
  have HR := Lib.hid (RgW.laid w r)
  have hb0 : Below w.heap.size w (w.alloc (rgO r)) := (Below.refl _ _).alloc (Nat.le_refl _) _
  rw [rg_val r]
  go_enter Try.func9, Try.ntmps9
  go_wp2_with (refine wpList_load_row rfl 24 _ rfl w.heap.size rfl _ _ (0, 0) _ HR.out Try.underlying24 rfl rg_info ?_)
  refine (HC.out _).mono ?_
  rintro e w3 ⟨rfl, hb⟩
  go_wp2_with fail
  go_ret2
  exact ⟨rfl, hb0.trans (hb.mono hb0.size)⟩

set_option maxHeartbeats 8000000 in
theorem r8_bytes_may (r : Rg) (hr : r.Ok) (hm : r.May) (w : World) : Calls Try.prog 9 #[r.val] w fun e w' => (∃ A c, e = .returned (.tuple #[.slice A 32 c, .int .i64 0]) ∧ OB w' w.heap.size A c (bytesR r)) ∧ Below w.heap.size w w' := by
  have HC := Lib.hid (fun w => r8_check r w)
  rw [if_pos hm] at HC
  obtain ⟨m0, m1⟩ := hm
  have HR := Lib.hid (show RowW (w.alloc (rgO r)) w.heap.size r.cells from RgW.laid w r)
  have hb0 : Below w.heap.size w (w.alloc (rgO r)) := (Below.refl _ _).alloc (Nat.le_refl _) _
  rw [rg_val r]
  go_enter Try.func9, Try.ntmps9
  go_wp2_with (refine wpList_load_row rfl 24 _ rfl w.heap.size rfl _ _ (0, 0) _ HR.out Try.underlying24 rfl rg_info ?_)
  refine (HC.out _).mono ?_
  rintro e w3 ⟨rfl, hb⟩
  have hR3 : RgW w3 w.heap.size r := RowW.below HR.out hb (RowW.lt HR.out)
  have hB3 := hb0.trans (hb.mono hb0.size)
  clear hb hb0 HR HC
  have x0 := hR3.gA
  have x1 := hR3.gF
  have x2 := hR3.gB
  have x3 := hR3.gC
  have x4 := hR3.gD
  have x5 := hR3.gE
  have x6 := hR3.gH
  have x7 := hR3.gL
  have x8 := hR3.gI
  have x9 := hR3.gR
  obtain ⟨w4, hw4⟩ : ∃ w4, w3.alloc (.cells #[.int .u8 r.A, .int .u8 r.F, .int .u8 r.B, .int .u8 r.C, .int .u8 r.D, .int .u8 r.E, .int .u8 r.H, .int .u8 r.L, .int .u8 r.I, .int .u8 r.R] 5) = w4 := ⟨_, rfl⟩
  obtain ⟨g, hg⟩ : ∃ g, w3.heap.size = g := ⟨_, rfl⟩
  have hgb : w.heap.size < g := by have := hR3.lt; omega
  have hO4 : OB w4 g (some ⟨g, 0, none⟩) 10 (sing r) := by rw [← hw4, ← hg]; exact OB.lit w3 (sing r) (sing_bytes hr) (by unfold maxLen sing; simp)
  have hR4 : RgW w4 w.heap.size r := by rw [← hw4]; exact hR3.more _
  have hB4 : Below w.heap.size w w4 := by rw [← hw4]; exact hB3.alloc hB3.size _
  have hs4 : w4.heap.size = g + 1 := by rw [← hw4, ← hg]; simp
  clear hB3 hR3
  have y0 := hR4.gIX
  have y1 := hR4.gIY
  have y2 := hR4.gSP
  have y3 := hR4.gPC
  have y4 := hR4.gWZ
  have y5 := hR4.gAF2
  have y6 := hR4.gBC2
  have y7 := hR4.gDE2
  have y8 := hR4.gHL2
  obtain ⟨w5, hw5⟩ : ∃ w5, w4.alloc (.cells #[.int .u16 r.IX, .int .u16 r.IY, .int .u16 r.SP, .int .u16 r.PC, .int .u16 r.WZ, .int .u16 r.AF2, .int .u16 r.BC2, .int .u16 r.DE2, .int .u16 r.HL2] 22) = w5 := ⟨_, rfl⟩
  have hN5 : w5.heap[g + 1]? = some (.cells #[.int .u16 r.IX, .int .u16 r.IY, .int .u16 r.SP, .int .u16 r.PC, .int .u16 r.WZ, .int .u16 r.AF2, .int .u16 r.BC2, .int .u16 r.DE2, .int .u16 r.HL2] 22 (0, 0)) := by rw [← hw5, ← hs4]; exact heap_alloc_new _ _
  have hO5 : OB w5 g (some ⟨g, 0, none⟩) 10 (sing r) := by rw [← hw5]; exact hO4.alloc _
  have hR5 : RgW w5 w.heap.size r := by rw [← hw5]; exact hR4.more _
  have hB5 : Below w.heap.size w w5 := by rw [← hw5]; exact hB4.alloc hB4.size _
  clear hR4 hB4 hO4
  have HR5 := Lib.hid hR5
  have HB5 := Lib.hid hB5
  have HO5 := Lib.hid hO5
  have HN5 := Lib.hid hN5
  clear hR5 hB5 hO5 hN5
  go_wp2_with fail
  clear x0 x1 x2 x3 x4 x5 x6 x7 x8 x9 y0 y1 y2 y3 y4 y5 y6 y7 y8 hw4 hw5 hg hs4
  have hG5 : g + 1 < w5.heap.size := (Array.getElem?_eq_some_iff.1 HN5.out).1
  go_loopw [4, 6] (fun v i wr => ∃ (k : Nat) (A : Option Addr) (c : Nat), k ≤ 9 ∧ i = .int .i64 k ∧ v = .slice A (sing r ++ twoB ((wrds r).take k)).length c ∧ OB wr g A c (sing r ++ twoB ((wrds r).take k)) ∧ wr.heap[g + 1]? = some (.cells #[.int .u16 r.IX, .int .u16 r.IY, .int .u16 r.SP, .int .u16 r.PC, .int .u16 r.WZ, .int .u16 r.AF2, .int .u16 r.BC2, .int .u16 r.DE2, .int .u16 r.HL2] 22 (0, 0)) ∧ RgW wr w.heap.size r ∧ Below w.heap.size w wr ∧ g + 1 < wr.heap.size) (fun _ i _ => 9 - (intOf i).toNat)
  case atStart => exact ⟨0, _, _, by omega, rfl, rfl, by simpa [twoB] using HO5.out, HN5.out, HR5.out, HB5.out, hG5⟩
  case round =>
    clear HO5 HN5 HR5 HB5 hG5
    obtain ⟨k, A, c, hk, rfl, rfl, ho, hN, hR, hB, hG⟩ := hrel
    by_cases hlt : k < 9
    · have x0 : wr.cell? ⟨g + 1, k, none⟩ = some (.int .u16 ((wrds r).getD k 0)) := by rw [cell_of_row _ _ _ _ _ _ hN]; exact wrds_row hlt
      have HT := Lib.hid (two_more r hlt)
      obtain ⟨X0, X1⟩ := wrds_words hr ((wrds r).getD k 0) (by rw [List.getD, List.getElem?_eq_getElem (show k < (wrds r).length from hlt)]; exact List.getElem_mem _)
      have hll : (sing r ++ twoB ((wrds r).take k)).length ≤ 100 := by rw [List.length_append, twoB_len, List.length_take]; have : (sing r).length = 10 := rfl; omega
      have HAp := Lib.hid (ho.apart hN (by decide))
      generalize (wrds r).getD k 0 = X at *
      obtain ⟨L, hL⟩ : ∃ L, sing r ++ twoB ((wrds r).take k) = L := ⟨_, rfl⟩
      rw [hL] at ho HT hll HAp ⊢
      have HO := Lib.hid ho
      have HNr := Lib.hid hN
      have HRr := Lib.hid hR
      have HBr := Lib.hid hB
      clear hL ho hN hR hB
      go_wp2_with (first
        | (go_at_call 48; (with_reducible refine (r7_split _ _ X0 X1).mono ?_); rintro e w' ⟨rfl, rfl⟩)
        | (at_builtin; refine wpList_append_rbg _ rfl _ _ rfl g _ A _ c L rfl rfl (HO.out.alloc _) _ _ _ [X / 256, X % 256] rfl rfl (RB.lit2g _ _ (X / 256) (X % 256) (by simp) (by omega) (by omega) (by omega) (by omega)) (by simp; omega) (by simp; omega) ?_; intro A' c' w6 hob hbel hgr))
      have hbb : Below wr.heap.size wr (wr.alloc (.cells #[.int .u8 (X / 256), .int .u8 (X % 256)] 5)) := (Below.refl _ _).alloc (Nat.le_refl _) _
      have hN6 := (hgr.block (g + 1) (by simp; omega) HAp.out).trans ((hbb.block (g + 1) hG).trans HNr.out)
      have hbg : Below g wr w6 := (hbb.mono (by omega)).trans hbel
      have hR6 := HRr.out.below hbg hgb
      have hB6 := HBr.out.trans (hbg.mono (by omega))
      clear x0 hbb hgr hbel
      go_roundw
      case rel => exact ⟨k + 1, A', c', by omega, by go_num, (by rw [HT.out, List.length_append]; rfl), (by rw [HT.out]; exact hob), hN6, hR6, hB6, Nat.lt_of_lt_of_le hG hbg.size⟩
      case measure => simp [intOf]; omega
    · rw [show ((k : Nat) : Int) = 9 by omega]
      obtain rfl : k = 9 := by omega
      rw [show (wrds r).take 9 = wrds r from rfl] at ho ⊢
      have hL28 : (sing r ++ twoB (wrds r)).length = 28 := by rw [List.length_append, twoB_len]; rfl
      have hB28 : bytesR r = (sing r ++ twoB (wrds r)) ++ [swN r 4, r.IM] ++ [((sumL ((sing r ++ twoB (wrds r)) ++ [swN r 4, r.IM])).toNat : Int) / 256, ((sumL ((sing r ++ twoB (wrds r)) ++ [swN r 4, r.IM])).toNat : Int) % 256] := rfl
      obtain ⟨L, hL⟩ : ∃ L, sing r ++ twoB (wrds r) = L := ⟨_, rfl⟩
      rw [hL] at ho hL28 hB28 ⊢
      obtain ⟨gA, rfl, hgA, hgA2⟩ := ho.pos9 (by omega)
      have HB28 := Lib.hid hB28
      have HO := Lib.hid ho
      have HRr := Lib.hid hR
      have HBr := Lib.hid hB
      have HL28 := Lib.hid hL28
      have hRlt := hR.lt
      have hne : w.heap.size ≠ gA := by omega
      have G := fun p : M.Of (M.But wr gA (fun _ => True)) => (show RgW p.w w.heap.size r from (p.ok.other hRlt hne).trans HRr.out)
      have z19 := fun p => (G p).gIFF1
      have z20 := fun p => (G p).gIFF2
      have z21 := fun p => (G p).gIM
      have z22 := fun p => (G p).gHalt
      have z23 := fun p => (G p).gLate
      obtain ⟨e2, e3, e4⟩ := bits_sum r.IFF1 r.IFF2 r.Halt r.Late
      have hs4 := sw4_in r.IFF1 r.IFF2 r.Halt r.Late
      have hsw : swN r 4 = sw4 r.IFF1 r.IFF2 r.Halt r.Late 4 := rfl
      rw [hsw] at HB28
      have hc1 := fun w => r8_bit 1 r.IFF1 w
      have hc2 := fun w => r8_bit 2 r.IFF2 w
      have hc3 := fun w => r8_bit 4 r.Halt w
      have hc4 := fun w => r8_bit 8 r.Late w
      generalize bitN 1 r.IFF1 = b1 at *
      generalize bitN 2 r.IFF2 = b2 at *
      generalize bitN 4 r.Halt = b3 at *
      generalize bitN 8 r.Late = b4 at *
      generalize sw4 r.IFF1 r.IFF2 r.Halt r.Late 2 = s2 at *
      generalize sw4 r.IFF1 r.IFF2 r.Halt r.Late 3 = s3 at *
      generalize sw4 r.IFF1 r.IFF2 r.Halt r.Late 4 = s4 at *
      have e2' : IntKind.u8.wrap (b1 + b2) = s2 := by rw [wrap_u8]; exact e2
      have e3' : IntKind.u8.wrap (s2 + b3) = s3 := by rw [wrap_u8]; exact e3
      have e4' : IntKind.u8.wrap (s3 + b4) = s4 := by rw [wrap_u8]; exact e4
      have e5 : r.IM % 256 = r.IM := by omega
      have e5' : IntKind.u8.wrap r.IM = r.IM := by rw [wrap_u8]; exact e5
      have HC1 := Lib.hid hc1
      have HC2 := Lib.hid hc2
      have HC3 := Lib.hid hc3
      have HC4 := Lib.hid hc4
      clear hc1 hc2 hc3 hc4 hL hB28 hsw ho hN hR hB G hL28
      haveI : Nonempty (M.Of (M.But wr gA (fun _ => True))) := ⟨⟨wr, M.But.refl hgA2 trivial⟩⟩
      go_upto_region 10 with fail
      refine M.regionD_ (M.But wr gA (fun _ => True)) (fun w' => M.But wr gA (fun _ => True) w' ∧ OB w' g (some ⟨gA, 0, none⟩) c L) (fun w1 w2 h hs => ⟨M.closed_but _ _ _ _ _ h.1 hs, h.2.save9 hs⟩) (fun _ h => h.1) (fun n => ⟨M.But.start hgA2 trivial n, HO.out.save9 (Save.drawn _ _ n)⟩) (by kernel_rfl) ?_
      refine M.seg_ [0, 1, 2, 4, 5, 8, 9, 12, 13, 16, 17] 11 _ _ (M.But.refl hgA2 trivial) (by kernel_rfl) (by kernel_rfl) (by kernel_rfl) (by simp only [pickOps, mask, plain, List.getElem?_toArray, List.getElem?_cons_zero, List.getElem?_cons_succ, if_true, Bool.false_eq_true, if_false]; rfl) ?_
      repeat (go_big_quiet_step (fail))
      refine wpQuiet_nil ?_
      clear z19 z20 z21 z22 z23
      refine M.calm_ (i := 3) (.int .u8 b1) rfl (by kernel_rfl) (by kernel_rfl) (by kernel_rfl) (by kernel_rfl) ?_ ?_
      · intro wz sz
        unfold Oper.does
        go_simp
        exact (HC1.out wz).mono fun e w' ⟨he, hw⟩ => ⟨_, he, rfl, hw ▸ Save.refl _ _⟩
      go_simp
      refine M.calm_ (i := 6) (.int .u8 b2) rfl (by kernel_rfl) (by kernel_rfl) (by kernel_rfl) (by kernel_rfl) ?_ ?_
      · intro wz sz
        unfold Oper.does
        go_simp
        exact (HC2.out wz).mono fun e w' ⟨he, hw⟩ => ⟨_, he, rfl, hw ▸ Save.refl _ _⟩
      go_simp
      refine M.seg_ [7] 8 _ _ (M.But.refl hgA2 trivial) (by kernel_rfl) (by kernel_rfl) (by kernel_rfl) (by simp only [pickOps, mask, plain, List.getElem?_toArray, List.getElem?_cons_zero, List.getElem?_cons_succ, if_true, Bool.false_eq_true, if_false]; rfl) ?_
      repeat (go_big_quiet_step (fail))
      refine wpQuiet_nil ?_
      refine M.calm_ (i := 10) (.int .u8 b3) rfl (by kernel_rfl) (by kernel_rfl) (by kernel_rfl) (by kernel_rfl) ?_ ?_
      · intro wz sz
        unfold Oper.does
        go_simp
        exact (HC3.out wz).mono fun e w' ⟨he, hw⟩ => ⟨_, he, rfl, hw ▸ Save.refl _ _⟩
      go_simp
      refine M.seg_ [11] 6 _ _ (M.But.refl hgA2 trivial) (by kernel_rfl) (by kernel_rfl) (by kernel_rfl) (by simp only [pickOps, mask, plain, List.getElem?_toArray, List.getElem?_cons_zero, List.getElem?_cons_succ, if_true, Bool.false_eq_true, if_false]; rfl) ?_
      repeat (go_big_quiet_step (fail))
      refine wpQuiet_nil ?_
      refine M.calm_ (i := 14) (.int .u8 b4) rfl (by kernel_rfl) (by kernel_rfl) (by kernel_rfl) (by kernel_rfl) ?_ ?_
      · intro wz sz
        unfold Oper.does
        go_simp
        exact (HC4.out wz).mono fun e w' ⟨he, hw⟩ => ⟨_, he, rfl, hw ▸ Save.refl _ _⟩
      go_simp
      refine M.seg_ [15, 18] 3 _ _ (M.But.refl hgA2 trivial) (by kernel_rfl) (by kernel_rfl) (by kernel_rfl) (by simp only [pickOps, mask, plain, List.getElem?_toArray, List.getElem?_cons_zero, List.getElem?_cons_succ, if_true, Bool.false_eq_true, if_false]; rfl) ?_
      repeat (go_big_quiet_step (fail))
      refine wpQuiet_nil ?_
      refine M.call_ (i := 19) rfl (by kernel_rfl) (by kernel_rfl) ?_
      intro wz sz
      unfold Oper.does
      go_simp
      have hal := (Below.refl wz.heap.size wz).alloc (Nat.le_refl _) (.cells #[.int .u8 s4, .int .u8 r.IM] 5)
      have hSv : Save (fun _ => False) wz (wz.alloc (.cells #[.int .u8 s4, .int .u8 r.IM] 5)) := Save.of_below hal
      refine ⟨fun w' => (M.But wr gA (fun _ => True) w' ∧ OB w' g (some ⟨gA, 0, none⟩) c L) ∧ (RB w' (wz.heap.size + 1) (some ⟨wz.heap.size, 0, none⟩) 2 [s4, r.IM] ∧ wz.heap.size < w'.heap.size), ⟨⟨M.closed_but _ _ _ _ _ sz.1 hSv, sz.2.save9 hSv⟩, RB.lit2g _ _ _ _ rfl hs4.1 hs4.2 (by omega) (by omega), by simp⟩, fun w1 w2 h hs => ⟨⟨M.closed_but _ _ _ _ _ h.1.1 hs, h.1.2.save9 hs⟩, h.2.1.below (hs.all.mono h.2.2), Nat.lt_of_lt_of_le h.2.2 hs.size⟩, fun _ h => h.1.1, ?_⟩
      clear hal hSv sz
      generalize wz.heap.size = N at *
      go_simp
      refine M.call_ (i := 20) rfl (by kernel_rfl) (by kernel_rfl) ?_
      intro wy sy
      obtain ⟨⟨sy1, sy2⟩, sy3, sy4⟩ := sy
      have hgy : g ≤ wy.heap.size := by have := sy1.2.1.size; omega
      obtain ⟨A7, c7, w7, hrun, hO7, hb7, -, hg7⟩ := run_append_rb wy 25 g _ (some ⟨gA, 0, none⟩) c L sy2 (some ⟨N, 0, none⟩) 2 [s4, r.IM] sy3 (by rw [HL28.out]; simp) hgy
      obtain ⟨L2, hL2⟩ : ∃ L2, L ++ [s4, r.IM] = L2 := ⟨_, rfl⟩
      have hl2 : L2.length = 30 := by rw [← hL2, List.length_append, HL28.out]; rfl
      rw [hL2] at HB28 hrun hO7
      rw [hl2, show ([s4, r.IM] : List Int).length = 2 from rfl] at hrun
      refine does_append_ob (vs := .slice (some ⟨gA, 0, none⟩) L.length c) (vx := .slice (some ⟨N, 0, none⟩) 2 2) (v := .slice A7 30 c7) _ _ rfl rfl rfl hrun ?_
      refine ⟨fun w' => M.But wr gA (fun _ => True) w' ∧ OB w' g A7 c7 L2, ⟨sy1.step (Save.of_grown (g := gA) hg7 rfl) trivial, hO7⟩, fun w1 w2 h hs => ⟨M.closed_but _ _ _ _ _ h.1 hs, h.2.save9 hs⟩, fun _ h => h.1, ?_⟩
      clear sy1 sy2 sy3 sy4 hrun hO7 hb7 hg7 hgy hL2
      go_simp
      refine M.seg_ [21] 0 _ _ (M.But.refl hgA2 trivial) (by kernel_rfl) (by kernel_rfl) (by kernel_rfl) (by simp only [pickOps, mask, plain, List.getElem?_toArray, List.getElem?_cons_zero, List.getElem?_cons_succ, if_true, Bool.false_eq_true, if_false]; rfl) ?_
      repeat (go_big_quiet_step (fail))
      refine wpQuiet_nil ?_
      refine M.end_ (by kernel_rfl) ?_
      intro wc sc
      obtain ⟨sc1, sc2⟩ := sc
      have hBc := HBr.out.trans (sc1.below (by omega))
      clear sc1 HBr HRr HO HC1 HC2 HC3 HC4 this e2 e3 e4 e2' e3' e4' e5 e5'
      have HOc := Lib.hid sc2
      have hgc : g < wc.heap.size := by
        obtain ⟨g', -, h1, h2⟩ := sc2.pos9 (by omega)
        omega
      clear sc2
      go_wp2_with fail
      refine (r8_sum1 wc.heap.size A7 c7 30 L2 wc rfl hl2.symm HOc.out.rb (by omega)).mono ?_
      rintro e w' ⟨rfl, rfl⟩
      have hs0 : (0 : Int) ≤ ((sumL L2).toNat : Int) := Int.natCast_nonneg _
      have hs1 : ((sumL L2).toNat : Int) < 65536 := by have := (sumL L2).isLt; omega
      generalize ((sumL L2).toNat : Int) = S at *
      have HO9 := Lib.hid (HOc.out.alloc (.cells #[.slice A7 30 c7] 25))
      have HB9 := Lib.hid (hBc.alloc (show w.heap.size ≤ wc.heap.size by omega) (.cells #[.slice A7 30 c7] 25))
      have hs9 : (wc.alloc (.cells #[.slice A7 30 c7] 25)).heap.size = wc.heap.size + 1 := by simp
      generalize wc.alloc (.cells #[.slice A7 30 c7] 25) = w9 at *
      have hgc9 : g < w9.heap.size := by omega
      have HS9 := Lib.hid hs9
      have HLe := Lib.hid hl2
      clear HOc hBc hs9 hl2
      go_wp2_with (first
        | (go_at_call 48; (with_reducible refine (r7_split _ _ hs0 hs1).mono ?_); rintro e w' ⟨rfl, rfl⟩)
        | (at_builtin; refine wpList_append_rb _ rfl _ _ rfl g _ A7 _ c7 L2 rfl HLe.out.symm (HO9.out.alloc _) _ _ _ [S / 256, S % 256] rfl rfl (RB.lit2g _ _ (S / 256) (S % 256) (by simp) (by omega) (by omega) (by omega) (by omega)) (by rw [HLe.out]; simp) (by simp; omega) ?_; intro A' c' w8 hob hbel hne; rw [← HB28.out] at hob; rw [show (L2 ++ [S / 256, S % 256]).length = 32 by rw [List.length_append, HLe.out]; rfl]))
      have hbg : Below g w9 w8 := ((Below.refl g w9).alloc (by omega) (.cells #[.int .u8 (S / 256), .int .u8 (S % 256)] 5)).trans hbel
      go_ret2
      exact ⟨⟨A', c', rfl, hob.mono (by omega)⟩, HB9.out.trans (hbg.mono (by omega))⟩
end Go.Proofs.Ytedlfcmlchjjlaa
