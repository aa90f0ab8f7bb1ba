/-    -/
import Derived.Test.YtgaihekapakoeaaGreatDoorJ8
import Derived.Test.YtgaihekapakoeaaGreatDoorJ9
set_option linter.unusedVariables false
set_option linter.unusedSimpArgs false
namespace Go.Proofs.YtgaihekapakoeaaGreatDoor
open Go.RowKit


set_option maxRecDepth 100000

theorem patOf_len (s o : Int) (s0 : 0 ≤ s) (s1 : s < 4) (o0 : 0 ≤ o) (o1 : o < 256) : (patOf s o).length ≤ 20 := by
 have h : ∀ a : Fin 4, ∀ b : Fin 256, (patOf (a.val : Int) (b.val : Int)).length ≤ 20 := by decide +kernel
 have := h ⟨s.toNat, by omega⟩ ⟨o.toNat, by omega⟩
 simp only [Int.toNat_of_nonneg s0, Int.toNat_of_nonneg o0] at this
 exact this

set_option maxHeartbeats 400000 in
theorem told_any (i : In) (hi : i.Wf) (w : World) (hV : VT w w.heap.size) (s0 : 0 ≤ i.s) (s1 : i.s < 4) (x0 : 0 ≤ i.x) (x1 : i.x < 3) (o0 : 0 ≤ i.o) (o1 : i.o < 256) (hne : toldT false i ≠ []) :
  Calls Tryz.prog 35 #[i.val] w fun e w' => e = .returned (.string ⟨(toldT false i).toArray⟩) ∧ Below w.heap.size w w' := by
 have HP := z_ (fun (w1 : World) (hb : Below w.heap.size w w1) => p_of i w1 w.heap.size (hV.below hb) hb.size s0 s1 o0 o1)
 have hpl := patOf_len i.s i.o s0 s1 o0 o1
 have HW := z_ (fun (w1 : World) b (hb : Below w.heap.size w w1) (h : WT w1 w.heap.size b i false []) => w_pattern w1 w.heap.size b i hi false [] (hV.below hb) h x0 x1 o0 o1 (patOf i.s i.o) hpl (by decide))
 have ht := toldT_mk false i
 rw [← ht] at HW
 obtain ⟨p, hp⟩ : ∃ p, patOf i.s i.o = p := ⟨_, rfl⟩
 rw [hp] at HP HW
 have HS := z_ (fun (w1 : World) b (h : WT w1 w.heap.size b i false (toldT false i)) => wb_text w1 w.heap.size b _ _ _ h hne)
 obtain ⟨t, htt⟩ : ∃ t, toldT false i = t := ⟨_, rfl⟩
 rw [htt] at HW HS ⊢
 clear htt ht hp hpl hne hV s0 s1 x0 x1 o0 o1
 have hL := InW.laid w i
 have hb0 : Below w.heap.size w (w.alloc (inO i)) := (Below.refl _ _).alloc (Nat.le_refl _) _
 obtain ⟨w1, hw1⟩ : ∃ w1, w.alloc (inO i) = w1 := ⟨_, rfl⟩
 have hs1 : w1.heap.size = w.heap.size + 1 := by rw [← hw1]; simp
 rw [hw1] at hL hb0
 unfold inO at hw1
 rw [in_val]
 have HB0 := z_ hb0
 have HI := z_ hL
 have hL2 : w1.heap[w.heap.size]? = some (.cells #[.int .i64 i.s, .int .i64 i.x, .int .i64 i.o, .int .i64 i.d, .int .i64 i.m, .int .i64 i.n] 23 (0, 0)) := hL
 clear hL
 clear hb0
 go_enter Tryz.func35, Tryz.ntmps35
 go_upto_region 2 with (refine lr w.heap.size rfl rfl rfl hL2 ?_)
 clear hL2
 obtain ⟨w2, hw2⟩ : ∃ w2, w1.alloc (.cells #[.pointer none, .slice none 0 0, .int .i64 i.s, .int .i64 i.x, .int .i64 i.o, .int .i64 i.d, .int .i64 i.m, .int .i64 i.n, .bool false] 101) = w2 := ⟨_, rfl⟩
 have hT2 : WT w2 w.heap.size (w.heap.size + 1) i false [] := by
  refine .inl ⟨by omega, by decide, .slice none 0 0, ?_, World.ownsRow_nil _ _ _ _, by simp [Value.ownBlock]⟩
  rw [← hw2, ← hs1]
  exact heap_alloc_new _ _
 have hb2 : Below w.heap.size w w2 := by rw [← hw2]; exact HB0.out.alloc HB0.out.size _
 have hL2 : w2.heap[w.heap.size]? = some (.cells #[.int .i64 i.s, .int .i64 i.x, .int .i64 i.o, .int .i64 i.d, .int .i64 i.m, .int .i64 i.n] 23 (0, 0)) := by
  rw [← hw2]
  exact (Lib.alloc_old w1 _ _ (by omega)).trans HI.out
 have hL3 : InW w2 w.heap.size i := hL2
 rw [hw2]
 have HT := z_ hT2
 have HB2 := z_ hb2
 have HP2 := z_ (HP.out w2 hb2)
 rw [in_val] at HP2
 clear hw2 hw1 hs1 hT2 hb2 HP HB0 HI hL3
 go_wp2_with (refine lr w.heap.size rfl rfl rfl hL2 ?_)
 refine HP2.out.mono ?_
 rintro e w3 ⟨rfl, hb3⟩
 have hT3 : WT w3 w.heap.size (w.heap.size + 1) i false [] := HT.out.on hb3
 have hB3 := HB2.out.trans (hb3.mono HB2.out.size)
 have HW3 := z_ (HW.out w3 _ hB3 hT3)
 clear hL2 hb3
 go_wp2_with fail
 refine HW3.out.mono ?_
 rintro e w4 ⟨rfl, hT4, hb4⟩
 rw [List.nil_append] at hT4
 have HS4 := z_ (HS.out w4 _ hT4)
 go_wp2_with fail
 refine HS4.out.mono ?_
 rintro e w5 ⟨rfl, hb5⟩
 go_wp2_with fail
 go_ret
 exact ⟨rfl, (hB3.trans hb4).trans hb5⟩
end Go.Proofs.YtgaihekapakoeaaGreatDoor
namespace Go.Proofs.YtgaihekapakoeaaGreatDoor
open Go.RowKit


set_option maxRecDepth 100000

def pieceT (l : List Int) (j : Nat) : List UInt8 := (if j = 0 then [] else [44]) ++ Lib.itoa (l.getD j 0)
def joinT (l : List Int) (k : Nat) : List UInt8 := (List.range k).flatMap (pieceT l)
def bytesT (l : List Int) : List UInt8 := [68, 66, 32] ++ joinT l l.length
theorem joinT_succ (l : List Int) (k : Nat) : joinT l (k + 1) = joinT l k ++ pieceT l k := by
 unfold joinT
 rw [List.range_succ, List.flatMap_append, List.flatMap_cons, List.flatMap_nil, List.append_nil]
theorem pieceT_len (l : List Int) (hl : AllB l) (j : Nat) : (pieceT l j).length ≤ 22 := by
 have h := hl.getD j
 have := Lib.itoa_length_le (l.getD j 0) (by omega) (by omega)
 unfold pieceT
 generalize Lib.itoa (l.getD j 0) = t at *
 split <;> simp <;> omega
theorem joinT_len (l : List Int) (hl : AllB l) : ∀ k, (joinT l k).length ≤ 22 * k
 | 0 => by simp [joinT]
 | k + 1 => by
  have h1 := joinT_len l hl k
  have h2 := pieceT_len l hl k
  rw [joinT_succ, List.length_append]
  omega

set_option maxHeartbeats 1000000 in
theorem app_uint (u : Int) (h0 : 0 ≤ u) (h1 : u < 256) (w : World) (B : Nat) (hV : VT w B) (hB : B ≤ w.heap.size) :
  Calls Tryz.prog 75 #[.slice none 0 0, .int .u64 u, .int .i64 10] w fun e w' => ∃ g cap, e = .returned (.slice (some ⟨g, 0, none⟩) (Lib.itoa u).length cap) ∧ w.heap.size ≤ g ∧ g < w'.heap.size ∧
   (∀ j x, (Lib.byteCells (Lib.itoa u))[j]? = some x → w'.cell? (Addr.add ⟨g, 0, none⟩ j) = some x) ∧ Below w.heap.size w w' := by
 obtain ⟨k, rfl⟩ : ∃ k : Nat, u = k := ⟨u.toNat, by omega⟩
 have hd : Lib.itoa (k : Int) = Lib.decDigits k := by unfold Lib.itoa; rw [if_neg (by omega), Int.toNat_natCast]
 have hne := itoa_ne (k : Int)
 rw [hd] at hne ⊢
 have HC := z_ (Tryz.internal_strconv_AppendUint_10 w.heap.size 0 k (by omega) (.slice none 0 0) [] w (World.ownsRow_nil _ _ _ _) (Nat.le_refl _) (by omega) (hV.ten.here))
 generalize Lib.decDigits k = d at *
 clear hd hV
 go_enter Tryz.func75, Tryz.ntmps75
 go_wp2_with fail
 refine HC.out.mono ?_
 rintro e w1 ⟨v', rfl, hown, hb1, -⟩
 obtain ⟨g, cap, cur, rfl, hg0, hg, -⟩ : ∃ g cap cur, v' = .slice (some ⟨g, 0, none⟩) d.length cap ∧ w.heap.size ≤ g ∧ w1.heap[g]? = some (.cells cur 5 (0, 0)) ∧ True := by
  rcases hown.2 with ⟨_, hz⟩ | ⟨g, cap, cur, hv, hg, hr, _⟩
  ·omega
  ·exact ⟨g, cap, cur, by rw [hv, Nat.zero_add], hg, hr, trivial⟩
 have hlt := (Array.getElem?_eq_some_iff.1 hg).1
 have hc := hown.cells (g := g) rfl
 rw [List.nil_append] at hc
 have HCc := z_ hc
 clear hc hown hg
 go_wp2_with fail
 go_ret
 exact ⟨g, cap, rfl, hg0, hlt, HCc.out, hb1⟩

set_option maxHeartbeats 4000000 in
theorem digits_of (A : Option Addr) (c n : Nat) (l : List Int) (w : World) (hn : n = l.length) (h : RB w w.heap.size A c l) (hl : l.length ≤ 100) (hV : VT w w.heap.size) :
  Calls Tryz.prog 34 #[.slice A n c] w fun e w' => e = .returned (.string ⟨(bytesT l).toArray⟩) ∧ Below w.heap.size w w' := by
 have hcap := h.cap
 have hle := h.le
 unfold maxLen at hcap
 have hby := h.bytes
 obtain ⟨w1, hw1⟩ : ∃ w1, w.alloc (.cells #[.pointer none, .slice none 0 0] 90) = w1 := ⟨_, rfl⟩
 have hT1 : WB w1 w.heap.size w.heap.size 90 [] [] := by
  refine .inl ⟨Nat.le_refl _, by decide, .slice none 0 0, ?_, World.ownsRow_nil _ _ _ _, by simp [Value.ownBlock]⟩
  rw [← hw1]
  exact heap_alloc_new _ _
 have hb1 : Below w.heap.size w w1 := by rw [← hw1]; exact (Below.refl _ _).alloc (Nat.le_refl _) _
 have H1 := z_ (wb_string w1 w.heap.size w.heap.size _ _ _ hT1 begins_b { data := #[68, 66, 32] } (by decide) hb1.size)
 have HB1 := z_ hb1
 have HW := z_ (fun (wr : World) bs (k : WB wr w.heap.size w.heap.size 90 [] bs) (g cc : Nat) (xs : List UInt8) hg hgb hx hlen hBw => wb_write wr w.heap.size w.heap.size _ _ bs k begins_b g cc xs hg hgb hx hlen hBw)
 have HY := z_ (fun (wr : World) bs (k : WB wr w.heap.size w.heap.size 90 [] bs) hlen hBw => wb_byte wr w.heap.size w.heap.size _ _ bs k begins_b 44 hlen hBw)
 have HS := z_ (fun (wr : World) (k : WB wr w.heap.size w.heap.size 90 [] (bytesT l)) => wb_text wr w.heap.size w.heap.size _ _ _ k (by unfold bytesT; simp))
 have HV := z_ hV
 have HR := z_ h
 have HN := z_ hn
 have HBY := z_ hby
 obtain ⟨T, hT⟩ : ∃ T, bytesT l = T := ⟨_, rfl⟩
 have HT := z_ hT
 rw [hT]
 clear hT hT1 hb1 h hV hby hn
 go_enter Tryz.func34, Tryz.ntmps34
 go_wp2_with fail
 refine H1.out.mono ?_
 rintro e w2 ⟨rfl, hT2, hb2⟩
 have hT2' : WB w2 w.heap.size w.heap.size 90 [] [68, 66, 32] := hT2
 have HT2 := z_ hT2'
 have HB2 := z_ (HB1.out.trans hb2)
 clear hT2 hT2' hb2 hw1
 go_wp2_with fail
 go_loopw [9] (fun v wr => ∃ k : Nat, k ≤ n ∧ v = .int .i64 k ∧ WB wr w.heap.size w.heap.size 90 [] ([68, 66, 32] ++ joinT l k) ∧ Below w.heap.size w wr) (fun v _ => n - (intOf v).toNat)
 case atStart => exact ⟨0, by omega, rfl, by simpa [joinT] using HT2.out, HB2.out⟩
 case round =>
  obtain ⟨k, hk, rfl, hT, hb⟩ := hrel
  by_cases he : k < n
  ·have hkl : k < l.length := by rw [← HN.out]; exact he
   have hjl := joinT_len l HBY.out k
   obtain ⟨bb, off, rfl, hbb, hc⟩ := HR.out.pos (by omega)
   have hcx := (hb.cell (p := ⟨bb, off + k, none⟩) hbb).trans (hc k hkl)
   have hx := HBY.out.getD k
   obtain ⟨x, hxe⟩ : ∃ x, l.getD k 0 = x := ⟨_, rfl⟩
   rw [hxe] at hx hcx
   obtain ⟨x0, x1⟩ := hx
   have hil := Lib.itoa_length_le x (by omega) (by omega)
   have Hxe := z_ hxe
   have Hcc := z_ hc
   clear hxe hc
   by_cases h0 : k = 0
   ·subst h0
    have hcx0 : wr.cell? ⟨bb, off, none⟩ = some (.int .u8 x) := hcx
    clear hcx
    have HA := z_ (app_uint x x0 x1 wr w.heap.size (HV.out.below hb) hb.size)
    have HTr := z_ hT
    clear hT
    go_wp2_with fail
    refine HA.out.mono ?_
    rintro e w3 ⟨g, cap, rfl, hg0, hg1, hcg, hb3⟩
    have hT3 := HTr.out.on hb3
    have hB3 := hb.trans (hb3.mono hb.size)
    have hgb : g ≠ w.heap.size := by have := HTr.out.lt; omega
    have HWr := z_ (HW.out w3 _ hT3 g cap (Lib.itoa x) hg1 hgb hcg (by simp; omega) hB3.size)
    clear hcg hT3
    go_wp2_with fail
    refine HWr.out.mono ?_
    rintro e w4 ⟨rfl, hT4, hb4⟩
    have HT4 := z_ hT4
    clear hT4
    go_wp2_with fail
    go_roundw
    case rel =>
     refine ⟨1, by omega, rfl, ?_, hB3.trans hb4⟩
     rw [show joinT l 1 = joinT l 0 ++ Lib.itoa x by rw [joinT_succ]; unfold pieceT; rw [if_pos rfl, Hxe.out]; rfl, ← List.append_assoc]
     exact HT4.out
    case measure => simp [intOf]; omega
   ·have hk0 : 0 < k := by omega
    have HYr := z_ (HY.out wr _ hT (by simp; omega) hb.size)
    clear hT
    go_wp2_with fail
    refine HYr.out.mono ?_
    rintro e w3 ⟨rfl, hT3, hb3⟩
    have hB3 := hb.trans hb3
    have HA := z_ (app_uint x x0 x1 w3 w.heap.size (HV.out.below hB3) hB3.size)
    have HT3 := z_ hT3
    clear hT3
    go_wp2_with fail
    refine HA.out.mono ?_
    rintro e w4 ⟨g, cap, rfl, hg0, hg1, hcg, hb4⟩
    have hT4 := HT3.out.on hb4
    have hB4 := hB3.trans (hb4.mono hB3.size)
    have hgb : g ≠ w.heap.size := by have := HT3.out.lt; omega
    have HWr := z_ (HW.out w4 _ hT4 g cap (Lib.itoa x) hg1 hgb hcg (by simp; omega) hB4.size)
    clear hcg hT4
    go_wp2_with fail
    refine HWr.out.mono ?_
    rintro e w5 ⟨rfl, hT5, hb5⟩
    have HT5 := z_ hT5
    clear hT5
    go_wp2_with fail
    go_roundw
    case rel =>
     refine ⟨k + 1, by omega, by go_num, ?_, hB4.trans hb5⟩
     rw [show joinT l (k + 1) = joinT l k ++ ([44] ++ Lib.itoa x) by rw [joinT_succ]; unfold pieceT; rw [if_neg h0, Hxe.out], ← List.append_assoc, ← List.append_assoc]
     exact HT5.out
    case measure => simp [intOf]; omega
  ·obtain rfl : k = n := by omega
   have hTT : WB wr w.heap.size w.heap.size 90 [] (bytesT l) := by unfold bytesT; rw [← HN.out]; exact hT
   have HSr := z_ (HS.out wr hTT)
   rw [HT.out] at HSr
   clear hT hTT
   go_wp2_with fail
   refine HSr.out.mono ?_
   rintro e w3 ⟨rfl, hb3⟩
   go_wp2_with fail
   go_ret
   exact ⟨rfl, hb.trans hb3⟩
end Go.Proofs.YtgaihekapakoeaaGreatDoor
namespace Go.Proofs.YtgaihekapakoeaaGreatDoor
open Go.RowKit


set_option maxRecDepth 100000

def noneI (o : Int) : Bool := if o / 64 = 1 then (o == 119 || o == 127) else if o / 64 = 2 then (decide (o / 8 % 8 < 4) || decide (3 < o % 8)) else true
def twin6 (k : Int) : Int := if k = 3 then 94 else if k = 2 then 86 else 70
def twinO (o : Int) : Int := if o / 64 = 1 ∧ o % 8 = 4 then 68 else if o / 64 = 1 ∧ o % 8 = 5 ∧ o / 8 % 8 ≠ 1 then 69 else if o / 64 = 1 ∧ o % 8 = 6 then twin6 (o / 8 % 8 % 4) else o
def twinI (i : In) : In := if i.o = 99 then ⟨0, 0, 34, 0, i.m, 3⟩ else if i.o = 107 then ⟨0, 0, 42, 0, i.m, 3⟩ else { i with o := twinO i.o }

theorem in_neq_other (a b : In) (h : a ≠ b) (w : World) : (binOp .neq 23 a.val b.val).run Tryz.prog w = .ok (.bool true) w := by
 unfold In.val In.cells
 go_simp
 obtain ⟨a0, a1, a2, a3, a4, a5⟩ := a
 obtain ⟨b0, b1, b2, b3, b4, b5⟩ := b
 simp only [ne_eq, In.mk.injEq, not_and] at h
 exact h
theorem in_neq_same (a : In) (w : World) : (binOp .neq 23 a.val a.val).run Tryz.prog w = .ok (.bool false) w := by
 unfold In.val In.cells
 go_simp
theorem in_neq_any (a b : In) (w : World) : (binOp .neq 23 a.val b.val).run Tryz.prog w = .ok (.bool (decide (a ≠ b))) w := by
 by_cases h : a = b
 ·subst h; rw [in_neq_same]; simp
 ·rw [in_neq_other a b h]; simp [h]
theorem does_in_neq {o : Oper} {a : Act} {w : World} {next : Value → World → Prop} (x y : Operand) {t : TypeId} (ho : o.op = .binOp .neq 23 x y t) (i j : In) (hx : a.eval x = i.val) (hy : a.eval y = j.val)
  (h : next (.bool (decide (i ≠ j))) w) : Oper.does Tryz.prog o a w next := by
 unfold Oper.does execOp
 simp only [ho, hx, hy, Sem.run_bind, in_guard, Result.andThen_ok, in_neq_any, Sem.run_pure]
 exact h

set_option maxHeartbeats 4000000 in
theorem nothing_any (i : In) (hi : i.Wf) (hm : i.may = true) (hs : i.s = 2) (w : World) : Calls Tryz.prog 70 #[i.val] w fun e w' => e = .returned (.bool (noneI i.o)) ∧ Below w.heap.size w w' := by
 obtain ⟨-, -, o0, o1⟩ := one_cases (may_one hm).1
 have hc := fun w => c9_check i hi w
 rw [if_pos hm] at hc
 have HC := z_ hc
 obtain ⟨w1, hw1⟩ : ∃ w1, w.alloc (inO i) = w1 := ⟨_, rfl⟩
 have hL : InW w1 w.heap.size i := hw1 ▸ InW.laid w i
 have hb0 : Below w.heap.size w w1 := hw1 ▸ (Below.refl _ _).alloc (Nat.le_refl _) _
 have g0 := hL.gs
 have HL := z_ hL
 rw [hs] at g0
 have HP := fun w => c9_parts i.o w o0 o1
 obtain ⟨X, hX⟩ : ∃ X, i.o / 64 = X := ⟨_, rfl⟩
 obtain ⟨Y, hY⟩ : ∃ Y, i.o / 8 % 8 = Y := ⟨_, rfl⟩
 obtain ⟨Z, hZ⟩ : ∃ Z, i.o % 8 = Z := ⟨_, rfl⟩
 have hx4 : X = 1 ∨ X = 2 ∨ ((X == 1) = false ∧ (X == 2) = false ∧ X ≠ 1 ∧ X ≠ 2) := by
  by_cases h1 : X = 1
  ·exact .inl h1
  ·by_cases h2 : X = 2
   ·exact .inr (.inl h2)
   ·exact .inr (.inr ⟨beq_eq_false_iff_ne.2 h1, beq_eq_false_iff_ne.2 h2, h1, h2⟩)
 have hn : noneI i.o = (if X = 1 then (i.o == 119 || i.o == 127) else if X = 2 then (decide (Y < 4) || decide (3 < Z)) else true) := by unfold noneI; rw [hX, hY, hZ]
 obtain ⟨q, hq⟩ : ∃ q, noneI i.o = q := ⟨_, rfl⟩
 rw [hq]
 rw [hn] at hq
 rw [hX, hY, hZ] at HP
 clear hL hc hn hX hY hZ hs o0 o1
 rw [in_val]
 unfold inO at hw1
 obtain ⟨o, ho⟩ : ∃ o, i.o = o := ⟨_, rfl⟩
 have g2 := HL.out.go
 rw [ho] at g2 HP hq
 clear ho
 have HP := z_ HP
 rcases hx4 with rfl | rfl | ⟨e1, e2, n1, n2⟩
 ·rw [if_pos rfl] at hq
  have HQ := z_ hq
  clear hq
  go_enter Tryz.func70, Tryz.ntmps70
  go_wp2_with (refine wpList_load_ins (by kernel_rfl) 23 _ rfl w.heap.size rfl _ _ (0, 0) _ HL.out Tryz.underlying23 rfl in_info ?_)
  refine (HC.out _).mono ?_
  rintro e w2 ⟨rfl, hb⟩
  have hB2 := hb0.trans (hb.mono hb0.size)
  have k2 : w2.cell? ⟨w.heap.size, 2, none⟩ = some (.int .i64 o) := (hb.cell (p := ⟨w.heap.size, 2, none⟩) HL.out.lt).trans g2
  clear hb HL hb0 g0 g2 hw1
  go_wp2_with (go_at_call 67; (with_reducible refine (HP.out _).mono ?_); rintro e w' ⟨rfl, rfl⟩)
  all_goals
   go_ret
   exact ⟨ret_b (by rw [← HQ.out] <;> simp_all), hB2⟩
 ·rw [if_neg (by decide), if_pos rfl] at hq
  have HQ := z_ hq
  clear hq
  go_enter Tryz.func70, Tryz.ntmps70
  go_wp2_with (refine wpList_load_ins (by kernel_rfl) 23 _ rfl w.heap.size rfl _ _ (0, 0) _ HL.out Tryz.underlying23 rfl in_info ?_)
  refine (HC.out _).mono ?_
  rintro e w2 ⟨rfl, hb⟩
  have hB2 := hb0.trans (hb.mono hb0.size)
  have k2 : w2.cell? ⟨w.heap.size, 2, none⟩ = some (.int .i64 o) := (hb.cell (p := ⟨w.heap.size, 2, none⟩) HL.out.lt).trans g2
  clear hb HL hb0 g0 g2 hw1
  go_wp2_with (go_at_call 67; (with_reducible refine (HP.out _).mono ?_); rintro e w' ⟨rfl, rfl⟩)
  all_goals
   go_ret
   exact ⟨ret_b (by rw [← HQ.out] <;> simp_all <;> omega), hB2⟩
 ·rw [if_neg n1, if_neg n2] at hq
  have HQ := z_ hq
  clear hq n1 n2
  go_enter Tryz.func70, Tryz.ntmps70
  go_wp2_with (refine wpList_load_ins (by kernel_rfl) 23 _ rfl w.heap.size rfl _ _ (0, 0) _ HL.out Tryz.underlying23 rfl in_info ?_)
  refine (HC.out _).mono ?_
  rintro e w2 ⟨rfl, hb⟩
  have hB2 := hb0.trans (hb.mono hb0.size)
  have k2 : w2.cell? ⟨w.heap.size, 2, none⟩ = some (.int .i64 o) := (hb.cell (p := ⟨w.heap.size, 2, none⟩) HL.out.lt).trans g2
  clear hb HL hb0 g0 g2 hw1
  go_wp2_with (go_at_call 67; (with_reducible refine (HP.out _).mono ?_); rintro e w' ⟨rfl, rfl⟩)
  all_goals
   go_ret
   exact ⟨ret_b (by rw [← HQ.out]), hB2⟩

theorem ofmain_any (op imm : Int) (w : World) : Calls Tryz.prog 117 #[.int .i64 op, .int .i64 imm] w fun e w' => e = .returned (In.val ⟨0, 0, op, 0, imm, 3⟩) ∧ Below w.heap.size w w' := by
 have hb0 : Below w.heap.size w (w.alloc (inO ⟨0, 0, op, 0, imm, 3⟩)) := (Below.refl _ _).alloc (Nat.le_refl _) _
 have hL := InW.laid w zeroI
 have hL2 := InW.laid w ⟨0, 0, op, 0, imm, 3⟩
 obtain ⟨w1, hw1⟩ : ∃ w1, w.alloc (inO zeroI) = w1 := ⟨_, rfl⟩
 have hb1 : Below w.heap.size w w1 := hw1 ▸ (Below.refl _ _).alloc (Nat.le_refl _) _
 rw [hw1] at hL
 have HL := z_ hL
 unfold inO zeroI at hw1
 clear hL2 hb0
 go_enter Tryz.func117, Tryz.ntmps117
 go_wp2_with (refine sr w.heap.size rfl rfl rfl rfl HL.out (by kernel_rfl) ?_)
 (try simp only [Exit.inBlock, Exit.then])
 exact bodyPost_ret (results_cell_row rfl _ _ _ _ _ (0, 0) _ rfl (setRow_heap _ _ _ _ _ _ HL.out) Tryz.underlying23 rfl in_info) rfl ⟨rfl, below_setRow hb1 (Nat.le_refl _) _⟩

theorem idx_four (k : Nat) (w : World) (hk : k < 4) : (Instr.index 141 (.agg #[.int .i64 70, .int .i64 70, .int .i64 86, .int .i64 94]) (.int .i64 (k : Int))).run Tryz.prog w = .ok (.int .i64 (twin6 (k : Int))) w :=
 match k, hk with
 | 0, _ => by kernel_rfl
 | 1, _ => by kernel_rfl
 | 2, _ => by kernel_rfl
 | 3, _ => by kernel_rfl

set_option maxHeartbeats 8000000 in
theorem twin_any (i : In) (hi : i.Wf) (hm : i.may = true) (hs : i.s = 2) (w : World) : Calls Tryz.prog 71 #[i.val] w fun e w' => e = .returned (twinI i).val ∧ Below w.heap.size w w' := by
 obtain ⟨-, -, o0, o1⟩ := one_cases (may_one hm).1
 have hc := fun w => c9_check i hi w
 rw [if_pos hm] at hc
 have HC := z_ hc
 have hb2 : Below w.heap.size w ((w.alloc (inO i)).alloc (inO zeroI)) := ((Below.refl _ _).alloc (Nat.le_refl _) _).alloc (by simp) _
 have hI := (InW.laid w i).more (inO zeroI)
 have hZ := InW.laid (w.alloc (inO i)) zeroI
 have hsz : (w.alloc (inO i)).heap.size = w.heap.size + 1 := by simp
 rw [hsz] at hZ
 obtain ⟨w1, hw1⟩ : ∃ w2, (w.alloc (inO i)).alloc (inO zeroI) = w2 := ⟨_, rfl⟩
 rw [hw1] at hb2 hI hZ
 have g0 := hI.gs
 have HL := z_ hI
 have HZ := z_ hZ
 rw [hs] at g0
 have HP := fun w => c9_parts i.o w o0 o1
 obtain ⟨R, hR⟩ : ∃ R, twinI i = R := ⟨_, rfl⟩
 rw [hR]
 unfold twinI twinO at hR
 obtain ⟨X, hX⟩ : ∃ X, i.o / 64 = X := ⟨_, rfl⟩
 obtain ⟨Y, hY⟩ : ∃ Y : Nat, i.o / 8 % 8 = Y := ⟨(i.o / 8 % 8).toNat, by omega⟩
 obtain ⟨Z, hZZ⟩ : ∃ Z, i.o % 8 = Z := ⟨_, rfl⟩
 rw [hX, hY, hZZ] at HP hR
 obtain ⟨k4, hk4⟩ : ∃ k4 : Nat, (Y : Int) % 4 = k4 := ⟨Y % 4, by omega⟩
 have hk44 : k4 < 4 := by omega
 have hr4 : (Y : Int).tmod 4 = k4 := by rw [Int.tmod_eq_emod_of_nonneg (by omega)]; exact hk4
 rw [hk4] at hR
 have hcs : i.o = 99 ∨ i.o = 107 ∨ (((i.o == 99) = false ∧ (i.o == 107) = false ∧ i.o ≠ 99 ∧ i.o ≠ 107) ∧ ((X = 1 ∧ Z = 4) ∨ (X = 1 ∧ Z = 5 ∧ (Y : Int) ≠ 1) ∨ (X = 1 ∧ Z = 6) ∨ (X = 1 ∧ Z = 5 ∧ (Y : Int) = 1) ∨ (X = 1 ∧ Z ≠ 4 ∧ Z ≠ 5 ∧ Z ≠ 6) ∨ X ≠ 1)) := by
  by_cases h1 : i.o = 99
  ·exact .inl h1
  ·by_cases h2 : i.o = 107
   ·exact .inr (.inl h2)
   ·exact .inr (.inr ⟨⟨beq_eq_false_iff_ne.2 h1, beq_eq_false_iff_ne.2 h2, h1, h2⟩, by omega⟩)
 clear hI hZ hc hsz hX hY hZZ hs o0 o1 hk4
 rw [in_val]
 unfold inO zeroI at hw1
 obtain ⟨o, ho⟩ : ∃ o, i.o = o := ⟨_, rfl⟩
 have HP := z_ HP
 rw [ho] at HP hcs
 have HO := z_ ho
 rw [ho] at hR
 clear ho
 rcases hcs with rfl | rfl | ⟨⟨e99, e107, n99, n107⟩, ⟨rfl, rfl⟩ | ⟨rfl, rfl, hy⟩ | ⟨rfl, rfl⟩ | ⟨rfl, rfl, hy⟩ | ⟨rfl, z4, z5, z6⟩ | hx⟩
 ·rw [if_pos rfl] at hR
  have HR := z_ hR
  clear hR
  go_enter Tryz.func71, Tryz.ntmps71
  go_wp2_with (refine wpList_load_ins (by kernel_rfl) 23 _ rfl w.heap.size rfl _ _ (0, 0) _ HL.out Tryz.underlying23 rfl in_info ?_)
  refine (HC.out _).mono ?_
  rintro e w2 ⟨rfl, hb⟩
  have hL2 := HL.out.below hb HL.out.lt
  have hZ2 := HZ.out.below hb HZ.out.lt
  have hB2 := hb2.trans (hb.mono hb2.size)
  have k2 := hL2.go
  rw [HO.out] at k2
  have f2 := hL2.free 2
  have k4m := hL2.gm
  have HM := z_ (fun w => ofmain_any 34 i.m w)
  have HZ2 := z_ hZ2
  have HB2 := z_ hB2
  clear hb HL HZ hb2 g0 hw1 hL2 hZ2 hB2
  go_wp2_with (go_at_call 67; (with_reducible refine (HP.out _).mono ?_); rintro e w' ⟨rfl, rfl⟩)
  refine (HM.out _).mono ?_
  rintro e w3 ⟨rfl, hb3⟩
  have HZ3 := z_ (HZ2.out.below hb3 HZ2.out.lt)
  have HB3 := z_ (HB2.out.trans (hb3.mono HB2.out.size))
  clear hb3 k4m
  go_wp2_with (refine sr (w.heap.size + 1) rfl rfl rfl rfl HZ3.out (in_one _) ?_)
  (try simp only [Exit.inBlock, Exit.then])
  exact bodyPost_ret (results_cell_row rfl _ _ _ _ _ (0, 0) _ rfl (setRow_heap _ _ _ _ _ _ HZ3.out) Tryz.underlying23 rfl in_info) rfl ⟨by rw [← HR.out]; rfl, below_setRow HB3.out (by omega) _⟩
 ·rw [if_neg (by decide), if_pos rfl] at hR
  have HR := z_ hR
  clear hR
  go_enter Tryz.func71, Tryz.ntmps71
  go_wp2_with (refine wpList_load_ins (by kernel_rfl) 23 _ rfl w.heap.size rfl _ _ (0, 0) _ HL.out Tryz.underlying23 rfl in_info ?_)
  refine (HC.out _).mono ?_
  rintro e w2 ⟨rfl, hb⟩
  have hL2 := HL.out.below hb HL.out.lt
  have hZ2 := HZ.out.below hb HZ.out.lt
  have hB2 := hb2.trans (hb.mono hb2.size)
  have k2 := hL2.go
  rw [HO.out] at k2
  have f2 := hL2.free 2
  have k4m := hL2.gm
  have HM := z_ (fun w => ofmain_any 42 i.m w)
  have HZ2 := z_ hZ2
  have HB2 := z_ hB2
  clear hb HL HZ hb2 g0 hw1 hL2 hZ2 hB2
  go_wp2_with (go_at_call 67; (with_reducible refine (HP.out _).mono ?_); rintro e w' ⟨rfl, rfl⟩)
  refine (HM.out _).mono ?_
  rintro e w3 ⟨rfl, hb3⟩
  have HZ3 := z_ (HZ2.out.below hb3 HZ2.out.lt)
  have HB3 := z_ (HB2.out.trans (hb3.mono HB2.out.size))
  clear hb3 k4m
  go_wp2_with (refine sr (w.heap.size + 1) rfl rfl rfl rfl HZ3.out (in_one _) ?_)
  (try simp only [Exit.inBlock, Exit.then])
  exact bodyPost_ret (results_cell_row rfl _ _ _ _ _ (0, 0) _ rfl (setRow_heap _ _ _ _ _ _ HZ3.out) Tryz.underlying23 rfl in_info) rfl ⟨by rw [← HR.out]; rfl, below_setRow HB3.out (by omega) _⟩
 ·clear hk44
  rw [if_neg n99, if_neg n107, if_pos ⟨rfl, rfl⟩] at hR
  have HR := z_ hR
  clear n99 n107
  clear hR
  go_enter Tryz.func71, Tryz.ntmps71
  go_wp2_with (refine wpList_load_ins (by kernel_rfl) 23 _ rfl w.heap.size rfl _ _ (0, 0) _ HL.out Tryz.underlying23 rfl in_info ?_)
  refine (HC.out _).mono ?_
  rintro e w2 ⟨rfl, hb⟩
  have hL2 := HL.out.below hb HL.out.lt
  have hZ2 := HZ.out.below hb HZ.out.lt
  have hB2 := hb2.trans (hb.mono hb2.size)
  have k2 := hL2.go
  rw [HO.out] at k2
  have f2 := hL2.free 2
  have HL3 := z_ (hL2.po (68))
  have HZ3 := z_ (show InW (w2.setCell ⟨w.heap.size, 2, none⟩ (.int .i64 (68))) (w.heap.size + 1) zeroI from (heap_setCell_other w2 _ _ _ (by simp)).trans hZ2)
  have HB3 := z_ (hB2.setCell (p := ⟨w.heap.size, 2, none⟩) (Nat.le_refl _) (.int .i64 (68)))
  clear hb HL HZ hb2 g0 hw1 hL2 hZ2 hB2
  go_wp2_with (first
   | (go_at_call 67; (with_reducible refine (HP.out _).mono ?_); rintro e w' ⟨rfl, rfl⟩)
   | (refine lr w.heap.size rfl rfl rfl HL3.out ?_)
   | (refine sr (w.heap.size + 1) rfl rfl rfl rfl HZ3.out (in_one _) ?_))
  (try simp only [Exit.inBlock, Exit.then])
  exact bodyPost_ret (results_cell_row rfl _ _ _ _ _ (0, 0) _ rfl (setRow_heap _ _ _ _ _ _ HZ3.out) Tryz.underlying23 rfl in_info) rfl ⟨by rw [← HR.out]; rfl, below_setRow HB3.out (by omega) _⟩
 ·have ey : ((Y : Int) == 1) = false := beq_eq_false_iff_ne.2 hy
  rw [if_neg n99, if_neg n107, if_neg (by decide), if_pos ⟨rfl, rfl, hy⟩] at hR
  have HR := z_ hR
  clear hy n99 n107
  clear hR
  go_enter Tryz.func71, Tryz.ntmps71
  go_wp2_with (refine wpList_load_ins (by kernel_rfl) 23 _ rfl w.heap.size rfl _ _ (0, 0) _ HL.out Tryz.underlying23 rfl in_info ?_)
  refine (HC.out _).mono ?_
  rintro e w2 ⟨rfl, hb⟩
  have hL2 := HL.out.below hb HL.out.lt
  have hZ2 := HZ.out.below hb HZ.out.lt
  have hB2 := hb2.trans (hb.mono hb2.size)
  have k2 := hL2.go
  rw [HO.out] at k2
  have f2 := hL2.free 2
  have HL3 := z_ (hL2.po (69))
  have HZ3 := z_ (show InW (w2.setCell ⟨w.heap.size, 2, none⟩ (.int .i64 (69))) (w.heap.size + 1) zeroI from (heap_setCell_other w2 _ _ _ (by simp)).trans hZ2)
  have HB3 := z_ (hB2.setCell (p := ⟨w.heap.size, 2, none⟩) (Nat.le_refl _) (.int .i64 (69)))
  clear hb HL HZ hb2 g0 hw1 hL2 hZ2 hB2
  go_wp2_with (first
   | (go_at_call 67; (with_reducible refine (HP.out _).mono ?_); rintro e w' ⟨rfl, rfl⟩)
   | (refine lr w.heap.size rfl rfl rfl HL3.out ?_)
   | (refine sr (w.heap.size + 1) rfl rfl rfl rfl HZ3.out (in_one _) ?_))
  (try simp only [Exit.inBlock, Exit.then])
  exact bodyPost_ret (results_cell_row rfl _ _ _ _ _ (0, 0) _ rfl (setRow_heap _ _ _ _ _ _ HZ3.out) Tryz.underlying23 rfl in_info) rfl ⟨by rw [← HR.out]; rfl, below_setRow HB3.out (by omega) _⟩
 ·have hrun := fun w => idx_four k4 w hk44
  rw [if_neg n99, if_neg n107, if_neg (by decide), if_neg (by omega), if_pos ⟨rfl, rfl⟩] at hR
  have HR := z_ hR
  clear n99 n107
  clear hR
  go_enter Tryz.func71, Tryz.ntmps71
  go_wp2_with (refine wpList_load_ins (by kernel_rfl) 23 _ rfl w.heap.size rfl _ _ (0, 0) _ HL.out Tryz.underlying23 rfl in_info ?_)
  refine (HC.out _).mono ?_
  rintro e w2 ⟨rfl, hb⟩
  have hL2 := HL.out.below hb HL.out.lt
  have hZ2 := HZ.out.below hb HZ.out.lt
  have hB2 := hb2.trans (hb.mono hb2.size)
  have k2 := hL2.go
  rw [HO.out] at k2
  have f2 := hL2.free 2
  have HL3 := z_ (hL2.po (twin6 (k4 : Int)))
  have HZ3 := z_ (show InW (w2.setCell ⟨w.heap.size, 2, none⟩ (.int .i64 (twin6 (k4 : Int)))) (w.heap.size + 1) zeroI from (heap_setCell_other w2 _ _ _ (by simp)).trans hZ2)
  have HB3 := z_ (hB2.setCell (p := ⟨w.heap.size, 2, none⟩) (Nat.le_refl _) (.int .i64 (twin6 (k4 : Int))))
  clear hb HL HZ hb2 g0 hw1 hL2 hZ2 hB2
  go_wp2_with (first
   | (go_at_call 67; (with_reducible refine (HP.out _).mono ?_); rintro e w' ⟨rfl, rfl⟩)
   | (refine lr w.heap.size rfl rfl rfl HL3.out ?_)
   | (refine sr (w.heap.size + 1) rfl rfl rfl rfl HZ3.out (in_one _) ?_))
  (try simp only [Exit.inBlock, Exit.then])
  exact bodyPost_ret (results_cell_row rfl _ _ _ _ _ (0, 0) _ rfl (setRow_heap _ _ _ _ _ _ HZ3.out) Tryz.underlying23 rfl in_info) rfl ⟨by rw [← HR.out]; rfl, below_setRow HB3.out (by omega) _⟩
 ·rw [hy] at HP
  rw [if_neg n99, if_neg n107, if_neg (by decide), if_neg (by omega), if_neg (by decide)] at hR
  have HR := z_ hR
  clear hy n99 n107
  clear hR
  go_enter Tryz.func71, Tryz.ntmps71
  go_wp2_with (refine wpList_load_ins (by kernel_rfl) 23 _ rfl w.heap.size rfl _ _ (0, 0) _ HL.out Tryz.underlying23 rfl in_info ?_)
  refine (HC.out _).mono ?_
  rintro e w2 ⟨rfl, hb⟩
  have hL2 := HL.out.below hb HL.out.lt
  have hZ2 := HZ.out.below hb HZ.out.lt
  have hB2 := hb2.trans (hb.mono hb2.size)
  have k2 := hL2.go
  rw [HO.out] at k2
  have f2 := hL2.free 2
  have HL3 := z_ hL2
  have HZ3 := z_ hZ2
  have HB3 := z_ hB2
  clear hb HL HZ hb2 g0 hw1 hL2 hZ2 hB2
  go_wp2_with (first
   | (go_at_call 67; (with_reducible refine (HP.out _).mono ?_); rintro e w' ⟨rfl, rfl⟩)
   | (refine lr w.heap.size rfl rfl rfl HL3.out ?_)
   | (refine sr (w.heap.size + 1) rfl rfl rfl rfl HZ3.out (in_one _) ?_))
  (try simp only [Exit.inBlock, Exit.then])
  exact bodyPost_ret (results_cell_row rfl _ _ _ _ _ (0, 0) _ rfl (setRow_heap _ _ _ _ _ _ HZ3.out) Tryz.underlying23 rfl in_info) rfl ⟨by rw [← HR.out, ← HO.out]; cases i; rfl, below_setRow HB3.out (by omega) _⟩
 ·have f4 : (Z == 4) = false := beq_eq_false_iff_ne.2 z4
  have f5 : (Z == 5) = false := beq_eq_false_iff_ne.2 z5
  have f6 : (Z == 6) = false := beq_eq_false_iff_ne.2 z6
  rw [if_neg n99, if_neg n107, if_neg (by omega), if_neg (by omega), if_neg (by omega)] at hR
  have HR := z_ hR
  clear z4 z5 z6 n99 n107
  clear hR
  go_enter Tryz.func71, Tryz.ntmps71
  go_wp2_with (refine wpList_load_ins (by kernel_rfl) 23 _ rfl w.heap.size rfl _ _ (0, 0) _ HL.out Tryz.underlying23 rfl in_info ?_)
  refine (HC.out _).mono ?_
  rintro e w2 ⟨rfl, hb⟩
  have hL2 := HL.out.below hb HL.out.lt
  have hZ2 := HZ.out.below hb HZ.out.lt
  have hB2 := hb2.trans (hb.mono hb2.size)
  have k2 := hL2.go
  rw [HO.out] at k2
  have f2 := hL2.free 2
  have HL3 := z_ hL2
  have HZ3 := z_ hZ2
  have HB3 := z_ hB2
  clear hb HL HZ hb2 g0 hw1 hL2 hZ2 hB2
  go_wp2_with (first
   | (go_at_call 67; (with_reducible refine (HP.out _).mono ?_); rintro e w' ⟨rfl, rfl⟩)
   | (refine lr w.heap.size rfl rfl rfl HL3.out ?_)
   | (refine sr (w.heap.size + 1) rfl rfl rfl rfl HZ3.out (in_one _) ?_))
  (try simp only [Exit.inBlock, Exit.then])
  exact bodyPost_ret (results_cell_row rfl _ _ _ _ _ (0, 0) _ rfl (setRow_heap _ _ _ _ _ _ HZ3.out) Tryz.underlying23 rfl in_info) rfl ⟨by rw [← HR.out, ← HO.out]; cases i; rfl, below_setRow HB3.out (by omega) _⟩
 ·have ex : (X == 1) = false := beq_eq_false_iff_ne.2 hx
  rw [if_neg n99, if_neg n107, if_neg (by omega), if_neg (by omega), if_neg (by omega)] at hR
  have HR := z_ hR
  clear hx n99 n107
  clear hR
  go_enter Tryz.func71, Tryz.ntmps71
  go_wp2_with (refine wpList_load_ins (by kernel_rfl) 23 _ rfl w.heap.size rfl _ _ (0, 0) _ HL.out Tryz.underlying23 rfl in_info ?_)
  refine (HC.out _).mono ?_
  rintro e w2 ⟨rfl, hb⟩
  have hL2 := HL.out.below hb HL.out.lt
  have hZ2 := HZ.out.below hb HZ.out.lt
  have hB2 := hb2.trans (hb.mono hb2.size)
  have k2 := hL2.go
  rw [HO.out] at k2
  have f2 := hL2.free 2
  have HL3 := z_ hL2
  have HZ3 := z_ hZ2
  have HB3 := z_ hB2
  clear hb HL HZ hb2 g0 hw1 hL2 hZ2 hB2
  go_wp2_with (first
   | (go_at_call 67; (with_reducible refine (HP.out _).mono ?_); rintro e w' ⟨rfl, rfl⟩)
   | (refine lr w.heap.size rfl rfl rfl HL3.out ?_)
   | (refine sr (w.heap.size + 1) rfl rfl rfl rfl HZ3.out (in_one _) ?_))
  (try simp only [Exit.inBlock, Exit.then])
  exact bodyPost_ret (results_cell_row rfl _ _ _ _ _ (0, 0) _ rfl (setRow_heap _ _ _ _ _ _ HZ3.out) Tryz.underlying23 rfl in_info) rfl ⟨by rw [← HR.out, ← HO.out]; cases i; rfl, below_setRow HB3.out (by omega) _⟩
end Go.Proofs.YtgaihekapakoeaaGreatDoor
