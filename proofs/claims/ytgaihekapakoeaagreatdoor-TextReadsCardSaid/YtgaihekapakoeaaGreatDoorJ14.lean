/-     -/
import Derived.Maps.OwnOps
import Derived.Maps.Views
import Derived.Test.YtgaihekapakoeaaGreatDoorJ13
import Derived.Test.YtgaihekapakoeaaGreatDoorJ9
import Derived.Test.YtgaihekapakoeaaGreatDoorZQ4
set_option linter.unusedVariables false
set_option linter.unusedSimpArgs false
namespace Go.Proofs.YtgaihekapakoeaaGreatDoor
open Go.RowKit Go.Maps


set_option maxRecDepth 100000

theorem keyedB : Keyed Tryz.prog 5 := int_keyed Tryz.underlying5
theorem zeroInt (w : World) : (zeroValue 3).run Tryz.prog w = .ok (.int .i64 0) w := by kernel_rfl
def setM (k : Int) : Int := if k = 203 then 1 else if k = 237 then 2 else 0
theorem lit_same {a b : Int} (h : (DataW.lit (.int .i64 a) : DataW Unit) = .lit (.int .i64 b)) : b = a := by
 injection h with e
 injection e with _ e2
 exact e2.symm
theorem set_map (wa : World) (k : Int) (k0 : 0 ≤ k) (k1 : k < 256) : ∃ w1 w2,
  (Instr.mapUpdate 86 (.map (some wa.heap.size)) (.int .u8 203) (.int .i64 1)).run Tryz.prog (wa.alloc (.map #[] 0)) = .ok () w1 ∧
  (Instr.mapUpdate 86 (.map (some wa.heap.size)) (.int .u8 237) (.int .i64 2)).run Tryz.prog w1 = .ok () w2 ∧
  (Instr.lookup 86 (.map (some wa.heap.size)) (.int .u8 k) false).run Tryz.prog w2 = .ok (.int .i64 (setM k)) w2 ∧
  Below wa.heap.size wa w2 := by
 have h0 : (wa.alloc (.map #[] 0)).ownsMap Tryz.prog 5 (plainElem (H := Unit) Tryz.prog 3) wa.heap.size 0 (.map []) := World.ownsMap_made _ _ _ _
 have hk : ∀ k : Int, 0 ≤ k → k < 256 → keyOf Tryz.prog 5 (.int .u8 k) = some (.int .u8 k) := fun k a b => keyOf_int_mk Tryz.underlying5 (by simp only [Lit.wf, Bool.and_eq_true, decide_eq_true_eq]; exact ⟨a, by show k ≤ 255; omega⟩)
 obtain ⟨w1, r1, h1, g1⟩ := h0.update keyedB Tryz.underlying86 (by decide) (hk 203 (by decide) (by decide)) (plainElem_int (H := Unit) Tryz.underlying3 (a := 1) (by decide))
 obtain ⟨w2, r2, h2, g2⟩ := h1.update keyedB Tryz.underlying86 (by decide) (hk 237 (by decide) (by decide)) (plainElem_int (H := Unit) Tryz.underlying3 (a := 2) (by decide))
 obtain ⟨c, r3, hat, -⟩ := h2.lookup_int keyedB Tryz.underlying86 Tryz.underlying3 (zeroInt _) (hk k k0 k1)
 have hm0 : IsMap (DataW.map [] : DataW Unit) := isMap_empty
 have hm1 := hm0.put (.int .u8 203) (.lit (.int .i64 1))
 have hc : c = setM k := by
  unfold setM
  by_cases e2 : k = 237
  ·subst e2
   rw [atKey_put_same hm1 (by simp [WideAt.IsKeyLit])] at hat
   rw [if_neg (by decide), if_pos rfl]
   exact lit_same hat
  ·rw [atKey_put_other (fun e => e2 (by injection e with _ e3))] at hat
   by_cases e1 : k = 203
   ·subst e1
    rw [atKey_put_same hm0 (by simp [WideAt.IsKeyLit])] at hat
    rw [if_pos rfl]
    exact lit_same hat
   ·rw [atKey_put_other (fun e => e1 (by injection e with _ e3))] at hat
    rw [if_neg e1, if_neg e2]
    have : (DataW.map [] : DataW Unit).atKey (.int .u8 k) (.lit (.int .i64 0)) = .lit (.int .i64 0) := rfl
    rw [this] at hat
    exact lit_same hat
 rw [hc] at r3
 have s1 := g1.size
 refine ⟨w1, w2, r1, r2, r3, ?_⟩
 exact (((Below.refl wa.heap.size wa).alloc (Nat.le_refl _) (.map #[] 0)).grown g1 (by simp) (fun k hk => by cases hk; exact Nat.le_refl _)).grown g2 (by simp at s1; omega) (fun k hk => by cases hk; exact Nat.le_refl _)
end Go.Proofs.YtgaihekapakoeaaGreatDoor
namespace Go.Proofs.YtgaihekapakoeaaGreatDoor
open Go.RowKit


set_option maxRecDepth 100000

def OfTo (w : World) (l : List Int) (e : Ending) (w' : World) : Prop := e = .returned (.tuple #[(ofV l).val, .int .i64 (ofE l)]) ∧ Below w.heap.size w w'
theorem ofE_none {l : List Int} (h : ofI l = none) : ofV l = zeroI ∧ ofE l = 5 := by unfold ofV ofE; rw [h]; exact ⟨rfl, rfl⟩
theorem ofE_some {l : List Int} {y : In} (h : ofI l = some y) : ofV l = y ∧ ofE l = 0 := by unfold ofV ofE; rw [h]; exact ⟨rfl, rfl⟩
theorem idx_pref {a : Int} (h : a = 221 ∨ a = 253) : idxB a ≠ 0 ∧ a ≠ 203 ∧ a ≠ 237 := by rcases h with rfl | rfl <;> decide
theorem pref_beq {a : Int} (h : a = 221 ∨ a = 253) : (a == 221 || a == 253) = true := by rcases h with rfl | rfl <;> rfl
theorem ofI_one {l : List Int} (hl : l.length = 1) (h : l.getD 0 0 = 221 ∨ l.getD 0 0 = 253) : ofI l = none := by
 obtain ⟨h1, h2, h3⟩ := idx_pref h
 have hq : l.getD 1 0 = 0 := getD_ge (by omega)
 unfold ofI
 have hh : headL (l.getD 0 0) (l.getD 1 0) = ⟨0, idxB (l.getD 0 0), 1⟩ := by
  unfold headL
  rw [if_neg h2, if_neg h3, hq, if_neg (by rintro (k | k); exact h1 k; revert k; decide), if_neg (by decide)]
 rw [hh, if_pos (by simp; omega)]
theorem ofI_lone {l : List Int} (hl : 2 ≤ l.length) (h : l.getD 0 0 = 221 ∨ l.getD 0 0 = 253) (hq : loneB (l.getD 1 0) = true) : ofI l = some ⟨0, 0, l.getD 0 0, 0, 0, 1⟩ := by
 obtain ⟨h1, h2, h3⟩ := idx_pref h
 have hh : headL (l.getD 0 0) (l.getD 1 0) = ⟨0, 0, 0⟩ := by
  unfold headL
  rw [if_neg h2, if_neg h3, if_pos (.inr hq)]
 have hn : lenI 0 0 (l.getD 0 0) = 1 := by rcases h with h | h <;> rw [h] <;> decide +kernel
 rw [of_eq hh (by omega) rfl (by rw [hn]; omega), ops_asm 0 0 (l.getD 0 0) 0 [] _ (fun k => by rw [nd0] at k; cases k) (by
  rw [List.drop_eq_nil_iff]
  have : needN 0 0 (l.getD 0 0) = 0 := by rcases h with h | h <;> rw [h] <;> decide +kernel
  rw [this]; simp)]
 unfold asmI
 have h9 : number9 [] (jumpI 0 (l.getD 0 0)) = 0 := by cases jumpI 0 (l.getD 0 0) <;> rfl
 rw [nd0, hn, h9]
 rfl

theorem r9_of_nil (A : Option Addr) (c n : Nat) (hn : n = 0) (w : World) : Calls Tryz.prog 32 #[.slice A n c] w (OfTo w []) := by
 subst hn
 unfold OfTo
 obtain ⟨e1, e2⟩ := ofE_none (l := []) (by decide +kernel)
 obtain ⟨X, hX⟩ : ∃ X, ofV [] = X := ⟨_, rfl⟩
 obtain ⟨E, hE⟩ : ∃ E, ofE [] = E := ⟨_, rfl⟩
 rw [hX] at e1
 rw [hE] at e2
 rw [hX, hE]
 have HX := z_ e1
 have HE := z_ e2
 clear e1 e2 hX hE
 obtain ⟨w1, hw1⟩ : ∃ w1, w.alloc (inO zeroI) = w1 := ⟨_, rfl⟩
 have HB := z_ (show Below w.heap.size w w1 from hw1 ▸ (Below.refl _ _).alloc (Nat.le_refl _) _)
 have HR := z_ (show InW w1 w.heap.size zeroI from hw1 ▸ InW.laid w zeroI)
 unfold inO zeroI at hw1
 go_enter Tryz.func32, Tryz.ntmps32
 go_wp2_with (refine sr w.heap.size rfl rfl rfl rfl HR.out (in_one zeroI) ?_)
 (try simp only [Exit.inBlock, Exit.then])
 exact bodyPost_ret (results_ins_tmp rfl _ _ _ zeroI _ rfl rfl (setRow_heap _ _ _ _ _ _ HR.out)) rfl ⟨by rw [HX.out, HE.out]; rfl, below_setRow HB.out (Nat.le_refl _) _⟩

theorem r9_of_one (A : Option Addr) (c n : Nat) (l : List Int) (w : World) (hn : n = l.length) (h : RB w w.heap.size A c l) (hl : l.length = 1) (hp : l.getD 0 0 = 221 ∨ l.getD 0 0 = 253) : Calls Tryz.prog 32 #[.slice A n c] w (OfTo w l) := by
 unfold OfTo
 obtain ⟨e1, e2⟩ := ofE_none (ofI_one hl hp)
 obtain ⟨X, hX⟩ : ∃ X, ofV l = X := ⟨_, rfl⟩
 obtain ⟨E, hE⟩ : ∃ E, ofE l = E := ⟨_, rfl⟩
 rw [hX] at e1
 rw [hE] at e2
 rw [hX, hE]
 have HX := z_ e1
 have HE := z_ e2
 clear e1 e2 hX hE
 have hby := h.bytes.getD
 have hcap := h.le
 have hmax := h.cap
 unfold maxLen at hmax
 obtain ⟨b, off, rfl, hbb, hc⟩ := h.pos (by omega)
 have HC := z_ (fun (w' : World) (hb : Below w.heap.size w w') (i : Nat) (hi : i < l.length) => (hb.cell (p := ⟨b, off + i, none⟩) hbb).trans (hc i hi))
 clear hc h
 obtain ⟨a, ha⟩ : ∃ a, l.getD 0 0 = a := ⟨_, rfl⟩
 obtain ⟨w1, hw1⟩ : ∃ w1, (w.alloc (inO zeroI)).alloc (inO zeroI) = w1 := ⟨_, rfl⟩
 have HB := z_ (show Below w.heap.size w w1 from hw1 ▸ ((Below.refl _ _).alloc (Nat.le_refl _) _).alloc (by simp) _)
 have HR := z_ (show InW w1 w.heap.size zeroI from hw1 ▸ (InW.laid w zeroI).more _)
 have c0 : w1.cell? ⟨b, off, none⟩ = some (.int .u8 a) := ha ▸ HC.out w1 HB.out 0 (by omega)
 have hby0 := hby 0
 rw [ha] at hby0
 obtain ⟨b0, b1⟩ := hby0
 unfold inO zeroI at hw1
 obtain rfl : n = 1 := by omega
 have hpb := pref_beq hp
 have HP := z_ (fun w => r9_prefix a w)
 rw [ha] at hp hpb
 rw [hpb] at HP
 clear hpb hp hl hn
 go_enter Tryz.func32, Tryz.ntmps32
 go_wp2_with (first
  | (go_at_call 65; (with_reducible refine (HP.out _).mono ?_); rintro e w' ⟨rfl, rfl⟩)
  | (refine sr w.heap.size rfl rfl rfl rfl HR.out (in_one zeroI) ?_))
 (try simp only [Exit.inBlock, Exit.then])
 exact bodyPost_ret (results_ins_tmp rfl _ _ _ zeroI _ rfl rfl (setRow_heap _ _ _ _ _ _ HR.out)) rfl ⟨by rw [HX.out, HE.out]; rfl, below_setRow HB.out (Nat.le_refl _) _⟩

set_option maxHeartbeats 1000000 in
theorem r9_of_lone (A : Option Addr) (c n : Nat) (l : List Int) (w : World) (hn : n = l.length) (h : RB w w.heap.size A c l) (hl : 2 ≤ l.length) (hp : l.getD 0 0 = 221 ∨ l.getD 0 0 = 253) (hq : loneB (l.getD 1 0) = true) : Calls Tryz.prog 32 #[.slice A n c] w (OfTo w l) := by
 unfold OfTo
 obtain ⟨e1, e2⟩ := ofE_some (ofI_lone hl hp hq)
 obtain ⟨X, hX⟩ : ∃ X, ofV l = X := ⟨_, rfl⟩
 obtain ⟨E, hE⟩ : ∃ E, ofE l = E := ⟨_, rfl⟩
 rw [hX] at e1
 rw [hE] at e2
 rw [hX, hE]
 have HX := z_ e1
 have HE := z_ e2
 clear e1 e2 hX hE
 have hby := h.bytes.getD
 have hcap := h.le
 have hmax := h.cap
 unfold maxLen at hmax
 obtain ⟨b, off, rfl, hbb, hc⟩ := h.pos (by omega)
 have HC := z_ (fun (w' : World) (hb : Below w.heap.size w w') (i : Nat) (hi : i < l.length) => (hb.cell (p := ⟨b, off + i, none⟩) hbb).trans (hc i hi))
 clear hc h
 obtain ⟨a, ha⟩ : ∃ a, l.getD 0 0 = a := ⟨_, rfl⟩
 obtain ⟨w1, hw1⟩ : ∃ w1, (w.alloc (inO zeroI)).alloc (inO zeroI) = w1 := ⟨_, rfl⟩
 have HB := z_ (show Below w.heap.size w w1 from hw1 ▸ ((Below.refl _ _).alloc (Nat.le_refl _) _).alloc (by simp) _)
 have HR := z_ (show InW w1 w.heap.size zeroI from hw1 ▸ (InW.laid w zeroI).more _)
 have c0 : w1.cell? ⟨b, off, none⟩ = some (.int .u8 a) := ha ▸ HC.out w1 HB.out 0 (by omega)
 have hby0 := hby 0
 rw [ha] at hby0
 obtain ⟨b0, b1⟩ := hby0
 unfold inO zeroI at hw1
 have hn2 : 2 ≤ n := by omega
 have hpb := pref_beq hp
 have HP := z_ (fun w => r9_prefix a w)
 rw [ha] at hp hpb
 rw [hpb] at HP
 obtain ⟨q, hqq⟩ : ∃ q, l.getD 1 0 = q := ⟨_, rfl⟩
 have c1 := HC.out w1 HB.out 1 (by omega)
 rw [hqq] at c1 hq
 rw [ha] at HX
 have HQ := z_ (fun w => r9_prefix q w)
 unfold loneB at hq
 have hby1 := hby 1
 rw [hqq] at hby1
 obtain ⟨q0, q1⟩ := hby1
 clear hpb hp hl hn hqq hby
 by_cases h237 : q = 237
 ·subst h237
  clear hq
  go_enter Tryz.func32, Tryz.ntmps32
  go_wp2_with (first
   | (go_at_call 65; (with_reducible refine (HP.out _).mono ?_); rintro e w' ⟨rfl, rfl⟩)
   | (refine sr w.heap.size rfl rfl rfl rfl HR.out (in_one ⟨0, 0, a, 0, 0, 1⟩) ?_))
  (try simp only [Exit.inBlock, Exit.then])
  exact bodyPost_ret (results_ins_tmp rfl _ _ _ ⟨0, 0, a, 0, 0, 1⟩ _ rfl rfl (setRow_heap _ _ _ _ _ _ HR.out)) rfl ⟨by rw [HX.out, HE.out]; rfl, below_setRow HB.out (Nat.le_refl _) _⟩
 ·rw [beq_eq_false_iff_ne.2 h237, Bool.false_or] at hq
  have e237 : (q == 237) = false := beq_eq_false_iff_ne.2 h237
  rw [hq] at HQ
  clear h237 hq
  go_enter Tryz.func32, Tryz.ntmps32
  go_wp2_with (first
   | (go_at_call 65; (with_reducible refine (HP.out _).mono ?_); rintro e w' ⟨rfl, rfl⟩)
   | (go_at_call 65; (with_reducible refine (HQ.out _).mono ?_); rintro e w' ⟨rfl, rfl⟩)
   | (refine sr w.heap.size rfl rfl rfl rfl HR.out (in_one ⟨0, 0, a, 0, 0, 1⟩) ?_))
  (try simp only [Exit.inBlock, Exit.then])
  exact bodyPost_ret (results_ins_tmp rfl _ _ _ ⟨0, 0, a, 0, 0, 1⟩ _ rfl rfl (setRow_heap _ _ _ _ _ _ HR.out)) rfl ⟨by rw [HX.out, HE.out]; rfl, below_setRow HB.out (Nat.le_refl _) _⟩
end Go.Proofs.YtgaihekapakoeaaGreatDoor
namespace Go.Proofs.YtgaihekapakoeaaGreatDoor
open Go.RowKit


set_option maxRecDepth 100000

theorem M.regionF_ {P : Program} {ops : Array Oper} {id : Nat} {Q : Exit → Act → World → Prop} {a : Act} {w : World} (C0 C : World → Prop) (hc : M.Closed C) (hsub : ∀ w, C w → C0 w) (h0 : ∀ n, C { w with drawn := n }) (hm : P.follows .mixedOrders = true)
  (H : M.wpAnyM P .any ops C0 (fun a' C => ∀ w', C w' → Q .normal a' w') ops.size (Array.replicate ops.size false) a C) : (Code.region id ops true).wp P Q a w :=
 wp_region_any hm (M.wpAny_of_m (C0 := C0) (fun _ _ w' hw' hF => hF w' hw') _ _ _ _ _ (h0 _) hc hsub H)
theorem InW.px9 {w : World} {b : Nat} {i : In} (h : InW w b i) (v : Int) : InW (w.setCell ⟨b, 1, none⟩ (.int .i64 v)) b { i with x := v } := by
 unfold InW at *; rw [heap_setCell_same w b 1 _ _ _ h]; rfl
theorem ofI_both {l : List Int} (h : l.getD 0 0 = 221 ∨ l.getD 0 0 = 253) (hq : l.getD 1 0 = 203) : (l.length < 4 → ofI l = none) ∧ (4 ≤ l.length → AllB l → ofI l = some ⟨3, idxB (l.getD 0 0), l.getD 3 0, IntKind.i8.wrap (l.getD 2 0), 0, 4⟩) := by
 obtain ⟨h1, h2, h3⟩ := idx_pref h
 have hh : headL (l.getD 0 0) (l.getD 1 0) = ⟨3, idxB (l.getD 0 0), 3⟩ := by
  unfold headL
  rw [if_neg h2, if_neg h3, hq, if_neg (by rintro (k | k); exact h1 k; revert k; decide), if_pos rfl]
 have hx : idxB (l.getD 0 0) = 1 ∨ idxB (l.getD 0 0) = 2 := by rcases h with h | h <;> rw [h] <;> decide
 refine ⟨fun hl => ?_, fun hl hb => ?_⟩
 ·unfold ofI
  rw [hh, if_pos (by simp; omega)]
 ·have ho := hb.getD 3
  obtain ⟨n1, n2⟩ := nd3 hx ho.1 ho.2
  have hn : lenI 3 (idxB (l.getD 0 0)) (l.getD 3 0) = 4 := by
   unfold lenI
   rw [n2, nn3]
   rcases hx with e | e <;> rw [e] <;> rfl
  rw [of_eq hh (by omega) rfl (by rw [hn]; omega), hn]
  have h4 : ((4 : Int)).toNat = 4 := rfl
  rw [h4, ← hn, ops_asm 3 (idxB (l.getD 0 0)) (l.getD 3 0) (l.getD 2 0) [] _ (fun _ => by simp only [List.getD]; rw [List.getElem?_take, if_pos (by decide)]) (by
   rw [List.drop_eq_nil_iff, nn3]; simp)]
  unfold asmI
  have h9 : number9 [] (jumpI 3 (l.getD 3 0)) = 0 := by cases jumpI 3 (l.getD 3 0) <;> rfl
  rw [if_pos n2, hn, h9]

set_option maxHeartbeats 2000000 in
theorem r9_of_both (A : Option Addr) (c n : Nat) (l : List Int) (w : World) (hn : n = l.length) (h : RB w w.heap.size A c l) (hl : 2 ≤ l.length) (hp : l.getD 0 0 = 221 ∨ l.getD 0 0 = 253) (hq : l.getD 1 0 = 203) : Calls Tryz.prog 32 #[.slice A n c] w (OfTo w l) := by
 unfold OfTo
 obtain ⟨k1, k2⟩ := ofI_both hp hq
 have hbb0 := h.bytes
 obtain ⟨X, hX⟩ : ∃ X, ofV l = X := ⟨_, rfl⟩
 obtain ⟨E, hE⟩ : ∃ E, ofE l = E := ⟨_, rfl⟩
 have hsh : l.length < 4 → X = zeroI ∧ E = 5 := fun q => hX ▸ hE ▸ ofE_none (k1 q)
 have hlg : 4 ≤ l.length → X = ⟨3, idxB (l.getD 0 0), l.getD 3 0, IntKind.i8.wrap (l.getD 2 0), 0, 4⟩ ∧ E = 0 := fun q => hX ▸ hE ▸ ofE_some (k2 q hbb0)
 rw [hX, hE]
 clear hX hE k1 k2 hbb0
 have hby := h.bytes.getD
 have hcap := h.le
 have hmax := h.cap
 unfold maxLen at hmax
 obtain ⟨b, off, rfl, hbb, hc⟩ := h.pos (by omega)
 have HC := z_ (fun (w' : World) (hb : Below w.heap.size w w') (i : Nat) (hi : i < l.length) => (hb.cell (p := ⟨b, off + i, none⟩) hbb).trans (hc i hi))
 clear hc h
 have hn2 : 2 ≤ n := by omega
 have HS := z_ (fun (q : n < 4) => hsh (by omega))
 have HLg := z_ (fun (q : 4 ≤ n) => hlg (by omega))
 have HC2 := z_ (fun (w' : World) (hb : Below w.heap.size w w') (i : Nat) (hi : i < n) => HC.out w' hb i (by omega))
 have HBY := z_ hby
 clear hsh hlg HC hby
 obtain ⟨w1, hw1⟩ : ∃ w1, (w.alloc (inO zeroI)).alloc (inO zeroI) = w1 := ⟨_, rfl⟩
 have hB1 : Below w.heap.size w w1 := hw1 ▸ ((Below.refl _ _).alloc (Nat.le_refl _) _).alloc (by simp) _
 have hR1 : InW w1 w.heap.size zeroI := hw1 ▸ (InW.laid w zeroI).more _
 have hI1 : InW w1 (w.heap.size + 1) zeroI := by
  have := InW.laid (w.alloc (inO zeroI)) zeroI
  rw [hw1, show (w.alloc (inO zeroI)).heap.size = w.heap.size + 1 by simp] at this
  exact this
 have c1 : w1.cell? ⟨b, off + 1, none⟩ = some (.int .u8 203) := hq ▸ HC2.out w1 hB1 1 (by omega)
 have f1 := hI1.free 1
 have g1 := hI1.gx
 have HP2 := z_ (fun w => r9_prefix 203 w)
 have HQ := z_ hq
 unfold inO zeroI at hw1
 clear hl hq hn
 have HI1 := z_ hI1
 have HR1 := z_ hR1
 have HB1 := z_ hB1
 rcases hp with hp | hp
 ·have c0 : w1.cell? ⟨b, off, none⟩ = some (.int .u8 221) := hp ▸ HC2.out w1 hB1 0 (by omega)
  have HP := z_ (fun w => r9_prefix 221 w)
  rw [hp, show idxB 221 = 1 from rfl] at HLg
  clear hB1 hI1 hR1
  obtain ⟨wa, hwa⟩ : ∃ wa, w1.setCell ⟨w.heap.size + 1, 1, none⟩ (.int .i64 1) = wa := ⟨_, rfl⟩
  have hIa : InW wa (w.heap.size + 1) ⟨0, 1, 0, 0, 0, 0⟩ := hwa ▸ InW.px9 HI1.out 1
  have hRa : InW wa w.heap.size zeroI := hwa ▸ (heap_setCell_other w1 _ _ _ (by simp)).trans HR1.out
  have hBa : Below w.heap.size w wa := hwa ▸ HB1.out.setCell (p := ⟨w.heap.size + 1, 1, none⟩) (show w.heap.size ≤ w.heap.size + 1 by omega) _
  have ca0 : wa.cell? ⟨b, off, none⟩ = some (.int .u8 221) := hp ▸ HC2.out wa hBa 0 (by omega)
  clear hp
  obtain ⟨w2, w3, r1, r2, r3, hb3⟩ := set_map wa 203 (by decide) (by decide)
  rw [show setM 203 = 1 from rfl] at r3
  have hI3 := hIa.below hb3 hIa.lt
  have hR3 := hRa.below hb3 hRa.lt
  have hB3 := hBa.trans (hb3.mono hBa.size)
  have cb1 : w3.cell? ⟨b, off + 1, none⟩ = some (.int .u8 203) := HQ.out ▸ HC2.out w3 hB3 1 (by omega)
  have gx3 := hI3.gx
  have HI3 := z_ hI3
  have HR := z_ hR3
  have HB := z_ hB3
  clear hI3 hR3 hB3 hIa hRa hBa hb3
  by_cases h4 : n < 4
  ·obtain ⟨e1, e2⟩ := HS.out h4
   have HX := z_ e1
   have HE := z_ e2
   clear e1 e2 HS HLg
   have hmm := @run_makeMap Tryz.prog
   go_enter Tryz.func32, Tryz.ntmps32
   go_wp2_with (first
    | (go_at_call 65; (with_reducible refine (HP.out _).mono ?_); rintro e w' ⟨rfl, rfl⟩)
    | (go_at_call 65; (with_reducible refine (HP2.out _).mono ?_); rintro e w' ⟨rfl, rfl⟩)
    | (refine sr w.heap.size rfl rfl rfl rfl HR.out (in_one zeroI) ?_))
   (try simp only [Exit.inBlock, Exit.then])
   exact bodyPost_ret (results_ins_tmp rfl _ _ _ zeroI _ rfl rfl (setRow_heap _ _ _ _ _ _ HR.out)) rfl ⟨by rw [HX.out, HE.out]; rfl, below_setRow HB.out (Nat.le_refl _) _⟩
  ·obtain ⟨e1, e2⟩ := HLg.out (by omega)
   have hn4 : 4 ≤ n := by omega
   have HX := z_ e1
   have HE := z_ e2
   clear e1 e2 HS HLg h4
   have hmm := @run_makeMap Tryz.prog
   go_enter Tryz.func32, Tryz.ntmps32
   go_upto_region 20 with (first
    | (go_at_call 65; (with_reducible refine (HP.out _).mono ?_); rintro e w' ⟨rfl, rfl⟩)
    | (go_at_call 65; (with_reducible refine (HP2.out _).mono ?_); rintro e w' ⟨rfl, rfl⟩))
   have h2v := HBY.out 2
   have h3v := HBY.out 3
   have c2 := HC2.out w3 HB.out 2 (by omega)
   have c3 := HC2.out w3 HB.out 3 (by omega)
   obtain ⟨d2, hd2⟩ : ∃ d2, l.getD 2 0 = d2 := ⟨_, rfl⟩
   obtain ⟨d3, hd3⟩ : ∃ d3, l.getD 3 0 = d3 := ⟨_, rfl⟩
   rw [hd2] at h2v c2 HX
   rw [hd3] at h3v c3 HX
   clear hd2 hd3
   have HD2 := z_ (fun w => r9_signed d2 w h2v.1 h2v.2)
   obtain ⟨h30, h31⟩ := h3v
   have hlt := HR.out.lt
   have hgx : ∀ p : M.Of (M.But w3 w.heap.size (fun _ => True)), p.w.cell? ⟨w.heap.size + 1, 1, none⟩ = some (.int .i64 1) := fun p => (World.cell?_of_block (p.ok.other (show w.heap.size + 1 < w3.heap.size from HI3.out.lt) (show w.heap.size + 1 ≠ w.heap.size by omega))).trans gx3
   have hc2 : ∀ p : M.Of (M.But w3 w.heap.size (fun _ => True)), p.w.cell? ⟨b, off + 2, none⟩ = some (.int .u8 d2) := fun p => (World.cell?_of_block (p.ok.other (show b < w3.heap.size by omega) (show b ≠ w.heap.size by omega))).trans c2
   have hc3 : ∀ p : M.Of (M.But w3 w.heap.size (fun _ => True)), p.w.cell? ⟨b, off + 3, none⟩ = some (.int .u8 d3) := fun p => (World.cell?_of_block (p.ok.other (show b < w3.heap.size by omega) (show b ≠ w.heap.size by omega))).trans c3
   haveI : Nonempty (M.Of (M.But w3 w.heap.size (fun _ => True))) := ⟨⟨w3, M.But.refl hlt trivial⟩⟩
   refine M.regionF_ (M.But w3 w.heap.size (fun _ => True)) (M.But w3 w.heap.size (fun o => o = some (.cells zeroI.cells 23 (0, 0)))) (M.closed_but _ _ _) (M.But.weaken (fun _ _ => trivial)) (fun n => M.But.start hlt HR.out n) (by kernel_rfl) ?_
   refine M.sx [0, 1, 2, 3, 4, 5, 6, 7, 8] 4 (M.But.refl hlt trivial) ?_
   repeat (go_big_quiet_step (fail))
   refine wpQuiet_nil ?_
   clear hgx hc2 hc3
   refine M.cm 9 (.int .i64 (IntKind.i8.wrap d2)) ?_ ?_
   ·intro wz sz
    unfold Oper.does
    go_simp
    exact (HD2.out wz).mono fun e w' ⟨he, hw⟩ => ⟨_, he, rfl, hw ▸ Save.refl _ _⟩
   go_simp
   refine M.sx [10] 2 (M.But.refl hlt trivial) ?_
   repeat (go_big_quiet_step (fail))
   refine wpQuiet_nil ?_
   refine M.cl 11 ?_
   intro wy sy
   refine does_store_ins 23 _ _ rfl w.heap.size _ rfl rfl 23 _ sy.2.2 in_info rfl (in_one ⟨3, 1, d3, IntKind.i8.wrap d2, 0, 4⟩) ?_
   refine ⟨M.But w3 w.heap.size (fun o => o = some (.cells (In.cells ⟨3, 1, d3, IntKind.i8.wrap d2, 0, 4⟩) 23 (0, 0))), sy.step (save_setRow _ _ _) (setRow_heap _ _ _ _ _ _ sy.2.2), M.closed_but _ _ _, M.But.weaken (fun _ _ => trivial), ?_⟩
   clear sy
   go_simp
   refine M.sx [12] 0 (M.But.refl hlt trivial) ?_
   repeat (go_big_quiet_step (fail))
   refine wpQuiet_nil ?_
   refine M.en ?_
   intro wc sc
   go_wp2
   (try simp only [Exit.inBlock, Exit.then])
   exact bodyPost_ret (results_ins_tmp rfl _ _ _ ⟨3, 1, d3, IntKind.i8.wrap d2, 0, 4⟩ _ rfl rfl sc.2.2) rfl ⟨by rw [HX.out, HE.out]; rfl, HB.out.trans (sc.below (Nat.le_refl _))⟩
 ·have c0 : w1.cell? ⟨b, off, none⟩ = some (.int .u8 253) := hp ▸ HC2.out w1 hB1 0 (by omega)
  have HP := z_ (fun w => r9_prefix 253 w)
  rw [hp, show idxB 253 = 2 from rfl] at HLg
  clear hB1 hI1 hR1
  obtain ⟨wb, hwb⟩ : ∃ wb, w1.setCell ⟨w.heap.size + 1, 1, none⟩ (.int .i64 1) = wb := ⟨_, rfl⟩
  have HIb : InW wb (w.heap.size + 1) ⟨0, 1, 0, 0, 0, 0⟩ := hwb ▸ InW.px9 HI1.out 1
  have HRb : InW wb w.heap.size zeroI := hwb ▸ (heap_setCell_other w1 _ _ _ (by simp)).trans HR1.out
  have HBb : Below w.heap.size w wb := hwb ▸ HB1.out.setCell (p := ⟨w.heap.size + 1, 1, none⟩) (show w.heap.size ≤ w.heap.size + 1 by omega) _
  have cb0 : wb.cell? ⟨b, off, none⟩ = some (.int .u8 253) := hp ▸ HC2.out wb HBb 0 (by omega)
  have fb1 := HIb.free 1
  have gb1 := HIb.gx
  obtain ⟨wa, hwa⟩ : ∃ wa, wb.setCell ⟨w.heap.size + 1, 1, none⟩ (.int .i64 2) = wa := ⟨_, rfl⟩
  have hIa : InW wa (w.heap.size + 1) ⟨0, 2, 0, 0, 0, 0⟩ := hwa ▸ InW.px9 HIb 2
  have hRa : InW wa w.heap.size zeroI := hwa ▸ (heap_setCell_other wb _ _ _ (by simp)).trans HRb
  have hBa : Below w.heap.size w wa := hwa ▸ HBb.setCell (p := ⟨w.heap.size + 1, 1, none⟩) (show w.heap.size ≤ w.heap.size + 1 by omega) _
  have ca0 : wa.cell? ⟨b, off, none⟩ = some (.int .u8 253) := hp ▸ HC2.out wa hBa 0 (by omega)
  clear hp
  clear HIb HRb HBb
  obtain ⟨w2, w3, r1, r2, r3, hb3⟩ := set_map wa 203 (by decide) (by decide)
  rw [show setM 203 = 1 from rfl] at r3
  have hI3 := hIa.below hb3 hIa.lt
  have hR3 := hRa.below hb3 hRa.lt
  have hB3 := hBa.trans (hb3.mono hBa.size)
  have cb1 : w3.cell? ⟨b, off + 1, none⟩ = some (.int .u8 203) := HQ.out ▸ HC2.out w3 hB3 1 (by omega)
  have gx3 := hI3.gx
  have HI3 := z_ hI3
  have HR := z_ hR3
  have HB := z_ hB3
  clear hI3 hR3 hB3 hIa hRa hBa hb3
  by_cases h4 : n < 4
  ·obtain ⟨e1, e2⟩ := HS.out h4
   have HX := z_ e1
   have HE := z_ e2
   clear e1 e2 HS HLg
   have hmm := @run_makeMap Tryz.prog
   go_enter Tryz.func32, Tryz.ntmps32
   go_wp2_with (first
    | (go_at_call 65; (with_reducible refine (HP.out _).mono ?_); rintro e w' ⟨rfl, rfl⟩)
    | (go_at_call 65; (with_reducible refine (HP2.out _).mono ?_); rintro e w' ⟨rfl, rfl⟩)
    | (refine sr w.heap.size rfl rfl rfl rfl HR.out (in_one zeroI) ?_))
   (try simp only [Exit.inBlock, Exit.then])
   exact bodyPost_ret (results_ins_tmp rfl _ _ _ zeroI _ rfl rfl (setRow_heap _ _ _ _ _ _ HR.out)) rfl ⟨by rw [HX.out, HE.out]; rfl, below_setRow HB.out (Nat.le_refl _) _⟩
  ·obtain ⟨e1, e2⟩ := HLg.out (by omega)
   have hn4 : 4 ≤ n := by omega
   have HX := z_ e1
   have HE := z_ e2
   clear e1 e2 HS HLg h4
   have hmm := @run_makeMap Tryz.prog
   go_enter Tryz.func32, Tryz.ntmps32
   go_upto_region 20 with (first
    | (go_at_call 65; (with_reducible refine (HP.out _).mono ?_); rintro e w' ⟨rfl, rfl⟩)
    | (go_at_call 65; (with_reducible refine (HP2.out _).mono ?_); rintro e w' ⟨rfl, rfl⟩))
   have h2v := HBY.out 2
   have h3v := HBY.out 3
   have c2 := HC2.out w3 HB.out 2 (by omega)
   have c3 := HC2.out w3 HB.out 3 (by omega)
   obtain ⟨d2, hd2⟩ : ∃ d2, l.getD 2 0 = d2 := ⟨_, rfl⟩
   obtain ⟨d3, hd3⟩ : ∃ d3, l.getD 3 0 = d3 := ⟨_, rfl⟩
   rw [hd2] at h2v c2 HX
   rw [hd3] at h3v c3 HX
   clear hd2 hd3
   have HD2 := z_ (fun w => r9_signed d2 w h2v.1 h2v.2)
   obtain ⟨h30, h31⟩ := h3v
   have hlt := HR.out.lt
   have hgx : ∀ p : M.Of (M.But w3 w.heap.size (fun _ => True)), p.w.cell? ⟨w.heap.size + 1, 1, none⟩ = some (.int .i64 2) := fun p => (World.cell?_of_block (p.ok.other (show w.heap.size + 1 < w3.heap.size from HI3.out.lt) (show w.heap.size + 1 ≠ w.heap.size by omega))).trans gx3
   have hc2 : ∀ p : M.Of (M.But w3 w.heap.size (fun _ => True)), p.w.cell? ⟨b, off + 2, none⟩ = some (.int .u8 d2) := fun p => (World.cell?_of_block (p.ok.other (show b < w3.heap.size by omega) (show b ≠ w.heap.size by omega))).trans c2
   have hc3 : ∀ p : M.Of (M.But w3 w.heap.size (fun _ => True)), p.w.cell? ⟨b, off + 3, none⟩ = some (.int .u8 d3) := fun p => (World.cell?_of_block (p.ok.other (show b < w3.heap.size by omega) (show b ≠ w.heap.size by omega))).trans c3
   haveI : Nonempty (M.Of (M.But w3 w.heap.size (fun _ => True))) := ⟨⟨w3, M.But.refl hlt trivial⟩⟩
   refine M.regionF_ (M.But w3 w.heap.size (fun _ => True)) (M.But w3 w.heap.size (fun o => o = some (.cells zeroI.cells 23 (0, 0)))) (M.closed_but _ _ _) (M.But.weaken (fun _ _ => trivial)) (fun n => M.But.start hlt HR.out n) (by kernel_rfl) ?_
   refine M.sx [0, 1, 2, 3, 4, 5, 6, 7, 8] 4 (M.But.refl hlt trivial) ?_
   repeat (go_big_quiet_step (fail))
   refine wpQuiet_nil ?_
   clear hgx hc2 hc3
   refine M.cm 9 (.int .i64 (IntKind.i8.wrap d2)) ?_ ?_
   ·intro wz sz
    unfold Oper.does
    go_simp
    exact (HD2.out wz).mono fun e w' ⟨he, hw⟩ => ⟨_, he, rfl, hw ▸ Save.refl _ _⟩
   go_simp
   refine M.sx [10] 2 (M.But.refl hlt trivial) ?_
   repeat (go_big_quiet_step (fail))
   refine wpQuiet_nil ?_
   refine M.cl 11 ?_
   intro wy sy
   refine does_store_ins 23 _ _ rfl w.heap.size _ rfl rfl 23 _ sy.2.2 in_info rfl (in_one ⟨3, 2, d3, IntKind.i8.wrap d2, 0, 4⟩) ?_
   refine ⟨M.But w3 w.heap.size (fun o => o = some (.cells (In.cells ⟨3, 2, d3, IntKind.i8.wrap d2, 0, 4⟩) 23 (0, 0))), sy.step (save_setRow _ _ _) (setRow_heap _ _ _ _ _ _ sy.2.2), M.closed_but _ _ _, M.But.weaken (fun _ _ => trivial), ?_⟩
   clear sy
   go_simp
   refine M.sx [12] 0 (M.But.refl hlt trivial) ?_
   repeat (go_big_quiet_step (fail))
   refine wpQuiet_nil ?_
   refine M.en ?_
   intro wc sc
   go_wp2
   (try simp only [Exit.inBlock, Exit.then])
   exact bodyPost_ret (results_ins_tmp rfl _ _ _ ⟨3, 2, d3, IntKind.i8.wrap d2, 0, 4⟩ _ rfl rfl sc.2.2) rfl ⟨by rw [HX.out, HE.out]; rfl, HB.out.trans (sc.below (Nat.le_refl _))⟩
end Go.Proofs.YtgaihekapakoeaaGreatDoor
namespace Go.Proofs.YtgaihekapakoeaaGreatDoor
open Go.RowKit


theorem getD_take {l : List Int} {n i : Nat} (h : i < n) : (l.take n).getD i 0 = l.getD i 0 := by
 simp only [List.getD]
 rw [List.getElem?_take, if_pos h]
theorem take_drop_one {l : List Int} {j : Nat} (h : j + 1 ≤ l.length) : (l.take (j + 1)).drop j = [l.getD j 0] := by
 have h2 : (l.take (j + 1)).length = j + 1 := by rw [List.length_take]; omega
 rw [List.drop_eq_getElem_cons (by omega), List.drop_eq_nil_of_le (by omega), List.getElem_take, getD_lt (by omega)]
theorem take_drop_two {l : List Int} {j : Nat} (h : j + 2 ≤ l.length) : (l.take (j + 2)).drop j = [l.getD j 0, l.getD (j + 1) 0] := by
 have h2 : (l.take (j + 2)).length = j + 2 := by rw [List.length_take]; omega
 rw [List.drop_eq_getElem_cons (by omega), List.drop_eq_getElem_cons (by omega), List.drop_eq_nil_of_le (by omega), List.getElem_take, List.getElem_take, getD_lt (by omega), getD_lt (by omega)]
theorem tail_none {l : List Int} {s x : Int} {p : Nat} (hh : headL (l.getD 0 0) (l.getD 1 0) = ⟨s, x, p⟩) (h : l.length ≤ p ∨ (l.length : Int) < lenI s x (l.getD p 0)) : ofI l = none := by
 unfold ofI
 rw [hh]
 by_cases hp : l.length ≤ p
 ·rw [if_pos hp]
 ·rcases h with h | h
  ·exact absurd h hp
  ·rw [if_neg hp]
   have h0 : of0 l = ⟨s, x, l.getD p 0, 0, 0, 0⟩ := by unfold of0; rw [hh]
   rw [h0]
   exact if_pos h
theorem InW.ps9 {w : World} {b : Nat} {i : In} (h : InW w b i) (v : Int) : InW (w.setCell ⟨b, 0, none⟩ (.int .i64 v)) b { i with s := v } := by
 unfold InW at *; rw [heap_setCell_same w b 0 _ _ _ h]; rfl
def tailI (l : List Int) (s x : Int) (p : Nat) (d : Bool) (k : Int) : In :=
 ⟨s, x, l.getD p 0, if d = true then IntKind.i8.wrap (l.getD (p + 1) 0) else 0,
  if k = 0 then 0 else if k = 1 then (if jumpI s (l.getD p 0) = true then IntKind.i8.wrap (l.getD (p + 1 + (if d = true then 1 else 0)) 0) else l.getD (p + 1 + (if d = true then 1 else 0)) 0) else l.getD (p + 1) 0 + 256 * l.getD (p + 2) 0, lenI s x (l.getD p 0)⟩
theorem tail_some {l : List Int} {s x : Int} {p : Nat} (hb : AllB l) (hh : headL (l.getD 0 0) (l.getD 1 0) = ⟨s, x, p⟩) (hp : p < l.length) (hpn : (p : Int) = num1 (x != 0) + num1 (s != 0)) (hdp : needD s x (l.getD p 0) = true → p = 1 ∧ needN s x (l.getD p 0) ≤ 1) (hn : lenI s x (l.getD p 0) ≤ l.length) :
  ofI l = some (tailI l s x p (needD s x (l.getD p 0)) (needN s x (l.getD p 0))) := by
 have hk := needN_in s x (l.getD p 0)
 have hj := @rel_one s x (l.getD p 0)
 have hL : lenI s x (l.getD p 0) = 1 + num1 (needD s x (l.getD p 0)) + needN s x (l.getD p 0) + p := by unfold lenI; omega
 rw [of_eq hh hp rfl hn]
 congr 1
 have hlen : (l.take (lenI s x (l.getD p 0)).toNat).length = (lenI s x (l.getD p 0)).toNat := by rw [List.length_take]; omega
 have hkc : needN s x (l.getD p 0) = 0 ∨ needN s x (l.getD p 0) = 1 ∨ needN s x (l.getD p 0) = 2 := by omega
 have h0 := hb.getD (p + 1)
 cases hd : needD s x (l.getD p 0) with
 | false =>
  have h1 : num1 false = 0 := rfl
  rw [hd, h1] at hL
  rcases hkc with hk0 | hk0 | hk0
  ·rw [ops_asm s x (l.getD p 0) 0 [] _ (fun k => by rw [hd] at k; cases k) (by rw [List.drop_eq_nil_iff, hk0]; simp)]
   unfold asmI tailI
   rw [hd, hk0]
   have h9 : number9 [] (jumpI s (l.getD p 0)) = 0 := by cases jumpI s (l.getD p 0) <;> rfl
   rw [h9]; rfl
  ·have e1 : (lenI s x (l.getD p 0)).toNat = (p + 1) + 1 := by omega
   rw [ops_asm s x (l.getD p 0) 0 [l.getD (p + 1) 0] _ (fun k => by rw [hd] at k; cases k) (by rw [hlen, hk0, e1]; exact take_drop_one (by omega))]
   unfold asmI tailI
   rw [hd, hk0]
   cases jumpI s (l.getD p 0) <;> rfl
  ·have e1 : (lenI s x (l.getD p 0)).toNat = (p + 1) + 2 := by omega
   have hjf : jumpI s (l.getD p 0) = false := by
    cases hq : jumpI s (l.getD p 0) with
    | false => rfl
    | true => have := hj hq; omega
   rw [ops_asm s x (l.getD p 0) 0 [l.getD (p + 1) 0, l.getD (p + 2) 0] _ (fun k => by rw [hd] at k; cases k) (by rw [hlen, hk0, e1]; exact take_drop_two (by omega))]
   unfold asmI tailI
   rw [hd, hk0, hjf]
   rfl
 | true =>
  have h1 : num1 true = 1 := rfl
  rw [hd, h1] at hL
  obtain ⟨hp1, hk1⟩ := hdp hd
  subst hp1
  have hq2 : needD s x (l.getD 1 0) = true → (l.take (lenI s x (l.getD 1 0)).toNat).getD 2 0 = l.getD 2 0 := fun _ => getD_take (by omega)
  rcases hkc with hk0 | hk0 | hk0
  ·rw [ops_asm s x (l.getD 1 0) (l.getD 2 0) [] _ hq2 (by rw [List.drop_eq_nil_iff, hk0]; simp)]
   unfold asmI tailI
   rw [hd, hk0]
   have h9 : number9 [] (jumpI s (l.getD 1 0)) = 0 := by cases jumpI s (l.getD 1 0) <;> rfl
   rw [h9]; rfl
  ·have e1 : (lenI s x (l.getD 1 0)).toNat = 3 + 1 := by omega
   rw [ops_asm s x (l.getD 1 0) (l.getD 2 0) [l.getD 3 0] _ hq2 (by rw [hlen, hk0, e1]; exact take_drop_one (by omega))]
   unfold asmI tailI
   rw [hd, hk0]
   cases jumpI s (l.getD 1 0) <;> rfl
  ·omega
end Go.Proofs.YtgaihekapakoeaaGreatDoor
