/-     -/
import Derived.Test.YtgaihekapakoeaaGreatDoorZB
import Derived.Lib.AppendIntMem
import Derived.Lib.SmallJoins
import Derived.Lib.AtoiErrMem
import Derived.Test.YtgaihekapakoeaaGreatDoorJ1
import Derived.Deep.DeepCutAuto
import Derived.Laws.Concat
import Derived.Test.YtgaihekapakoeaaGreatDoorJ13
import Derived.Test.YtgaihekapakoeaaGreatDoorJ7
import Derived.Test.YtgaihekapakoeaaGreatDoorZQ4
import Derived.Lib.ItoaLen
set_option linter.unusedVariables false
set_option linter.unusedSimpArgs false
namespace Go.Proofs.YtgaihekapakoeaaGreatDoor
open Go.RowKit


def isDig (c : UInt8) : Prop := 48 ≤ c.toNat ∧ c.toNat ≤ 57
instance (c : UInt8) : Decidable (isDig c) := inferInstanceAs (Decidable (_ ∧ _))
theorem dec_cons {u : Nat} (h : ¬ u < 10) : Lib.decDigits u = Lib.decDigits (u / 10) ++ [UInt8.ofNat (48 + u % 10)] := by rw [Lib.decDigits, dif_neg h]
end Go.Proofs.YtgaihekapakoeaaGreatDoor
namespace Go.Proofs.YtgaihekapakoeaaGreatDoor
open Go.RowKit


set_option maxRecDepth 100000

theorem one_rb (w w' : World) (x : Int) (t : TypeId) (h0 : 0 ≤ x) (h1 : x < 256) (h : Below (w.heap.size + 1) (w.alloc (.cells #[.int .u8 x] t)) w') : RB w' (w.heap.size + 1) (some ⟨w.heap.size, 0, none⟩) 1 [x] := by
 refine ⟨Nat.le_refl _, by decide, AllB.one h0 h1, .inr ⟨_, rfl, fun _ => ⟨rfl, Nat.lt_succ_self _, fun i hi => ?_⟩⟩⟩
 obtain rfl : i = 0 := by simp at hi; omega
 rw [h.cell (Nat.lt_succ_self _), World.cell?_alloc_at _ _ _ _ rfl]
 rfl
theorem one_run (w : World) (x : Int) (t : TypeId) (h0 : 0 ≤ x) (h1 : x < 256) (w' : World) (h : Below (w.heap.size + 1) (w.alloc (.cells #[.int .u8 x] t)) w') :
  (convert 27 9 (.slice (some ⟨w.heap.size, 0, none⟩) 1 1)).run Tryz.prog w' = .ok (.string (strOfNums [x])) w' := run_string_rb w' _ _ _ [x] (one_rb w w' x t h0 h1 h)
theorem itoa_pos {n : Int} (h : 0 ≤ n) : Lib.itoa n = Lib.decDigits n.toNat := by unfold Lib.itoa; rw [if_neg (by omega)]
theorem nDig_le : ∀ (k u : Nat), u < 10 ^ (k + 1) → Lib.nDigits u ≤ k + 1
 | 0, u, h => by rw [Lib.nDigits_small (by simpa using h)]; omega
 | k + 1, u, h => by
  by_cases h1 : u < 10
  ·rw [Lib.nDigits_small h1]; omega
  ·rw [Lib.nDigits_big h1]
   have := nDig_le k (u / 10) (by rw [Nat.pow_succ] at h; omega)
   omega
theorem itoa_size {n : Int} (h : 0 ≤ n) (h1 : n ≤ 9223372036854775807) : (⟨(Lib.itoa n).toArray⟩ : ByteArray).size ≤ 20 := by
 rw [itoa_pos h]
 show (Lib.decDigits n.toNat).toArray.size ≤ 20
 rw [List.size_toArray, Lib.decDigits_length]
 exact nDig_le 19 _ (by omega)
theorem add_run (a b : ByteArray) (h : a.size + b.size ≤ 2000) : ∀ w, (Op.stringOp .add a b).run Tryz.prog w = .ok (.string (a ++ b)) w := fun w => run_string_add_sum w a b (by omega)
theorem itoa_small {n : Int} (h : 0 ≤ n) (h1 : n < 10) : strOfNums [48 + n] = ⟨(Lib.itoa n).toArray⟩ := by
 rw [itoa_pos h, Lib.decDigits_one (by omega)]
 show (⟨#[UInt8.ofNat (48 + n).toNat]⟩ : ByteArray) = ⟨#[UInt8.ofNat (48 + n.toNat)]⟩
 rw [show (48 + n).toNat = 48 + n.toNat by omega]
theorem itoa_big {n : Int} (h : 10 ≤ n) : (⟨(Lib.itoa (n / 10)).toArray⟩ : ByteArray) ++ strOfNums [48 + n % 10] = ⟨(Lib.itoa n).toArray⟩ := by
 rw [itoa_pos (show 0 ≤ n / 10 by omega), itoa_pos (show 0 ≤ n by omega), dec_cons (u := n.toNat) (by omega)]
 rw [show (n / 10).toNat = n.toNat / 10 by omega]
 have : strOfNums [48 + n % 10] = ⟨[UInt8.ofNat (48 + n.toNat % 10)].toArray⟩ := by
  show (⟨#[UInt8.ofNat (48 + n % 10).toNat]⟩ : ByteArray) = _
  rw [show (48 + n % 10).toNat = 48 + n.toNat % 10 by omega]
 rw [this]
 apply ByteArray.ext
 simp

set_option maxHeartbeats 1600000 in
theorem rdigits_any : ∀ (k : Nat) (n : Int) (w : World), n.toNat ≤ k → 0 ≤ n → n ≤ 9223372036854775807 →
  Calls Tryz.prog 85 #[.int .i64 n] w fun e w' => e = .returned (.string ⟨(Lib.itoa n).toArray⟩) ∧ Below w.heap.size w w' := by
 intro k
 induction k with
 | zero =>
  intro n w hk h0 h1
  obtain rfl : n = 0 := by omega
  have hrun := one_run w 48 5 (by decide) (by decide) _ (Below.refl _ _)
  go_enter Tryz.func85, Tryz.ntmps85
  go_wp2_with fail
  go_ret
  exact ⟨congrArg (fun b => Ending.returned (.string b)) (itoa_small (n := 0) (by decide) (by decide)), (Below.refl _ _).alloc (Nat.le_refl _) _⟩
 | succ k ih =>
  intro n w hk h0 h1
  by_cases hn : n < 10
  ·have hrun := one_run w (48 + n) 5 (by omega) (by omega) _ (Below.refl _ _)
   go_enter Tryz.func85, Tryz.ntmps85
   go_wp2_with fail
   go_ret
   exact ⟨congrArg (fun b => Ending.returned (.string b)) (itoa_small h0 hn), (Below.refl _ _).alloc (Nat.le_refl _) _⟩
  ·have IH := z_ (fun w => ih (n / 10) w (by omega) (by omega) (by omega))
   clear ih
   go_enter Tryz.func85, Tryz.ntmps85
   go_upto_region 3 with fail
   refine M.rg ?_
   refine M.sg [0, 1, 3, 4, 5, 6] 5 ?_
   repeat (go_big_quiet_step (fail))
   refine wpQuiet_nil ?_
   refine M.cm 2 (.string ⟨(Lib.itoa (n / 10)).toArray⟩) ?_ ?_
   ·intro wz sz
    unfold Oper.does
    go_simp
    exact (IH.out wz).mono fun e w' ⟨he, hw⟩ => ⟨_, he, rfl, Save.of_below hw⟩
   go_simp
   refine M.cl 7 ?_
   intro wa sa
   unfold Oper.does
   go_simp
   have hin : ∀ w', M.Base (wa.alloc (.cells #[.int .u8 (48 + n % 10)] 5)) w' → M.Base w w' := fun w' h => sa.below (((Below.refl _ wa).alloc sa.1 _).trans (h.2.mono (by have := sa.1; simp; omega)))
   refine ⟨M.Base (wa.alloc (.cells #[.int .u8 (48 + n % 10)] 5)), M.Base.refl _, M.closed_base _, hin, ?_⟩
   refine M.cl 8 ?_
   intro wb sb
   have hrun := one_run wa (48 + n % 10) 5 (by omega) (by omega) wb (sb.2.mono (by simp))
   unfold Oper.does
   go_simp
   refine ⟨_, sb, M.closed_base _, hin, ?_⟩
   clear sb hrun
   have hadd := add_run ⟨(Lib.itoa (n / 10)).toArray⟩ (strOfNums [48 + n % 10]) (by have := itoa_size (n := n / 10) (by omega) (by omega); rw [strOfNums_size]; simp; omega)
   refine M.sg [9, 10] 0 ?_
   repeat (go_big_quiet_step (fail))
   refine wpQuiet_nil ?_
   refine M.en ?_
   intro wc sc
   have hBc := (hin wc sc).2
   go_wp2
   go_ret
   exact ⟨congrArg (fun b => Ending.returned (.string b)) (itoa_big (by omega)), hBc⟩
end Go.Proofs.YtgaihekapakoeaaGreatDoor
namespace Go.Proofs.YtgaihekapakoeaaGreatDoor
open Go.RowKit


set_option maxRecDepth 100000

theorem str_add (a b : List UInt8) : (⟨a.toArray⟩ : ByteArray) ++ ⟨b.toArray⟩ = ⟨(a ++ b).toArray⟩ := by
 apply ByteArray.ext
 simp
theorem sz_len (a : List UInt8) : (⟨a.toArray⟩ : ByteArray).size = a.length := by simp [ByteArray.size]
theorem d10_digits (n : Int) (w : World) (h0 : 0 ≤ n) (h1 : n ≤ 9223372036854775807) :
  Calls Tryz.prog 39 #[.int .i64 n] w fun e w' => e = .returned (.string ⟨(Lib.itoa n).toArray⟩) ∧ Below w.heap.size w w' := by
 have H := z_ (fun w => rdigits_any n.toNat n w (Nat.le_refl _) h0 h1)
 obtain ⟨T, hT⟩ : ∃ T : ByteArray, (⟨(Lib.itoa n).toArray⟩ : ByteArray) = T := ⟨_, rfl⟩
 rw [hT] at H ⊢
 clear hT
 go_enter Tryz.func39, Tryz.ntmps39
 go_wp2_with (refine (H.out _).mono ?_; rintro e w2 ⟨rfl, hb⟩)
 go_ret
 exact ⟨rfl, hb⟩
theorem d10_signed (v : Int) (w : World) (h0 : -1000000 ≤ v) (h1 : v ≤ 1000000) :
  Calls Tryz.prog 124 #[.int .i64 v] w fun e w' => e = .returned (.string ⟨(signT false v).toArray⟩) ∧ Below w.heap.size w w' := by
 by_cases hv : v < 0
 ·have hs := itoa_size (n := -v) (by omega) (by omega)
  have H := z_ (fun w => rdigits_any (-v).toNat (-v) w (Nat.le_refl _) (by omega) (by omega))
  have he : (⟨#[45]⟩ : ByteArray) ++ ⟨(Lib.itoa (-v)).toArray⟩ = ⟨(signT false v).toArray⟩ := by
   unfold signT
   rw [if_neg (by decide), if_neg (by omega)]
   have hi : Lib.itoa v = 45 :: Lib.itoa (-v) := by
    unfold Lib.itoa
    rw [if_pos hv, if_neg (by omega)]
    rw [show v.natAbs = (-v).toNat by omega]
   rw [hi]
   exact str_add [45] _
  obtain ⟨T, hT⟩ : ∃ T : ByteArray, (⟨(Lib.itoa (-v)).toArray⟩ : ByteArray) = T := ⟨_, rfl⟩
  rw [hT] at H he hs
  have hadd := add_run ⟨#[45]⟩ T (by show 1 + _ ≤ _; omega)
  rw [he] at hadd
  obtain ⟨R, hR⟩ : ∃ R : ByteArray, (⟨(signT false v).toArray⟩ : ByteArray) = R := ⟨_, rfl⟩
  rw [hR] at hadd ⊢
  clear hT hR hs he
  go_enter Tryz.func124, Tryz.ntmps124
  go_wp2_with (refine (H.out _).mono ?_; rintro e w2 ⟨rfl, hb⟩)
  go_ret
  exact ⟨rfl, hb⟩
 ·have hs := itoa_size (n := v) (by omega) (by omega)
  have H := z_ (fun w => rdigits_any v.toNat v w (Nat.le_refl _) (by omega) (by omega))
  have he : (⟨#[43]⟩ : ByteArray) ++ ⟨(Lib.itoa v).toArray⟩ = ⟨(signT false v).toArray⟩ := by
   unfold signT
   rw [if_neg (by decide), if_pos (by omega)]
   exact str_add [43] _
  obtain ⟨T, hT⟩ : ∃ T : ByteArray, (⟨(Lib.itoa v).toArray⟩ : ByteArray) = T := ⟨_, rfl⟩
  rw [hT] at H he hs
  have hadd := add_run ⟨#[43]⟩ T (by show 1 + _ ≤ _; omega)
  rw [he] at hadd
  obtain ⟨R, hR⟩ : ∃ R : ByteArray, (⟨(signT false v).toArray⟩ : ByteArray) = R := ⟨_, rfl⟩
  rw [hR] at hadd ⊢
  clear hT hR hs he
  go_enter Tryz.func124, Tryz.ntmps124
  go_wp2_with (refine (H.out _).mono ?_; rintro e w2 ⟨rfl, hb⟩)
  go_ret
  exact ⟨rfl, hb⟩
theorem d10_index (i : In) (w : World) (h0 : 0 ≤ i.x) (h1 : i.x < 3) :
  Calls Tryz.prog 123 #[i.val] w fun e w' => e = .returned (.string ⟨(nth indexL3 i.x).toArray⟩) ∧ Below w.heap.size w w' := by
 have hx : i.x = 0 ∨ i.x = 1 ∨ i.x = 2 := by omega
 rw [in_val]
 rcases hx with hx | hx | hx
 all_goals
  rw [hx]
  go_enter Tryz.func123, Tryz.ntmps123
  go_wp2_with fail
  go_ret
  exact ⟨rfl, ((Below.refl _ _).alloc (Nat.le_refl _) _).alloc (by simp) _⟩
theorem d10_cond (y : Int) (w : World) (h0 : 0 ≤ y) (h1 : y < 8) :
  Calls Tryz.prog 126 #[.int .i64 y] w fun e w' => e = .returned (.string ⟨(nth condL8 y).toArray⟩) ∧ Below w.heap.size w w' := by
 have hy : y = 0 ∨ y = 1 ∨ y = 2 ∨ y = 3 ∨ y = 4 ∨ y = 5 ∨ y = 6 ∨ y = 7 := by omega
 rcases hy with rfl | rfl | rfl | rfl | rfl | rfl | rfl | rfl
 all_goals
  go_enter Tryz.func126, Tryz.ntmps126
  go_wp2_with fail
  go_ret
  exact ⟨rfl, (Below.refl _ _).alloc (Nat.le_refl _) _⟩
theorem d10_oper (y : Int) (w : World) (h0 : 0 ≤ y) (h1 : y < 8) :
  Calls Tryz.prog 83 #[.int .i64 y] w fun e w' => e = .returned (.string ⟨(nth operL8 y).toArray⟩) ∧ Below w.heap.size w w' := by
 have hy : y = 0 ∨ y = 1 ∨ y = 2 ∨ y = 3 ∨ y = 4 ∨ y = 5 ∨ y = 6 ∨ y = 7 := by omega
 rcases hy with rfl | rfl | rfl | rfl | rfl | rfl | rfl | rfl
 all_goals
  go_enter Tryz.func83, Tryz.ntmps83
  go_wp2_with fail
  go_ret
  exact ⟨rfl, (Below.refl _ _).alloc (Nat.le_refl _) _⟩
def shiftN : List (List UInt8) := [[82, 76, 67], [82, 82, 67], [82, 76], [82, 82], [83, 76, 65], [83, 82, 65], [83, 76, 76], [83, 82, 76]]
theorem d10_shift (y : Int) (w : World) (h0 : 0 ≤ y) (h1 : y < 8) :
  Calls Tryz.prog 79 #[.int .i64 y] w fun e w' => e = .returned (.string ⟨(nth shiftN y).toArray⟩) ∧ Below w.heap.size w w' := by
 have hy : y = 0 ∨ y = 1 ∨ y = 2 ∨ y = 3 ∨ y = 4 ∨ y = 5 ∨ y = 6 ∨ y = 7 := by omega
 rcases hy with rfl | rfl | rfl | rfl | rfl | rfl | rfl | rfl
 all_goals
  go_enter Tryz.func79, Tryz.ntmps79
  go_wp2_with fail
  go_ret
  exact ⟨rfl, (Below.refl _ _).alloc (Nat.le_refl _) _⟩
end Go.Proofs.YtgaihekapakoeaaGreatDoor
namespace Go.Proofs.YtgaihekapakoeaaGreatDoor
open Go.RowKit


set_option maxRecDepth 100000

def rs (d m : Int) (K : List Nat) : ByteArray := ⟨(rend false d m K).toArray⟩
theorem rs_add (d m : Int) (a b : List Nat) : rs d m a ++ rs d m b = rs d m (a ++ b) := by
 unfold rs
 rw [str_add, rend_add]
theorem rs_tk (d m : Int) (l : List UInt8) : (⟨l.toArray⟩ : ByteArray) = rs d m (tk l) := by
 unfold rs
 rw [rend_tk]
def Nums (d m : Int) : Prop := -1000000 ≤ d ∧ d ≤ 1000000 ∧ -1000000 ≤ m ∧ m ≤ 1000000
theorem itoa_len22 {v : Int} (h0 : -1000000 ≤ v) (h1 : v ≤ 1000000) : (Lib.itoa v).length ≤ 21 := by
 have := Lib.itoa_length_le v (by omega) (by omega)
 omega
theorem rendT_len22 {d m : Int} (h : Nums d m) (t : Nat) : (rendT false d m t).length ≤ 22 := by
 obtain ⟨h0, h1, h2, h3⟩ := h
 have a := itoa_len22 h0 h1
 have b := itoa_len22 h2 h3
 unfold rendT signT
 repeat' split
 all_goals first | (simp; omega) | simp_all
theorem rs_size {d m : Int} (h : Nums d m) : ∀ K : List Nat, (rs d m K).size ≤ 22 * K.length
 | [] => by simp [rs, rend, ByteArray.size]
 | t :: K => by
  have h1 := rendT_len22 h t
  have h2 := rs_size h K
  have e : rs d m (t :: K) = ⟨(rendT false d m t).toArray⟩ ++ rs d m K := by
   unfold rs
   rw [str_add]
   rfl
  rw [e, ByteArray.size_append, sz_len (rendT false d m t), List.length_cons]
  omega
theorem catL {d m : Int} (hN : Nums d m) (l : List UInt8) {X : ByteArray} {K : List Nat} (hX : RowKit.Hid (X = rs d m K)) (hK : K.length ≤ 40) (hl : l.length ≤ 40) :
  ∃ R : ByteArray, RowKit.Hid (R = rs d m (tk l ++ K)) ∧ ∀ w, (Op.stringOp .add ⟨l.toArray⟩ X).run Tryz.prog w = .ok (.string R) w := by
 obtain rfl := hX.out
 have h1 := rs_size hN K
 refine ⟨_, z_ rfl, fun w => ?_⟩
 rw [← rs_add, ← rs_tk]
 exact add_run _ _ (by rw [sz_len l]; omega) w
theorem catR {d m : Int} (hN : Nums d m) (l : List UInt8) {X : ByteArray} {K : List Nat} (hX : RowKit.Hid (X = rs d m K)) (hK : K.length ≤ 40) (hl : l.length ≤ 40) :
  ∃ R : ByteArray, RowKit.Hid (R = rs d m (K ++ tk l)) ∧ ∀ w, (Op.stringOp .add X ⟨l.toArray⟩).run Tryz.prog w = .ok (.string R) w := by
 obtain rfl := hX.out
 have h1 := rs_size hN K
 refine ⟨_, z_ rfl, fun w => ?_⟩
 rw [← rs_add, ← rs_tk]
 exact add_run _ _ (by rw [sz_len l]; omega) w
theorem catX {d m : Int} (hN : Nums d m) {X Y : ByteArray} {K M : List Nat} (hX : RowKit.Hid (X = rs d m K)) (hY : RowKit.Hid (Y = rs d m M)) (hK : K.length ≤ 40) (hM : M.length ≤ 40) :
  ∃ R : ByteArray, RowKit.Hid (R = rs d m (K ++ M)) ∧ ∀ w, (Op.stringOp .add X Y).run Tryz.prog w = .ok (.string R) w := by
 obtain rfl := hX.out
 obtain rfl := hY.out
 have h1 := rs_size hN K
 have h2 := rs_size hN M
 refine ⟨_, z_ rfl, fun w => ?_⟩
 rw [← rs_add]
 exact add_run _ _ (by omega) w

def SayR (f : Nat) (args : Array Value) (d m : Int) (K : List Nat) : Prop := ∀ w, Calls Tryz.prog f args w fun e w' => e = .returned (.string (rs d m K)) ∧ Below w.heap.size w w'
theorem SayR.named {f : Nat} {args : Array Value} {d m : Int} {K : List Nat} (h : SayR f args d m K) : ∃ X, RowKit.Hid (X = rs d m K) ∧ RowKit.Hid (∀ w, Calls Tryz.prog f args w fun e w' => e = .returned (.string X) ∧ Below w.heap.size w w') := ⟨_, z_ rfl, z_ h⟩
theorem say_index (i : In) (h0 : 0 ≤ i.x) (h1 : i.x < 3) : SayR 123 #[i.val] i.d i.m (tk (nth indexL3 i.x)) := fun w => by rw [← rs_tk]; exact d10_index i w h0 h1
theorem say_digits (d m : Int) (h0 : 0 ≤ m) (h1 : m ≤ 1000000) : SayR 39 #[.int .i64 m] d m [256] := fun w => by
 have : rs d m [256] = ⟨(Lib.itoa m).toArray⟩ := by unfold rs rend rendT; simp
 rw [this]; exact d10_digits m w h0 (by omega)
theorem say_signed (d m : Int) (h0 : -1000000 ≤ m) (h1 : m ≤ 1000000) : SayR 124 #[.int .i64 m] d m [257] := fun w => by
 have : rs d m [257] = ⟨(signT false m).toArray⟩ := by unfold rs rend rendT; simp
 rw [this]; exact d10_signed m w h0 h1
theorem say_disp (d m : Int) (h0 : -1000000 ≤ d) (h1 : d ≤ 1000000) : SayR 124 #[.int .i64 d] d m [258] := fun w => by
 have : rs d m [258] = ⟨(signT false d).toArray⟩ := by unfold rs rend rendT; simp
 rw [this]; exact d10_signed d w h0 h1
theorem say_cond (d m y : Int) (h0 : 0 ≤ y) (h1 : y < 8) : SayR 126 #[.int .i64 y] d m (tk (nth condL8 y)) := fun w => by rw [← rs_tk]; exact d10_cond y w h0 h1
theorem say_oper (d m y : Int) (h0 : 0 ≤ y) (h1 : y < 8) : SayR 83 #[.int .i64 y] d m (tk (nth operL8 y)) := fun w => by rw [← rs_tk]; exact d10_oper y w h0 h1
theorem say_shift (d m y : Int) (h0 : 0 ≤ y) (h1 : y < 8) : SayR 79 #[.int .i64 y] d m (tk (nth shiftN y)) := fun w => by rw [← rs_tk]; exact d10_shift y w h0 h1
theorem say_eight (d m y : Int) (h0 : 0 ≤ y) (h1 : y < 8) : SayR 39 #[.int .i64 (8 * y)] d m (tensL.getD y.toNat []) := fun w => by
 have hy : y = 0 ∨ y = 1 ∨ y = 2 ∨ y = 3 ∨ y = 4 ∨ y = 5 ∨ y = 6 ∨ y = 7 := by omega
 have e : tensL.getD y.toNat [] = tk (Lib.itoa (8 * y)) := by
  rcases hy with rfl | rfl | rfl | rfl | rfl | rfl | rfl | rfl <;> decide +kernel
 have : rs d m (tensL.getD y.toNat []) = ⟨(Lib.itoa (8 * y)).toArray⟩ := by rw [e, ← rs_tk]
 rw [this]; exact d10_digits (8 * y) w (by omega) (by omega)
theorem say_one (d m y : Int) (h0 : 0 ≤ y) (h1 : y < 8) : SayR 39 #[.int .i64 y] d m [48 + y.toNat] := fun w => by
 have hy : y = 0 ∨ y = 1 ∨ y = 2 ∨ y = 3 ∨ y = 4 ∨ y = 5 ∨ y = 6 ∨ y = 7 := by omega
 have e : [48 + y.toNat] = tk (Lib.itoa y) := by
  rcases hy with rfl | rfl | rfl | rfl | rfl | rfl | rfl | rfl <;> decide +kernel
 have : rs d m [48 + y.toNat] = ⟨(Lib.itoa y).toArray⟩ := by rw [e, ← rs_tk]
 rw [this]; exact d10_digits y w h0 (by omega)

def pairR (x c : Int) (st : Bool) : List Nat := if c = 3 ∧ st = true then [65, 70] else if c = 2 then tk (nth indexL3 x) else tk (nth pairL4 c)
set_option maxHeartbeats 4000000 in
theorem say_pair (i : In) (c : Int) (st : Bool) (h0 : 0 ≤ i.x) (h1 : i.x < 3) (c0 : 0 ≤ c) (c1 : c < 4) : SayR 125 #[i.val, .int .i64 c, .bool st] i.d i.m (pairR i.x c st) := by
 intro w
 obtain ⟨w1, hw1⟩ : ∃ w1, w.alloc (inO i) = w1 := ⟨_, rfl⟩
 have hb1 : Below w.heap.size w w1 := hw1 ▸ (Below.refl _ _).alloc (Nat.le_refl _) _
 have HR := z_ (hw1 ▸ InW.laid w i : InW w1 w.heap.size i)
 obtain ⟨X, hX, hI⟩ := (say_index i h0 h1).named
 have HB := z_ hb1
 unfold inO at hw1
 rw [in_val] at hI ⊢
 clear hb1
 have hc : c = 0 ∨ c = 1 ∨ c = 2 ∨ c = 3 := by omega
 have e0 : pairR i.x 0 st = tk [66, 67] := by unfold pairR; rw [if_neg (by simp), if_neg (by decide)]; rfl
 have e1 : pairR i.x 1 st = tk [68, 69] := by unfold pairR; rw [if_neg (by simp), if_neg (by decide)]; rfl
 have e2 : pairR i.x 2 st = tk (nth indexL3 i.x) := by unfold pairR; rw [if_neg (by simp), if_pos rfl]
 have e3 : pairR i.x 3 false = tk [83, 80] := by unfold pairR; rw [if_neg (by simp), if_neg (by decide)]; rfl
 have e4 : pairR i.x 3 true = tk [65, 70] := by unfold pairR; rw [if_pos ⟨rfl, rfl⟩]; rfl
 rcases hc with rfl | rfl | rfl | rfl
 ·rw [e0, ← rs_tk]
  clear e0 e1 e2 e3 e4
  go_enter Tryz.func125, Tryz.ntmps125
  go_wp2_with (first
   | (refine lr w.heap.size rfl rfl rfl HR.out ?_)
   | (refine (hI.out _).mono ?_; rintro e w2 ⟨rfl, hb2⟩))
  go_ret
  exact ⟨rfl, HB.out.trans ((hb2.alloc hb2.size _).mono HB.out.size)⟩
 ·rw [e1, ← rs_tk]
  clear e0 e1 e2 e3 e4
  go_enter Tryz.func125, Tryz.ntmps125
  go_wp2_with (first
   | (refine lr w.heap.size rfl rfl rfl HR.out ?_)
   | (refine (hI.out _).mono ?_; rintro e w2 ⟨rfl, hb2⟩))
  go_ret
  exact ⟨rfl, HB.out.trans ((hb2.alloc hb2.size _).mono HB.out.size)⟩
 ·rw [e2]
  clear e0 e1 e2 e3 e4
  go_enter Tryz.func125, Tryz.ntmps125
  go_wp2_with (first
   | (refine lr w.heap.size rfl rfl rfl HR.out ?_)
   | (refine (hI.out _).mono ?_; rintro e w2 ⟨rfl, hb2⟩))
  go_ret
  exact ⟨by rw [hX.out]; rfl, HB.out.trans ((hb2.alloc hb2.size _).mono HB.out.size)⟩
 ·cases st with
  | false =>
   rw [e3, ← rs_tk]
   clear e0 e1 e2 e3 e4
   go_enter Tryz.func125, Tryz.ntmps125
   go_wp2_with (first
    | (refine lr w.heap.size rfl rfl rfl HR.out ?_)
    | (refine (hI.out _).mono ?_; rintro e w2 ⟨rfl, hb2⟩))
   go_ret
   exact ⟨rfl, HB.out.trans ((hb2.alloc hb2.size _).mono HB.out.size)⟩
  | true =>
   rw [e4, ← rs_tk]
   clear e0 e1 e2 e3 e4
   go_enter Tryz.func125, Tryz.ntmps125
   go_wp2_with (first
    | (refine lr w.heap.size rfl rfl rfl HR.out ?_)
    | (refine (hI.out _).mono ?_; rintro e w2 ⟨rfl, hb2⟩))
   go_ret
   exact ⟨rfl, HB.out⟩

def byteR (s x o c : Int) : List Nat :=
 if c = 6 then (if x = 0 ∨ needD s x o = false then tk [40, 72, 76, 41] else (tk [40] ++ tk (nth indexL3 x)) ++ [258] ++ tk [41])
 else if (c = 4 ∨ c = 5) ∧ x > 0 ∧ needD s x o = false then tk (nth indexL3 x) ++ tk (nth nameL8 c) else tk (nth nameL8 c)
end Go.Proofs.YtgaihekapakoeaaGreatDoor
