/-    -/
import Derived.Test.YtgaihekapakoeaaGreatDoorJ12
import Derived.Test.YtgaihekapakoeaaGreatDoorJ19
import Derived.Test.YtgaihekapakoeaaGreatDoorJ6
set_option linter.unusedVariables false
set_option linter.unusedSimpArgs false
namespace Go.Proofs.YtgaihekapakoeaaGreatDoor
open Go.RowKit


def dgB (c : UInt8) : Bool := decide (48 ≤ c.toNat) && decide (c.toNat ≤ 57)
def sgV (g : Bool) (n : Nat) : Int := if g = true then -(n : Int) else n
def numM : Bool → Option Nat → List UInt8 → List Int
 | _, none, [] => []
 | g, some n, [] => [sgV g n]
 | g, none, c :: r => if dgB c = true then numM g (some (c.toNat - 48)) r else numM (c == 45) none r
 | g, some n, c :: r => if dgB c = true then (if n < 100000 then numM g (some (n * 10 + (c.toNat - 48))) r else sgV g n :: numM false (some (c.toNat - 48)) r) else sgV g n :: numM (c == 45) none r
theorem num_nil (g : Bool) : numM g none [] = [] := by unfold numM; rfl
theorem num_nils (g : Bool) (n : Nat) : numM g (some n) [] = [sgV g n] := by unfold numM; rfl
theorem num_cons (g : Bool) (c : UInt8) (r : List UInt8) : numM g none (c :: r) = if dgB c = true then numM g (some (c.toNat - 48)) r else numM (c == 45) none r := by rw [numM]
theorem num_more (g : Bool) (n : Nat) (c : UInt8) (r : List UInt8) : numM g (some n) (c :: r) = if dgB c = true then (if n < 100000 then numM g (some (n * 10 + (c.toNat - 48))) r else sgV g n :: numM false (some (c.toNat - 48)) r) else sgV g n :: numM (c == 45) none r := by rw [numM]
theorem num_start (g : Bool) (c : UInt8) (r : List UInt8) (hc : dgB c = true) : numM g none (c :: r) = numM g (some 0) (c :: r) := by
 rw [num_cons, num_more, if_pos hc, if_pos hc, if_pos (by decide)]
 simp
theorem num_stop (g : Bool) (n : Nat) (r : List UInt8) (h : ∀ c t, r = c :: t → dgB c = false) : numM g (some n) r = sgV g n :: numM false none r := by
 cases r with
 | nil => rw [num_nils, num_nil]
 | cons c t =>
  have hc := h c t rfl
  rw [num_more, num_cons, if_neg (by rw [hc]; decide), if_neg (by rw [hc]; decide)]
theorem dg_num {c : UInt8} (h : numC c.toNat = false) : dgB c = false := by
 unfold numC at h
 unfold dgB
 rw [Bool.or_eq_false_iff] at h
 exact h.1
theorem dg_ofNat {k : Nat} (h : k < 10) : dgB (UInt8.ofNat (48 + k)) = true ∧ (UInt8.ofNat (48 + k)).toNat - 48 = k := by
 match k, h with
 | 0, _ | 1, _ | 2, _ | 3, _ | 4, _ | 5, _ | 6, _ | 7, _ | 8, _ | 9, _ => exact ⟨rfl, rfl⟩
theorem num_dec (g : Bool) : ∀ (k u : Nat), u < k → u < 1000000 → ∀ r : List UInt8, numM g (some 0) (Lib.decDigits u ++ r) = numM g (some u) r
 | 0, _, h, _, _ => by omega
 | k + 1, u, h, hu, r => by
  rw [Lib.decDigits]
  split
  ·rename_i h10
   rw [List.singleton_append, num_more, if_pos (dg_ofNat h10).1, if_pos (by decide), (dg_ofNat h10).2]
   simp
  ·rw [List.append_assoc, num_dec g k (u / 10) (by omega) (by omega), List.singleton_append, num_more, if_pos (dg_ofNat (by omega)).1, if_pos (by omega), (dg_ofNat (by omega)).2, show u / 10 * 10 + u % 10 = u by omega]
theorem dec_first (u : Nat) : ∃ c t, Lib.decDigits u = c :: t ∧ dgB c = true := by
 have key : ∀ k u, u < k → ∃ c t, Lib.decDigits u = c :: t ∧ dgB c = true := by
  intro k
  induction k with
  | zero => intro u h; omega
  | succ k ih =>
   intro u h
   rw [Lib.decDigits]
   split
   ·rename_i h10
    exact ⟨_, _, rfl, (dg_ofNat h10).1⟩
   ·obtain ⟨c, t, h1, h2⟩ := ih (u / 10) (by omega)
    exact ⟨c, t ++ [UInt8.ofNat (48 + u % 10)], by rw [h1]; rfl, h2⟩
 exact key (u + 1) u (Nat.lt_succ_self u)
theorem num_digits (g : Bool) (u : Nat) (hu : u < 1000000) (r : List UInt8) (h : ∀ c t, r = c :: t → dgB c = false) : numM g none (Lib.decDigits u ++ r) = sgV g u :: numM false none r := by
 obtain ⟨c, t, h1, h2⟩ := dec_first u
 have := num_dec g (u + 1) u (Nat.lt_succ_self u) hu r
 rw [h1, List.cons_append] at *
 rw [num_start g c _ h2, this, num_stop g u r h]
theorem num_itoa (v : Int) (hv : v.natAbs < 1000000) (r : List UInt8) (h : ∀ c t, r = c :: t → dgB c = false) : numM false none (Lib.itoa v ++ r) = v :: numM false none r := by
 unfold Lib.itoa
 split
 ·rename_i h0
  rw [List.cons_append, num_cons, if_neg (by decide), show ((45 : UInt8) == 45) = true from rfl, num_digits true _ (by omega) r h]
  unfold sgV
  rw [if_pos rfl]
  congr 1
  omega
 ·rename_i h0
  rw [num_digits false _ (by omega) r h]
  unfold sgV
  rw [if_neg (by decide)]
  congr 1
  omega
theorem num_sign (v : Int) (hv : v.natAbs < 1000000) (r : List UInt8) (h : ∀ c t, r = c :: t → dgB c = false) : numM false none (signT false v ++ r) = v :: numM false none r := by
 unfold signT
 rw [if_neg (by decide)]
 split
 ·rw [List.append_assoc, List.singleton_append, num_cons, if_neg (by decide), show ((43 : UInt8) == 45) = false from rfl, num_itoa v hv r h]
 ·exact num_itoa v hv r h

def valT (d m : Int) (t : Nat) : Int := if t = 258 then d else m
theorem num_op {d m : Int} (hd : d.natAbs < 1000000) (hm : m.natAbs < 1000000) {t : Nat} (h0 : ¬ t < 256) (h1 : t < 259) (r : List UInt8) (h : ∀ c t, r = c :: t → dgB c = false) :
  numM false none (rendT false d m t ++ r) = valT d m t :: numM false none r := by
 have : t = 256 ∨ t = 257 ∨ t = 258 := by omega
 unfold rendT valT
 rcases this with rfl | rfl | rfl
 ·rw [if_pos rfl, if_neg (by decide), if_neg (by decide)]; exact num_itoa m hm r h
 ·rw [if_neg (by decide), if_pos rfl, if_neg (by decide)]; exact num_sign m hm r h
 ·rw [if_neg (by decide), if_neg (by decide), if_pos rfl, if_pos rfl]; exact num_sign d hd r h
def cntK (K : List Nat) : Nat := (K.filter fun t => decide (¬ t < 256) || numC t).length
theorem cnt_cons (t : Nat) (r : List Nat) : cntK (t :: r) = (if (decide (¬ t < 256) || numC t) = true then 1 else 0) + cntK r := by
 unfold cntK
 rw [List.filter_cons]
 split
 ·rw [List.length_cons]; omega
 ·omega
theorem num_rend {d m : Int} (hd : d.natAbs < 1000000) (hm : m.natAbs < 1000000) : ∀ (K : List Nat) (a b c : Nat) (g : Bool) (cur : Option Nat), good a b c K = true → (numC c = false → g = false ∧ cur = none) →
  (numM g cur (rend false d m K)).length ≤ (if cur = none then 0 else 1) + cntK K ∧ ∀ t ∈ K, ¬ t < 256 → valT d m t ∈ numM g cur (rend false d m K)
 | [], _, _, _, g, cur, _, _ => by
  refine ⟨?_, fun t ht => absurd ht (by simp)⟩
  show (numM g cur []).length ≤ _
  cases cur with
  | none => rw [num_nil]; simp
  | some n => rw [num_nils]; simp
 | t :: r, a, b, c, g, cur, hg, hc => by
  rw [rend_cons]
  by_cases ht : t < 256
  ·have hr := (good_lit ht hg).2
   rw [rendT_lit _ _ _ ht, List.singleton_append]
   have hlit : (decide (¬ t < 256) || numC t) = numC t := by simp [ht]
   have htn := ofNat_num ht
   have hcnt := cnt_cons t r
   rw [hlit] at hcnt
   cases hdg : dgB (UInt8.ofNat t) with
   | true =>
    have hn : numC t = true := by
     cases h : numC t with
     | true => rfl
     | false => rw [dg_num (by rw [htn]; exact h)] at hdg; cases hdg
    rw [hn, if_pos rfl] at hcnt
    have nxt : ∀ g' n', _ := fun g' n' => num_rend hd hm r b c t g' (some n') hr (fun h => by rw [hn] at h; cases h)
    cases cur with
    | none =>
     rw [num_cons, if_pos hdg]
     obtain ⟨h1, h2⟩ := nxt g ((UInt8.ofNat t).toNat - 48)
     rw [if_neg (by simp)] at h1
     refine ⟨by rw [if_pos rfl, hcnt]; omega, fun u hu hu2 => ?_⟩
     rcases List.mem_cons.1 hu with rfl | hu
     ·exact absurd ht hu2
     ·exact h2 u hu hu2
    | some n =>
     rw [num_more, if_pos hdg]
     split
     ·obtain ⟨h1, h2⟩ := nxt g (n * 10 + ((UInt8.ofNat t).toNat - 48))
      rw [if_neg (by simp)] at h1
      refine ⟨by rw [if_neg (by simp), hcnt]; omega, fun u hu hu2 => ?_⟩
      rcases List.mem_cons.1 hu with rfl | hu
      ·exact absurd ht hu2
      ·exact h2 u hu hu2
     ·obtain ⟨h1, h2⟩ := nxt false ((UInt8.ofNat t).toNat - 48)
      rw [if_neg (by simp)] at h1
      refine ⟨by rw [if_neg (by simp), hcnt, List.length_cons]; omega, fun u hu hu2 => ?_⟩
      rcases List.mem_cons.1 hu with rfl | hu
      ·exact absurd ht hu2
      ·exact List.mem_cons_of_mem _ (h2 u hu hu2)
   | false =>
    have h45 : numC t = false → (UInt8.ofNat t == 45) = false := fun h => by
     cases hb : UInt8.ofNat t == 45 with
     | false => rfl
     | true =>
      have : UInt8.ofNat t = 45 := by simpa using hb
      have h2 : t = 45 := by rw [← htn, this]; rfl
      subst h2
      exact absurd h (by decide)
    obtain ⟨h1, h2⟩ := num_rend hd hm r b c t (UInt8.ofNat t == 45) none hr (fun h => ⟨h45 h, rfl⟩)
    rw [if_pos rfl] at h1
    cases cur with
    | none =>
     rw [num_cons, if_neg (by rw [hdg]; decide)]
     refine ⟨by rw [if_pos rfl, hcnt]; omega, fun u hu hu2 => ?_⟩
     rcases List.mem_cons.1 hu with rfl | hu
     ·exact absurd ht hu2
     ·exact h2 u hu hu2
    | some n =>
     rw [num_more, if_neg (by rw [hdg]; decide)]
     refine ⟨by rw [if_neg (by simp), hcnt, List.length_cons]; omega, fun u hu hu2 => ?_⟩
     rcases List.mem_cons.1 hu with rfl | hu
     ·exact absurd ht hu2
     ·exact List.mem_cons_of_mem _ (h2 u hu hu2)
  ·obtain ⟨t1, t2, t3, t4, t5⟩ := good_op ht hg
   obtain ⟨rfl, rfl⟩ := hc t3
   rw [num_op hd hm ht t1 _ (fun e q h => dg_num (behind_op d m r t4 e q h))]
   obtain ⟨h1, h2⟩ := num_rend hd hm r b c 0 false none t5 (fun _ => ⟨rfl, rfl⟩)
   have hcnt := cnt_cons t r
   rw [if_pos (by simp [ht])] at hcnt
   rw [if_pos rfl] at h1
   refine ⟨by rw [if_pos rfl, hcnt, List.length_cons]; omega, fun u hu hu2 => ?_⟩
   rcases List.mem_cons.1 hu with rfl | hu
   ·exact List.mem_cons_self ..
   ·exact List.mem_cons_of_mem _ (h2 u hu hu2)

def baldT (l : List UInt8) : List UInt8 := l.filter fun c => !numC c.toNat
theorem bald_run {l : List UInt8} (h : AllN l) : baldT l = [] := by
 unfold baldT
 rw [List.filter_eq_nil_iff]
 intro c hc
 rw [h c hc]
 decide
theorem bald_rend (d m e n : Int) : ∀ (K : List Nat) (a b c : Nat), good a b c K = true → baldT (rend false d m K) = baldT (rend false e n K)
 | [], _, _, _, _ => rfl
 | t :: r, a, b, c, hg => by
  rw [rend_cons, rend_cons]
  unfold baldT
  rw [List.filter_append, List.filter_append]
  by_cases ht : t < 256
  ·rw [rendT_lit _ _ _ ht, rendT_lit _ _ _ ht]
   exact congrArg _ (bald_rend d m e n r b c t (good_lit ht hg).2)
  ·obtain ⟨t1, t2, t3, t4, t5⟩ := good_op ht hg
   have h1 := bald_run (rendT_op d m t ht t1).1
   have h2 := bald_run (rendT_op e n t ht t1).1
   unfold baldT at h1 h2
   rw [h1, h2]
   exact congrArg _ (bald_rend d m e n r b c 0 t5)
end Go.Proofs.YtgaihekapakoeaaGreatDoor
namespace Go.Proofs.YtgaihekapakoeaaGreatDoor
open Go.RowKit


def cntOk (s x o : Int) : Bool := dbK s x o || decide (cntK (toksK s x o) ≤ 3)
theorem ck_main0 : ∀ o : Fin 256, isOneI 0 0 o.val = false ∨ cntOk 0 0 o.val = true := by decide +kernel
theorem ck_main1 : ∀ o : Fin 256, isOneI 0 1 o.val = false ∨ cntOk 0 1 o.val = true := by decide +kernel
theorem ck_main2 : ∀ o : Fin 256, isOneI 0 2 o.val = false ∨ cntOk 0 2 o.val = true := by decide +kernel
theorem ck_bits : ∀ o : Fin 256, cntOk 1 0 o.val = true := by decide +kernel
theorem ck_more : ∀ o : Fin 256, cntOk 2 0 o.val = true := by decide +kernel
theorem ck_both1 : ∀ o : Fin 256, cntOk 3 1 o.val = true := by decide +kernel
theorem ck_both2 : ∀ o : Fin 256, cntOk 3 2 o.val = true := by decide +kernel
theorem cnt_ok {s x o : Int} (h : isOneI s x o = true) : cntOk s x o = true := by
 obtain ⟨hs, hx, o0, o1⟩ := one_cases h
 have f : ∀ {P : Int → Prop}, (∀ o : Fin 256, P o.val) → P o := fun h => fin_o h o0 o1
 rcases hs with rfl | rfl | rfl | rfl
 ·rcases hx with rfl | rfl | rfl
  ·rcases f (P := fun o => isOneI 0 0 o = false ∨ cntOk 0 0 o = true) ck_main0 with k | k
   ·rw [h] at k; cases k
   ·exact k
  ·rcases f (P := fun o => isOneI 0 1 o = false ∨ cntOk 0 1 o = true) ck_main1 with k | k
   ·rw [h] at k; cases k
   ·exact k
  ·rcases f (P := fun o => isOneI 0 2 o = false ∨ cntOk 0 2 o = true) ck_main2 with k | k
   ·rw [h] at k; cases k
   ·exact k
 ·obtain rfl := one_x0 (.inl rfl) h
  exact f (P := fun o => cntOk 1 0 o = true) ck_bits
 ·obtain rfl := one_x0 (.inr rfl) h
  exact f (P := fun o => cntOk 2 0 o = true) ck_more
 ·have hx12 : x = 1 ∨ x = 2 := by
   rcases hx with rfl | rfl | rfl
   ·unfold isOneI at h; simp at h
   ·exact .inl rfl
   ·exact .inr rfl
  rcases hx12 with rfl | rfl
  ·exact f (P := fun o => cntOk 3 1 o = true) ck_both1
  ·exact f (P := fun o => cntOk 3 2 o = true) ck_both2

theorem fits_none {v : Int} {g : Bool} (h : fitsI v 0 g = true) : v = 0 := by
 unfold fitsI at h
 simpa using h
theorem fits_in {v c : Int} {g : Bool} (h : fitsI v c g = true) : -32768 ≤ v ∧ v ≤ 65535 := by
 unfold fitsI at h
 split at h
 ·have : v = 0 := by simpa using h
  omega
 ·split at h
  ·split at h
   ·simp only [Bool.and_eq_true, decide_eq_true_eq] at h; omega
   ·simp only [Bool.and_eq_true, decide_eq_true_eq] at h; omega
  ·split at h
   ·simp only [Bool.and_eq_true, decide_eq_true_eq] at h; omega
   ·simp only [Bool.and_eq_true, decide_eq_true_eq] at h; omega
theorem fits_zero {c : Int} (g : Bool) : fitsI 0 c g = true := by
 unfold fitsI
 repeat' split
 all_goals rfl
theorem may_ops {j : In} (hm : j.may = true) : fitsI j.d (num1 (needD j.s j.x j.o)) true = true ∧ fitsI j.m (needN j.s j.x j.o) (jumpI j.s j.o) = true := by
 have h := (may_one hm).2.2
 unfold In.ops at h
 rw [Bool.and_eq_true] at h
 exact h
theorem may_small {j : In} (hm : j.may = true) : j.d.natAbs < 1000000 ∧ j.m.natAbs < 1000000 := by
 have h1 := fits_in (may_ops hm).1
 have h2 := fits_in (may_ops hm).2
 omega

def fitIn (s x o d m : Int) : In := ⟨s, x, o, if needD s x o = true then d else 0, if 0 < needN s x o then m else 0, lenI s x o⟩
theorem fit_self {j : In} (hm : j.may = true) {d m : Int} (hd : needD j.s j.x j.o = true → d = j.d) (hn : needN j.s j.x j.o ≠ 0 → m = j.m) : fitIn j.s j.x j.o d m = j := by
 obtain ⟨h1, h2, h3⟩ := may_one hm
 obtain ⟨h4, h5⟩ := may_ops hm
 have e1 : (if needD j.s j.x j.o = true then d else 0) = j.d := by
  split
  ·rename_i h; exact hd h
  ·rename_i h
   rw [show needD j.s j.x j.o = false by simpa using h] at h4
   exact (fits_none h4).symm
 have e2 : (if 0 < needN j.s j.x j.o then m else 0) = j.m := by
  have := needN_in j.s j.x j.o
  split
  ·rename_i h; exact hn (by omega)
  ·rename_i h
   rw [show needN j.s j.x j.o = 0 by omega] at h5
   exact (fits_none h5).symm
 unfold fitIn
 rw [e1, e2, show lenI j.s j.x j.o = j.n from h2.symm]
theorem fit_zero {j : In} (hm : j.may = true) : (fitIn j.s j.x j.o 0 0).may = true := by
 obtain ⟨h1, h2, h3⟩ := may_one hm
 unfold In.may In.ops In.len fitIn
 simp only [h1, beq_self_eq_true, Bool.true_and, ite_self, fits_zero, Bool.and_self]

theorem told_nums {j : In} (hm : j.may = true) (hd : dbK j.s j.x j.o = false) :
  (numM false none (textI j)).length ≤ 3 ∧ (needD j.s j.x j.o = true → j.d ∈ numM false none (textI j)) ∧ (needN j.s j.x j.o ≠ 0 → j.m ∈ numM false none (textI j)) := by
 have h1 := (may_one hm).1
 have ok := op_ok h1 hd
 have hc := cnt_ok h1
 unfold cntOk at hc
 rw [hd, Bool.false_or, decide_eq_true_eq] at hc
 unfold opOk at ok
 simp only [Bool.and_eq_true] at ok
 obtain ⟨k1, k2, k3, k4, k5⟩ := ok
 obtain ⟨s1, s2⟩ := may_small hm
 rw [text_told hm hd]
 obtain ⟨r1, r2⟩ := num_rend s1 s2 (toksK j.s j.x j.o) 0 0 0 false none k1 (fun _ => ⟨rfl, rfl⟩)
 rw [if_pos rfl] at r1
 refine ⟨by omega, fun h => ?_, fun h => ?_⟩
 ·rw [h] at k4
  have h258 : 258 ∈ toksK j.s j.x j.o := by simpa using k4
  exact r2 258 h258 (by decide)
 ·have hb : (needN j.s j.x j.o == 0) = false := by simpa using h
  rw [hb, Bool.false_or, Bool.or_eq_true] at k3
  rcases k3 with k3 | k3
  ·have h256 : 256 ∈ toksK j.s j.x j.o := by simpa using k3
   exact r2 256 h256 (by decide)
  ·have h257 : 257 ∈ toksK j.s j.x j.o := by simpa using k3
   exact r2 257 h257 (by decide)
theorem told_good {j : In} (hm : j.may = true) (hd : dbK j.s j.x j.o = false) : good 0 0 0 (toksK j.s j.x j.o) = true := by
 have ok := op_ok (may_one hm).1 hd
 unfold opOk at ok
 rw [Bool.and_eq_true] at ok
 exact ok.1
theorem bald_same {i j : In} (hi : i.may = true) (hj : j.may = true) (hd : dbK j.s j.x j.o = false) (hs : i.s = j.s) (hx : i.x = j.x) (ho : i.o = j.o) : baldT (textI i) = baldT (textI j) := by
 rw [text_told hj hd, text_told hi (by rw [hs, hx, ho]; exact hd), hs, hx, ho]
 exact bald_rend _ _ _ _ _ 0 0 0 (told_good hj hd)
theorem num_seq : ∀ r : List Int, AllB r → numM false none (seqT r) = r
 | [], _ => num_nil _
 | a :: r, h => by
  have ha := h a (List.mem_cons_self ..)
  unfold seqT
  rw [num_cons, if_neg (by decide), show ((44 : UInt8) == 45) = false from rfl, num_itoa a (by omega) _ (fun c t e => dg_num (seq_head r c t e)), num_seq r fun x hx => h x (List.mem_cons_of_mem _ hx)]
theorem db_nums {j : In} (hm : j.may = true) (hd : dbK j.s j.x j.o = true) : numM false none (textI j) = bytesI j := by
 have hb := byte_nums hm
 rw [text_bytes hm hd]
 revert hb
 cases bytesI j with
 | nil =>
  intro _
  rw [bytesT_nil]
  rfl
 | cons a r =>
  intro hb
  have ha := hb a (List.mem_cons_self ..)
  rw [bytesT_eq, num_cons, if_neg (by decide), show ((68 : UInt8) == 45) = false from rfl, num_cons, if_neg (by decide), show ((66 : UInt8) == 45) = false from rfl, num_cons, if_neg (by decide), show ((32 : UInt8) == 45) = false from rfl,
   num_itoa a (by omega) _ (fun c t e => dg_num (seq_head r c t e)), num_seq r fun x hx => hb x (List.mem_cons_of_mem _ hx)]
def dbS (l : List UInt8) : Bool := decide (3 < l.length) && decide (l.take 3 = [68, 66, 32])
theorem db_text {j : In} (hm : j.may = true) : dbS (textI j) = dbK j.s j.x j.o := by
 cases hd : dbK j.s j.x j.o with
 | true =>
  rw [text_bytes hm hd]
  have hp : 0 < (bytesI j).length := by
   have h1 := bytesI_length hm
   have h2 : j.n = lenI j.s j.x j.o := (may_one hm).2.1
   have h3 := lenI_in j.s j.x j.o
   omega
  revert hp
  cases bytesI j with
  | nil => intro h; simp at h
  | cons a r =>
   intro _
   rw [bytesT_eq]
   obtain ⟨c, t, h1⟩ : ∃ c t, Lib.itoa a = c :: t := by
    cases h : Lib.itoa a with
    | nil => exact absurd h (itoa_nonnil a)
    | cons c t => exact ⟨c, t, rfl⟩
   rw [h1]
   unfold dbS
   simp
 | false =>
  have h1 := (may_one hm).1
  cases hx : dbS (textI j) with
  | false => rfl
  | true =>
   exfalso
   unfold dbS at hx
   rw [Bool.and_eq_true, decide_eq_true_eq, decide_eq_true_eq] at hx
   have ok := op_ok h1 hd
   unfold opOk at ok
   simp only [Bool.and_eq_true] at ok
   have h5 := ok.2.2.2.2
   have e : ∃ r, textI j = 68 :: 66 :: r := ⟨32 :: (textI j).drop 3, by
    have h6 := (List.take_append_drop 3 (textI j)).symm
    rw [hx.2] at h6
    exact h6⟩
   obtain ⟨r, e⟩ := e
   rw [text_told hm hd] at e
   revert h5 e
   cases toksK j.s j.x j.o with
   | nil => intro h5; simp at h5
   | cons a K =>
    cases K with
    | nil => intro h5; simp at h5
    | cons b K =>
     intro h5 e
     simp only [Bool.and_eq_true, Bool.or_eq_true, decide_eq_true_eq, bne_iff_ne] at h5
     obtain ⟨ha, h6⟩ := h5
     rw [rend_cons, rendT_lit _ _ _ ha] at e
     simp only [List.cons_append, List.nil_append, List.cons.injEq] at e
     rcases h6 with h6 | ⟨hb, h6⟩
     ·exact h6 (ofNat_inj ha (by decide) e.1)
     ·have e2 := e.2
      rw [rend_cons, rendT_lit _ _ _ hb] at e2
      simp only [List.cons_append, List.nil_append, List.cons.injEq] at e2
      exact h6 (ofNat_inj hb (by decide) e2.1)
end Go.Proofs.YtgaihekapakoeaaGreatDoor
namespace Go.Proofs.YtgaihekapakoeaaGreatDoor
open Go.RowKit


set_option maxRecDepth 100000

theorem getD_left {l r : List Int} {k : Nat} (h : k < l.length) : (l ++ r).getD k 0 = l.getD k 0 := by
 rw [List.getD_eq_getElem?_getD, List.getD_eq_getElem?_getD, List.getElem?_append_left h]
theorem head_at (a b : Int) : (headL a b).at_ ≤ 1 ∨ ((headL a b).at_ = 3 ∧ (headL a b).s = 3) := by
 unfold headL
 repeat' split
 all_goals first | exact .inl (Nat.le_refl _) | exact .inl (Nat.zero_le _) | exact .inr ⟨rfl, rfl⟩
theorem of_less {l r : List Int} {y : In} (hb : AllB (l ++ r)) (h : ofI (l ++ r) = some y) (h2 : 2 ≤ l.length) (hn : y.n ≤ l.length) : ofI l = some y := by
 have g0 : (l ++ r).getD 0 0 = l.getD 0 0 := getD_left (by omega)
 have g1 : (l ++ r).getD 1 0 = l.getD 1 0 := getD_left (by omega)
 have hg := of_got hb h
 have hh := head_at (l.getD 0 0) (l.getD 1 0)
 unfold ofI at h ⊢
 have hl0 : of0 (l ++ r) = ⟨(headL (l.getD 0 0) (l.getD 1 0)).s, (headL (l.getD 0 0) (l.getD 1 0)).x, (l ++ r).getD (headL (l.getD 0 0) (l.getD 1 0)).at_ 0, 0, 0, 0⟩ := by unfold of0; rw [g0, g1]
 rw [g0, g1] at h
 split at h
 ·cases h
 ·split at h
  ·cases h
  ·rename_i n1 n2
   injection h with h
   have hs : y.s = (headL (l.getD 0 0) (l.getD 1 0)).s := by rw [← h]; unfold opsI; rw [hl0]
   have hyn : y.n = (of0 (l ++ r)).len := by rw [← h]; rfl
   by_cases ha : l.length ≤ (headL (l.getD 0 0) (l.getD 1 0)).at_
   ·exfalso
    rcases hh with hh | ⟨hh, h3⟩
    ·omega
    ·rw [h3] at hs
     obtain ⟨m1, m2, -⟩ := may_one hg.may
     have hx : y.x ≠ 0 := by
      intro h0
      rw [hs, h0] at m1
      unfold isOneI at m1
      simp at m1
     have hd : needD 3 y.x y.o = true := by
      unfold needD
      rw [hs] at m1
      rw [m1]
      rfl
     have : y.n = 1 + 1 + needN y.s y.x y.o + 1 + 1 := by
      rw [show y.n = lenI y.s y.x y.o from m2]
      unfold lenI
      rw [hs, hd, show (y.x != 0) = true from by simpa using hx]
      rfl
     have := needN_in y.s y.x y.o
     omega
   ·have e0 : of0 (l ++ r) = of0 l := by
     rw [hl0, getD_left (by omega)]
     rfl
    rw [e0] at h hyn
    rw [if_neg ha, if_neg (by omega), ← h]
    have : (of0 l).len.toNat ≤ l.length := by omega
    rw [List.take_append_of_le_length this]
theorem of_self {i : In} (hm : i.may = true) (h2 : 2 ≤ (bytesI i).length) : ofI (bytesI i) = some i := by
 have hl := bytesI_length hm
 refine of_less (r := [221]) ((byte_nums hm).append (AllB.one (by decide) (by decide))) (of_bytes hm 221 fun _ _ => by decide) h2 (by omega)

def dbL (l : List Int) : List Int := if l.length = 1 then l ++ [221] else l
def inB (n : Int) : Bool := decide (0 ≤ n) && decide (n ≤ 255)
def dbR (s : List UInt8) : Option In :=
 if (numM false none s).all inB = true then (match ofI (dbL (numM false none s)) with | some y => if y.may = true ∧ textI y = s then some y else none | none => none) else none
theorem all_inB {l : List Int} : l.all inB = true ↔ AllB l := by
 rw [List.all_eq_true]
 unfold AllB inB
 constructor
 ·intro h n hn
  have := h n hn
  simp only [Bool.and_eq_true, decide_eq_true_eq] at this
  omega
 ·intro h n hn
  have := h n hn
  simp only [Bool.and_eq_true, decide_eq_true_eq]
  omega
theorem dbR_text {j : In} (hm : j.may = true) (hd : dbS (textI j) = true) : dbR (textI j) = some j := by
 rw [db_text hm] at hd
 have hn := db_nums hm hd
 have hb := byte_nums hm
 have hl := bytesI_length hm
 have hlo : 1 ≤ j.n := by
  have h2 : j.n = lenI j.s j.x j.o := (may_one hm).2.1
  have := lenI_in j.s j.x j.o
  omega
 unfold dbR
 rw [hn, if_pos (all_inB.2 hb)]
 have e : ofI (dbL (bytesI j)) = some j := by
  unfold dbL
  split
  ·exact of_bytes hm 221 fun _ _ => by decide
  ·exact of_self hm (by omega)
 rw [e]
 show (if j.may = true ∧ textI j = textI j then some j else none) = some j
 rw [if_pos ⟨hm, rfl⟩]
theorem dbR_is {s : List UInt8} {y : In} (h : dbR s = some y) : y.may = true ∧ textI y = s ∧ y.Wf := by
 unfold dbR at h
 split at h
 ·rename_i ha
  have hb := all_inB.1 ha
  cases ho : ofI (dbL (numM false none s)) with
  | none => rw [ho] at h; cases h
  | some x =>
   have h : (if x.may = true ∧ textI x = s then some x else none) = some y := by rw [ho] at h; exact h
   split at h
   ·rename_i hx
    injection h with h
    subst h
    refine ⟨hx.1, hx.2, (of_got (l := dbL (numM false none s)) ?_ ho).wf⟩
    unfold dbL
    split
    ·exact hb.append (AllB.one (by decide) (by decide))
    ·exact hb
   ·cases h
 ·cases h
end Go.Proofs.YtgaihekapakoeaaGreatDoor
