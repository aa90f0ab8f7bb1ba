/-  -/
import Derived.Test.YtgaihekapakoeaaGreatDoorJ29
import Derived.Test.YtgaihekapakoeaaGreatDoorJ26
import Derived.Test.YtgaihekapakoeaaGreatDoorJ27
set_option linter.unusedVariables false
set_option linter.unusedSimpArgs false
namespace Go.Proofs.YtgaihekapakoeaaGreatDoor
open Go.RowKit


set_option maxRecDepth 100000

theorem info_int : (Tryz.prog.info? 3).map (fun i => (i.zero, i.size, i.bytes)) = some (some (.int .i64 0), 1, 8) := by kernel_rfl
def OI (w : World) (B : Nat) (A : Option Addr) (c : Nat) (l : List Int) : Prop := w.ownsRow B 3 1 (.slice A l.length c) l.length (l.map (Value.int .i64))
theorem OI.nil (w : World) (B : Nat) : OI w B none 0 [] := World.ownsRow_nil w B _ 1
theorem OI.shape {w : World} {base n : Nat} {v : Value} {xs : List Value} {e : TypeId} (h : w.ownsRow base e 1 v n xs) : ∃ A c, v = .slice A n c := by
 rcases h.2 with ⟨h1, h2⟩ | ⟨g, cap, cur, h1, _⟩
 ·exact ⟨none, 0, by rw [h1, h2]⟩
 ·exact ⟨_, _, h1⟩

def ngT (l : List UInt8) (k : Nat) : Bool := decide (0 < k) && (l.getD (k - 1) 0 == 45)
theorem num_small : ∀ (l : List UInt8) (g : Bool) (cur : Option Nat), (∀ n, cur = some n → n < 1000000) → ∀ v ∈ numM g cur l, -1000000 < v ∧ v < 1000000
 | [], g, none, _ => fun v hv => by rw [num_nil] at hv; cases hv
 | [], g, some n, h => fun v hv => by
  rw [num_nils, List.mem_singleton] at hv
  have := h n rfl
  subst hv
  unfold sgV
  split <;> omega
 | c :: r, g, none, _ => fun v hv => by
  rw [num_cons] at hv
  split at hv
  ·exact num_small r g _ (fun n hn => by have := c.toNat_lt; injection hn with hn; omega) v hv
  ·exact num_small r _ none (fun n hn => by cases hn) v hv
 | c :: r, g, some n, h => fun v hv => by
  have hn := h n rfl
  have hc := c.toNat_lt
  have hg : -1000000 < sgV g n ∧ sgV g n < 1000000 := by unfold sgV; split <;> omega
  rw [num_more] at hv
  split at hv
  ·rename_i hd
   unfold dgB at hd
   simp only [Bool.and_eq_true, decide_eq_true_eq] at hd
   split at hv
   ·exact num_small r g _ (fun m hm => by injection hm with hm; omega) v hv
   ·rcases List.mem_cons.1 hv with rfl | hv
    ·exact hg
    ·exact num_small r _ _ (fun m hm => by injection hm with hm; omega) v hv
  ·rcases List.mem_cons.1 hv with rfl | hv
   ·exact hg
   ·exact num_small r _ none (fun m hm => by cases hm) v hv
theorem num_exit (l : List UInt8) (g : Bool) (n m : Nat) (h1 : 0 < m) (hm : m ≤ l.length) (hd : dgB (l.getD (m - 1) 0) = true) (hs : ∀ h : m < l.length, dgB l[m] = true → ¬ n < 100000) :
  numM g (some n) (l.drop m) = sgV g n :: numM (ngT l m) none (l.drop m) := by
 have hng : ngT l m = false := by
  unfold ngT
  cases hx : l.getD (m - 1) 0 == 45 with
  | false => simp
  | true =>
   have : l.getD (m - 1) 0 = 45 := by simpa using hx
   rw [this] at hd
   cases hd
 rw [hng]
 by_cases h : m < l.length
 ·rw [List.drop_eq_getElem_cons h]
  cases hc : dgB l[m] with
  | true => rw [num_more, if_pos hc, if_neg (hs h hc), num_cons, if_pos hc]
  | false => rw [num_more, if_neg (by rw [hc]; decide), num_cons, if_neg (by rw [hc]; decide)]
 ·rw [List.drop_eq_nil_of_le (by omega), num_nils, num_nil]
theorem num_skip (l : List UInt8) (k : Nat) (hk : k < l.length) (hc : dgB l[k] = false) : numM (ngT l k) none (l.drop k) = numM (ngT l (k + 1)) none (l.drop (k + 1)) := by
 rw [List.drop_eq_getElem_cons hk, num_cons, if_neg (by rw [hc]; decide)]
 congr 1
 unfold ngT
 rw [List.getD_eq_getElem?_getD, Nat.add_sub_cancel, List.getElem?_eq_getElem hk]
 simp
theorem num_first (l : List UInt8) (k : Nat) (g : Bool) (hk : k < l.length) (hc : dgB l[k] = true) : numM g (some 0) (l.drop k) = numM g none (l.drop k) := by
 rw [List.drop_eq_getElem_cons hk, ← num_start g _ _ hc]
theorem num_step (l : List UInt8) (m n : Nat) (g : Bool) (hm : m < l.length) (hc : dgB l[m] = true) (hn : n < 100000) : numM g (some n) (l.drop m) = numM g (some (n * 10 + (l[m].toNat - 48))) (l.drop (m + 1)) := by
 rw [List.drop_eq_getElem_cons hm, num_more, if_pos hc, if_pos hn]
theorem getD_at {l : List UInt8} {k : Nat} (h : k < l.length) : l.getD k 0 = l[k] := by rw [List.getD_eq_getElem?_getD, List.getElem?_eq_getElem h]; rfl
theorem dg_yes {c : UInt8} (h : dgB c = true) : 48 ≤ c.toNat ∧ c.toNat ≤ 57 := by
 unfold dgB at h
 simpa using h
theorem dg_no {c : UInt8} (h : dgB c = false) : c.toNat < 48 ∨ 57 < c.toNat := by
 unfold dgB at h
 simp at h
 omega

set_option maxHeartbeats 8000000 in
theorem d10_numbers (s : ByteArray) (w : World) (hs : s.size ≤ 60) :
  Calls Tryz.prog 41 #[.string s] w fun e w' => (∃ A c, e = .returned (.slice A (numM false none s.data.toList).length c) ∧ OI w' w.heap.size A c (numM false none s.data.toList)) ∧ Below w.heap.size w w' := by
 obtain ⟨i1, hi, hz0, hz1, hz2⟩ := info_parts info_int
 have hsz : s.data.toList.length = s.size := Array.length_toList
 obtain ⟨Z, hZ⟩ : ∃ Z, numM false none s.data.toList = Z := ⟨_, rfl⟩
 rw [hZ]
 have HZ := z_ hZ
 have HS := z_ hsz
 clear hZ hsz
 go_enter Tryz.func41, Tryz.ntmps41
 go_wp2_with fail
 go_loopw [3, 4] (fun v i wr => ∃ (k : Nat) (out : List Int), i = .int .i64 k ∧ k ≤ s.size ∧ out.length ≤ k ∧ wr.ownsRow w.heap.size 3 1 v out.length (out.map (Value.int .i64)) ∧ Below w.heap.size w wr ∧ Hid (out ++ numM (ngT s.data.toList k) none (s.data.toList.drop k) = Z)) (fun _ i _ => s.size - (intOf i).toNat)
 case atStart => exact ⟨0, [], rfl, by omega, Nat.le_refl _, World.ownsRow_nil _ _ _ _, Below.refl _ _, z_ HZ.out⟩
 case round =>
  rename World => wr
  obtain ⟨k, out, rfl, hk, hlen, ho, hb, HE⟩ := hrel
  have HO := z_ ho
  have HB := z_ hb
  clear ho hb
  by_cases hlt : k < s.size
  ·have hlk : k < s.data.toList.length := by have := HS.out; omega
   cases hc : dgB s[k] with
   | false =>
    have HN := z_ (num_skip s.data.toList k hlk hc)
    have hno := dg_no hc
    clear hc
    rcases hno with h1 | h1
    ·have t1 : (s[k].toNat : Int) < 48 := by omega
     go_wp2_with fail
     exact ⟨⟨k + 1, out, by go_num, by omega, by omega, HO.out, HB.out, z_ (by rw [← HN.out]; exact HE.out)⟩, by simp [intOf]; omega⟩
    ·have t1 : ¬ (s[k].toNat : Int) < 48 := by omega
     have t2 : (57 : Int) < s[k].toNat := by omega
     go_wp2_with fail
     exact ⟨⟨k + 1, out, by go_num, by omega, by omega, HO.out, HB.out, z_ (by rw [← HN.out]; exact HE.out)⟩, by simp [intOf]; omega⟩
   | true =>
    obtain ⟨g, hg⟩ : ∃ g, ngT s.data.toList k = g := ⟨_, rfl⟩
    have HF := z_ (num_first s.data.toList k g hlk hc)
    have hy := dg_yes hc
    have HC := z_ hc
    have t1 : ¬ (s[k].toNat : Int) < 48 := by omega
    have t2 : ¬ (57 : Int) < s[k].toNat := by omega
    have HG := z_ hg
    clear hg hc hy
    go_wp2_with fail
    go_loop [5, 6] (fun a b => ∃ n m : Nat, a = .int .i64 n ∧ b = .int .i64 m ∧ k ≤ m ∧ m ≤ s.size ∧ n < 1000000 ∧ (m = k → n = 0) ∧ Hid (numM g (some n) (s.data.toList.drop m) = numM g none (s.data.toList.drop k)) ∧ Hid (k < m → dgB (s.data.toList.getD (m - 1) 0) = true)) (fun _ b => s.size - (intOf b).toNat)
    case atStart => exact ⟨0, k, rfl, rfl, Nat.le_refl _, by omega, by omega, fun _ => rfl, z_ HF.out, z_ fun h => absurd h (Nat.lt_irrefl _)⟩
    case round =>
     obtain ⟨n, m, rfl, rfl, hkm, hms, hn, hm0, HM, HD⟩ := hrel
     by_cases hgo : m < s.size ∧ dgB (s.data.toList.getD m 0) = true ∧ n < 100000
     ·obtain ⟨g1, g2, g3⟩ := hgo
      have hlm : m < s.data.toList.length := by have := HS.out; omega
      have g4 : dgB s[m] = true := by rw [getD_at hlm] at g2; exact g2
      have hy := dg_yes g4
      have HT := z_ (num_step s.data.toList m n g hlm g4 g3)
      have HD2 := z_ g2
      have t3 : (48 : Int) ≤ s[m].toNat := by omega
      have t4 : (s[m].toNat : Int) ≤ 57 := by omega
      have t5 : (n : Int) < 100000 := by omega
      clear g2 g4 hm0
      go_wp2_with fail
      exact ⟨⟨n * 10 + (s[m].toNat - 48), m + 1, by go_num, by go_num, by omega, by omega, by omega, by omega, z_ (by rw [← HM.out, HT.out]; rfl), z_ fun _ => by rw [Nat.add_sub_cancel]; exact HD2.out⟩, by simp [intOf]; omega⟩
     ·have hkm2 : k < m := by
       rcases Nat.lt_or_ge k m with h | h
       ·exact h
       ·exfalso
        obtain rfl : m = k := by omega
        have := hm0 rfl
        exact hgo ⟨hlt, by rw [getD_at hlk]; exact HC.out, by omega⟩
      have HX := z_ (num_exit s.data.toList g n m (by omega) (by have := HS.out; omega) (HD.out hkm2) (fun h hd h3 => hgo ⟨by have := HS.out; omega, by rw [getD_at h]; exact hd, h3⟩))
      have hcs : (¬ m < s.size) ∨ (∃ hm : m < s.size, s[m].toNat < 48) ∨ (∃ hm : m < s.size, 57 < s[m].toNat) ∨ (∃ hm : m < s.size, 48 ≤ s[m].toNat ∧ s[m].toNat ≤ 57 ∧ 100000 ≤ n) := by
       by_cases h1 : m < s.size
       ·have hlm : m < s.data.toList.length := by have := HS.out; omega
        cases h2 : dgB s[m] with
        | false =>
         rcases dg_no h2 with h3 | h3
         ·exact .inr (.inl ⟨h1, h3⟩)
         ·exact .inr (.inr (.inl ⟨h1, h3⟩))
        | true =>
         have h3 := dg_yes h2
         exact .inr (.inr (.inr ⟨h1, h3.1, h3.2, by
          rcases Nat.lt_or_ge n 100000 with h | h
          ·exact absurd ⟨h1, by rw [getD_at hlm]; exact h2, h⟩ hgo
          ·exact h⟩))
       ·exact .inl h1
      obtain ⟨v, hv⟩ : ∃ v, sgV g n = v := ⟨_, rfl⟩
      have HV := z_ hv
      have HE2 : Hid ((out ++ [v]) ++ numM (ngT s.data.toList m) none (s.data.toList.drop m) = Z) := z_ (by
       have h1 := HE.out
       rw [HG.out, ← HM.out, HX.out, hv] at h1
       rw [List.append_assoc]
       exact h1)
      have hk3 : (k = 0 ∧ v = n) ∨ (∃ p, k = p + 1 ∧ ∃ hp : p < s.size, (s[p].toNat = 45 ∧ v = -(n : Int)) ∨ (s[p].toNat ≠ 45 ∧ v = n)) := by
       have hg2 := HG.out
       clear hgo hm0 HM HD HX HE HF HE2
       cases k with
       | zero =>
        have : g = false := hg2.symm
        subst this
        exact .inl ⟨rfl, hv.symm⟩
       | succ p =>
        have hp : p < s.size := by omega
        have hlp : p < s.data.toList.length := by have := HS.out; omega
        refine .inr ⟨p, rfl, hp, ?_⟩
        have e1 : ngT s.data.toList (p + 1) = (s[p] == 45) := by
         unfold ngT
         rw [Nat.add_sub_cancel, getD_at hlp]
         simp
         rfl
        rw [e1] at hg2
        by_cases h45 : s[p].toNat = 45
        ·have : s[p] = 45 := UInt8.toNat_inj.1 h45
         rw [this] at hg2
         have : g = true := hg2.symm
         subst this
         exact .inl ⟨h45, hv.symm⟩
        ·have : (s[p] == 45) = false := by
          cases hb : s[p] == 45 with
          | false => rfl
          | true =>
           have h6 : s[p] = 45 := by simpa using hb
           rw [h6] at h45
           exact absurd rfl h45
         rw [this] at hg2
         subst hg2
         exact .inr ⟨h45, hv.symm⟩
      clear hv hgo hm0 HM HD HX HE HF
      have hSr := HB.out.size
      have hcs2 : ¬ (m : Int) < s.size ∨ (∃ hm : m < s.size, ¬ (48 : Int) ≤ s[m].toNat) ∨ (∃ hm : m < s.size, (48 : Int) ≤ s[m].toNat ∧ ¬ (s[m].toNat : Int) ≤ 57) ∨ (∃ hm : m < s.size, (48 : Int) ≤ s[m].toNat ∧ (s[m].toNat : Int) ≤ 57 ∧ ¬ (n : Int) < 100000) := by
       rcases hcs with h1 | ⟨h0, h1⟩ | ⟨h0, h1⟩ | ⟨h0, h1, h2, h3⟩
       ·exact .inl (by omega)
       ·exact .inr (.inl ⟨h0, by omega⟩)
       ·exact .inr (.inr (.inl ⟨h0, by omega, by omega⟩))
       ·exact .inr (.inr (.inr ⟨h0, by omega, by omega, by omega⟩))
      clear hcs
      rcases hcs2 with h1 | ⟨h0, h1⟩ | ⟨h0, h1, h2⟩ | ⟨h0, h1, h2, h3⟩
      all_goals
       go_upto_region 10 with fail
       try clear h3
       have hk4 : (k = 0 ∧ v = n) ∨ (∃ p, k = p + 1 ∧ ∃ hp : p < s.size, (s[p].toNat : Int) = 45 ∧ v = -(n : Int)) ∨ (∃ p, k = p + 1 ∧ ∃ hp : p < s.size, ¬ (s[p].toNat : Int) = 45 ∧ v = n) := by
        rcases hk3 with h | ⟨p, h4, hp, ⟨h5, h6⟩ | ⟨h5, h6⟩⟩
        ·exact .inl h
        ·exact .inr (.inl ⟨p, h4, hp, by omega, h6⟩)
        ·exact .inr (.inr ⟨p, h4, hp, by omega, h6⟩)
       clear hk3
       rcases hk4 with ⟨rfl, rfl⟩ | ⟨p, rfl, hp, t7, rfl⟩ | ⟨p, rfl, hp, t7, rfl⟩
       all_goals
        go_wp2_with (at_builtin; refine wpList_append_own _ rfl (.tmp 65) (.tmp 67) 61 rfl w.heap.size 3 i1 (.int .i64 0) 1 8 Tryz.underlying61 hi hz0 hz1 hz2 rfl (by decide) _ out.length (out.map (Value.int .i64)) rfl (HO.out.alloc _) ⟨wr.heap.size, 0, none⟩ 1 1 [_] rfl rfl (new_text wr _ _) (fun u hu => by obtain rfl := List.mem_singleton.1 hu; rfl) (by unfold maxLen; omega) (by omega) (by simp; omega) ?_; intro v' w' hown hg5 _; have HO2 := z_ hown; have HG2 := z_ hg5; clear hown hg5)
        refine ⟨⟨m, out ++ [_], rfl, hms, by rw [List.length_append]; simp; omega, ?_, ?_, z_ HE2.out⟩, by simp [intOf]; omega⟩
        ·rw [List.length_append, List.map_append]; exact HO2.out
        ·exact (HB.out.alloc HB.out.size _).grown HG2.out (by simp; omega) (fun k hk => (HO.out.lt k hk).1)
  ·obtain rfl : k = s.size := by omega
   have hZo : out = Z := by
    have := HE.out
    rw [← HS.out, List.drop_length, num_nil, List.append_nil] at this
    exact this
   subst hZo
   obtain ⟨A, c, rfl⟩ := OI.shape HO.out
   go_wp2_with fail
   go_ret
   exact ⟨⟨A, c, rfl, HO.out⟩, HB.out⟩
theorem one_byteR (s : ByteArray) (k : Nat) (h : k < s.size) : s.extract k (k + 1) = ⟨#[s[k]]⟩ := by
 apply ByteArray.ext
 rw [ByteArray.data_extract]
 apply Array.ext
 ·simp; have : s.data.size = s.size := rfl; omega
 ·intro i h1 h2
  obtain rfl : i = 0 := by simp at h2; omega
  simp
  rfl
theorem bald_snoc (l : List UInt8) (c : UInt8) : baldT (l ++ [c]) = if numC c.toNat = true then baldT l else baldT l ++ [c] := by
 unfold baldT
 rw [List.filter_append]
 cases h : numC c.toNat with
 | true => rw [if_pos rfl]; simp [h]
 | false => rw [if_neg (by decide)]; simp [h]
theorem bald_len (l : List UInt8) : (baldT l).length ≤ l.length := List.length_filter_le _ _
set_option maxHeartbeats 4000000 in
theorem d10_bald (s : ByteArray) (w : World) (hs : s.size ≤ 100000) :
  Calls Tryz.prog 42 #[.string s] w fun e w' => e = .returned (.string ⟨(baldT s.data.toList).toArray⟩) ∧ w = w' := by
 have hsz : s.data.toList.length = s.size := Array.length_toList
 have HS := z_ hsz
 clear hsz
 go_enter Tryz.func42, Tryz.ntmps42
 go_wp2_with fail
 go_loop [3, 4] (fun v i => ∃ k : Nat, k ≤ s.size ∧ i = .int .i64 k ∧ v = .string ⟨(baldT (s.data.toList.take k)).toArray⟩) (fun _ i => s.size - (intOf i).toNat)
 case atStart => exact ⟨0, by omega, rfl, rfl⟩
 case round =>
  obtain ⟨k, hk, rfl, rfl⟩ := hrel
  by_cases hlt : k < s.size
  ·have hlk : k < s.data.toList.length := by have := HS.out; omega
   have htk : s.data.toList.take (k + 1) = s.data.toList.take k ++ [s[k]] := List.take_succ_eq_append_getElem hlk
   have hb := bald_snoc (s.data.toList.take k) s[k]
   rw [← htk] at hb
   have hlen := bald_len (s.data.toList.take k)
   rw [List.length_take] at hlen
   obtain ⟨X, hX⟩ : ∃ X : ByteArray, (⟨(baldT (s.data.toList.take k)).toArray⟩ : ByteArray) = X := ⟨_, rfl⟩
   rw [hX]
   have hXs : X.size ≤ 100000 := by rw [← hX, sz_len (baldT (s.data.toList.take k))]; omega
   cases hn : numC s[k].toNat with
   | true =>
    rw [hn, if_pos rfl] at hb
    have HB := z_ (hb.symm ▸ hX : (⟨(baldT (s.data.toList.take (k + 1))).toArray⟩ : ByteArray) = X)
    have hn2 : (48 ≤ s[k].toNat ∧ s[k].toNat ≤ 57) ∨ s[k].toNat = 43 ∨ s[k].toNat = 45 := by unfold numC at hn; simpa using hn
    clear hn hb htk hlen hX
    rcases hn2 with ⟨h1, h2⟩ | h1 | h1
    ·have t1 : ¬ (s[k].toNat : Int) < 48 := by omega
     have t2 : ¬ (57 : Int) < s[k].toNat := by omega
     go_wp2_with fail
     exact ⟨⟨k + 1, by omega, by go_num, by rw [HB.out]⟩, by simp [intOf]; omega⟩
    ·have t1 : (s[k].toNat : Int) = 43 := by omega
     go_wp2_with fail
     exact ⟨⟨k + 1, by omega, by go_num, by rw [HB.out]⟩, by simp [intOf]; omega⟩
    ·have t1 : (s[k].toNat : Int) = 45 := by omega
     go_wp2_with fail
     exact ⟨⟨k + 1, by omega, by go_num, by rw [HB.out]⟩, by simp [intOf]; omega⟩
   | false =>
    rw [hn, if_neg (by decide)] at hb
    have hn2 : (s[k].toNat < 48 ∨ 57 < s[k].toNat) ∧ s[k].toNat ≠ 43 ∧ s[k].toNat ≠ 45 := by
     unfold numC at hn
     simp at hn
     omega
    obtain ⟨h0, h1, h2⟩ := hn2
    have t3 : ((s[k].toNat : Int) != 43) = true := by rw [bne_iff_ne]; omega
    have t4 : ((s[k].toNat : Int) != 45) = true := by rw [bne_iff_ne]; omega
    have he : X ++ s.extract k (k + 1) = ⟨(baldT (s.data.toList.take (k + 1))).toArray⟩ := by
     have h5 : s.extract k (k + 1) = ⟨[s[k]].toArray⟩ := by
      rw [one_byteR s k hlt]
     rw [hb, ← hX, h5, str_add]
    have HE := z_ he
    clear he hb htk hlen hX hn
    rcases h0 with h0 | h0
    ·have t1 : (s[k].toNat : Int) < 48 := by omega
     go_wp2_with fail
     exact ⟨⟨k + 1, by omega, by go_num, by rw [HE.out]⟩, by simp [intOf]; omega⟩
    ·have t1 : ¬ (s[k].toNat : Int) < 48 := by omega
     have t2 : (57 : Int) < s[k].toNat := by omega
     go_wp2_with fail
     exact ⟨⟨k + 1, by omega, by go_num, by rw [HE.out]⟩, by simp [intOf]; omega⟩
  ·obtain rfl : k = s.size := by omega
   have htl : s.data.toList.take s.size = s.data.toList := by rw [← HS.out, List.take_length]
   rw [htl]
   go_wp2_with fail
   go_ret
   exact ⟨rfl, rfl⟩
end Go.Proofs.YtgaihekapakoeaaGreatDoor
