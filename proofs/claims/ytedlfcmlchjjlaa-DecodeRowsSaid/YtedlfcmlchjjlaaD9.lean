
/- Instructions (chapter 9): whatever is read may be, its bytes are those that were read; bytes that are told are read again (pure). -/
import Derived.Test.YtedlfcmlchjjlaaD8
namespace Go.Proofs.Ytedlfcmlchjjlaa
open Go.RowKit
set_option linter.unusedSimpArgs false
set_option linter.unusedVariables false

theorem nd0 (o : Int) : needD 0 0 o = false := by unfold needD; simp
theorem nd1 (o : Int) : needD 1 0 o = false := by unfold needD; simp
theorem nd2 (o : Int) : needD 2 0 o = false := by unfold needD; simp
theorem nn1 (o : Int) : needN 1 0 o = 0 := by unfold needN; simp
theorem nn3 (x o : Int) : needN 3 x o = 0 := by unfold needN; simp
theorem isB {o : Int} (h0 : 0 ≤ o) (h1 : o < 256) : isByteI o = true := by unfold isByteI; simp; omega
theorem nd3 {x o : Int} (hx : x = 1 ∨ x = 2) (h0 : 0 ≤ o) (h1 : o < 256) : isOneI 3 x o = true ∧ needD 3 x o = true := by
  have h : isOneI 3 x o = true := by unfold isOneI; rw [isB h0 h1]; rcases hx with rfl | rfl <;> rfl
  exact ⟨h, by unfold needD; rw [h]; rfl⟩
theorem one_x0 {s x o : Int} (hs : s = 1 ∨ s = 2) (h : isOneI s x o = true) : x = 0 := by
  unfold isOneI at h
  rcases hs with rfl | rfl <;> simp at h <;> exact h.2
theorem hl_imm (o : Int) (h0 : 0 ≤ o) (h1 : o < 256) : hlI o = true → immM o ≤ 1 := byte_all (P := fun o => hlI o = true → immM o ≤ 1) (by decide +kernel) o h0 h1
theorem lenI_four {s x o : Int} (h : isOneI s x o = true) : lenI s x o ≤ 4 := by
  obtain ⟨hs, hx, h0, h1⟩ := one_cases h
  have hn := needN_in s x o
  have hx1 := num1_in (x != 0)
  unfold lenI
  rcases hs with rfl | rfl | rfl | rfl
  · have hd := num1_in (needD 0 x o)
    have : num1 ((0 : Int) != 0) = 0 := rfl
    by_cases hD : needD 0 x o = true
    · have hk : needN 0 x o ≤ 1 := by
        have hh := hD
        unfold needD at hh
        rw [if_pos rfl] at hh
        simp only [Bool.and_eq_true] at hh
        unfold needN
        rw [if_pos h, if_pos rfl]
        exact hl_imm o h0 h1 hh.2.2
      omega
    · have : needD 0 x o = false := by simpa using hD
      rw [this]
      have : num1 false = 0 := rfl
      omega
  · obtain rfl := one_x0 (.inl rfl) h
    rw [nd1, nn1]; decide
  · obtain rfl := one_x0 (.inr rfl) h
    rw [nd2]
    have h1 : num1 false = 0 := rfl
    have h2 : num1 ((0 : Int) != 0) = 0 := rfl
    have h3 : num1 ((2 : Int) != 0) = 1 := rfl
    omega
  · rw [nn3]
    have hd := num1_in (needD 3 x o)
    have h3 : num1 ((3 : Int) != 0) = 1 := rfl
    omega

theorem ops_asm (s x o d0 : Int) (q lt : List Int) (hd : needD s x o = true → lt.getD 2 0 = d0) (hq : lt.drop (lt.length - (needN s x o).toNat) = q) : opsI ⟨s, x, o, 0, 0, lenI s x o⟩ lt = asmI s x o d0 q := by
  unfold opsI asmI
  simp only [hq]
  by_cases h : needD s x o = true
  · rw [if_pos h, if_pos h, hd h]
  · rw [if_neg h, if_neg h]
theorem of_eq {l : List Int} {s x o : Int} {p : Nat} (hh : headL (l.getD 0 0) (l.getD 1 0) = ⟨s, x, p⟩) (hp : p < l.length) (ho : l.getD p 0 = o) (hn : lenI s x o ≤ l.length) : ofI l = some (opsI ⟨s, x, o, 0, 0, lenI s x o⟩ (l.take (lenI s x o).toNat)) := by
  have h0 : of0 l = ⟨s, x, o, 0, 0, 0⟩ := by unfold of0; rw [hh]; simp only [ho]
  unfold ofI
  rw [h0, hh]
  rw [if_neg (by simp only; omega), if_neg (show ¬ (l.length : Int) < (⟨s, x, o, 0, 0, 0⟩ : In).len from by show ¬ (l.length : Int) < lenI s x o; omega)]
  rfl
/-- What is known of an instruction that was read. -/
structure Got (l : List Int) (y : In) : Prop where
  may : y.may = true
  bytes : bytesI y = l.take y.n.toNat
  len : y.n.toNat ≤ l.length
  low : 1 ≤ y.n
  high : y.n ≤ 4
  d : -128 ≤ y.d ∧ y.d ≤ 127
  m : -65536 ≤ y.m ∧ y.m ≤ 65535
  cases : (y.s = 0 ∨ y.s = 1 ∨ y.s = 2 ∨ y.s = 3) ∧ (y.x = 0 ∨ y.x = 1 ∨ y.x = 2) ∧ 0 ≤ y.o ∧ y.o < 256
theorem got_asm {l : List Int} (s x o d0 : Int) (q : List Int) (h1 : isOneI s x o = true) (e0 : 0 ≤ d0) (e1 : d0 < 256) (hq : AllB q) (hl : (q.length : Int) = needN s x o)
    (hn : lenI s x o ≤ l.length) (ht : l.take (lenI s x o).toNat = preB x ++ setB s ++ (if s = 3 then [d0, o] else if needD s x o = true then [o, d0] else [o]) ++ q) : Got l (asmI s x o d0 q) := by
  have hm := asm_may s x o d0 q h1 e0 e1 hq hl
  have hlen := lenI_in s x o
  refine ⟨hm, (asm_bytes s x o d0 q h1 e0 e1 hq hl).trans ht.symm, ?_, hlen.2.1, lenI_four h1, ?_, ?_, one_cases h1⟩
  · show (lenI s x o).toNat ≤ l.length; omega
  · show -128 ≤ (if needD s x o = true then IntKind.i8.wrap d0 else 0) ∧ (if needD s x o = true then IntKind.i8.wrap d0 else 0) ≤ 127
    have := i8_in d0 e0 e1
    split <;> omega
  · have h2 := (may_one hm).2.2
    unfold In.ops at h2
    simp only [Bool.and_eq_true] at h2
    have h3 := h2.2
    have hk := needN_in s x o
    unfold fitsI at h3
    have : (asmI s x o d0 q).s = s ∧ (asmI s x o d0 q).x = x ∧ (asmI s x o d0 q).o = o := ⟨rfl, rfl, rfl⟩
    generalize (asmI s x o d0 q).m = m at *
    split at h3
    · simp at h3; omega
    · split at h3
      · split at h3 <;> simp at h3 <;> omega
      · split at h3 <;> simp at h3 <;> omega

theorem two_of {l : List Int} (h : 2 ≤ l.length) : ∃ r, l = l.getD 0 0 :: l.getD 1 0 :: r := by
  match l, h with
  | a :: b :: r, _ => exact ⟨r, rfl⟩
theorem four_of {l : List Int} (h : 4 ≤ l.length) : ∃ d0 r, l = l.getD 0 0 :: l.getD 1 0 :: d0 :: l.getD 3 0 :: r := by
  match l, h with
  | a :: b :: c :: d :: r, _ => exact ⟨c, r, rfl⟩
theorem idx_cases {a : Int} (h : ¬ idxB a = 0) : (a = 221 ∧ idxB a = 1) ∨ (a = 253 ∧ idxB a = 2) := by
  unfold idxB at h ⊢
  split at h
  · rename_i h1; subst h1; exact .inl ⟨rfl, rfl⟩
  · split at h
    · rename_i h1; subst h1; exact .inr ⟨rfl, rfl⟩
    · exact absurd rfl h

theorem of_got {l : List Int} (hb : AllB l) {y : In} (h : ofI l = some y) : Got l y := by
  obtain ⟨a0, a1⟩ := hb.getD 0
  obtain ⟨b0, b1⟩ := hb.getD 1
  have hu : ofI l = if l.length ≤ (headL (l.getD 0 0) (l.getD 1 0)).at_ then none else if (l.length : Int) < (of0 l).len then none else some (opsI { of0 l with n := (of0 l).len } (l.take (of0 l).len.toNat)) := rfl
  rw [h] at hu
  have h0 : of0 l = ⟨(headL (l.getD 0 0) (l.getD 1 0)).s, (headL (l.getD 0 0) (l.getD 1 0)).x, l.getD (headL (l.getD 0 0) (l.getD 1 0)).at_ 0, 0, 0, 0⟩ := rfl
  by_cases c1 : l.getD 0 0 = 203
  · have hh : headL (l.getD 0 0) (l.getD 1 0) = ⟨1, 0, 1⟩ := by unfold headL; rw [if_pos c1]
    rw [h0, hh] at hu
    simp only at hu
    by_cases c2 : l.length ≤ 1
    · rw [if_pos c2] at hu; cases hu
    · rw [if_neg c2] at hu
      obtain ⟨r, hr⟩ := two_of (l := l) (by omega)
      rw [c1] at hr
      generalize l.getD 1 0 = o at *
      have hL : lenI 1 0 o = 2 := by unfold lenI; rw [nd1, nn1]; rfl
      have e : (⟨1, 0, o, 0, 0, 0⟩ : In).len = lenI 1 0 o := rfl
      rw [e, hL] at hu
      rw [if_neg (by omega)] at hu
      have hI : isOneI 1 0 o = true := by unfold isOneI; rw [isB b0 b1]; rfl
      have hy : y = asmI 1 0 o 0 [] := by
        rw [← ops_asm 1 0 o 0 [] (l.take 2) (by rw [nd1]; intro h; cases h) (by rw [nn1]; simp), hL]
        exact Option.some.inj hu
      rw [hy]
      exact got_asm 1 0 o 0 [] hI (by decide) (by decide) AllB.nil (by rw [nn1]; rfl) (by omega) (by rw [hL, hr, nd1]; rfl)
  · by_cases c3 : l.getD 0 0 = 237
    · have hh : headL (l.getD 0 0) (l.getD 1 0) = ⟨2, 0, 1⟩ := by unfold headL; rw [if_neg c1, if_pos c3]
      rw [h0, hh] at hu
      simp only at hu
      by_cases c2 : l.length ≤ 1
      · rw [if_pos c2] at hu; cases hu
      · rw [if_neg c2] at hu
        obtain ⟨r, hr⟩ := two_of (l := l) (by omega)
        rw [c3] at hr
        generalize l.getD 1 0 = o at *
        obtain ⟨k, hk⟩ : ∃ k : Nat, needN 2 0 o = k := ⟨(needN 2 0 o).toNat, by have := needN_in 2 0 o; omega⟩
        have hL : lenI 2 0 o = ((2 + k : Nat) : Int) := by unfold lenI; rw [nd2, hk]; simp [num1]; omega
        have e : (⟨2, 0, o, 0, 0, 0⟩ : In).len = lenI 2 0 o := rfl
        rw [e, hL] at hu
        by_cases c4 : (l.length : Int) < ((2 + k : Nat) : Int)
        · rw [if_pos c4] at hu; cases hu
        · rw [if_neg c4, Int.toNat_natCast] at hu
          have hI : isOneI 2 0 o = true := by unfold isOneI; rw [isB b0 b1]; rfl
          have hrl : k ≤ r.length := by rw [hr] at c4; simp at c4; omega
          have ht : l.take (2 + k) = 237 :: o :: r.take k := by rw [hr, Nat.add_comm]; rfl
          have hq : AllB (r.take k) := by
            have : AllB r := fun n hn => hb n (by rw [hr]; simp [hn])
            exact this.take k
          have hql : (r.take k).length = k := by rw [List.length_take]; omega
          have hy : y = asmI 2 0 o 0 (r.take k) := by
            rw [← ops_asm 2 0 o 0 (r.take k) (l.take (2 + k)) (by rw [nd2]; intro h; cases h) (by rw [hk, ht, Int.toNat_natCast]; simp only [List.length_cons, hql]; rw [show k + 1 + 1 - k = 2 by omega]; rfl), hL]
            exact Option.some.inj hu
          rw [hy]
          exact got_asm 2 0 o 0 (r.take k) hI (by decide) (by decide) hq (by rw [hk, hql]) (by omega) (by rw [hL, Int.toNat_natCast, ht, nd2]; rfl)
    · by_cases c5 : idxB (l.getD 0 0) = 0 ∨ loneB (l.getD 1 0) = true
      · have hh : headL (l.getD 0 0) (l.getD 1 0) = ⟨0, 0, 0⟩ := by unfold headL; rw [if_neg c1, if_neg c3, if_pos c5]
        rw [h0, hh] at hu
        simp only at hu
        by_cases c2 : l.length ≤ 0
        · rw [if_pos c2] at hu; cases hu
        · rw [if_neg c2] at hu
          obtain ⟨r, hr⟩ : ∃ r, l = l.getD 0 0 :: r := by
            match l, c2 with
            | a :: r, _ => exact ⟨r, rfl⟩
          generalize l.getD 0 0 = o at *
          obtain ⟨k, hk⟩ : ∃ k : Nat, needN 0 0 o = k := ⟨(needN 0 0 o).toNat, by have := needN_in 0 0 o; omega⟩
          have hL : lenI 0 0 o = ((1 + k : Nat) : Int) := by unfold lenI; rw [nd0, hk]; simp [num1]
          have e : (⟨0, 0, o, 0, 0, 0⟩ : In).len = lenI 0 0 o := rfl
          rw [e, hL] at hu
          by_cases c4 : (l.length : Int) < ((1 + k : Nat) : Int)
          · rw [if_pos c4] at hu; cases hu
          · rw [if_neg c4, Int.toNat_natCast] at hu
            have hI : isOneI 0 0 o = true := by unfold isOneI; rw [isB a0 a1]; simp [c1, c3]
            have hrl : k ≤ r.length := by rw [hr] at c4; simp at c4; omega
            have ht : l.take (1 + k) = o :: r.take k := by rw [hr, Nat.add_comm]; rfl
            have hq : AllB (r.take k) := by
              have : AllB r := fun n hn => hb n (by rw [hr]; simp [hn])
              exact this.take k
            have hql : (r.take k).length = k := by rw [List.length_take]; omega
            have hy : y = asmI 0 0 o 0 (r.take k) := by
              rw [← ops_asm 0 0 o 0 (r.take k) (l.take (1 + k)) (by rw [nd0]; intro h; cases h) (by rw [hk, ht, Int.toNat_natCast]; simp only [List.length_cons, hql]; rw [show k + 1 - k = 1 by omega]; rfl), hL]
              exact Option.some.inj hu
            rw [hy]
            exact got_asm 0 0 o 0 (r.take k) hI (by decide) (by decide) hq (by rw [hk, hql]) (by omega) (by rw [hL, Int.toNat_natCast, ht, nd0]; rfl)
      · have c6 : ¬ idxB (l.getD 0 0) = 0 := fun h => c5 (.inl h)
        have c7 : loneB (l.getD 1 0) = false := by cases hl : loneB (l.getD 1 0); rfl; exact absurd (.inr hl) c5
        obtain ⟨x, hx, hx12, hpre⟩ : ∃ x, idxB (l.getD 0 0) = x ∧ (x = 1 ∨ x = 2) ∧ preB x = [l.getD 0 0] := by
          rcases idx_cases c6 with ⟨ha, hx⟩ | ⟨ha, hx⟩
          · exact ⟨1, hx, .inl rfl, by rw [ha]; rfl⟩
          · exact ⟨2, hx, .inr rfl, by rw [ha]; rfl⟩
        by_cases c8 : l.getD 1 0 = 203
        · have hh : headL (l.getD 0 0) (l.getD 1 0) = ⟨3, x, 3⟩ := by unfold headL; rw [if_neg c1, if_neg c3, if_neg c5, if_pos c8, hx]
          rw [h0, hh] at hu
          simp only at hu
          by_cases c2 : l.length ≤ 3
          · rw [if_pos c2] at hu; cases hu
          · rw [if_neg c2] at hu
            obtain ⟨d0, r, hr⟩ := four_of (l := l) (by omega)
            obtain ⟨o0, o1⟩ := hb.getD 3
            have hd := hb d0 (by rw [hr]; simp)
            generalize l.getD 3 0 = o at *
            rw [c8] at hr
            generalize l.getD 0 0 = a at *
            obtain ⟨hI, hD⟩ := nd3 hx12 o0 o1
            have hL : lenI 3 x o = 4 := by unfold lenI; rw [hD, nn3]; rcases hx12 with rfl | rfl <;> rfl
            have e : (⟨3, x, o, 0, 0, 0⟩ : In).len = lenI 3 x o := rfl
            rw [e, hL] at hu
            rw [if_neg (by omega)] at hu
            have ht : l.take 4 = [a, 203, d0, o] := by rw [hr]; rfl
            have hy : y = asmI 3 x o d0 [] := by
              rw [← ops_asm 3 x o d0 [] (l.take 4) (fun _ => by rw [ht]; rfl) (by rw [nn3]; simp), hL]
              exact Option.some.inj hu
            rw [hy]
            exact got_asm 3 x o d0 [] hI hd.1 hd.2 AllB.nil (by rw [nn3]; rfl) (by omega) (by rw [hL]; show l.take 4 = _; rw [ht, hpre]; rfl)
        · have hh : headL (l.getD 0 0) (l.getD 1 0) = ⟨0, x, 1⟩ := by unfold headL; rw [if_neg c1, if_neg c3, if_neg c5, if_neg c8, hx]
          rw [h0, hh] at hu
          simp only at hu
          by_cases c2 : l.length ≤ 1
          · rw [if_pos c2] at hu; cases hu
          · rw [if_neg c2] at hu
            obtain ⟨r, hr⟩ := two_of (l := l) (by omega)
            generalize l.getD 1 0 = o at *
            generalize l.getD 0 0 = a at *
            have hI : isOneI 0 x o = true := by
              unfold isOneI
              rw [isB b0 b1, if_pos rfl, if_pos hx12, c7]
              simp [c8]
            have hx0 : (x != 0) = true := by rcases hx12 with rfl | rfl <;> rfl
            obtain ⟨k, hk⟩ : ∃ k : Nat, needN 0 x o = k := ⟨(needN 0 x o).toNat, by have := needN_in 0 x o; omega⟩
            have hra : AllB r := fun n hn => hb n (by rw [hr]; simp [hn])
            have e : (⟨0, x, o, 0, 0, 0⟩ : In).len = lenI 0 x o := rfl
            by_cases hD : needD 0 x o = true
            · have hL : lenI 0 x o = ((3 + k : Nat) : Int) := by unfold lenI; rw [hD, hk, hx0]; simp [num1]; omega
              rw [e, hL] at hu
              by_cases c4 : (l.length : Int) < ((3 + k : Nat) : Int)
              · rw [if_pos c4] at hu; cases hu
              · rw [if_neg c4, Int.toNat_natCast] at hu
                match r, hr, hra with
                | [], hr, _ => rw [hr] at c4; simp at c4; omega
                | d0 :: r, hr, hra =>
                  obtain ⟨e0, e1⟩ := hra d0 (by simp)
                  have hrl : k ≤ r.length := by rw [hr] at c4; simp at c4; omega
                  have ht : l.take (3 + k) = a :: o :: d0 :: r.take k := by rw [hr, Nat.add_comm]; rfl
                  have hq : AllB (r.take k) := AllB.take (fun n hn => hra n (by simp [hn])) k
                  have hql : (r.take k).length = k := by rw [List.length_take]; omega
                  have hy : y = asmI 0 x o d0 (r.take k) := by
                    rw [← ops_asm 0 x o d0 (r.take k) (l.take (3 + k)) (fun _ => by rw [ht]; rfl) (by rw [hk, ht, Int.toNat_natCast]; simp only [List.length_cons, hql]; rw [show k + 1 + 1 + 1 - k = 3 by omega]; rfl), hL]
                    exact Option.some.inj hu
                  rw [hy]
                  exact got_asm 0 x o d0 (r.take k) hI e0 e1 hq (by rw [hk, hql]) (by omega) (by rw [hL, Int.toNat_natCast, ht, hpre, if_neg (by decide), if_pos hD]; rfl)
            · have hD' : needD 0 x o = false := by simpa using hD
              have hL : lenI 0 x o = ((2 + k : Nat) : Int) := by unfold lenI; rw [hD', hk, hx0]; simp [num1]; omega
              rw [e, hL] at hu
              by_cases c4 : (l.length : Int) < ((2 + k : Nat) : Int)
              · rw [if_pos c4] at hu; cases hu
              · rw [if_neg c4, Int.toNat_natCast] at hu
                have hrl : k ≤ r.length := by rw [hr] at c4; simp at c4; omega
                have ht : l.take (2 + k) = a :: o :: r.take k := by rw [hr, Nat.add_comm]; rfl
                have hq : AllB (r.take k) := hra.take k
                have hql : (r.take k).length = k := by rw [List.length_take]; omega
                have hy : y = asmI 0 x o 0 (r.take k) := by
                  rw [← ops_asm 0 x o 0 (r.take k) (l.take (2 + k)) (by rw [hD']; intro h; cases h) (by rw [hk, ht, Int.toNat_natCast]; simp only [List.length_cons, hql]; rw [show k + 1 + 1 - k = 2 by omega]; rfl), hL]
                  exact Option.some.inj hu
                rw [hy]
                exact got_asm 0 x o 0 (r.take k) hI (by decide) (by decide) hq (by rw [hk, hql]) (by omega) (by rw [hL, Int.toNat_natCast, ht, hpre, hD', if_neg (by decide), if_neg (by decide)]; rfl)

/-- The bytes of one that may be are as many as its length. -/
theorem bytesI_length {i : In} (hm : i.may = true) : ((bytesI i).length : Int) = i.n := by
  obtain ⟨h1, h2, h3⟩ := may_one hm
  obtain ⟨hs, hx, h0, h0'⟩ := one_cases h1
  have hk := needN_in i.s i.x i.o
  have hi := immL_length i.m (needN i.s i.x i.o) (by omega)
  rw [h2]
  show ((bytesI i).length : Int) = lenI i.s i.x i.o
  unfold bytesI
  rw [List.length_append, List.length_append]
  unfold aheadB midB lenI
  rw [List.length_append]
  have h3' : i.s = 3 → needD i.s i.x i.o = true := fun h => by unfold needD; rw [h1, h]; rfl
  have h12 : i.s = 1 → needD i.s i.x i.o = false := fun h => by unfold needD; rw [h1, h]; rfl
  have h22 : i.s = 2 → needD i.s i.x i.o = false := fun h => by unfold needD; rw [h1, h]; rfl
  generalize needN i.s i.x i.o = k at *
  generalize needD i.s i.x i.o = D at *
  generalize i.s = s at *
  generalize i.x = x at *
  push_cast
  rw [hi]
  rcases hs with rfl | rfl | rfl | rfl <;> rcases hx with rfl | rfl | rfl <;> cases D <;> simp_all [preB, setB, num1] <;> omega

theorem take_self {l r : List Int} {n : Nat} (h : l.length = n) : (l ++ r).take n = l := by subst h; simp
theorem of_bytes {i : In} (hm : i.may = true) (bh : Int) (hbh : i.s = 0 → (i.o = 221 ∨ i.o = 253) → loneB bh = true) : ofI (bytesI i ++ [bh]) = some i := by
  obtain ⟨h1, h2, h3⟩ := may_one hm
  obtain ⟨hs, hx, ho0, ho1⟩ := one_cases h1
  have hl := bytesI_length hm
  have hkk := needN_in i.s i.x i.o
  unfold In.ops at h3
  simp only [Bool.and_eq_true] at h3
  obtain ⟨hd, hf⟩ := h3
  have hq := number_imm i.m (needN i.s i.x i.o) (jumpI i.s i.o) hf (by omega) (fun h => rel_one h)
  have hql := immL_length i.m (needN i.s i.x i.o) (by omega)
  have hL : lenI i.s i.x i.o = i.n := h2.symm
  have hlo := (lenI_in i.s i.x i.o).2.1
  -- what is left of the question
  have key : ∀ p : Nat, headL ((bytesI i ++ [bh]).getD 0 0) ((bytesI i ++ [bh]).getD 1 0) = ⟨i.s, i.x, p⟩ → p < (bytesI i ++ [bh]).length → (bytesI i ++ [bh]).getD p 0 = i.o → (needD i.s i.x i.o = true → (bytesI i).getD 2 0 = i.d % 256) → ofI (bytesI i ++ [bh]) = some i := by
    intro p a1 a2 a3 a4
    rw [of_eq a1 a2 a3 (by rw [hL, List.length_append]; simp; omega), hL, take_self (n := i.n.toNat) (by omega), ← hL]
    have e := ops_asm i.s i.x i.o (i.d % 256) (immL i.m (needN i.s i.x i.o)) (bytesI i) a4 (by
      have e1 : bytesI i = (aheadB i ++ midB i) ++ immL i.m (needN i.s i.x i.o) := rfl
      have e2 : (bytesI i).length - (needN i.s i.x i.o).toNat = (aheadB i ++ midB i).length := by
        rw [e1, List.length_append]; omega
      rw [e2, e1]; exact List.drop_left)
    rw [e]
    unfold asmI
    rw [hq, hL]
    have hdd : (if needD i.s i.x i.o = true then IntKind.i8.wrap (i.d % 256) else 0) = i.d := by
      unfold fitsI at hd
      by_cases hD : needD i.s i.x i.o = true
      · rw [if_pos hD]
        rw [hD] at hd
        simp [num1] at hd
        exact i8_back i.d hd.1 hd.2
      · rw [if_neg hD]
        have : needD i.s i.x i.o = false := by simpa using hD
        rw [this] at hd
        simp [num1] at hd
        exact hd.symm
    rw [hdd]
  have hb : bytesI i = aheadB i ++ midB i ++ immL i.m (needN i.s i.x i.o) := rfl
  unfold aheadB midB at hb
  rcases hs with e | e | e | e
  · rw [e] at hb h1 hbh
    have hs0 : setB 0 = [] := rfl
    rw [hs0, List.append_nil, if_neg (by decide)] at hb
    rcases hx with f | f | f
    · rw [f] at hb h1
      rw [nd0, if_neg (by decide)] at hb
      have hn3 : i.o ≠ 203 ∧ i.o ≠ 237 := by
        unfold isOneI at h1; simp at h1; omega
      refine key 0 ?_ (by rw [List.length_append]; simp) (by rw [hb]; rfl) (by rw [e, f, nd0]; intro h; cases h)
      rw [hb]
      show headL i.o _ = _
      unfold headL
      rw [if_neg hn3.1, if_neg hn3.2, if_pos, e, f]
      by_cases hi : idxB i.o = 0
      · exact .inl hi
      · right
        have ho : i.o = 221 ∨ i.o = 253 := by rcases idx_cases hi with h | h <;> omega
        have hk0 : needN 0 0 i.o = 0 := by rcases ho with h | h <;> rw [h] <;> decide
        rw [hk0]
        exact hbh rfl ho
    · rw [f] at hb h1
      have hn : i.o ≠ 203 ∧ loneB i.o = false := by unfold isOneI at h1; simp at h1; exact h1.2
      refine key 1 ?_ (by rw [hb]; split <;> simp [preB] <;> omega) (by rw [hb]; split <;> rfl) (by rw [e, f]; intro h; rw [hb, if_pos h]; rfl)
      have hg : (bytesI i ++ [bh]).getD 0 0 = 221 ∧ (bytesI i ++ [bh]).getD 1 0 = i.o := by rw [hb]; split <;> exact ⟨rfl, rfl⟩
      rw [hg.1, hg.2, e, f]
      unfold headL
      rw [if_neg (by decide), if_neg (by decide), if_neg (by rw [hn.2]; decide), if_neg hn.1]; rfl
    · rw [f] at hb h1
      have hn : i.o ≠ 203 ∧ loneB i.o = false := by unfold isOneI at h1; simp at h1; exact h1.2
      refine key 1 ?_ (by rw [hb]; split <;> simp [preB] <;> omega) (by rw [hb]; split <;> rfl) (by rw [e, f]; intro h; rw [hb, if_pos h]; rfl)
      have hg : (bytesI i ++ [bh]).getD 0 0 = 253 ∧ (bytesI i ++ [bh]).getD 1 0 = i.o := by rw [hb]; split <;> exact ⟨rfl, rfl⟩
      rw [hg.1, hg.2, e, f]
      unfold headL
      rw [if_neg (by decide), if_neg (by decide), if_neg (by rw [hn.2]; decide), if_neg hn.1]; rfl
  · rw [e] at hb h1
    have f := one_x0 (.inl rfl) h1
    rw [f, nd1, nn1] at hb
    refine key 1 ?_ (by rw [hb]; simp [setB, preB]) (by rw [hb]; rfl) (by rw [e, f, nd1]; intro h; cases h)
    rw [hb, e, f]; rfl
  · rw [e] at hb h1
    have f := one_x0 (.inr rfl) h1
    rw [f, nd2] at hb
    refine key 1 ?_ (by rw [hb]; simp [setB, preB]) (by rw [hb]; rfl) (by rw [e, f, nd2]; intro h; cases h)
    rw [hb, e, f]; rfl
  · rw [e] at hb h1
    have hx12 : i.x = 1 ∨ i.x = 2 := by unfold isOneI at h1; simp at h1; exact h1.2
    rw [nn3, if_pos rfl] at hb
    refine key 3 ?_ (by rw [hb]; rcases hx12 with f | f <;> rw [f] <;> simp [setB, preB]) (by rw [hb]; rcases hx12 with f | f <;> rw [f] <;> rfl) (fun _ => by rw [hb]; rcases hx12 with f | f <;> rw [f] <;> rfl)
    rw [hb, e]
    rcases hx12 with f | f <;> rw [f] <;> rfl
end Go.Proofs.Ytedlfcmlchjjlaa
