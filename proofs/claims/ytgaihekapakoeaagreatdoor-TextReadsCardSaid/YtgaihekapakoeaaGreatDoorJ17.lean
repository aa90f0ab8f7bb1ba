/-     -/
import Derived.Test.YtgaihekapakoeaaGreatDoorJ11
import Derived.Test.YtgaihekapakoeaaGreatDoorJ15
import Derived.Test.YtgaihekapakoeaaGreatDoorJ16
import Derived.Test.YtgaihekapakoeaaGreatDoorJ12
set_option linter.unusedVariables false
set_option linter.unusedSimpArgs false
namespace Go.Proofs.YtgaihekapakoeaaGreatDoor
open Go.RowKit


set_option maxRecDepth 100000

theorem bytesI_short (i : In) : (bytesI i).length ≤ 6 := by
 have h1 := aheadB_len i
 have h2 := midB_len i
 have h3 := immL_len i.m (needN i.s i.x i.o)
 unfold bytesI
 simp only [List.length_append]
 omega

set_option maxHeartbeats 4000000 in
theorem of_not (i : In) (hi : i.Wf) (hm : ¬ i.may = true) (w : World) : Calls Tryz.prog 13 #[i.val] w fun e w' => e = .returned (.tuple #[.string ⟨#[]⟩, .int .i64 2]) ∧ Below w.heap.size w w' := by
 obtain ⟨w1, hw1⟩ : ∃ w1, w.alloc (inO i) = w1 := ⟨_, rfl⟩
 have hL : InW w1 w.heap.size i := hw1 ▸ InW.laid w i
 have hb0 : Below w.heap.size w w1 := hw1 ▸ (Below.refl _ _).alloc (Nat.le_refl _) _
 have HL := z_ hL
 have HC := z_ (c9_bytes_no i hi hm w1)
 clear hL hm hi
 rw [in_val]
 unfold inO at hw1
 go_enter Tryz.func13, Tryz.ntmps13
 go_wp2_with (refine lr w.heap.size rfl rfl rfl HL.out ?_)
 refine HC.out.mono ?_
 rintro e w2 ⟨rfl, hb⟩
 go_wp2_with fail
 go_ret2
 exact ⟨rfl, hb0.trans (hb.mono hb0.size)⟩

set_option maxHeartbeats 4000000 in
theorem of_may (i : In) (hi : i.Wf) (hm : i.may = true) (w : World) (hV : VT w w.heap.size) : Calls Tryz.prog 13 #[i.val] w fun e w' => e = .returned (.tuple #[.string ⟨(textI i).toArray⟩, .int .i64 0]) ∧ Below w.heap.size w w' := by
 obtain ⟨w1, hw1⟩ : ∃ w1, w.alloc (inO i) = w1 := ⟨_, rfl⟩
 have hL : InW w1 w.heap.size i := hw1 ▸ InW.laid w i
 have hb0 : Below w.heap.size w w1 := hw1 ▸ (Below.refl _ _).alloc (Nat.le_refl _) _
 have HL := z_ hL
 have HC := z_ (c9_bytes_may i hi hm w1)
 have HI := z_ (fun (w2 : World) hV2 => isbytes_any i hm hi w2 hV2)
 have hsh := bytesI_short i
 have HD := z_ (fun (w2 : World) (A : Option Addr) c (h : RB w2 w2.heap.size A c (bytesI i)) hV2 => digits_of A c (bytesI i).length (bytesI i) w2 rfl h (by omega) hV2)
 have HT := z_ (fun (hb : isBytesI i = false) (w2 : World) hV2 => told_of i (tells_any i hm hi hb) w2 hV2)
 obtain ⟨t, ht⟩ : ∃ t, textI i = t := ⟨_, rfl⟩
 rw [ht]
 unfold textI at ht
 obtain ⟨q, hq⟩ : ∃ q, isBytesI i = q := ⟨_, rfl⟩
 rw [hq] at ht HI HT
 obtain ⟨n, hn⟩ : ∃ n, (bytesI i).length = n := ⟨_, rfl⟩
 rw [hn] at HC HD
 obtain ⟨bl, hbl⟩ : ∃ bl, bytesI i = bl := ⟨_, rfl⟩
 rw [hbl] at HC HD ht
 have HV := z_ hV
 clear hL hm hi hV hq hn hbl hsh
 rw [in_val]
 unfold inO at hw1
 cases q with
 | true =>
  rw [if_pos rfl] at ht
  rw [ht] at HD
  clear ht HT
  go_enter Tryz.func13, Tryz.ntmps13
  go_wp2_with (refine lr w.heap.size rfl rfl rfl HL.out ?_)
  refine HC.out.mono ?_
  rintro e w2 ⟨⟨A, c, rfl, hO⟩, hb⟩
  have HO := z_ hO
  have HB2 := z_ (hb0.trans (hb.mono hb0.size))
  have HL2 := z_ (HL.out.below hb HL.out.lt)
  have HI2 := z_ (HI.out w2 ((HV.out.below HB2.out).mono HB2.out.size))
  clear hO hb hb0 HL HC hw1
  go_wp2_with (refine lr w.heap.size rfl rfl rfl HL2.out ?_)
  refine HI2.out.mono ?_
  rintro e w3 ⟨rfl, hb3⟩
  have HB3 := z_ (HB2.out.trans (hb3.mono HB2.out.size))
  have hr := HO.out.rb.belowH hb3
  have HD3 := z_ (HD.out w3 A c hr ((HV.out.below HB3.out).mono HB3.out.size))
  clear hr hb3
  go_wp2_with fail
  refine HD3.out.mono ?_
  rintro e w4 ⟨rfl, hb4⟩
  go_wp2_with fail
  go_ret2
  exact ⟨rfl, HB3.out.trans (hb4.mono HB3.out.size)⟩
 | false =>
  rw [if_neg (by decide)] at ht
  have HT2 := z_ (HT.out rfl)
  rw [ht] at HT2
  clear ht HT HD
  go_enter Tryz.func13, Tryz.ntmps13
  go_wp2_with (refine lr w.heap.size rfl rfl rfl HL.out ?_)
  refine HC.out.mono ?_
  rintro e w2 ⟨⟨A, c, rfl, hO⟩, hb⟩
  have HB2 := z_ (hb0.trans (hb.mono hb0.size))
  have HL2 := z_ (HL.out.below hb HL.out.lt)
  have HI2 := z_ (HI.out w2 ((HV.out.below HB2.out).mono HB2.out.size))
  clear hO hb hb0 HL HC hw1
  go_wp2_with (refine lr w.heap.size rfl rfl rfl HL2.out ?_)
  refine HI2.out.mono ?_
  rintro e w3 ⟨rfl, hb3⟩
  have HB3 := z_ (HB2.out.trans (hb3.mono HB2.out.size))
  have HL3 := z_ (HL2.out.below hb3 HL2.out.lt)
  have HT3 := z_ (HT2.out w3 ((HV.out.below HB3.out).mono HB3.out.size))
  clear hb3 HL2 HI2
  go_wp2_with (refine lr w.heap.size rfl rfl rfl HL3.out ?_)
  refine HT3.out.mono ?_
  rintro e w4 ⟨rfl, hb4⟩
  go_wp2_with fail
  go_ret2
  exact ⟨rfl, HB3.out.trans (hb4.mono HB3.out.size)⟩
end Go.Proofs.YtgaihekapakoeaaGreatDoor
namespace Go.Proofs.YtgaihekapakoeaaGreatDoor
open Go.RowKit


theorem r9_of (A : Option Addr) (c n : Nat) (l : List Int) (w : World) (hn : n = l.length) (h : RB w w.heap.size A c l) : Calls Tryz.prog 32 #[.slice A n c] w (OfTo w l) := by
 rcases Nat.eq_zero_or_pos l.length with h0 | h0
 ·have : l = [] := List.eq_nil_of_length_eq_zero h0
  subst this
  exact r9_of_nil A c n (by simpa using hn) w
 ·by_cases hp : l.getD 0 0 = 221 ∨ l.getD 0 0 = 253
  ·by_cases h1 : l.length = 1
   ·exact r9_of_one A c n l w hn h h1 hp
   ·have h2 : 2 ≤ l.length := by omega
    cases hq : loneB (l.getD 1 0) with
    | true => exact r9_of_lone A c n l w hn h h2 hp hq
    | false =>
     by_cases h3 : l.getD 1 0 = 203
     ·exact r9_of_both A c n l w hn h h2 hp h3
     ·rcases hp with hp | hp
      ·exact r9_of_case3 A c n l w hn h hp ⟨h3, hq⟩ h2
      ·exact r9_of_case4 A c n l w hn h hp ⟨h3, hq⟩ h2
  ·by_cases h203 : l.getD 0 0 = 203
   ·exact r9_of_case1 A c n l w hn h h203 h0
   ·by_cases h237 : l.getD 0 0 = 237
    ·exact r9_of_case2 A c n l w hn h h237 h0
    ·exact r9_of_case0 A c n l w hn h ⟨fun e => hp (.inl e), fun e => hp (.inr e), h203, h237⟩ h0
end Go.Proofs.YtgaihekapakoeaaGreatDoor
namespace Go.Proofs.YtgaihekapakoeaaGreatDoor
open Go.RowKit


set_option maxRecDepth 100000

theorem itoa_three (k : Nat) (h1 : ¬ k < 100) (h2 : k < 1000) : Lib.itoa (k : Int) = [UInt8.ofNat (48 + k / 100), UInt8.ofNat (48 + k / 10 % 10), UInt8.ofNat (48 + k % 10)] := by
 unfold Lib.itoa
 rw [if_neg (by omega), Int.toNat_natCast, Lib.decDigits, dif_neg (by omega), Lib.decDigits_two (by omega) (by omega)]
 have : k / 10 / 10 = k / 100 := by omega
 rw [this]; rfl
theorem text_told {i : In} (hm : i.may = true) (hd : dbK i.s i.x i.o = false) : textI i = rend false i.d i.m (toksK i.s i.x i.o) := by
 unfold textI
 rw [isBytes_db hm, hd, if_neg (by decide)]; rfl
theorem text_bytes {i : In} (hm : i.may = true) (hd : dbK i.s i.x i.o = true) : textI i = bytesT (bytesI i) := by
 unfold textI
 rw [isBytes_db hm, hd, if_pos rfl]
def ex1 : In := ⟨0, 0, 62, 0, 5, 2⟩
def ex2 : In := ⟨0, 1, 126, -2, 0, 3⟩
def ex3 : In := ⟨3, 2, 192, 3, 0, 4⟩
def ex4 : In := ⟨0, 1, 0, 0, 0, 2⟩
def ex5 : In := ⟨2, 0, 176, 0, 0, 2⟩
theorem neg_two : Lib.itoa (-2) = [45, 50] := by
 unfold Lib.itoa
 rw [if_pos (by decide), show (-2 : Int).natAbs = 2 from rfl, Lib.decDigits_one (by decide)]; rfl
theorem text1 : textI ex1 = [76, 68, 32, 65, 44, 53] := by
 rw [text_told (by decide +kernel) (by decide +kernel), show toksK ex1.s ex1.x ex1.o = [76, 68, 32, 65, 44, 256] by decide +kernel]
 show [76, 68, 32, 65, 44] ++ (Lib.itoa ((5 : Nat) : Int) ++ []) = _
 rw [itoa_lt8 5 (by decide)]; rfl
theorem text2 : textI ex2 = [76, 68, 32, 65, 44, 40, 73, 88, 45, 50, 41] := by
 rw [text_told (by decide +kernel) (by decide +kernel), show toksK ex2.s ex2.x ex2.o = [76, 68, 32, 65, 44, 40, 73, 88, 258, 41] by decide +kernel]
 show [76, 68, 32, 65, 44, 40, 73, 88] ++ (signT false (-2) ++ [41]) = _
 rw [show signT false (-2) = Lib.itoa (-2) from rfl, neg_two]; rfl
theorem text3 : textI ex3 = [83, 69, 84, 32, 48, 44, 40, 73, 89, 43, 51, 41, 44, 66] := by
 rw [text_told (by decide +kernel) (by decide +kernel), show toksK ex3.s ex3.x ex3.o = [83, 69, 84, 32, 48, 44, 40, 73, 89, 258, 41, 44, 66] by decide +kernel]
 show [83, 69, 84, 32, 48, 44, 40, 73, 89] ++ (([43] ++ Lib.itoa ((3 : Nat) : Int)) ++ [41, 44, 66]) = _
 rw [itoa_lt8 3 (by decide)]; rfl
theorem text4 : textI ex4 = [68, 66, 32, 50, 50, 49, 44, 48] := by
 rw [text_bytes (by decide +kernel) (by decide +kernel), show bytesI ex4 = [221, 0] by decide +kernel, bytesT_eq]
 show [68, 66, 32] ++ (Lib.itoa ((221 : Nat) : Int) ++ (44 :: (Lib.itoa ((0 : Nat) : Int) ++ []))) = _
 rw [itoa_three 221 (by decide) (by decide), itoa_lt8 0 (by decide)]; rfl
theorem text5 : textI ex5 = [76, 68, 73, 82] := by
 rw [text_told (by decide +kernel) (by decide +kernel), show toksK ex5.s ex5.x ex5.o = [76, 68, 73, 82] by decide +kernel]
 rfl

def ParseOk (w : World) : Prop := ∀ i : In, i.Wf → i.may = true → ∀ w', Below w.heap.size w w' → Calls Tryz.prog 9 #[.string ⟨(textI i).toArray⟩] w' fun e w2 => e = .returned (.tuple #[i.val, .int .i64 0]) ∧ Below w'.heap.size w' w2
theorem ParseOk.on {w w' : World} (h : ParseOk w) (hb : Below w.heap.size w w') : ParseOk w' := fun i hi hm w2 h2 => h i hi hm w2 (hb.trans (h2.mono hb.size))
set_option maxHeartbeats 4000000 in
theorem c10_is (i : In) (hi : i.Wf) (hm : i.may = true) (t : List UInt8) (s : ByteArray) (hs : s = ⟨t.toArray⟩) (ht : textI i = t) (A : Option Addr) (c n : Nat) (l : List Int) (w : World) (hn : n = l.length) (h : RB w w.heap.size A c l) (hof : ofI l = some i) (hV : VT w w.heap.size) (hP : ParseOk w) :
  Calls Tryz.prog 12 #[.string s, .slice A n c] w fun e w' => e = .returned (.bool true) ∧ Below w.heap.size w w' := by
 have h1 := r9_of A c n l w hn h
 unfold OfTo at h1
 obtain ⟨e1, e2⟩ := ofE_some hof
 rw [e1, e2] at h1
 rw [in_val] at h1
 have H1 := z_ h1
 have h2 := fun (w2 : World) hV2 => of_may i hi hm w2 hV2
 have h3 := fun (w2 : World) hb => hP i hi hm w2 hb
 rw [ht, ← hs] at h2 h3
 simp only [in_val] at h2 h3
 have H2 := z_ h2
 have H3 := z_ h3
 have HV := z_ hV
 have hqq : (s.toList == s.toList) = true := beq_self_eq_true _
 clear h1 h2 h3 e1 e2 hof h hn hs ht hV hP hi hm
 go_enter Tryz.func12, Tryz.ntmps12
 go_wp2_with fail
 refine H1.out.mono ?_
 rintro e w2 ⟨rfl, hb2⟩
 obtain ⟨w3, hw3⟩ : ∃ w3, w2.alloc (inO i) = w3 := ⟨_, rfl⟩
 have hI3 : w3.heap[w2.heap.size]? = some (.cells #[.int .i64 i.s, .int .i64 i.x, .int .i64 i.o, .int .i64 i.d, .int .i64 i.m, .int .i64 i.n] 23 (0, 0)) := hw3 ▸ InW.laid w2 i
 have hB3 : Below w.heap.size w w3 := hw3 ▸ hb2.alloc hb2.size _
 have hlt3 : w2.heap.size < w3.heap.size := by rw [← hw3]; simp
 have HB3 := z_ hB3
 have H2b := z_ (H2.out w3 ((HV.out.below hB3).mono hB3.size))
 unfold inO at hw3
 clear hb2 hB3 H1 H2
 go_wp2_with (refine lr w2.heap.size rfl rfl rfl hI3 ?_)
 refine H2b.out.mono ?_
 rintro e w4 ⟨rfl, hb4⟩
 have hI4 := (hb4.block _ hlt3).trans hI3
 have hB4 := HB3.out.trans (hb4.mono HB3.out.size)
 have H3b := z_ (H3.out w4 hB4)
 have hlt4 : w2.heap.size < w4.heap.size := Nat.lt_of_lt_of_le hlt3 hb4.size
 clear hI3 hb4 HB3 H3 H2b hw3
 go_wp2_with fail
 refine H3b.out.mono ?_
 rintro e w5 ⟨rfl, hb5⟩
 have hI5 := (hb5.block _ hlt4).trans hI4
 have hB5 := hB4.trans (hb5.mono hB4.size)
 have hlt5 : w2.heap.size < w5.heap.size := Nat.lt_of_lt_of_le hlt4 hb5.size
 obtain ⟨w6, hw6⟩ : ∃ w6, w5.alloc (inO i) = w6 := ⟨_, rfl⟩
 have hJ6 : w6.heap[w5.heap.size]? = some (.cells #[.int .i64 i.s, .int .i64 i.x, .int .i64 i.o, .int .i64 i.d, .int .i64 i.m, .int .i64 i.n] 23 (0, 0)) := hw6 ▸ InW.laid w5 i
 have hI6 : w6.heap[w2.heap.size]? = some (.cells #[.int .i64 i.s, .int .i64 i.x, .int .i64 i.o, .int .i64 i.d, .int .i64 i.m, .int .i64 i.n] 23 (0, 0)) := by rw [← hw6]; exact (Lib.alloc_old w5 _ _ hlt5).trans hI5
 have hB6 : Below w.heap.size w w6 := hw6 ▸ hB5.alloc hB5.size _
 unfold inO at hw6
 clear hI4 hb5 hI5 H3b
 go_wp2_with (first
  | (refine wpList_load_ins (by kernel_rfl) 23 _ rfl w2.heap.size rfl _ _ (0, 0) _ hI6 Tryz.underlying23 rfl in_info ?_)
  | (refine wpList_load_ins (by kernel_rfl) 23 _ rfl w5.heap.size rfl _ _ (0, 0) _ hJ6 Tryz.underlying23 rfl in_info ?_))
 go_ret
 exact ⟨rfl, hB6⟩
end Go.Proofs.YtgaihekapakoeaaGreatDoor
namespace Go.Proofs.YtgaihekapakoeaaGreatDoor
open Go.RowKit


set_option maxRecDepth 100000

theorem rb_new (w : World) (l : List Int) (hb : AllB l) (hl : l.length ≤ 100) : RB (w.alloc (.cells (l.map (Value.int .u8)).toArray 5)) (w.alloc (.cells (l.map (Value.int .u8)).toArray 5)).heap.size (some ⟨w.heap.size, 0, none⟩) l.length l :=
 (OB.lit w l hb (by unfold maxLen; omega)).rb
theorem wf_ex1 : ex1.Wf := by constructor <;> rfl
theorem wf_ex2 : ex2.Wf := by constructor <;> rfl
theorem wf_ex3 : ex3.Wf := by constructor <;> rfl
theorem wf_ex4 : ex4.Wf := by constructor <;> rfl
theorem wf_ex5 : ex5.Wf := by constructor <;> rfl
theorem allb2 (a b : Int) (h : 0 ≤ a ∧ a < 256 ∧ 0 ≤ b ∧ b < 256) : AllB [a, b] := AllB.cons h.1 h.2.1 (AllB.one h.2.2.1 h.2.2.2)

theorem is_new (i : In) (hi : i.Wf) (hm : i.may = true) (t : List UInt8) (s : ByteArray) (hs : s = ⟨t.toArray⟩) (ht : textI i = t) (l : List Int) (hb : AllB l) (hl : l.length ≤ 100) (hof : ofI l = some i) (w : World) (hV : VT w w.heap.size) (hP : ParseOk w) :
  Calls Tryz.prog 12 #[.string s, .slice (some ⟨w.heap.size, 0, none⟩) l.length l.length] (w.alloc (.cells (l.map (Value.int .u8)).toArray 5)) fun e w' => e = .returned (.bool true) ∧ Below w.heap.size w w' := by
 have hb1 : Below w.heap.size w (w.alloc (.cells (l.map (Value.int .u8)).toArray 5)) := (Below.refl _ _).alloc (Nat.le_refl _) _
 refine (c10_is i hi hm t s hs ht _ _ _ l _ rfl (rb_new w l hb hl) hof ((hV.below hb1).mono hb1.size) (hP.on hb1)).mono ?_
 rintro e w' ⟨he, h2⟩
 exact ⟨he, hb1.trans (h2.mono hb1.size)⟩

set_option maxHeartbeats 4000000 in
theorem lives10 (w : World) (hV : VT w w.heap.size) (hP : ParseOk w) : Calls Tryz.prog 11 #[] w fun e w' => e = .returned (.bool true) ∧ Below w.heap.size w w' := by
 have H1 := z_ (is_new ex1 wf_ex1 (by decide +kernel) _ { data := #[76, 68, 32, 65, 44, 53] } rfl text1 [62, 5] (allb2 _ _ (by decide)) (by decide) (by decide +kernel) w hV hP)
 have H2 := z_ (fun (w2 : World) (hb : Below w.heap.size w w2) => is_new ex2 wf_ex2 (by decide +kernel) _ { data := #[76, 68, 32, 65, 44, 40, 73, 88, 45, 50, 41] } rfl text2 [221, 126, 254] (AllB.cons (by decide) (by decide) (allb2 _ _ (by decide))) (by decide) (by decide +kernel) w2 ((hV.below hb).mono hb.size) (hP.on hb))
 have H3 := z_ (fun (w2 : World) (hb : Below w.heap.size w w2) => is_new ex3 wf_ex3 (by decide +kernel) _ { data := #[83, 69, 84, 32, 48, 44, 40, 73, 89, 43, 51, 41, 44, 66] } rfl text3 [253, 203, 3, 192] (AllB.cons (by decide) (by decide) (AllB.cons (by decide) (by decide) (allb2 _ _ (by decide)))) (by decide) (by decide +kernel) w2 ((hV.below hb).mono hb.size) (hP.on hb))
 have H4 := z_ (fun (w2 : World) (hb : Below w.heap.size w w2) => is_new ex4 wf_ex4 (by decide +kernel) _ { data := #[68, 66, 32, 50, 50, 49, 44, 48] } rfl text4 [221, 0] (allb2 _ _ (by decide)) (by decide) (by decide +kernel) w2 ((hV.below hb).mono hb.size) (hP.on hb))
 have H5 := z_ (fun (w2 : World) (hb : Below w.heap.size w w2) => is_new ex5 wf_ex5 (by decide +kernel) _ { data := #[76, 68, 73, 82] } rfl text5 [237, 176] (allb2 _ _ (by decide)) (by decide) (by decide +kernel) w2 ((hV.below hb).mono hb.size) (hP.on hb))
 clear hV hP
 go_enter Tryz.func11, Tryz.ntmps11
 go_wp2_with fail
 refine H1.out.mono ?_
 rintro e w2 ⟨rfl, hb2⟩
 go_wp2_with fail
 refine (H2.out w2 hb2).mono ?_
 rintro e w3 ⟨rfl, hb3⟩
 have hB3 := hb2.trans (hb3.mono hb2.size)
 go_wp2_with fail
 refine (H3.out w3 hB3).mono ?_
 rintro e w4 ⟨rfl, hb4⟩
 have hB4 := hB3.trans (hb4.mono hB3.size)
 go_wp2_with fail
 refine (H4.out w4 hB4).mono ?_
 rintro e w5 ⟨rfl, hb5⟩
 have hB5 := hB4.trans (hb5.mono hB4.size)
 go_wp2_with fail
 refine (H5.out w5 hB5).mono ?_
 rintro e w6 ⟨rfl, hb6⟩
 have hB6 := hB5.trans (hb6.mono hB5.size)
 go_wp2_with fail
 go_ret
 exact ⟨rfl, hB6⟩
end Go.Proofs.YtgaihekapakoeaaGreatDoor
