/-   -/
import Derived.Test.YtgaihekapakoeaaGreatDoorZRD
import Derived.Test.YtgaihekapakoeaaGreatDoorJ25
import Derived.Test.YtgaihekapakoeaaGreatDoorJ29
import Derived.Test.YtgaihekapakoeaaGreatDoorJ17
set_option linter.unusedVariables false
set_option linter.unusedSimpArgs false
namespace Go.Proofs.YtgaihekapakoeaaGreatDoor
open Go.RowKit


set_option maxRecDepth 100000

def likeB (s x o : Int) (S : ByteArray) : Bool := decide ((fitIn s x o 0 0).may = true) && decide ((⟨(baldT (textI (fitIn s x o 0 0))).toArray⟩ : ByteArray) = S)
theorem like_of (s x o : Int) (S : ByteArray) : (decide (ofEr (fitIn s x o 0 0) = 0) && decide ((⟨(baldT (ofTx (fitIn s x o 0 0))).toArray⟩ : ByteArray) = S)) = likeB s x o S := by
 unfold ofEr ofTx likeB
 by_cases h : (fitIn s x o 0 0).may = true
 ·simp [h]
 ·simp [h]
theorem ofTx_short (i : In) : (ofTx i).length ≤ 18 := by
 unfold ofTx
 split
 ·rename_i h; exact text_short h
 ·simp
set_option maxHeartbeats 16000000 in
theorem d10_like (s x o : Int) (S : ByteArray) (hOf : OfR) (hx0 : 0 ≤ x) (hX : (fitIn s x o 0 0).Wf) (w : World) :
  Calls Tryz.prog 43 #[.int .i64 s, .int .i64 x, .int .i64 o, .string S] w fun e w' => e = .returned (.bool (likeB s x o S)) ∧ Below w.heap.size w w' := by
 have hF := fun w => d10_fits s x o 0 0 S hOf hx0 hX w
 have hO := fun w => hOf (fitIn s x o 0 0) hX w
 have hq := like_of s x o S
 have hl := ofTx_short (fitIn s x o 0 0)
 obtain ⟨I, hI⟩ : ∃ I, fitIn s x o 0 0 = I := ⟨_, rfl⟩
 rw [hI] at hq hl
 simp only [hI] at hF hO
 obtain ⟨q, hQ⟩ : ∃ q, likeB s x o S = q := ⟨_, rfl⟩
 rw [hQ] at hq ⊢
 obtain ⟨c, hc⟩ : ∃ c, isT I S = c := ⟨_, rfl⟩
 simp only [hc] at hF
 have hB := fun w => d10_bald ⟨(ofTx I).toArray⟩ w (by rw [sz_len (ofTx I)]; omega)
 simp only [show (⟨(ofTx I).toArray⟩ : ByteArray).data.toList = ofTx I from rfl] at hB
 obtain ⟨T, hT⟩ : ∃ T : ByteArray, (⟨(ofTx I).toArray⟩ : ByteArray) = T := ⟨_, rfl⟩
 obtain ⟨R, hR⟩ : ∃ R : ByteArray, (⟨(baldT (ofTx I)).toArray⟩ : ByteArray) = R := ⟨_, rfl⟩
 obtain ⟨E, hE⟩ : ∃ E, ofEr I = E := ⟨_, rfl⟩
 simp only [hT, hR, hE] at hB hO
 rw [hR, hE] at hq
 have hq3 : (E = 0 ∧ R = S ∧ q = true) ∨ (E = 0 ∧ R ≠ S ∧ q = false) ∨ (E ≠ 0 ∧ q = false) := by
  by_cases h1 : E = 0
  ·by_cases h2 : R = S
   ·exact .inl ⟨h1, h2, by rw [← hq]; simp [h1, h2]⟩
   ·exact .inr (.inl ⟨h1, h2, by rw [← hq]; simp [h1, h2]⟩)
  ·exact .inr (.inr ⟨h1, by rw [← hq]; simp [h1]⟩)
 rw [in_val] at hF
 simp only [show I.val = Value.agg I.cells from rfl] at hO
 have HF := z_ hF
 have HO := z_ hO
 have HBd := z_ hB
 clear hF hO hB hq hl hI hQ hc hT hR hE
 go_enter Tryz.func43, Tryz.ntmps43
 go_upto_region 2 with (first
  | (go_at_call 44; (with_reducible refine (HF.out _).mono ?_); rintro e w3 ⟨rfl, hb3⟩)
  | (refine sr w3.heap.size rfl rfl rfl rfl (InW.laid w3 zeroI) (in_one I) ?_))
 obtain ⟨w4, hw4⟩ : ∃ w4, (w3.alloc (inO zeroI)).setRow w3.heap.size I.cells = w4 := ⟨_, rfl⟩
 have hI4 : InW w4 w3.heap.size I := hw4 ▸ setRow_heap _ _ _ _ _ _ (InW.laid w3 zeroI)
 have hs3 := hb3.size
 have hb34 : Below w.heap.size w w4 := hw4 ▸ below_setRow (hb3.alloc hs3 _) (by omega) _
 have HI4 := z_ hI4
 have HB4 := z_ hb34
 unfold inO zeroI In.cells at hw4
 simp only at hw4
 rw [hw4]
 clear hw4 hI4 hs3 hb34 hb3 HF
 obtain ⟨f1, f2, f3⟩ | ⟨f1, f2, f3⟩ | ⟨f1, f3⟩ := hq3
 ·subst f1 f2 f3
  go_wp2_with (first
   | (refine lr w3.heap.size rfl rfl rfl HI4.out ?_)
   | (go_at_call 42; (with_reducible refine (HBd.out _).mono ?_); rintro e w6 ⟨rfl, rfl⟩)
   | (go_at_call 14; (with_reducible refine (HO.out _).mono ?_); rintro e w5 ⟨rfl, hb5⟩; have HB5 := z_ (HB4.out.trans (hb5.mono HB4.out.size)); clear hb5))
  go_ret
  exact ⟨rfl, HB5.out⟩
 ·subst f1 f3
  have f4 : (R.toList == S.toList) = false := ne_toList f2
  go_wp2_with (first
   | (refine lr w3.heap.size rfl rfl rfl HI4.out ?_)
   | (go_at_call 42; (with_reducible refine (HBd.out _).mono ?_); rintro e w6 ⟨rfl, rfl⟩)
   | (go_at_call 14; (with_reducible refine (HO.out _).mono ?_); rintro e w5 ⟨rfl, hb5⟩; have HB5 := z_ (HB4.out.trans (hb5.mono HB4.out.size)); clear hb5))
  go_ret
  exact ⟨rfl, HB5.out⟩
 ·subst f3
  go_wp2_with (first
   | (refine lr w3.heap.size rfl rfl rfl HI4.out ?_)
   | (go_at_call 14; (with_reducible refine (HO.out _).mono ?_); rintro e w5 ⟨rfl, hb5⟩; have HB5 := z_ (HB4.out.trans (hb5.mono HB4.out.size)); clear hb5))
  go_ret
  exact ⟨rfl, HB5.out⟩
end Go.Proofs.YtgaihekapakoeaaGreatDoor
namespace Go.Proofs.YtgaihekapakoeaaGreatDoor
open Go.RowKit


set_option maxRecDepth 100000

theorem OI.at_ {w : World} {base c : Nat} {A : Option Addr} {l : List Int} (h : OI w base A c l) :
  l.length ≤ c ∧ c ≤ maxLen ∧ (0 < l.length → ∃ b o, A = some ⟨b, o, none⟩ ∧ b < w.heap.size ∧ ∀ i, i < l.length → w.cell? ⟨b, o + i, none⟩ = some (.int .i64 (l.getD i 0))) := by
 unfold OI at h
 rcases h.2 with ⟨h1, h2⟩ | ⟨g, cap, cur, h1, hb, hg, hn, hm, hs⟩
 ·injection h1 with h3 h4 h5
  exact ⟨by omega, by subst h5; unfold maxLen; omega, fun h0 => absurd h0 (by omega)⟩
 ·injection h1 with h3 h4 h5
  subst h3
  have hlt := (h.lt g rfl).2
  refine ⟨by omega, by omega, fun h0 => ⟨g, 0, rfl, hlt, fun i hi => ?_⟩⟩
  rw [h.cellAt _ (by omega), Nat.zero_add]
  simp [List.getD_eq_getElem?_getD, hi]
theorem take_int {Z : List Int} {j : Nat} (hj : j < Z.length) : Z.take (j + 1) = Z.take j ++ [Z.getD j 0] := by
 rw [List.take_succ_eq_append_getElem hj]
 simp [List.getD_eq_getElem?_getD, hj]
theorem num_len : ∀ (l : List UInt8) (g : Bool) (cur : Option Nat), (numM g cur l).length ≤ (if cur = none then 0 else 1) + l.length
 | [], g, none => by rw [num_nil]; simp
 | [], g, some n => by rw [num_nils]; simp
 | c :: r, g, none => by
  rw [num_cons, List.length_cons]
  split
  ·have := num_len r g (some (c.toNat - 48))
   rw [if_neg (by simp)] at this
   omega
  ·have := num_len r (c == 45) none
   rw [if_pos rfl] at this
   omega
 | c :: r, g, some n => by
  rw [num_more, List.length_cons, show (if (some n : Option Nat) = none then 0 else 1) = 1 from rfl]
  split
  ·split
   ·have := num_len r g (some (n * 10 + (c.toNat - 48)))
    rw [if_neg (by simp)] at this
    omega
   ·have := num_len r false (some (c.toNat - 48))
    rw [if_neg (by simp)] at this
    rw [List.length_cons]
    omega
  ·have := num_len r (c == 45) none
   rw [if_pos rfl] at this
   rw [List.length_cons]
   omega
theorem all_bad {Z : List Int} {k : Nat} (hk : k < Z.length) (h : inB (Z.getD k 0) = false) : Z.all inB = false := by
 cases ha : Z.all inB with
 | false => rfl
 | true =>
  have := List.all_eq_true.1 ha (Z.getD k 0) (by rw [List.getD_eq_getElem?_getD, List.getElem?_eq_getElem hk]; exact List.getElem_mem hk)
  rw [h] at this
  cases this
theorem dbR_cases {s : List UInt8} {Z : List Int} {r : Option In} (hX : r = if Z.all inB = true then (match ofI (dbL Z) with | some y => if y.may = true ∧ textI y = s then some y else none | none => none) else none) (hall : Z.all inB = true) :
  (ofE (dbL Z) ≠ 0 ∧ r = none) ∨ (ofE (dbL Z) = 0 ∧ (ofV (dbL Z)).Wf ∧ ofEr (ofV (dbL Z)) = 0 ∧ (((⟨(ofTx (ofV (dbL Z))).toArray⟩ : ByteArray) ≠ ⟨s.toArray⟩ ∧ r = none) ∨ ((⟨(ofTx (ofV (dbL Z))).toArray⟩ : ByteArray) = ⟨s.toArray⟩ ∧ r = some (ofV (dbL Z))))) := by
 have hb := all_inB.1 hall
 have hbL : AllB (dbL Z) := by
  unfold dbL
  split
  ·exact hb.append (AllB.one (by decide) (by decide))
  ·exact hb
 rw [if_pos hall] at hX
 cases ho : ofI (dbL Z) with
 | none =>
  rw [ho] at hX
  exact .inl ⟨by rw [(ofE_none ho).2]; decide, hX⟩
 | some y =>
  have hX : r = if y.may = true ∧ textI y = s then some y else none := by rw [ho] at hX; exact hX
  have hg := of_got hbL ho
  obtain ⟨h1, h2⟩ := ofE_some ho
  rw [h1]
  refine .inr ⟨h2, hg.wf, by unfold ofEr; rw [if_pos hg.may], ?_⟩
  have ht : ofTx y = textI y := by unfold ofTx; rw [if_pos hg.may]
  rw [ht]
  by_cases he : textI y = s
  ·exact .inr ⟨by rw [he], by rw [hX, if_pos ⟨hg.may, he⟩]⟩
  ·exact .inl ⟨fun h => he (arr_inj h), by rw [hX, if_neg (fun h => he h.2)]⟩
theorem parse10_long (w : World) (s : ByteArray) (hs : 60 < s.size) (hs2 : s.size ≤ 100000) :
  Calls Tryz.prog 20 #[.string s] w fun e w' => e = .returned (.tuple #[zeroI.val, .int .i64 11]) ∧ Below w.heap.size w w' := by
 obtain ⟨w1, hw1⟩ : ∃ w1, w.alloc (inO zeroI) = w1 := ⟨_, rfl⟩
 have hb1 : Below w.heap.size w w1 := hw1 ▸ (Below.refl _ _).alloc (Nat.le_refl _) _
 have hr1 : InW w1 w.heap.size zeroI := hw1 ▸ InW.laid w zeroI
 have hz : (60 : Int) < s.size := by omega
 have HB := z_ hb1
 have HR := z_ hr1
 unfold inO zeroI at hw1
 clear hb1 hr1
 go_enter Tryz.func20, Tryz.ntmps20
 go_wp2_with (refine sr w.heap.size rfl rfl rfl rfl HR.out (in_one zeroI) ?_)
 (try simp only [Exit.inBlock, Exit.then])
 exact bodyPost_ret (results_ins_tmp rfl _ _ _ zeroI _ rfl rfl (setRow_heap _ _ _ _ _ _ HR.out)) rfl ⟨rfl, below_setRow HB.out (Nat.le_refl _) _⟩
set_option maxHeartbeats 16000000 in
theorem parse10_db (hOf : OfR) (s : List UInt8) (hs : s.length ≤ 60) (hd : dbS s = true) (w : World) :
  Calls Tryz.prog 20 #[.string ⟨s.toArray⟩] w fun e w' => e = .returned (.tuple #[((dbR s).getD zeroI).val, .int .i64 (optE (dbR s))]) ∧ Below w.heap.size w w' := by
 obtain ⟨w1, hw1⟩ : ∃ w1, w.alloc (inO zeroI) = w1 := ⟨_, rfl⟩
 have hb1 : Below w.heap.size w w1 := hw1 ▸ (Below.refl _ _).alloc (Nat.le_refl _) _
 have hr1 : InW w1 w.heap.size zeroI := hw1 ▸ InW.laid w zeroI
 have hsz : (⟨s.toArray⟩ : ByteArray).size = s.length := sz_len s
 have hN := d10_numbers ⟨s.toArray⟩ w1 (by omega)
 simp only [show (⟨s.toArray⟩ : ByteArray).data.toList = s from rfl] at hN
 have hX : dbR s = if (numM false none s).all inB = true then (match ofI (dbL (numM false none s)) with | some y => if y.may = true ∧ textI y = s then some y else none | none => none) else none := rfl
 have hd2 : 3 < s.length ∧ s.take 3 = [68, 66, 32] := by
  unfold dbS at hd
  simpa using hd
 have hpre : ((⟨s.toArray⟩ : ByteArray).extract 0 3).toList = ByteArray.toList ⟨#[68, 66, 32]⟩ := by
  rw [head_text, hd2.2]
 obtain ⟨Z, hZ⟩ : ∃ Z, numM false none s = Z := ⟨_, rfl⟩
 obtain ⟨r, hr⟩ : ∃ r, dbR s = r := ⟨_, rfl⟩
 rw [hZ] at hN
 rw [hr, hZ] at hX
 rw [hr]
 have hZl : Z.length ≤ 60 := by
  have := num_len s false none
  rw [hZ, if_pos rfl] at this
  omega
 obtain ⟨S, hS⟩ : ∃ S : ByteArray, (⟨s.toArray⟩ : ByteArray) = S := ⟨_, rfl⟩
 rw [hS] at hN hsz hpre ⊢
 have t0 : ¬ (60 : Int) < S.size := by omega
 have t1 : (3 : Int) < S.size := by omega
 have t2 : 3 ≤ S.size := by omega
 have hpr : ((S.extract 0 3).toList == [68, 66, 32]) = true := by rw [hpre, show ByteArray.toList ⟨#[68, 66, 32]⟩ = [68, 66, 32] from by first | rfl | decide | simp [ByteArray.toList_eq]]; rfl
 have HS := z_ hS
 have HX := z_ hX
 have HN := z_ hN
 have HB := z_ hb1
 have HR := z_ hr1
 unfold inO zeroI at hw1
 clear hb1 hr1 hN hX hS hZ hr hd hd2 hsz hpre hs
 go_enter Tryz.func20, Tryz.ntmps20
 go_wp2_with (go_at_call 41; (with_reducible refine HN.out.mono ?_); rintro e w2 ⟨⟨A, c, rfl, ho2⟩, hb2⟩)
 obtain ⟨q1, q2, q3⟩ := ho2.at_
 have HQ := z_ q3
 have HB2 := z_ hb2
 have hs2 := hb2.size
 have hmax : c ≤ maxLen := q2
 unfold maxLen at hmax
 clear ho2 q3 hb2 HN hpr t0 t1 t2 q2
 go_loopw [5, 6] (fun v i wr => ∃ (k : Nat) (B : Option Addr) (d : Nat), i = .int .i64 k ∧ k ≤ Z.length ∧ v = .slice B (Z.take k).length d ∧ OB wr w2.heap.size B d (Z.take k) ∧ Below w2.heap.size w2 wr) (fun _ i _ => Z.length - (intOf i).toNat)
 case atStart => exact ⟨0, none, 0, rfl, by omega, rfl, OB.nil _ _, Below.refl _ _⟩
 case round =>
  rename World => wr
  obtain ⟨k, B, d, rfl, hkl, rfl, ho, hb⟩ := hrel
  by_cases hk : k < Z.length
  ·obtain ⟨b2, o2, rfl, hbb, hat⟩ := HQ.out (by omega)
   have d0 := (World.cell?_of_block (hb.block b2 hbb)).trans (hat k hk)
   have htk := take_int hk
   have hbad := all_bad hk
   obtain ⟨z, hz⟩ : ∃ z, Z.getD k 0 = z := ⟨_, rfl⟩
   rw [hz] at d0 htk hbad
   have HTk := z_ htk
   have HO := z_ ho
   have HBr := z_ hb
   have hlen : (Z.take k).length = k := by rw [List.length_take]; omega
   clear hat hz htk ho hb
   cases hin : inB z with
   | false =>
    have hXn : r = none := by rw [HX.out, hbad hin]; rfl
    subst hXn
    have hR3 : InW wr w.heap.size zeroI := (HR.out.below (HB2.out.mono (Nat.le_refl _)) HR.out.lt).below HBr.out (by have := HR.out.lt; omega)
    have HR3 := z_ hR3
    have hB3 : Below w.heap.size w wr := (HB.out.trans (HB2.out.mono HB.out.size)).trans (HBr.out.mono (Nat.le_trans HB.out.size hs2))
    have HB3 := z_ hB3
    have hzz : z < 0 ∨ 255 < z := by
     unfold inB at hin
     simp at hin
     omega
    clear hbad hin hR3 hB3 HX
    rcases hzz with h0 | h0
    ·go_wp2_with (refine sr w.heap.size rfl rfl rfl rfl HR3.out (in_one zeroI) ?_)
     (try simp only [Exit.inBlock, Exit.then])
     exact bodyPost_ret (results_ins_tmp rfl _ _ _ zeroI _ rfl rfl (setRow_heap _ _ _ _ _ _ HR3.out)) rfl ⟨rfl, below_setRow HB3.out (Nat.le_refl _) _⟩
    ·have h1 : ¬ z < 0 := by omega
     go_wp2_with (refine sr w.heap.size rfl rfl rfl rfl HR3.out (in_one zeroI) ?_)
     (try simp only [Exit.inBlock, Exit.then])
     exact bodyPost_ret (results_ins_tmp rfl _ _ _ zeroI _ rfl rfl (setRow_heap _ _ _ _ _ _ HR3.out)) rfl ⟨rfl, below_setRow HB3.out (Nat.le_refl _) _⟩
   | true =>
    have hzz : 0 ≤ z ∧ z ≤ 255 := by unfold inB at hin; simpa using hin
    obtain ⟨z0, z1⟩ := hzz
    have h1 : ¬ z < 0 := by omega
    have h2 : ¬ (255 : Int) < z := by omega
    have hS2 := HBr.out.size
    obtain ⟨P, hP⟩ : ∃ P, Z.take k = P := ⟨_, rfl⟩
    rw [hP] at HO HTk hlen ⊢
    rw [hlen]
    clear hbad hin hP
    go_wp2_with (at_builtin; refine wpList_append_rb _ rfl _ _ rfl w2.heap.size _ _ _ _ P rfl hlen.symm (HO.out.alloc _) _ _ _ [_] rfl rfl (RB.lit1 _ _ (by omega) (by omega)) (by simp; omega) (by simp; omega) ?_; intro A' c' w6 hob hbel hne; have HO6 := z_ hob; have HB6 := z_ hbel; clear hob hbel hne)
    refine ⟨⟨k + 1, A', c', by go_num, by omega, ?_, ?_, (HBr.out.alloc hS2 _).trans HB6.out⟩, by simp [intOf]; omega⟩
    ·rw [HTk.out, List.length_append, hlen]; rfl
    ·rw [HTk.out]; exact HO6.out
  ·-- BEHIND THE LOOP
   have hk2 : k = Z.length := by omega
   subst hk2
   rw [List.take_length] at ho ⊢
   have hall := all_inB.2 ho.bytes
   have hc3 := dbR_cases HX.out hall
   rw [HS.out] at hc3
   have hO2 := hOf (ofV (dbL Z))
   obtain ⟨L, hL⟩ : ∃ L, dbL Z = L := ⟨_, rfl⟩
   rw [hL] at hc3 hO2
   have hOf9 : ∀ (wz : World) (A' : Option Addr) (c' n' : Nat), n' = L.length → RB wz wz.heap.size A' c' L → Calls Tryz.prog 32 #[.slice A' n' c'] wz (OfTo wz L) := fun wz A' c' n' hn h => r9_of A' c' n' L wz hn h
   unfold OfTo at hOf9
   have hll : L = if Z.length = 1 then Z ++ [221] else Z := by rw [← hL]; rfl
   obtain ⟨V, hV⟩ : ∃ V, ofV L = V := ⟨_, rfl⟩
   obtain ⟨E, hE⟩ : ∃ E, ofE L = E := ⟨_, rfl⟩
   rw [hV] at hO2 hc3
   rw [hE] at hc3
   simp only [hV, hE] at hOf9
   obtain ⟨T, hT⟩ : ∃ T : ByteArray, (⟨(ofTx V).toArray⟩ : ByteArray) = T := ⟨_, rfl⟩
   obtain ⟨F, hF⟩ : ∃ F, ofEr V = F := ⟨_, rfl⟩
   rw [hT, hF] at hc3
   simp only [hT, hF] at hO2
   rw [in_val] at hOf9
   simp only [show V.val = Value.agg V.cells from rfl] at hO2
   have HOf := z_ hOf9
   have HO2 := z_ hO2
   have HO := z_ ho
   have HBr := z_ hb
   have hS2 := HBr.out.size
   have hlt := HR.out.lt
   have hs1 := HB.out.size
   clear hOf9 hO2 ho hb hL hV hE hT hF hall HX HQ HS
   by_cases h1 : Z.length = 1
   ·rw [if_pos h1] at hll
    have h1i : (Z.length : Int) = 1 := by omega
    subst hll
    go_upto_region 14 with (at_builtin; refine wpList_append_rb _ rfl _ _ rfl w2.heap.size _ _ _ _ Z rfl rfl (HO.out.alloc _) _ _ _ [_] rfl rfl (RB.lit1 _ _ (by decide) (by decide)) (by simp; omega) (by simp; omega) ?_; intro A6 c6 w6 hob hbel hne; have HO6 := z_ hob; have HB6 := z_ ((HBr.out.alloc hS2 _).trans hbel); clear hob hbel hne)
    have hS6 := HB6.out.size
    go_upto_region 15 with (first
     | (go_at_call 32; (with_reducible refine (HOf.out _ _ _ _ (by first | rfl | (simp; omega)) HO6.out.rb).mono ?_); rintro e w7 ⟨rfl, hb7⟩; have HB7 := z_ hb7; clear hb7)
     | (refine sr w7.heap.size rfl rfl rfl rfl (InW.laid w7 zeroI) (in_one V) ?_))
    obtain ⟨w8, hw8⟩ : ∃ w8, (w7.alloc (inO zeroI)).setRow w7.heap.size V.cells = w8 := ⟨_, rfl⟩
    have hI8 : InW w8 w7.heap.size V := hw8 ▸ setRow_heap _ _ _ _ _ _ (InW.laid w7 zeroI)
    have hb27 : Below w2.heap.size w2 w7 := HB6.out.trans (HB7.out.mono hS6)
    have hb17 : Below w1.heap.size w1 w7 := HB2.out.trans (hb27.mono hs2)
    have hr7 : InW w7 w.heap.size zeroI := HR.out.below hb17 hlt
    have h17 := hb17.size
    have hr8 : InW w8 w.heap.size zeroI := hw8 ▸ (setRow_other _ _ _ _ (by omega)).trans (hr7.more _)
    have hb07 : Below w.heap.size w w7 := HB.out.trans (hb17.mono hs1)
    have hb08 : Below w.heap.size w w8 := hw8 ▸ below_setRow (hb07.alloc hb07.size _) (by omega) _
    have HR8 := z_ hr8
    have HI8 := z_ hI8
    have HB8 := z_ hb08
    unfold inO zeroI In.cells at hw8
    simp only at hw8
    rw [hw8]
    clear hw8 hI8 hb27 hb17 hr7 h17 hr8 hb07 hb08 HB7 HOf
    obtain ⟨e1, e2⟩ | ⟨e1, e2, e3, ⟨e4, e5⟩ | ⟨e4, e5⟩⟩ := hc3
    ·subst e2
     have hb8 := HB8
     go_wp2_with (refine sr w.heap.size rfl rfl rfl rfl HR8.out (in_one zeroI) ?_)
     (try simp only [Exit.inBlock, Exit.then])
     exact bodyPost_ret (results_ins_tmp rfl _ _ _ zeroI _ rfl rfl (setRow_heap _ _ _ _ _ _ HR8.out)) rfl ⟨rfl, below_setRow HB8.out (Nat.le_refl _) _⟩
    ·subst e1 e3 e5
     have e6 : (T.toList == S.toList) = false := ne_toList e4
     have e7 : (T.toList != S.toList) = true := by rw [bne, e6]; rfl
     go_wp2_with (first
      | (refine lr w7.heap.size rfl rfl rfl HI8.out ?_)
      | (refine sr w.heap.size rfl rfl rfl rfl HR9.out (in_one zeroI) ?_)
      | (go_at_call 14; (with_reducible refine (HO2.out e2 _).mono ?_); rintro e w9 ⟨rfl, hb9⟩; have HI9 := z_ (HI8.out.below hb9 HI8.out.lt); have HR9 := z_ (HR8.out.below hb9 HR8.out.lt); have HB9 := z_ (HB8.out.trans (hb9.mono HB8.out.size)); clear hb9))
     (try simp only [Exit.inBlock, Exit.then])
     exact bodyPost_ret (results_ins_tmp rfl _ _ _ zeroI _ rfl rfl (setRow_heap _ _ _ _ _ _ HR9.out)) rfl ⟨rfl, below_setRow HB9.out (Nat.le_refl _) _⟩
    ·subst e1 e3 e5
     subst e4
     go_wp2_with (first
      | (refine lr w7.heap.size rfl rfl rfl HI9.out ?_)
      | (refine lr w7.heap.size rfl rfl rfl HI8.out ?_)
      | (refine sr w.heap.size rfl rfl rfl rfl HR9.out (in_one V) ?_)
      | (go_at_call 14; (with_reducible refine (HO2.out e2 _).mono ?_); rintro e w9 ⟨rfl, hb9⟩; have HI9 := z_ (HI8.out.below hb9 HI8.out.lt); have HR9 := z_ (HR8.out.below hb9 HR8.out.lt); have HB9 := z_ (HB8.out.trans (hb9.mono HB8.out.size)); clear hb9))
     (try simp only [Exit.inBlock, Exit.then])
     exact bodyPost_ret (results_ins_tmp rfl _ _ _ V _ rfl rfl (setRow_heap _ _ _ _ _ _ HR9.out)) rfl ⟨rfl, below_setRow HB9.out (Nat.le_refl _) _⟩
   ·rw [if_neg h1] at hll
    have h1i : ¬ (Z.length : Int) = 1 := by omega
    subst hll
    go_upto_region 14 with fail
    have hS6 := HBr.out.size
    go_upto_region 15 with (first
     | (go_at_call 32; (with_reducible refine (HOf.out _ _ _ _ (by first | rfl | (simp; omega)) HO.out.rb).mono ?_); rintro e w7 ⟨rfl, hb7⟩; have HB7 := z_ hb7; clear hb7)
     | (refine sr w7.heap.size rfl rfl rfl rfl (InW.laid w7 zeroI) (in_one V) ?_))
    obtain ⟨w8, hw8⟩ : ∃ w8, (w7.alloc (inO zeroI)).setRow w7.heap.size V.cells = w8 := ⟨_, rfl⟩
    have hI8 : InW w8 w7.heap.size V := hw8 ▸ setRow_heap _ _ _ _ _ _ (InW.laid w7 zeroI)
    have hb27 : Below w2.heap.size w2 w7 := HBr.out.trans (HB7.out.mono hS6)
    have hb17 : Below w1.heap.size w1 w7 := HB2.out.trans (hb27.mono hs2)
    have hr7 : InW w7 w.heap.size zeroI := HR.out.below hb17 hlt
    have h17 := hb17.size
    have hr8 : InW w8 w.heap.size zeroI := hw8 ▸ (setRow_other _ _ _ _ (by omega)).trans (hr7.more _)
    have hb07 : Below w.heap.size w w7 := HB.out.trans (hb17.mono hs1)
    have hb08 : Below w.heap.size w w8 := hw8 ▸ below_setRow (hb07.alloc hb07.size _) (by omega) _
    have HR8 := z_ hr8
    have HI8 := z_ hI8
    have HB8 := z_ hb08
    unfold inO zeroI In.cells at hw8
    simp only at hw8
    rw [hw8]
    clear hw8 hI8 hb27 hb17 hr7 h17 hr8 hb07 hb08 HB7 HOf
    obtain ⟨e1, e2⟩ | ⟨e1, e2, e3, ⟨e4, e5⟩ | ⟨e4, e5⟩⟩ := hc3
    ·subst e2
     have hb8 := HB8
     go_wp2_with (refine sr w.heap.size rfl rfl rfl rfl HR8.out (in_one zeroI) ?_)
     (try simp only [Exit.inBlock, Exit.then])
     exact bodyPost_ret (results_ins_tmp rfl _ _ _ zeroI _ rfl rfl (setRow_heap _ _ _ _ _ _ HR8.out)) rfl ⟨rfl, below_setRow HB8.out (Nat.le_refl _) _⟩
    ·subst e1 e3 e5
     have e6 : (T.toList == S.toList) = false := ne_toList e4
     have e7 : (T.toList != S.toList) = true := by rw [bne, e6]; rfl
     go_wp2_with (first
      | (refine lr w7.heap.size rfl rfl rfl HI8.out ?_)
      | (refine sr w.heap.size rfl rfl rfl rfl HR9.out (in_one zeroI) ?_)
      | (go_at_call 14; (with_reducible refine (HO2.out e2 _).mono ?_); rintro e w9 ⟨rfl, hb9⟩; have HI9 := z_ (HI8.out.below hb9 HI8.out.lt); have HR9 := z_ (HR8.out.below hb9 HR8.out.lt); have HB9 := z_ (HB8.out.trans (hb9.mono HB8.out.size)); clear hb9))
     (try simp only [Exit.inBlock, Exit.then])
     exact bodyPost_ret (results_ins_tmp rfl _ _ _ zeroI _ rfl rfl (setRow_heap _ _ _ _ _ _ HR9.out)) rfl ⟨rfl, below_setRow HB9.out (Nat.le_refl _) _⟩
    ·subst e1 e3 e5
     subst e4
     go_wp2_with (first
      | (refine lr w7.heap.size rfl rfl rfl HI9.out ?_)
      | (refine lr w7.heap.size rfl rfl rfl HI8.out ?_)
      | (refine sr w.heap.size rfl rfl rfl rfl HR9.out (in_one V) ?_)
      | (go_at_call 14; (with_reducible refine (HO2.out e2 _).mono ?_); rintro e w9 ⟨rfl, hb9⟩; have HI9 := z_ (HI8.out.below hb9 HI8.out.lt); have HR9 := z_ (HR8.out.below hb9 HR8.out.lt); have HB9 := z_ (HB8.out.trans (hb9.mono HB8.out.size)); clear hb9))
     (try simp only [Exit.inBlock, Exit.then])
     exact bodyPost_ret (results_ins_tmp rfl _ _ _ V _ rfl rfl (setRow_heap _ _ _ _ _ _ HR9.out)) rfl ⟨rfl, below_setRow HB9.out (Nat.le_refl _) _⟩
end Go.Proofs.YtgaihekapakoeaaGreatDoor
