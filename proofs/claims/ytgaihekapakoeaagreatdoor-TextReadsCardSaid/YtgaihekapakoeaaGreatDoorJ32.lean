/-   -/
import Derived.Test.YtgaihekapakoeaaGreatDoorZRH
import Derived.Test.YtgaihekapakoeaaGreatDoorJ26
import Derived.Test.YtgaihekapakoeaaGreatDoorJ25
import Derived.Test.YtgaihekapakoeaaGreatDoorZEA
import Derived.Test.YtgaihekapakoeaaGreatDoorJ28
import Derived.Test.YtgaihekapakoeaaGreatDoorZCL
import Derived.Test.YtgaihekapakoeaaGreatDoorZEB
import Derived.SliceStrings
set_option linter.unusedVariables false
set_option linter.unusedSimpArgs false
namespace Go.Proofs.YtgaihekapakoeaaGreatDoor
open Go.RowKit


set_option maxRecDepth 100000

theorem idx_of {Z : List Int} {v : Int} (h : v ∈ Z) : ∃ k, k < Z.length ∧ (Z ++ [0]).getD k 0 = v := by
 obtain ⟨k, hk, e⟩ := List.getElem_of_mem h
 exact ⟨k, hk, by rw [getD_left hk, List.getD_eq_getElem?_getD, List.getElem?_eq_getElem hk]; exact e⟩
theorem idx_if {Z : List Int} {v : Int} {p : Prop} (hl : Z.length ≤ 3) (h : p → v ∈ Z) : ∃ k, (k < 4 ∧ k ≤ Z.length) ∧ (p → (Z ++ [0]).getD k 0 = v) := by
 by_cases hp : p
 ·obtain ⟨k, h1, h2⟩ := idx_of (h hp)
  exact ⟨k, ⟨by omega, by omega⟩, fun _ => h2⟩
 ·exact ⟨0, ⟨by omega, by omega⟩, fun h => absurd h hp⟩
theorem isT_is {i : In} {l : List UInt8} (h : isT i ⟨l.toArray⟩ = true) : i.may = true ∧ textI i = l := by
 unfold isT at h
 rw [Bool.and_eq_true, decide_eq_true_eq, decide_eq_true_eq] at h
 exact ⟨h.1, arr_inj h.2⟩
theorem may_wf {j : In} (hm : j.may = true) : j.Wf := by
 obtain ⟨h1, h2, h3⟩ := may_one hm
 obtain ⟨hs, hx, o0, o1⟩ := one_cases h1
 obtain ⟨a, b⟩ := may_small hm
 have := fit_wf (s := j.s) (x := j.x) (o := j.o) (d := j.d) (m := j.m) (by omega) (by omega) (by omega) (by omega) o0 o1 (by omega) (by omega)
 rwa [fit_self hm (fun _ => rfl) (fun _ => rfl)] at this

def ParseRx : Prop := ∀ (s : ByteArray), s.size ≤ 100000 → ∀ w : World,
 (∃ x, readI s = some x ∧ Calls Tryz.prog 20 #[.string s] w (fun e w2 => e = .returned (.tuple #[x.val, .int .i64 0]) ∧ Below w.heap.size w w2)) ∨
 (readI s = none ∧ Calls Tryz.prog 20 #[.string s] w (fun e w2 => e = .returned (.tuple #[zeroI.val, .int .i64 11]) ∧ Below w.heap.size w w2))
theorem parse10_any (hOf : OfR) : ParseRx := by
 intro s hs w
 obtain ⟨l, rfl⟩ : ∃ l : List UInt8, (⟨l.toArray⟩ : ByteArray) = s := ⟨s.data.toList, by simp⟩
 have hsz := sz_len l
 by_cases h60 : 60 < (⟨l.toArray⟩ : ByteArray).size
 ·refine .inr ⟨readI_none fun j hj h => ?_, parse10_long w _ h60 hs⟩
  have h1 := text_short hj
  rw [arr_inj h] at h1
  omega
 ·have hl : l.length ≤ 60 := by omega
  cases hd : dbS l with
  | true =>
   have hp := parse10_db hOf l hl hd w
   cases hr : dbR l with
   | some y =>
    obtain ⟨h1, h2, h3⟩ := dbR_is hr
    refine .inl ⟨y, readI_some ⟨h3, h1, by rw [h2]⟩, ?_⟩
    rw [hr] at hp
    exact hp
   | none =>
    refine .inr ⟨readI_none fun j hj h => ?_, ?_⟩
    ·have h2 := arr_inj h
     have h3 := dbR_text hj (by rw [h2]; exact hd)
     rw [h2, hr] at h3
     cases h3
    ·rw [hr] at hp
     exact hp
  | false =>
   by_cases he : ∃ j : In, j.may = true ∧ textI j = l
   ·obtain ⟨j, hj, ht⟩ := he
    have hdb : dbK j.s j.x j.o = false := by rw [← db_text hj, ht]; exact hd
    obtain ⟨n1, n2, n3⟩ := told_nums hj hdb
    rw [ht] at n1 n2 n3
    obtain ⟨ja, a1, a2⟩ := idx_if n1 n2
    obtain ⟨jb, b1, b2⟩ := idx_if n1 n3
    obtain ⟨h1, -, -⟩ := may_one hj
    obtain ⟨hs4, hx3, o0, o1⟩ := one_cases h1
    refine .inl ⟨j, readI_some ⟨may_wf hj, hj, by rw [ht]⟩, ?_⟩
    refine parse10_find hOf l hl hd (some j) ((j.s.toNat * 3 + j.x.toNat) * 256 + j.o.toNat) ja jb a1 b1 (.inr (by omega)) (fun a b c d m h => ?_) (fun a b c ha hb hc hK => ?_) w
    ·obtain ⟨k1, k2⟩ := isT_is h
     rw [text_inj k1 hj (by rw [k2, ht])]
    ·have ea : (a : Int) = j.s := by omega
     have eb : (b : Int) = j.x := by omega
     have ec : (c : Int) = j.o := by omega
     rw [ea, eb, ec]
     refine ⟨?_, ?_⟩
     ·unfold likeB
      have h0 := fit_zero hj
      rw [h0, bald_same h0 hj hdb rfl rfl rfl, ht]
      simp
     ·rw [fit_self hj a2 b2]
      unfold isT
      rw [hj, ht]
      simp
   ·refine .inr ⟨readI_none fun j hj h => he ⟨j, hj, arr_inj h⟩, ?_⟩
    refine parse10_find hOf l hl hd none 3072 0 0 ⟨by decide, by omega⟩ ⟨by decide, by omega⟩ (.inl rfl) (fun a b c d m h => ?_) (fun a b c ha hb hc hK => ?_) w
    ·exact absurd ⟨_, isT_is h⟩ he
    ·omega

set_option maxHeartbeats 8000000 in
theorem make10_any (hPx : ParseRx) (M : List ByteArray) (A : Option Addr) (c n : Nat) (hn : n = M.length) (w : World) (hM : TL w w.heap.size A c M) (hl : M.length ≤ 500) (hs : ∀ s ∈ M, s.size ≤ 100000) :
  Calls Tryz.prog 21 #[.slice A n c] w (MakeT w M) := by
 subst hn
 unfold MakeT
 have HM := z_ hM
 have HP := z_ hPx
 have HS := z_ hs
 have hcap := hM.cap
 have hle := hM.le
 unfold maxLen at hcap
 clear hM hPx hs
 go_enter Tryz.func21, Tryz.ntmps21
 go_wp2_with fail
 go_loopw [4, 5] (fun v i wr => ∃ (j : Nat) (bs : List Int) (B : Option Addr) (d : Nat), i = .int .i64 j ∧ j ≤ M.length ∧ makeI (M.take j) = some bs ∧ v = .slice B bs.length d ∧ OB wr w.heap.size B d bs ∧ Below w.heap.size w wr) (fun _ i _ => M.length - (intOf i).toNat)
 case atStart => exact ⟨0, [], none, 0, rfl, by omega, rfl, rfl, OB.nil _ _, Below.refl _ _⟩
 case round =>
  rename World => wr
  obtain ⟨j, bs, B, d, rfl, hjl, hmk, rfl, ho, hb⟩ := hrel
  by_cases hj : j < M.length
  ·obtain ⟨s, hsj⟩ : ∃ s, M.getD j ⟨#[]⟩ = s := ⟨_, rfl⟩
   have hlen := makeI_len _ _ hmk
   rw [List.length_take] at hlen
   have hn := take_nextS hj
   rw [hsj] at hn
   have hsz := HS.out s (by rw [← hsj, List.getD_eq_getElem?_getD, List.getElem?_eq_getElem hj]; exact List.getElem_mem hj)
   obtain ⟨b3, o3, rfl, hb3, hat⟩ := HM.out.at_ (by omega)
   have d0 := (World.cell?_of_block (hb.block b3 hb3)).trans (hat j hj)
   rw [hsj] at d0
   have HN := z_ hn
   have HO := z_ ho
   have HB := z_ hb
   have HK := z_ hmk
   have HJ := z_ hsj
   have hp := HP.out s hsz wr
   clear hn hsj hat ho hb hmk
   rcases hp with ⟨x, hx, hc⟩ | ⟨hx, hc⟩
   ·have HC := z_ hc
    have HX := z_ hx
    clear hx hc
    go_wp2_with fail
    refine (HC.out).mono ?_
    rintro e w5 ⟨rfl, hb5⟩
    have hB5 := HB.out.trans (hb5.mono HB.out.size)
    have ho5 := HO.out.below hb5 (Nat.le_refl _)
    have hI := readI_is HX.out
    clear hb5
    have hby := fun w => r9_bytes x hI.wf hI.may w
    unfold BytesTo9 at hby
    rw [in_val] at hby ⊢
    have h6 := bytesI_short x
    have HY := z_ hby
    have HO5 := z_ ho5
    have HB5 := z_ hB5
    clear hby ho5 hB5 hI HC HO HB
    go_wp2_with fail
    obtain ⟨wa, hwa⟩ : ∃ wa, w5.alloc (.cells #[.int .i64 x.s, .int .i64 x.x, .int .i64 x.o, .int .i64 x.d, .int .i64 x.m, .int .i64 x.n] 23) = wa := ⟨_, rfl⟩
    have hoa : OB wa w.heap.size B d bs := hwa ▸ HO5.out.alloc _
    have hBa : Below w.heap.size w wa := hwa ▸ HB5.out.alloc HB5.out.size _
    rw [hwa]
    refine (HY.out wa).mono ?_
    rintro e w6 ⟨⟨A6, c6, rfl, ho6⟩, hb6⟩
    have ho7 := hoa.below hb6 (Nat.le_refl _)
    have hB7 := hBa.trans (hb6.mono hBa.size)
    have hS7 := hB7.size
    have HO6 := z_ ho6
    have HO7 := z_ ho7
    have HB7 := z_ hB7
    clear hwa hoa hBa hb6 ho6 ho7 hB7 d0 HY
    obtain ⟨T, hT⟩ : ∃ T, bytesI x = T := ⟨_, rfl⟩
    rw [hT] at HO6 h6 ⊢
    have HT := z_ hT
    clear hT
    go_wp2_with (at_builtin; refine wpList_append_rb _ rfl (.tmp 31) (.tmp 32) rfl w.heap.size w6.heap.size _ _ _ bs rfl rfl HO7.out _ _ _ T rfl rfl HO6.out (by omega) hS7 ?_; intro A' c' w7 hob hbel hne; have HO8 := z_ hob; have HB8 := z_ hbel; clear hob hbel hne)
    refine ⟨⟨j + 1, bs ++ T, A', c', by go_num, by omega, ?_, by rw [List.length_append], HO8.out, HB7.out.trans HB8.out⟩, by simp [intOf]; omega⟩
    rw [HN.out, ← HT.out]
    exact makeI_snoc HK.out HX.out
   ·have HX := z_ hx
    have HC := z_ hc
    clear hx hc
    go_wp2_with fail
    refine (HC.out).mono ?_
    rintro e w5 ⟨rfl, hb5⟩
    have hB5 := HB.out.trans (hb5.mono HB.out.size)
    clear hb5
    rw [in_val]
    go_wp2_with fail
    go_ret2
    exact ⟨.inr ⟨odd_at hj (by rw [HJ.out]; exact HX.out), rfl⟩, hB5.alloc hB5.size _⟩
  ·have hje : j = M.length := by omega
   subst hje
   have HO := z_ ho
   have HB := z_ hb
   have HK := z_ hmk
   clear ho hb hmk
   go_wp2_with fail
   go_ret2
   have hr := HK.out
   rw [List.take_length] at hr
   exact ⟨.inl ⟨bs, hr, B, d, rfl, HO.out⟩, HB.out⟩
end Go.Proofs.YtgaihekapakoeaaGreatDoor
namespace Go.Proofs.YtgaihekapakoeaaGreatDoor
open Go.RowKit


set_option maxRecDepth 100000

theorem open_texts {H : Type} {enc : TypeId × Value → H} {W : World} {a : Option Addr} {len cap : Nat} {d : DataW H} {p : List MemPlace}
  (h : DataW.Trod enc Tryz.prog W 0 (fun _ => true) true 30 (.slice a len cap) d p) : ∃ l : List ByteArray, len = l.length ∧ (TL W W.heap.size a cap l ∧ (a = none → cap = 0 ∧ l = [])) := by
 obtain ⟨fuel, hf⟩ := h
 rcases Go.ChangeShapes.open_strings Tryz.underlying30 Tryz.underlying9 (by kernel_rfl) hf with ⟨hcs, _⟩ | ⟨x, l, c, ss, hcs, _, hl, hm, hz, _, hcell, _⟩
 ·simp [Value.cells] at hcs
  obtain ⟨rfl, rfl, rfl⟩ := hcs
  exact ⟨[], rfl, ⟨Nat.le_refl _, Nat.zero_le _, fun h0 => absurd h0 (by simp)⟩, fun _ => ⟨rfl, rfl⟩⟩
 ·simp [Value.cells] at hcs
  obtain ⟨rfl, rfl, rfl⟩ := hcs
  have hz' : ss.length = cap := by simpa using hz
  have hlen : (ss.take len).length = len := by rw [List.length_take]; omega
  refine ⟨ss.take len, hlen.symm, ⟨by omega, hm, fun h0 => ?_⟩, fun h => by cases h⟩
  have h00 := hcell 0 (by omega)
  have hsp : x.spot = none := by simpa [Addr.add] using World.cell?_spot h00
  obtain ⟨b, o, sp⟩ := x
  simp only at hsp
  subst hsp
  have hb := World.block_lt_of_cell? _ _ h00
  refine ⟨b, o, rfl, by simpa [Addr.add] using hb, fun i hi => ?_⟩
  have h1 := hcell i (by omega)
  have hadd : (⟨b, o, none⟩ : Addr).add i = ⟨b, o + i, none⟩ := by unfold Addr.add; split <;> simp_all
  rw [hadd] at h1
  rw [h1]
  simp only [List.getD]
  rw [List.getElem?_take, if_pos (by omega)]
  rfl
theorem run_append_texts_in (w : World) (ty : TypeId) (base : Nat) (v : Value) (Ms : List ByteArray) (hown : w.ownsRow base 9 1 v Ms.length (Ms.map Value.string))
  (A : Option Addr) (c : Nat) (Ns : List ByteArray) (hN : TL w w.heap.size A c Ns) (hA : A = none → c = 0 ∧ Ns = []) (b1 : Ms.length + Ns.length ≤ 1000000) (hbase : base ≤ w.heap.size) :
  ∃ v' w', (Builtin.append_ #[30, 30] ty #[v, .slice A Ns.length c]).run Tryz.prog w = .ok v' w' ∧ w'.ownsRow base 9 1 v' (Ms ++ Ns).length ((Ms ++ Ns).map Value.string) ∧ w.grownBy w' v.ownBlock := by
 cases A with
 | none =>
  obtain ⟨rfl, rfl⟩ := hA rfl
  exact run_append_texts_any w ty base v Ms hown none 0 [] hN (.inl ⟨rfl, rfl, rfl⟩) b1 hbase
 | some ad =>
  rcases Nat.eq_zero_or_pos Ns.length with h0 | h0
  ·obtain rfl : Ns = [] := List.eq_nil_of_length_eq_zero h0
   obtain ⟨i0, hi, hz0, hz1, hz2⟩ := info_parts info_text
   obtain ⟨v', w', hrun, r1, r2, _⟩ := run_append_own (P := Tryz.prog) w base 30 ty 9 i0 _ 1 16 Tryz.underlying30 hi hz0 hz1 hz2 rfl (by decide) _ Ms.length (Ms.map Value.string) hown ad 0 c [] (by simp) (fun j u hu => by simp at hu) (fun u hu => by cases hu) (by unfold maxLen; simp at b1; omega) (by simp at b1; omega) hbase
   exact ⟨v', w', hrun, by simpa using r1, r2⟩
  ·exact run_append_texts w ty base v Ms hown _ c Ns hN h0 b1 hbase
theorem wpList_append_texts_in (w : World) {ops : Array Oper} {rest : List Oper} {o : Oper} {a : Act} {Q : Exit → Act → World → Prop} (hgd : o.guard = none) (s x : Operand)
  (hop : o.op = .call { callee := .builtin .append, args := #[s, x], argTypes := #[30, 30] })
  (base : Nat) (v : Value) (Ms : List ByteArray) (hs : a.eval s = v) (hown : w.ownsRow base 9 1 v Ms.length (Ms.map Value.string))
  (A : Option Addr) (k c : Nat) (Ns : List ByteArray) (hx : a.eval x = .slice A k c) (hk : k = Ns.length) (hN : TL w w.heap.size A c Ns) (hA : A = none → c = 0 ∧ Ns = []) (b1 : Ms.length + Ns.length ≤ 1000000) (hbase : base ≤ w.heap.size)
  (h : ∀ v' w', w'.ownsRow base 9 1 v' (Ms ++ Ns).length ((Ms ++ Ns).map Value.string) → w.grownBy w' v.ownBlock → wpList Tryz.prog ops Q rest (a.put o.dst v') w') : wpList Tryz.prog ops Q (o :: rest) a w := by
 subst hk hs
 obtain ⟨v', w', hr, h1, h2⟩ := run_append_texts_in w o.type base _ Ms hown A c Ns hN hA b1 hbase
 refine wpList_plain hgd fun K hK => ?_
 unfold Oper.wp execOp
 simp only [hop, resolve, invoke, builtin, Sem.run_bind, Sem.run_pure, Result.andThen_ok, List.map_toArray, List.map_cons, List.map_nil, hx, hr]
 exact hK _ _ (h v' w' h1 h2)

theorem both_parse10 {w : World} (hPt : ParseTx w) (hPx : ParseRx) (s : ByteArray) (hs : s.size ≤ 100000) (w1 : World) (h1 : Below w.heap.size w w1) :
  ∃ (z : In) (E : Int), Calls Tryz.prog 9 #[.string s] w1 (fun e w2 => e = .returned (.tuple #[z.val, .int .i64 E]) ∧ Below w1.heap.size w1 w2) ∧
   ∀ w3, Calls Tryz.prog 20 #[.string s] w3 (fun e w2 => e = .returned (.tuple #[z.val, .int .i64 E]) ∧ Below w3.heap.size w3 w2) := by
 rcases hPt s hs w1 h1 with ⟨x, hx, hc⟩ | ⟨hx, hc⟩
 ·refine ⟨x, 0, hc, fun w3 => ?_⟩
  rcases hPx s hs w3 with ⟨y, hy, hd⟩ | ⟨hy, hd⟩
  ·rw [hx] at hy
   obtain rfl := Option.some.inj hy
   exact hd
  ·rw [hx] at hy; cases hy
 ·refine ⟨zeroI, 11, hc, fun w3 => ?_⟩
  rcases hPx s hs w3 with ⟨y, hy, hd⟩ | ⟨hy, hd⟩
  ·rw [hx] at hy; cases hy
  ·exact hd
theorem makeT_one {w : World} {M : List ByteArray} {e : Ending} {w' : World} {bs : List Int} {E : Int} (hb : (makeI M).getD [] = bs) (hE : (if (makeI M).isSome = true then 0 else 11) = E) (h : MakeT w M e w') :
  ∃ A c, e = .returned (.tuple #[.slice A bs.length c, .int .i64 E]) ∧ RB w' w'.heap.size A c bs ∧ Below w.heap.size w w' := by
 obtain ⟨h1, h2⟩ := h
 rcases h1 with ⟨b0, hm, A, c, he, ho⟩ | ⟨hn, he⟩
 ·rw [hm] at hb hE
  obtain rfl : b0 = bs := hb
  obtain rfl : (0 : Int) = E := hE
  exact ⟨A, c, he, ho.rb, h2⟩
 ·rw [hn] at hb hE
  obtain rfl : [] = bs := hb
  obtain rfl : (11 : Int) = E := hE
  exact ⟨none, 0, he, RB.nil _ _, h2⟩
theorem in_neq10 (i : In) (w : World) : (binOp .neq 23 i.val i.val).run Tryz.prog w = .ok (.bool false) w := by
 unfold In.val In.cells
 go_simp
theorem str_rb10 (w : World) (B : Nat) (A : Option Addr) (c n : Nat) (l : List Int) (h : RB w B A c l) (hn : n = l.length) :
  (convert 27 9 (.slice A n c)).run Tryz.prog w = .ok (.string (strOfNums l)) w := by subst hn; exact run_string_rb w B A c l h

set_option maxHeartbeats 16000000 in
theorem card_TextReads (w : World) (hV : VP w w.heap.size) (A : Option Addr) (c n : Nat) (M : List ByteArray) (hn : n = M.length) (h : TL w w.heap.size A c M ∧ (A = none → c = 0 ∧ M = [])) :
  Calls Tryz.prog 5 #[.slice A n c] w fun e w' => e = .returned (.bool true) ∧ Below w.heap.size w w' := by
 subst hn
 obtain ⟨hT, hA⟩ := h
 have hP := parse_to w hV
 have hPt := hP.tx
 have hPx : ParseRx := parse10_any d10_of
 have HL := z_ (lives10 w hV.vt hP.ok)
 have HT0 := z_ hT
 have HA := z_ hA
 have HPt := z_ hPt
 have HPx := z_ hPx
 have hcap := hT.cap
 unfold maxLen at hcap
 have hle := hT.le
 clear hV hT hA hP hPt hPx
 go_enter Tryz.func5, Tryz.ntmps5
 go_wp2_with fail
 refine HL.out.mono ?_
 rintro e w1 ⟨rfl, hb1⟩
 have HB1 := z_ hb1
 have HT1 := z_ ((HT0.out.below hb1).more hb1.size)
 clear hb1 HL
 go_wp2_with fail
 refine (light_texts A c _ M w1 rfl HT1.out).mono ?_
 rintro e w1' ⟨⟨b, rfl, hbl⟩, rfl⟩
 cases b with
 | false =>
  go_wp2_with fail
  go_ret
  exact ⟨rfl, HB1.out⟩
 | true =>
  obtain ⟨l12, l60⟩ := hbl rfl
  have HL60 := z_ l60
  clear hbl l60
  go_wp2_with fail
  go_loopw [3] (fun i wr => ∃ k : Nat, i = .int .i64 k ∧ k ≤ M.length ∧ Below w1.heap.size w1 wr) (fun i _ => M.length - (intOf i).toNat)
  case atStart => exact ⟨0, rfl, by omega, Below.refl _ _⟩
  case round =>
   rename World => wr
   obtain ⟨k, rfl, hk, hb⟩ := hrel
   have HBr := z_ hb
   have HTr := z_ ((HT1.out.below hb).more hb.size)
   have hB0 := HB1.out.trans (hb.mono HB1.out.size)
   have HB0 := z_ hB0
   clear hb
   by_cases hlt : k < M.length
   ·obtain ⟨b2, o2, rfl, hbb, hat⟩ := HT1.out.at_ (by omega)
    obtain ⟨s, hs⟩ : ∃ s, M.getD k ⟨#[]⟩ = s := ⟨_, rfl⟩
    have hsz : s.size ≤ 100000 := by
     have := HL60.out s (by rw [← hs, List.getD_eq_getElem?_getD, List.getElem?_eq_getElem hlt]; exact List.getElem_mem hlt)
     omega
    have d1 := hat k hlt
    rw [hs] at d1
    have d0 := (World.cell?_of_block (HBr.out.block b2 hbb)).trans d1
    have D1 := z_ d1
    obtain ⟨z, E, hc1, hc2⟩ := both_parse10 HPt.out HPx.out s hsz wr HB0.out
    rw [in_val] at hc1
    simp only [in_val] at hc2
    have HC1 := z_ hc1
    have HC2 := z_ hc2
    clear hc1 hc2 hat hs d1
    go_wp2_with fail
    refine HC1.out.mono ?_
    rintro e w5 ⟨rfl, hb5⟩
    have hBr5 := HBr.out.trans (hb5.mono HBr.out.size)
    obtain ⟨wa, hwa⟩ : ∃ wa, w5.alloc (inO z) = wa := ⟨_, rfl⟩
    have hIa : InW wa w5.heap.size z := hwa ▸ InW.laid w5 z
    have hBa : Below w1.heap.size w1 wa := hwa ▸ hBr5.alloc hBr5.size _
    have da := (World.cell?_of_block (hBa.block b2 hbb)).trans D1.out
    have HIa := z_ hIa
    have HBa := z_ hBa
    unfold inO at hwa
    clear hb5 hBr5 hIa hBa d0 HC1
    go_wp2_with fail
    refine (HC2.out wa).mono ?_
    rintro e w6 ⟨rfl, hb6⟩
    obtain ⟨wb, hwb⟩ : ∃ wb, w6.alloc (inO z) = wb := ⟨_, rfl⟩
    have hIb : InW wb w6.heap.size z := hwb ▸ InW.laid w6 z
    have hIa6 : InW w6 w5.heap.size z := HIa.out.below hb6 HIa.out.lt
    have hIab : InW wb w5.heap.size z := hwb ▸ hIa6.more _
    have hB6 : Below w1.heap.size w1 w6 := HBa.out.trans (hb6.mono HBa.out.size)
    have hBb : Below w1.heap.size w1 wb := hwb ▸ hB6.alloc hB6.size _
    have hneq := fun w => in_neq10 z w
    simp only [show z.val = Value.agg z.cells from rfl] at hneq
    have hee : (E != E) = false := by simp
    have HIb := z_ hIb
    have HIab := z_ hIab
    have HBb := z_ hBb
    unfold inO at hwb
    clear hb6 hIb hIa6 hIab hB6 hBb da HC2 hwa
    go_wp2_with (first
     | (refine lr w5.heap.size rfl rfl rfl HIab.out ?_)
     | (refine lr w6.heap.size rfl rfl rfl HIb.out ?_))
    go_roundw
    case rel => exact ⟨k + 1, by go_num, by omega, HBb.out⟩
    case measure => simp [intOf]; omega
   ·have hk2 : k = M.length := by omega
    subst hk2
    have hsr := HB0.out.size
    go_wp2_with (at_builtin; refine wpList_append_texts_in _ rfl _ _ rfl wr.heap.size (.slice (some ⟨wr.heap.size, 0, none⟩) 0 0) [] rfl (World.ownsRow_made wr #[] 0 (Nat.le_refl _) (by unfold maxLen; omega) rfl) A _ c M rfl rfl ((HTr.out.below ((Below.refl _ _).alloc (Nat.le_refl _) _)).more (by simp)) HA.out (by simp; omega) (by simp) ?_; intro v6 w6 ho6 hg6)
    rw [List.nil_append] at ho6
    have h16 : Below wr.heap.size wr w6 := ((Below.refl wr.heap.size wr).alloc (Nat.le_refl _) _).grown hg6 (by simp) (fun q hq => by simp [Value.ownBlock] at hq; omega)
    have hB6 : Below w.heap.size w w6 := HB0.out.trans (h16.mono hsr)
    have hT6 : TL w6 w6.heap.size A c M := (HTr.out.below h16).more h16.size
    obtain ⟨A6, c6, rfl⟩ := text_own_shape ho6
    have hszs : ∀ s ∈ M, s.size ≤ 100000 := fun s hs => by have := HL60.out s hs; omega
    refine (make_any M A6 c6 _ rfl w6 (TL.own ho6) (by omega) hszs (HPt.out.on hB6)).mono ?_
    rintro e w7 h7
    obtain ⟨bs, hbs⟩ : ∃ bs, (makeI M).getD [] = bs := ⟨_, rfl⟩
    obtain ⟨E, hE⟩ : ∃ E : Int, (if (makeI M).isSome = true then 0 else 11) = E := ⟨_, rfl⟩
    obtain ⟨A7, c7, rfl, hr7, hb7⟩ := makeT_one hbs hE h7
    have HBs := z_ hbs
    have HE := z_ hE
    clear hbs hE
    have hT7 : TL w7 w7.heap.size A c M := (hT6.below hb7).more hb7.size
    have HT7 := z_ hT7
    have HR7 := z_ hr7
    have HB7 := z_ (hB6.trans (hb7.mono hB6.size))
    have hm := fun w h => make10_any HPx.out M A c M.length rfl w h (by omega) hszs
    have HM := z_ hm
    clear hm h7 hr7 hb7 hT6 hB6 h16 ho6 hg6 hT7 hszs
    go_wp2_with fail
    refine (HM.out w7 HT7.out).mono ?_
    rintro e w8 h8
    obtain ⟨A8, c8, rfl, hr8, hb8⟩ := makeT_one HBs.out HE.out h8
    have s1 : (convert 27 9 (.slice A7 bs.length c7)).run Tryz.prog w8 = .ok (.string (strOfNums bs)) w8 := str_rb10 w8 _ A7 c7 _ _ (HR7.out.below hb8) rfl
    have s2 : (convert 27 9 (.slice A8 bs.length c8)).run Tryz.prog w8 = .ok (.string (strOfNums bs)) w8 := str_rb10 w8 _ A8 c8 _ _ hr8 rfl
    have HB8 := z_ (HB7.out.trans (hb8.mono HB7.out.size))
    obtain ⟨S, hS⟩ : ∃ S, strOfNums bs = S := ⟨_, rfl⟩
    rw [hS] at s1 s2
    clear h8 hr8 hb8 hS
    go_wp2_with fail
    go_ret
    exact ⟨by simp, HB8.out⟩
end Go.Proofs.YtgaihekapakoeaaGreatDoor
