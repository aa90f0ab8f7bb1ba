/-       -/
import Derived.Test.YtgaihekapakoeaaGreatDoorJ23
import Derived.Test.YtgaihekapakoeaaGreatDoorJ24
import Derived.Test.YtgaihekapakoeaaGreatDoorJ14
import Derived.Lib.RuneBytes
import Derived.Test.YtgaihekapakoeaaGreatDoorJ20
import Derived.Lib.ItoaLen
import Derived.Test.YtgaihekapakoeaaGreatDoorJ19
set_option linter.unusedVariables false
set_option linter.unusedSimpArgs false
namespace Go.Proofs.YtgaihekapakoeaaGreatDoor
open Go.RowKit


set_option maxRecDepth 100000

theorem fields_short (l : List UInt8) : ∀ p ∈ fieldsG l, p.length ≤ l.length := by
 intro p hp
 unfold fieldsG Lib.goFieldsP at hp
 rw [List.map_map] at hp
 obtain ⟨x, -, rfl⟩ := List.mem_map.1 hp
 simp only [Function.comp, Lib.extract_data]
 unfold bytesOf
 simp
 omega
theorem spans_few (p : Nat → Bool) (s : ByteArray) : ∀ (f pos : Nat) (st : Option Nat) (acc : List (Nat × Nat)), (Lib.spansFromP p s f pos st acc).1.length ≤ acc.length + f
 | 0, _, _, _ => by simp [Lib.spansFromP]
 | f + 1, pos, st, acc => by
  unfold Lib.spansFromP
  split
  ·split
   ·cases st with
    | none => have := spans_few p s f (pos + (Utf8.decode s pos).2) none acc; simp only; omega
    | some a => have := spans_few p s f (pos + (Utf8.decode s pos).2) none (acc ++ [(a, pos)]); simp only; rw [List.length_append, List.length_singleton] at this; omega
   ·cases st with
    | none => have := spans_few p s f (pos + (Utf8.decode s pos).2) (some pos) acc; simp only; omega
    | some a => have := spans_few p s f (pos + (Utf8.decode s pos).2) (some a) acc; simp only; omega
  ·simp only; omega
theorem fields_few (l : List UInt8) : (Lib.goFieldsP sepR (bytesOf l)).length ≤ l.length + 1 := by
 have h := spans_few sepR (bytesOf l) (bytesOf l).size 0 none []
 have hz : (bytesOf l).size = l.length := by simp [bytesOf, ByteArray.size]
 unfold Lib.goFieldsP Lib.spansOfP Lib.closeSpans
 rw [List.length_map]
 rw [hz] at h ⊢
 simp only [List.length_nil] at h
 split
 ·rw [List.length_append, List.length_singleton]; omega
 ·omega
theorem map_short (f : Int → Int) (l : List UInt8) : (Lib.mapD f l).length ≤ 4 * l.length := by
 have h : ∀ (n : Nat) (l : List UInt8), (Lib.mapGoD f n l).length ≤ 4 * n := by
  intro n
  induction n with
  | zero => intro l; simp [Lib.mapGoD]
  | succ n ih =>
   intro l
   unfold Lib.mapGoD
   split
   ·simp
   ·have h1 := ih (l.drop (Lib.decodeL l).2)
    rw [List.length_append]
    split
    ·have h2 := (Lib.encodeRuneZ_length (f (Lib.decodeL l).1)).2
     have h3 := Lib.runeCells_length (f (Lib.decodeL l).1)
     have : (Lib.encodeRune (f (Lib.decodeL l).1)).length ≤ 4 := by
      unfold Lib.encodeRune
      rw [List.length_map]; exact h2
     omega
    ·simp only [List.length_nil]; omega
 exact h _ _
theorem TxAt.of_owns {w : World} {B A : Nat} {N : List ByteArray} (h : w.ownsRow B 9 1 (.slice (some ⟨A, 0, none⟩) N.length N.length) N.length (N.map Value.string)) : TxAt w A (N.map (·.data.toList)) := by
 intro j p hj
 rw [List.getElem?_map] at hj
 cases hN : N[j]? with
 | none => rw [hN] at hj; cases hj
 | some b =>
  rw [hN] at hj
  cases hj
  have := h.cells (g := A) rfl j (.string b) (by rw [List.getElem?_map, hN]; rfl)
  have e : (⟨A, 0, none⟩ : Addr).add j = ⟨A, j, none⟩ := by unfold Addr.add; split <;> simp_all
  rw [e] at this
  rw [this]
theorem val_wf (p : List UInt8) (hp : p.length ≤ 18) : (Lit.int .i64 (valW p)).wf = true := by
 simp only [Lit.wf, Bool.and_eq_true, decide_eq_true_eq]
 exact val_in p hp
theorem zero_wf : zeroI.Wf := ⟨rfl, rfl, rfl, rfl, rfl, rfl⟩
theorem wopI_wf {i : In} (hi : i.Wf) {N : List (List UInt8)} (h : ∀ p ∈ N, p.length ≤ 18) : (wopI i N).Wf := by
 have hd : ∀ M : List (List UInt8), (∀ p ∈ M, p ∈ N) → (M.headD []).length ≤ 18 := fun M hM => by
  cases M with
  | nil => simp
  | cons a r => exact h a (hM a (List.mem_cons_self ..))
 have h1 : (wopD i N).Wf := by
  unfold wopD
  split
  ·exact { hi with d := val_wf _ (hd N fun _ h => h) }
  ·exact hi
 unfold wopI
 split
 ·have hN : ∀ p ∈ wopN i N, p ∈ N := fun p hp => ?_
  ·exact { h1 with m := val_wf _ (hd (wopN i N) hN) }
  unfold wopN at hp
  split at hp
  ·exact List.mem_of_mem_tail hp
  ·exact hp
 ·exact h1
theorem foundG_wf (s : List UInt8) (n : Nat) (hs : s.length ≤ 18) : (foundG s n).Wf := by
 unfold foundG
 refine wopI_wf ?_ fun p hp => ?_
 ·cases h : bareF (s.take n ++ Lib.mapD keepR (s.drop n)) with
  | none => exact zero_wf
  | some i =>
   unfold bareF at h
   obtain ⟨-, -, g, hg, op, ho, e⟩ := grpF_some _ _ (hlF (s.take n ++ Lib.mapD keepR (s.drop n))).2 i _ (fun _ h => h) h
   show i.Wf
   rw [e]
   exact zO_wf hg ho
 ·have h1 := fields_short (s.drop n) p hp
  rw [List.length_drop] at h1
  omega
set_option maxHeartbeats 16000000 in
theorem found_any (w : World) (hV : VP w w.heap.size) (s : List UInt8) (n : Nat) (hs : s.length ≤ 18) (hn : n ≤ s.length) :
  Calls Tryz.prog 28 #[.string ⟨s.toArray⟩, .int .i64 (n : Int)] w fun e w' => e = .returned (foundG s n).val ∧ Below w.heap.size w w' := by
 obtain ⟨w1, hw1⟩ : ∃ w1, w.alloc (inO zeroI) = w1 := ⟨_, rfl⟩
 have hb1 : Below w.heap.size w w1 := hw1 ▸ (Below.refl _ _).alloc (Nat.le_refl _) _
 have hr1 : InW w1 w.heap.size zeroI := hw1 ▸ InW.laid w zeroI
 have hV1 : VP w1 w1.heap.size := hV.later hb1
 have hdn : (s.drop n).length ≤ 18 := by rw [List.length_drop]; omega
 have htn : (s.take n).length ≤ 18 := by rw [List.length_take]; omega
 have hml := map_short keepR (s.drop n)
 have hbl : (s.take n ++ Lib.mapD keepR (s.drop n)).length ≤ 1000 := by rw [List.length_append]; omega
 have hff := fields_few (s.drop n)
 have hfs := fields_short (s.drop n)
 have hz : (⟨s.toArray⟩ : ByteArray).size = s.length := by simp [ByteArray.size]
 have hcut := cut_text s n s.length rfl
 have hhead := head_text s n
 have hadd := add_lit (s.take n) (Lib.mapD keepR (s.drop n)) (by omega) (by omega)
 obtain ⟨X, hX⟩ : ∃ X, foundG s n = X := ⟨_, rfl⟩
 rw [hX]
 unfold foundG at hX
 obtain ⟨hd, hhd⟩ : ∃ hd, s.take n = hd := ⟨_, rfl⟩
 obtain ⟨tl, htl⟩ : ∃ tl, s.drop n = tl := ⟨_, rfl⟩
 rw [hhd] at hX hbl hhead hadd htn
 rw [htl] at hX hbl hcut hadd hml hff hfs hdn
 have HM := z_ (fun (w0 : World) (h : VP w0 w0.heap.size) => Tryz.strings_Map_grows 54 #[] (fun _ _ => rfl) keepR ⟨tl.toArray⟩ w0 (by simp [ByteArray.size]; omega) (kept_grows w0) keep_in (h.utf w0 (Below.refl _ _)))
 have HF := z_ (fun (w0 : World) => Tryz.strings_FieldsFunc_grows 57 #[] (fun _ _ => rfl) sepR ⟨tl.toArray⟩ w0 (by simp [ByteArray.size]; omega) (seps_grow w0))
 obtain ⟨mp, hmp⟩ : ∃ mp, Lib.mapD keepR tl = mp := ⟨_, rfl⟩
 have hdl : (⟨tl.toArray⟩ : ByteArray).data.toList = tl := by simp
 have HO := z_ (fun (w0 : World) (h : VP w0 w0.heap.size) => ofbare_any w0 h (hd ++ mp) (hmp ▸ hbl))
 simp only [hdl, hmp] at HM
 rw [hmp] at hX hadd
 have hft : fieldsG tl = (Lib.goFieldsP sepR ⟨tl.toArray⟩).map (·.data.toList) := rfl
 have hff2 : (Lib.goFieldsP sepR ⟨tl.toArray⟩).length ≤ tl.length + 1 := hff
 obtain ⟨N, hN⟩ : ∃ N, Lib.goFieldsP sepR ⟨tl.toArray⟩ = N := ⟨_, rfl⟩
 rw [hN] at HF hft hff2
 rw [hft] at hX hfs
 have hnl : N.length ≤ 1000 := by omega
 have hfs2 : ∀ p ∈ N.map (·.data.toList), p.length ≤ 18 := fun p hp => by have := hfs p hp; omega
 obtain ⟨b0, hB0⟩ : ∃ b0, (bareF (hd ++ mp)) = b0 := ⟨_, rfl⟩
 rw [hB0] at hX HO
 obtain ⟨J, hJ⟩ : ∃ J, b0.getD zeroI = J := ⟨_, rfl⟩
 obtain ⟨q, hq⟩ : ∃ q, b0.isSome = q := ⟨_, rfl⟩
 rw [hJ, hq] at HO
 rw [hJ] at hX
 have HX := z_ hX
 have HVw := z_ hV
 have HVd := z_ (hV1.later (Below.refl _ _).drew)
 have HR := z_ hr1
 have HB := z_ hb1
 have HV := z_ hV1
 have HNl := z_ hnl
 have HFs := z_ hfs2
 obtain ⟨S, hS⟩ : ∃ S : ByteArray, (⟨s.toArray⟩ : ByteArray) = S := ⟨_, rfl⟩
 obtain ⟨HD, hHD⟩ : ∃ S : ByteArray, (⟨hd.toArray⟩ : ByteArray) = S := ⟨_, rfl⟩
 obtain ⟨TL, hTL⟩ : ∃ S : ByteArray, (⟨tl.toArray⟩ : ByteArray) = S := ⟨_, rfl⟩
 obtain ⟨MP, hMP⟩ : ∃ S : ByteArray, (⟨mp.toArray⟩ : ByteArray) = S := ⟨_, rfl⟩
 obtain ⟨AD, hAD⟩ : ∃ S : ByteArray, (⟨(hd ++ mp).toArray⟩ : ByteArray) = S := ⟨_, rfl⟩
 rw [hS] at hcut hhead hz ⊢
 rw [hHD] at hhead hadd
 rw [hTL] at hcut HM HF
 rw [hMP] at hadd HM
 rw [hAD] at hadd HO
 obtain ⟨L, hL⟩ : ∃ L, s.length = L := ⟨_, rfl⟩
 rw [hL] at hz hn hcut
 have hn1 : (n : Int) ≤ S.size := by rw [hz]; omega
 have hn0 : (0 : Int) ≤ n := by omega
 have hs1 : ∀ wx, (Instr.slice 9 (.string S) none (some (.int .i64 (n : Int))) none).run Tryz.prog wx = .ok (.string HD) wx := fun wx => by
  rw [run_slice_string_h (P := Tryz.prog) wx 9 S Tryz.underlying9 .i64 n hn0 hn1, Int.toNat_natCast, hhead]
 have hs2 : ∀ wx, (Instr.slice 9 (.string S) (some (.int .i64 (n : Int))) none none).run Tryz.prog wx = .ok (.string TL) wx := fun wx => by
  rw [run_slice_string_l (P := Tryz.prog) wx 9 S Tryz.underlying9 .i64 n hn0 hn1, Int.toNat_natCast, hz, hcut]
 unfold inO zeroI at hw1
 clear hV hdn htn hml hbl hff hfs hcut hhead hX hhd htl hmp hdl hft hff2 hN hnl hfs2 hB0 hJ hq hS hHD hTL hMP hAD hL hr1 hb1 hV1 hz hn hs hn0 hn1
 go_enter Tryz.func28, Tryz.ntmps28
 go_upto_region 1 with fail
 go_region
 clear hs1 hs2
 go_upto_region 3 with (first
  | (go_at_call 53; (with_reducible refine (HM.out _ HVd.out).mono ?_); rintro e w2 ⟨rfl, hb2⟩)
  | (go_at_call 52; (with_reducible refine (HO.out _ (HVd.out.later hb2)).mono ?_); rintro e w3 ⟨rfl, hb3⟩)
  | (refine sr w3.heap.size rfl rfl rfl rfl (InW.laid w3 zeroI) (in_one J) ?_))
 obtain ⟨w4, hw4⟩ : ∃ w4, (w3.alloc (inO zeroI)).setRow w3.heap.size J.cells = w4 := ⟨_, rfl⟩
 have hsz12 := hb2.size
 have hsz23 := hb3.size
 have hlt1 := HR.out.lt
 have hz1 : w1.drew.heap.size = w1.heap.size := rfl
 have hr3 : InW w3 w.heap.size zeroI := (HR.out.below ((Below.refl _ _).drew) hlt1).below hb2 (by omega) |>.below hb3 (by omega)
 have hb03 : Below w.heap.size w w3 := ((HB.out.drew).trans (hb2.mono (by have := HB.out.size; omega))).trans (hb3.mono (by have := HB.out.size; omega))
 have hI4 : InW w4 w3.heap.size J := hw4 ▸ setRow_heap _ _ _ _ _ _ (InW.laid w3 zeroI)
 have hr4 : InW w4 w.heap.size zeroI := hw4 ▸ (setRow_other _ _ _ _ (by omega)).trans (hr3.more _)
 have hb04 : Below w.heap.size w w4 := hw4 ▸ below_setRow (hb03.alloc hb03.size _) (by omega) _
 have hlt : w.heap.size < w4.heap.size := hr4.lt
 have hne : w3.heap.size ≠ w.heap.size := by omega
 have HR4 := z_ hr4
 have HI4 := z_ hI4
 have HB4 := z_ hb04
 have hI0 : (fun o => o = some (Obj.cells zeroI.cells 23 (0, 0))) (w4.heap[w.heap.size]?) := hr4
 haveI : Nonempty (M.Of (M.But w4 w.heap.size (fun _ => True))) := ⟨⟨w4, M.But.refl hlt trivial⟩⟩
 unfold inO zeroI at hw4
 simp only at hw4
 rw [hw4]
 clear hw4 hr4 hI4 hb04 hb03 hr3 hz1 hlt1 hsz12 hsz23 hb2 hb3
 refine M.regionF_ (M.But w4 w.heap.size (fun _ => True)) (M.But w4 w.heap.size (fun o => o = some (.cells zeroI.cells 23 (0, 0)))) (M.closed_but _ _ _) (M.But.weaken (fun _ _ => trivial)) (fun n => M.But.start hlt HR4.out n) (by kernel_rfl) ?_
 refine M.cm 0 J.val ?_ ?_
 ·intro wz sz
  exact dl ((sz.other HI4.out.lt hne).trans HI4.out)
 go_simp
 refine M.sx [1] 3 (M.But.refl hlt trivial) ?_
 repeat (go_big_quiet_step (fail))
 refine wpQuiet_nil ?_
 refine M.cl 2 ?_
 intro wz sz
 unfold Oper.does
 go_simp
 refine (HF.out wz).mono ?_
 rintro e w5 ⟨A, rfl, hA, hown, hb5⟩
 have s5 := M.closed_but _ _ _ wz w5 sz (Save.of_below hb5)
 have hT5 := TxAt.of_owns hown
 have hA5 : A < w5.heap.size := (hown.lt A rfl).2
 refine ⟨_, rfl, M.Base w5, M.Base.refl _, M.closed_base _, fun wx h => M.But.weaken (fun _ _ => trivial) _ (M.closed_but _ _ _ w5 wx s5 (Save.of_below h.2)), ?_⟩
 refine M.cl 3 ?_
 intro wy sy
 have s6 := M.closed_but _ _ _ w5 wy s5 (Save.of_below sy.2)
 have hVy : VP wy wy.heap.size := HVw.out.later (HB4.out.trans (s6.below (Nat.le_refl _)))
 unfold Oper.does
 go_simp
 refine (wop_any wy hVy J A N.length _ (by rw [List.length_map]) (by have := sy.1; omega) (hT5.below sy.2 hA5) HFs.out HNl.out).mono ?_
 rintro e w6 ⟨rfl, hb6⟩
 have s7 := M.closed_but _ _ _ wy w6 s6 (Save.of_below hb6)
 refine ⟨_, rfl, M.But w4 w.heap.size (fun o => o = some (.cells zeroI.cells 23 (0, 0))), s7, M.closed_but _ _ _, M.But.weaken (fun _ _ => trivial), ?_⟩
 rw [HX.out]
 clear hb6 hT5 hA5 hown hA hb5 hVy s5 s6 s7 sz sy
 refine M.cl 4 ?_
 intro wq sq
 refine does_store_ins 23 _ _ rfl w.heap.size _ rfl rfl 23 _ sq.2.2 in_info rfl (in_one X) ?_
 refine ⟨M.But w4 w.heap.size (fun o => o = some (.cells X.cells 23 (0, 0))), sq.step (save_setRow _ _ _) (setRow_heap _ _ _ _ _ _ sq.2.2), M.closed_but _ _ _, M.But.weaken (fun _ _ => trivial), ?_⟩
 clear sq
 refine M.en ?_
 intro wc sc
 go_wp2
 (try simp only [Exit.inBlock, Exit.then])
 exact bodyPost_ret (results_cell_row rfl _ _ _ _ _ (0, 0) _ rfl sc.2.2 Tryz.underlying23 rfl in_info) rfl ⟨rfl, HB4.out.trans (sc.below (Nat.le_refl _))⟩
end Go.Proofs.YtgaihekapakoeaaGreatDoor
namespace Go.Proofs.YtgaihekapakoeaaGreatDoor
open Go.RowKit


set_option maxRecDepth 100000

theorem splitK_short (sep : List UInt8) : ∀ (k : Nat) (s : List UInt8), (∀ p ∈ Lib.splitK sep 0 k s, p.length ≤ s.length) ∧ (Lib.splitK sep 0 k s).length ≤ k + 1
 | 0, s => by
  unfold Lib.splitK
  exact ⟨fun p hp => by rw [List.mem_singleton.1 hp]; exact Nat.le_refl _, by simp⟩
 | k + 1, s => by
  unfold Lib.splitK
  split
  ·exact ⟨fun p hp => by rw [List.mem_singleton.1 hp]; exact Nat.le_refl _, by simp⟩
  ·have h := splitK_short sep k (s.drop ((Lib.index s sep).toNat + sep.length))
   refine ⟨fun p hp => ?_, by rw [List.length_cons]; omega⟩
   rcases List.mem_cons.1 hp with rfl | hp
   ·rw [List.length_take]; omega
   ·have := h.1 p hp
    rw [List.length_drop] at this
    omega
set_option maxHeartbeats 8000000 in
theorem digits_any (w : World) (hV : VP w w.heap.size) (s : List UInt8) (hs : s.length ≤ 18) :
  Calls Tryz.prog 30 #[.string ⟨s.toArray⟩] w fun e w' => e = .returned (digitsF s).val ∧ Below w.heap.size w w' := by
 obtain ⟨w1, hw1⟩ : ∃ w1, w.alloc (inO zeroI) = w1 := ⟨_, rfl⟩
 have hb1 : Below w.heap.size w w1 := hw1 ▸ (Below.refl _ _).alloc (Nat.le_refl _) _
 have hr1 : InW w1 w.heap.size zeroI := hw1 ▸ InW.laid w zeroI
 have HC := z_ (fun w0 => Tryz.strings_CutPrefix ⟨s.toArray⟩ ⟨#[68, 66, 32]⟩ w0)
 have hdl : (⟨s.toArray⟩ : ByteArray).data.toList = s := by simp
 have hpl : (⟨#[68, 66, 32]⟩ : ByteArray).data.toList = [68, 66, 32] := rfl
 simp only [hdl, hpl] at HC
 obtain ⟨X, hX⟩ : ∃ X, digitsF s = X := ⟨_, rfl⟩
 rw [hX]
 unfold digitsF piecesF at hX
 have htl : (Lib.trimPrefix s [68, 66, 32]).length ≤ s.length := by
  unfold Lib.trimPrefix
  split
  ·rw [List.length_drop]; omega
  ·omega
 obtain ⟨T, hT⟩ : ∃ T, Lib.trimPrefix s [68, 66, 32] = T := ⟨_, rfl⟩
 obtain ⟨q, hq⟩ : ∃ q, Lib.hasPrefix s [68, 66, 32] = q := ⟨_, rfl⟩
 rw [hT, hq] at HC
 rw [hT, hq] at hX
 rw [hT] at htl
 obtain ⟨S, hS⟩ : ∃ S : ByteArray, (⟨s.toArray⟩ : ByteArray) = S := ⟨_, rfl⟩
 rw [hS] at HC ⊢
 have hTz : (⟨T.toArray⟩ : ByteArray).size = T.length := by simp [ByteArray.size]
 have hTd : (⟨T.toArray⟩ : ByteArray).data.toList = T := by simp
 obtain ⟨T', hT'⟩ : ∃ S : ByteArray, (⟨T.toArray⟩ : ByteArray) = S := ⟨_, rfl⟩
 rw [hT'] at HC hTz hTd
 obtain ⟨mx, hmx, hmlt⟩ := hV.max
 have hmx1 := (hb1.cell (p := ⟨4, 0, none⟩) hmlt).trans hmx
 have hV1 : VP w1 w1.heap.size := hV.later hb1
 have hSp := Tryz.strings_Split T' ⟨#[44]⟩ mx w1 (by omega) hmx1 (by decide)
 have hcd : (⟨#[44]⟩ : ByteArray).data.toList = [44] := rfl
 have hNd := Lib.splitB_data ⟨#[44]⟩ 0 (Lib.countB T' ⟨#[44]⟩) T'
 have hNl := Lib.splitB_all ⟨#[44]⟩ (by decide) 0 (Lib.countB T' ⟨#[44]⟩) T' rfl
 rw [hTd, hcd] at hNd
 have hsp : Lib.split T [44] = Lib.splitK [44] 0 (Lib.countB T' ⟨#[44]⟩) T := by
  unfold Lib.split Lib.countB
  rw [hTd, hcd]
 have hcl := Lib.countB_le ⟨#[44]⟩ (by decide) T'.size T' (Nat.le_refl _)
 have hsh := (splitK_short [44] (Lib.countB T' ⟨#[44]⟩) T).1
 rw [← hNd] at hsp hsh
 obtain ⟨N, hN⟩ : ∃ N, Lib.splitB ⟨#[44]⟩ 0 (Lib.countB T' ⟨#[44]⟩) T' = N := ⟨_, rfl⟩
 obtain ⟨n, hn⟩ : ∃ n, Lib.countB T' ⟨#[44]⟩ + 1 = n := ⟨_, rfl⟩
 have hn2 : (Lib.countB T' ⟨#[44]⟩ : Int) + 1 = (n : Int) := by omega
 rw [hN, hn] at hNl
 rw [hN] at hsp hsh hSp
 have hnb : n ≤ 100 := by omega
 rw [hn] at hSp
 have hsz1 : w1.heap.size = w.heap.size + 1 := by rw [← hw1]; simp
 rw [hsp, List.map_map] at hX
 obtain ⟨P, hP⟩ : ∃ P, N.map ((fun p => valW p % 256) ∘ fun x => x.data.toList) = P := ⟨_, rfl⟩
 rw [hP] at hX
 have hPn : P.length = n := by rw [← hP, List.length_map]; exact hNl
 have hPb : AllB P := by
  intro v hv
  rw [← hP] at hv
  obtain ⟨b, -, rfl⟩ := List.mem_map.1 hv
  simp only [Function.comp]
  omega
 have HX := z_ hX
 have HR := z_ hr1
 have HB := z_ hb1
 have HV := z_ hV1
 have HSp := z_ hSp
 have HSh := z_ hsh
 have HN := z_ hNl
 have HP := z_ hP
 have HPn := z_ hPn
 have HPb := z_ hPb
 have HTl := z_ htl
 have HVw := z_ hV
 have HSz1 := z_ hsz1
 unfold inO zeroI at hw1
 clear hV hX hr1 hb1 hV1 hSp hsh hNl hP hPn hPb htl hdl hpl hT hq hS hTz hTd hT' hmx hmlt hmx1 hcd hNd hsp hcl hN hn hn2 hsz1
 cases q with
 | false =>
  go_enter Tryz.func30, Tryz.ntmps30
  go_wp2_with (first
   | (go_at_call 58; (with_reducible refine (HC.out _).mono ?_); rintro e w2 ⟨rfl, rfl⟩)
   | (refine sr w.heap.size rfl rfl rfl rfl HR.out (in_one zeroI) ?_))
  (try simp only [Exit.inBlock, Exit.then])
  exact bodyPost_ret (results_cell_row rfl _ _ _ _ _ (0, 0) _ rfl (setRow_heap _ _ _ _ _ _ HR.out) Tryz.underlying23 rfl in_info) rfl ⟨by rw [← HX.out]; rfl, below_setRow HB.out (Nat.le_refl _) _⟩
 | true =>
  go_enter Tryz.func30, Tryz.ntmps30
  go_wp2_with (first
   | (go_at_call 58; (with_reducible refine (HC.out _).mono ?_); rintro e w' ⟨rfl, hw⟩; obtain rfl := hw.symm)
   | (go_at_call 59; (with_reducible refine HSp.out.mono ?_); rintro e w2 ⟨rfl, hw2⟩; have HW2 := z_ hw2; clear hw2))
  have hw2 := HW2.out
  clear HW2
  have hr2 : InW w2 w.heap.size zeroI := hw2 ▸ HR.out.more _
  have hb2 : Below w1.heap.size w1 w2 := hw2 ▸ (Below.refl _ _).alloc (Nat.le_refl _) _
  have hsz2 : w2.heap.size = w1.heap.size + 1 := by rw [hw2]; simp
  have hT2 : ∀ j b, N[j]? = some b → w2.cell? ⟨w1.heap.size, j, none⟩ = some (.string b) := fun j b hj => by
   rw [hw2, Lib.cell_of_heap (heap_alloc_new _ _)]
   rw [List.getElem?_toArray, List.getElem?_map, hj]; rfl
  have HR2 := z_ hr2
  have HB2 := z_ hb2
  have HSz2 := z_ hsz2
  have HT2 := z_ hT2
  clear hw2 hr2 hb2 hsz2 hT2
  go_loopw [5, 21] (fun v i wr => ∃ (j : Nat) (A : Option Addr) (d : Nat), j ≤ n ∧ i = .int .i64 j ∧ v = .slice A (P.take j).length d ∧ OB wr w2.heap.size A d (P.take j) ∧ Below w2.heap.size w2 wr) (fun _ i _ => n - (intOf i).toNat)
  case atStart => exact ⟨0, none, 0, by omega, rfl, rfl, OB.nil _ _, Below.refl _ _⟩
  case round =>
   rename World => wr
   obtain ⟨j, A, d, hj, rfl, rfl, ho, hb⟩ := hrel
   by_cases hjn : j < n
   ·obtain ⟨b, hbj⟩ : ∃ b, N[j]? = some b := ⟨_, List.getElem?_eq_getElem (by rw [HN.out]; exact hjn)⟩
    have hd := (World.cell?_of_block (hb.block w1.heap.size (by rw [HSz2.out]; omega))).trans (HT2.out j b hbj)
    have hpl := HSh.out b.data.toList (List.mem_map.2 ⟨b, List.mem_of_getElem? hbj, rfl⟩)
    have hVr : VP wr w.heap.size := (HVw.out.below HB.out).below ((HB2.out.mono HB.out.size).trans (hb.mono (by have := HB.out.size; have := HB2.out.size; omega)))
    have hval := val_any wr _ hVr b.data.toList (by have := HTl.out; omega)
    have hnx : P.take (j + 1) = P.take j ++ [valW b.data.toList % 256] := by
     rw [List.take_succ_eq_append_getElem (by rw [HPn.out]; exact hjn)]
     congr 2
     have : P[j]? = some (valW b.data.toList % 256) := by
      rw [← HP.out, List.getElem?_map, hbj]; rfl
     rw [List.getElem?_eq_getElem (by rw [HPn.out]; exact hjn)] at this
     exact Option.some.inj this
    have hbe : (⟨b.data.toList.toArray⟩ : ByteArray) = b := by simp
    rw [hbe] at hval
    obtain ⟨V, hVv⟩ : ∃ V, valW b.data.toList = V := ⟨_, rfl⟩
    rw [hVv] at hval hnx
    have htl : (P.take j).length = j := by rw [List.length_take, HPn.out]; omega
    have HVal := z_ hval
    have HNx := z_ hnx
    have HO := z_ ho
    have HBr := z_ hb
    have HTk := z_ htl
    clear hval hnx hbe hVv hbj hpl hVr ho hb
    obtain ⟨Pj, hPj⟩ : ∃ Pj, P.take j = Pj := ⟨_, rfl⟩
    rw [hPj] at HO htl HNx ⊢
    rw [htl]
    go_wp2_with (first
     | (refine HVal.out.mono ?_; rintro e w5 ⟨rfl, hb5⟩)
     | (at_builtin; refine wpList_append_rb _ rfl _ _ rfl w2.heap.size _ _ _ _ Pj rfl htl.symm ((HO.out.below hb5 (Nat.le_refl _)).alloc _) _ _ _ [_] rfl rfl (RB.lit1 _ _ (by first | omega | (simp only [wrap8]; omega)) (by first | omega | (simp only [wrap8]; omega))) (by simp; omega) (by have := HBr.out.size; have := hb5.size; simp; omega) ?_; intro A' c' w6 hob hbel hne))
    go_roundw
    case rel =>
     have h25 : w2.heap.size ≤ w5.heap.size := Nat.le_trans HBr.out.size hb5.size
     refine ⟨j + 1, A', c', by omega, by go_num, ?_, ?_, HBr.out.trans ((hb5.mono HBr.out.size).trans (((Below.refl _ _).alloc h25 _).trans hbel))⟩
     ·rw [HNx.out, List.length_append, htl]; rfl
     ·rw [HNx.out]; exact hob
    case measure => simp [intOf]; omega
   ·obtain rfl : j = n := by omega
    have htk : P.take j = P := List.take_of_length_le (by rw [HPn.out]; exact Nat.le_refl _)
    rw [htk] at ho ⊢
    have hof := fun (wz : World) (A' : Option Addr) (c' : Nat) (h : RB wz wz.heap.size A' c' (P ++ [221])) => c9_of A' c' (j + 1) (P ++ [221]) wz (by rw [List.length_append, HPn.out]; rfl) h
    have hXd : ofV (P ++ [221]) = X := by rw [← HX.out, if_pos trivial]
    obtain ⟨E, hE⟩ : ∃ E, ofE (P ++ [221]) = E := ⟨_, rfl⟩
    simp only [hXd, hE, in_val X] at hof
    have HOf := z_ hof
    have HO := z_ ho
    have HBr := z_ hb
    have hpn := HPn.out
    rw [hpn]
    clear hof hXd hE ho hb htk
    go_upto_region 11 with (first
     | (at_builtin; refine wpList_append_rb _ rfl _ _ rfl w2.heap.size _ _ _ _ P rfl hpn.symm (HO.out.alloc _) _ _ _ [_] rfl rfl (RB.lit1 _ _ (by decide) (by decide)) (by simp; omega) (by have := HBr.out.size; simp; omega) ?_; intro A' c' w6 hob hbel hne; have HO6 := z_ hob; have HB6 := z_ hbel; clear hob hbel hne)
     | (go_at_call 61; (with_reducible refine (HOf.out _ _ _ HO6.out.rb).mono ?_); rintro e w7 ⟨rfl, hb7⟩; have HB7 := z_ hb7; clear hb7)
     | (refine sr w7.heap.size rfl rfl rfl rfl (InW.laid w7 zeroI) (in_one X) ?_))
    obtain ⟨w8, hw8⟩ : ∃ w8, (w7.alloc (inO zeroI)).setRow w7.heap.size X.cells = w8 := ⟨_, rfl⟩
    have hI8 : InW w8 w7.heap.size X := hw8 ▸ setRow_heap _ _ _ _ _ _ (InW.laid w7 zeroI)
    have h12 := HB2.out.size
    have h2r := HBr.out.size
    have hlt := HR.out.lt
    have hb27 : Below w2.heap.size w2 w7 := HBr.out.trans (((Below.refl _ _).alloc h2r _).trans (HB6.out.trans (HB7.out.mono (Nat.le_trans (Nat.le_trans h2r (by simp)) HB6.out.size))))
    have hb07 : Below w.heap.size w w7 := HB.out.trans ((HB2.out.mono HB.out.size).trans (hb27.mono (Nat.le_trans HB.out.size h12)))
    have hr7 : InW w7 w.heap.size zeroI := HR2.out.below hb27 (by omega)
    have h27 := hb27.size
    have hr8 : InW w8 w.heap.size zeroI := hw8 ▸ (setRow_other _ _ _ _ (by omega)).trans (hr7.more _)
    have hb08 : Below w.heap.size w w8 := hw8 ▸ below_setRow (hb07.alloc hb07.size _) (by omega) _
    have HR8 := z_ hr8
    have HI8 := z_ hI8
    have HB8 := z_ hb08
    unfold inO zeroI In.cells at hw8
    simp only at hw8
    rw [hw8]
    clear hw8 hI8 h12 h2r hlt hb27 hb07 hr7 h27 hr8 hb08
    go_wp2_with (first
     | (refine lr w7.heap.size rfl rfl rfl HI8.out ?_)
     | (refine sr w.heap.size rfl rfl rfl rfl HR8.out (in_one X) ?_))
    (try simp only [Exit.inBlock, Exit.then])
    exact bodyPost_ret (results_cell_row rfl _ _ _ _ _ (0, 0) _ rfl (setRow_heap _ _ _ _ _ _ HR8.out) Tryz.underlying23 rfl in_info) rfl ⟨rfl, below_setRow HB8.out (Nat.le_refl _) _⟩
end Go.Proofs.YtgaihekapakoeaaGreatDoor
namespace Go.Proofs.YtgaihekapakoeaaGreatDoor
open Go.RowKit


theorem nD1 {u : Nat} (h : u < 10) : Lib.nDigits u = 1 := Lib.nDigits_small h
theorem nD2 {u : Nat} (h : u < 100) : Lib.nDigits u ≤ 2 := by
 unfold Lib.nDigits; split
 ·omega
 ·have := nD1 (u := u / 10) (by omega); omega
theorem nD3 {u : Nat} (h : u < 1000) : Lib.nDigits u ≤ 3 := by
 unfold Lib.nDigits; split
 ·omega
 ·have := nD2 (u := u / 10) (by omega); omega
theorem nD4 {u : Nat} (h : u < 10000) : Lib.nDigits u ≤ 4 := by
 unfold Lib.nDigits; split
 ·omega
 ·have := nD3 (u := u / 10) (by omega); omega
theorem nD5 {u : Nat} (h : u < 100000) : Lib.nDigits u ≤ 5 := by
 unfold Lib.nDigits; split
 ·omega
 ·have := nD4 (u := u / 10) (by omega); omega
theorem sign_len (v : Int) (k : Nat) (h : Lib.nDigits v.natAbs ≤ k) : (Lib.itoa v).length ≤ k + 1 ∧ (0 ≤ v → (Lib.itoa v).length ≤ k) ∧ (signT false v).length ≤ k + 1 := by
 have hi : (Lib.itoa v).length = if v < 0 then Lib.nDigits v.natAbs + 1 else Lib.nDigits v.natAbs := by
  unfold Lib.itoa
  split
  ·rw [List.length_cons, Lib.decDigits_length]
  ·rw [Lib.decDigits_length, show v.natAbs = v.toNat by omega]
 have hs : (signT false v).length = if 0 ≤ v then (Lib.itoa v).length + 1 else (Lib.itoa v).length := by
  unfold signT
  rw [if_neg (by decide)]
  split
  ·rw [List.length_append]; simp; omega
  ·rfl
 rw [hs, hi]
 refine ⟨?_, ?_, ?_⟩
 ·split <;> omega
 ·intro h0; rw [if_neg (by omega)]; exact h
 ·split
  ·rw [if_neg (by omega)]; omega
  ·rw [if_pos (by omega)]; omega
def lenT (n : Int) (t : Nat) : Nat := if t = 258 then 4 else if t = 256 ∨ t = 257 then (if n = 2 then 6 else 4) else 1
def shortOk (s x o : Int) : Bool := if dbK s x o = true then decide (lenI s x o ≤ 4) else decide (((toksK s x o).map (lenT (needN s x o))).sum ≤ 18)
theorem so_main0 : ∀ o : Fin 256, isOneI 0 0 o.val = false ∨ shortOk 0 0 o.val = true := by decide +kernel
theorem so_main1 : ∀ o : Fin 256, isOneI 0 1 o.val = false ∨ shortOk 0 1 o.val = true := by decide +kernel
theorem so_main2 : ∀ o : Fin 256, isOneI 0 2 o.val = false ∨ shortOk 0 2 o.val = true := by decide +kernel
theorem so_bits : ∀ o : Fin 256, shortOk 1 0 o.val = true := by decide +kernel
theorem so_more : ∀ o : Fin 256, shortOk 2 0 o.val = true := by decide +kernel
theorem so_both1 : ∀ o : Fin 256, shortOk 3 1 o.val = true := by decide +kernel
theorem so_both2 : ∀ o : Fin 256, shortOk 3 2 o.val = true := by decide +kernel
theorem short_ok {s x o : Int} (h : isOneI s x o = true) : shortOk s x o = true := by
 obtain ⟨hs, hx, o0, o1⟩ := one_cases h
 have f : ∀ {P : Int → Prop}, (∀ o : Fin 256, P o.val) → P o := fun h => fin_o h o0 o1
 rcases hs with rfl | rfl | rfl | rfl
 ·rcases hx with rfl | rfl | rfl
  ·rcases f (P := fun o => isOneI 0 0 o = false ∨ shortOk 0 0 o = true) so_main0 with k | k
   ·rw [h] at k; cases k
   ·exact k
  ·rcases f (P := fun o => isOneI 0 1 o = false ∨ shortOk 0 1 o = true) so_main1 with k | k
   ·rw [h] at k; cases k
   ·exact k
  ·rcases f (P := fun o => isOneI 0 2 o = false ∨ shortOk 0 2 o = true) so_main2 with k | k
   ·rw [h] at k; cases k
   ·exact k
 ·obtain rfl := one_x0 (.inl rfl) h
  exact f (P := fun o => shortOk 1 0 o = true) so_bits
 ·obtain rfl := one_x0 (.inr rfl) h
  exact f (P := fun o => shortOk 2 0 o = true) so_more
 ·have hx12 : x = 1 ∨ x = 2 := by
   rcases hx with rfl | rfl | rfl
   ·unfold isOneI at h; simp at h
   ·exact .inl rfl
   ·exact .inr rfl
  rcases hx12 with rfl | rfl
  ·exact f (P := fun o => shortOk 3 1 o = true) so_both1
  ·exact f (P := fun o => shortOk 3 2 o = true) so_both2
theorem nums_short {i : In} (hm : i.may = true) : Lib.nDigits i.d.natAbs ≤ 3 ∧ (needN i.s i.x i.o = 2 → Lib.nDigits i.m.natAbs ≤ 5) ∧ (needN i.s i.x i.o ≠ 2 → Lib.nDigits i.m.natAbs ≤ 3) := by
  have h3 := (may_one hm).2.2
  have hn := needN_in i.s i.x i.o
  unfold In.ops at h3
  simp only [Bool.and_eq_true] at h3
  obtain ⟨h1, h2⟩ := h3
  have hd : -128 ≤ i.d ∧ i.d ≤ 127 := by
    unfold fitsI num1 at h1
    cases hk : needD i.s i.x i.o with
    | true => simpa [hk] using h1
    | false => have : i.d = 0 := by simpa [hk] using h1
               omega
  unfold fitsI at h2
  refine ⟨nD3 (by omega), fun h => ?_, fun h => ?_⟩
  · rw [h] at h2
    have : -32768 ≤ i.m ∧ i.m ≤ 65535 := by
      cases hj : jumpI i.s i.o with
      | true => have : -32768 ≤ i.m ∧ i.m ≤ 32767 := by simpa [hj] using h2
                omega
      | false => have : 0 ≤ i.m ∧ i.m ≤ 65535 := by simpa [hj] using h2
                 omega
    exact nD5 (by omega)
  · have : -128 ≤ i.m ∧ i.m ≤ 255 := by
      have h01 : needN i.s i.x i.o = 0 ∨ needN i.s i.x i.o = 1 := by omega
      rcases h01 with k | k
      · have : i.m = 0 := by simpa [k] using h2
        omega
      · cases hj : jumpI i.s i.o with
        | true => have : -128 ≤ i.m ∧ i.m ≤ 127 := by simpa [k, hj] using h2
                  omega
        | false => have : 0 ≤ i.m ∧ i.m ≤ 255 := by simpa [k, hj] using h2
                   omega
    exact nD3 (by omega)
theorem rendT_short {i : In} (hm : i.may = true) (t : Nat) : (rendT false i.d i.m t).length ≤ lenT (needN i.s i.x i.o) t := by
 obtain ⟨h1, h2, h3⟩ := nums_short hm
 obtain ⟨d1, -, d3⟩ := sign_len i.d 3 h1
 unfold rendT lenT
 by_cases t6 : t = 256
 ·subst t6
  simp only [if_true, Bool.false_eq_true, if_false, show ¬ 256 = 258 by decide, true_or]
  by_cases h : needN i.s i.x i.o = 2
  ·rw [if_pos h]; exact (sign_len i.m 5 (h2 h)).1
  ·rw [if_neg h]; exact (sign_len i.m 3 (h3 h)).1
 ·by_cases t7 : t = 257
  ·subst t7
   simp only [if_true, if_false, show ¬ 257 = 258 by decide, show ¬ 257 = 256 by decide, or_true]
   by_cases h : needN i.s i.x i.o = 2
   ·rw [if_pos h]; exact (sign_len i.m 5 (h2 h)).2.2
   ·rw [if_neg h]; exact (sign_len i.m 3 (h3 h)).2.2
  ·by_cases t8 : t = 258
   ·subst t8
    rw [if_neg t6, if_neg t7, if_pos rfl, if_pos rfl]; exact d3
   ·rw [if_neg t6, if_neg t7, if_neg t8, if_neg t8, if_neg (by omega)]; simp
theorem rend_short {i : In} (hm : i.may = true) : ∀ K : List Nat, (rend false i.d i.m K).length ≤ (K.map (lenT (needN i.s i.x i.o))).sum
 | [] => by simp [rend]
 | t :: K => by
  have h1 := rendT_short hm t
  have h2 := rend_short hm K
  rw [rend_cons, List.length_append, List.map_cons, List.sum_cons]
  omega
theorem itoa_byte {v : Int} (h0 : 0 ≤ v) (h1 : v < 256) : (Lib.itoa v).length ≤ 3 := (sign_len v 3 (nD3 (by omega))).2.1 h0
theorem seq_short : ∀ r : List Int, AllB r → (seqT r).length ≤ 4 * r.length
 | [], _ => by simp [seqT]
 | a :: r, h => by
  have h1 := h a (List.mem_cons_self ..)
  have h2 := seq_short r fun n hn => h n (List.mem_cons_of_mem _ hn)
  have h3 := itoa_byte h1.1 h1.2
  unfold seqT
  rw [List.length_cons, List.length_append, List.length_cons]
  omega
theorem text_short {i : In} (hm : i.may = true) : (textI i).length ≤ 18 := by
 have h1 := (may_one hm).1
 have hk := short_ok h1
 have hdb := isBytes_db hm
 unfold shortOk at hk
 unfold textI
 by_cases hb : isBytesI i = true
 ·rw [if_pos hb]
  rw [← hdb, if_pos hb] at hk
  have hk2 := of_decide_eq_true hk
  have hn := byte_nums hm
  have hl := bytesI_length hm
  have hn2 := (may_one hm).2.1
  cases hl2 : bytesI i with
  | nil => rw [bytesT_nil]; decide
  | cons a r =>
   rw [hl2] at hn hl
   have a1 := hn a (List.mem_cons_self ..)
   have a2 := itoa_byte a1.1 a1.2
   have a3 := seq_short r fun n h => hn n (List.mem_cons_of_mem _ h)
   rw [bytesT_eq]
   simp only [List.length_cons, List.length_append] at hl ⊢
   unfold In.len at hn2
   omega
 ·rw [if_neg hb]
  rw [← hdb, if_neg hb] at hk
  have := of_decide_eq_true hk
  have h2 := rend_short hm (toksK i.s i.x i.o)
  unfold toldT
  omega
theorem told_ascii {i : In} (hm : i.may = true) (hb : isBytesI i = false) : AllA (toldT false i) := by
 have h1 := (may_one hm).1
 have hd : dbK i.s i.x i.o = false := by rw [← isBytes_db hm]; exact hb
 have hc := cut_ok h1 hd
 have hK := cut_all (toksK i.s i.x i.o)
 unfold cutOk at hc
 simp only [Bool.and_eq_true] at hc
 obtain ⟨c1, c2, c3, c4, c5, -, -⟩ := hc
 refine rend_ascii _ _ _ fun t ht => ?_
 have := List.all_eq_true.1 c4 t ht
 simp only [Bool.or_eq_true, decide_eq_true_eq] at this
 rcases this with h | h
 ·exact .inl h
 ·refine .inr ⟨h, ?_⟩
  rw [hK] at ht
  have hs : t ∈ sufK (toksK i.s i.x i.o) := by
   rcases List.mem_append.1 ht with k | k
   ·have := List.all_eq_true.1 c2 t k
    simp only [Bool.and_eq_true, decide_eq_true_eq] at this
    omega
   ·rcases List.mem_append.1 k with k | k
    ·have := List.all_eq_true.1 c3 t k
     unfold litN at this
     simp only [Bool.and_eq_true, decide_eq_true_eq] at this
     omega
    ·exact k
  have hk : t ∈ (sufK (toksK i.s i.x i.o)).filter (fun t => decide (¬ t < 256)) := List.mem_filter.2 ⟨hs, by simp; omega⟩
  rw [beq_iff_eq.1 c5] at hk
  unfold opK at hk
  rcases List.mem_append.1 hk with k | k
  ·split at k
   ·simp at k; omega
   ·cases k
  ·split at k
   ·simp at k; split at k <;> omega
   ·cases k
theorem parse_one {i : In} (hm : i.may = true) : foundG (textI i) 0 = i ∨ (AllA (textI i) ∧ foundG (textI i) (behindF (textI i)) = i) ∨ digitsF (textI i) = i := by
 by_cases hb : isBytesI i = true
 ·have ht : textI i = bytesT (bytesI i) := by unfold textI; rw [if_pos hb]
  rw [ht]
  exact .inr (.inr (digits_told hm))
 ·have ht : textI i = toldT false i := by unfold textI; rw [if_neg hb]
  have ha := told_ascii hm (by simpa using hb)
  rcases parse_told hm with h | h | h
  ·exact .inl h
  ·exact .inr (.inl ⟨ht ▸ ha, h⟩)
  ·exact .inr (.inr h)
end Go.Proofs.YtgaihekapakoeaaGreatDoor
namespace Go.Proofs.YtgaihekapakoeaaGreatDoor
open Go.RowKit


set_option maxRecDepth 100000

def isTx (i : In) (s : List UInt8) : Bool := i.may && decide (textI i = s)
theorem isTx_iff {i : In} {s : List UInt8} : isTx i s = true ↔ i.may = true ∧ textI i = s := by
 unfold isTx
 simp
set_option maxHeartbeats 4000000 in
theorem istext_any (w : World) (hV : VT w w.heap.size) (i : In) (hi : i.Wf) (s : List UInt8) :
  Calls Tryz.prog 29 #[i.val, .string ⟨s.toArray⟩] w fun e w' => e = .returned (.bool (isTx i s)) ∧ Below w.heap.size w w' := by
 obtain ⟨w1, hw1⟩ : ∃ w1, w.alloc (inO i) = w1 := ⟨_, rfl⟩
 have hb1 : Below w.heap.size w w1 := hw1 ▸ (Below.refl _ _).alloc (Nat.le_refl _) _
 have hr1 : InW w1 w.heap.size i := hw1 ▸ InW.laid w i
 have hO := of_any i hi w1 ((hV.below hb1).mono hb1.size)
 have heq := toList_beq (textI i) s
 have hq0 : isTx i s = (i.may && decide (textI i = s)) := rfl
 rw [hq0]
 unfold ofTx ofEr at hO
 rw [in_val] at hO ⊢
 obtain ⟨S, hS⟩ : ∃ S : ByteArray, (⟨s.toArray⟩ : ByteArray) = S := ⟨_, rfl⟩
 rw [hS] at heq ⊢
 have HB := z_ hb1
 have HR := z_ hr1
 unfold inO at hw1
 by_cases hm : i.may = true
 ·rw [if_pos hm, if_pos hm] at hO
  rw [hm, Bool.true_and]
  obtain ⟨T, hT⟩ : ∃ T : ByteArray, (⟨(textI i).toArray⟩ : ByteArray) = T := ⟨_, rfl⟩
  rw [hT] at hO heq
  obtain ⟨qq, hqq⟩ : ∃ qq, decide (textI i = s) = qq := ⟨_, rfl⟩
  rw [hqq] at heq ⊢
  have HO := z_ hO
  clear hO hT hqq hm hr1 hb1 hq0 hS
  go_enter Tryz.func29, Tryz.ntmps29
  go_wp2_with (first
   | (refine lr w.heap.size rfl rfl rfl HR.out ?_)
   | (refine HO.out.mono ?_; rintro e w2 ⟨rfl, hb2⟩))
  go_ret
  exact ⟨rfl, HB.out.trans (hb2.mono HB.out.size)⟩
 ·rw [if_neg hm, if_neg hm] at hO
  have hm2 : i.may = false := by simpa using hm
  rw [hm2, Bool.false_and]
  have HO := z_ hO
  clear hO hm hr1 hb1 hq0 hS heq hm2
  go_enter Tryz.func29, Tryz.ntmps29
  go_wp2_with (first
   | (refine lr w.heap.size rfl rfl rfl HR.out ?_)
   | (refine HO.out.mono ?_; rintro e w2 ⟨rfl, hb2⟩))
  go_ret
  exact ⟨rfl, HB.out.trans (hb2.mono HB.out.size)⟩
end Go.Proofs.YtgaihekapakoeaaGreatDoor
namespace Go.Proofs.YtgaihekapakoeaaGreatDoor
open Go.RowKit


set_option maxRecDepth 100000

def parseG (s : List UInt8) (n : Nat) : Option In := if isTx (foundG s 0) s = true then some (foundG s 0) else if isTx (foundG s n) s = true then some (foundG s n) else if isTx (digitsF s) s = true then some (digitsF s) else none
def optE (o : Option In) : Int := if o.isSome = true then 0 else 11
theorem parse_long (w : World) (s : ByteArray) (hs : 18 < s.size) (hs2 : s.size ≤ 100000) :
  Calls Tryz.prog 9 #[.string s] w fun e w' => e = .returned (.tuple #[zeroI.val, .int .i64 11]) ∧ Below w.heap.size w w' := by
 obtain ⟨w1, hw1⟩ : ∃ w1, w.alloc (inO zeroI) = w1 := ⟨_, rfl⟩
 have hb1 : Below w.heap.size w w1 := hw1 ▸ (Below.refl _ _).alloc (Nat.le_refl _) _
 have hr1 : InW w1 w.heap.size zeroI := hw1 ▸ InW.laid w zeroI
 have hz : (18 : Int) < s.size := by omega
 have HB := z_ hb1
 have HR := z_ hr1
 unfold inO zeroI at hw1
 clear hb1 hr1
 go_enter Tryz.func9, Tryz.ntmps9
 go_wp2_with (refine sr w.heap.size rfl rfl rfl rfl HR.out (in_one zeroI) ?_)
 (try simp only [Exit.inBlock, Exit.then])
 exact bodyPost_ret (results_ins_tmp rfl _ _ _ zeroI _ rfl rfl (setRow_heap _ _ _ _ _ _ HR.out)) rfl ⟨rfl, below_setRow HB.out (Nat.le_refl _) _⟩
theorem digits_wf (s : List UInt8) : (digitsF s).Wf := by
 unfold digitsF
 split
 ·have hb : AllB (piecesF s ++ [221]) := by
   refine AllB.append ?_ (AllB.one (by decide) (by decide))
   unfold piecesF
   intro n hn
   obtain ⟨p, -, rfl⟩ := List.mem_map.1 hn
   omega
  unfold ofV
  cases h : ofI (piecesF s ++ [221]) with
  | none => exact zero_wf
  | some y => exact (of_got hb h).wf
 ·exact zero_wf
theorem idx2a (a b : Int) (w : World) : (Instr.index 52 (.agg #[.int .i64 a, .int .i64 b]) (.int .i64 0)).run Tryz.prog w = .ok (.int .i64 a) w := by kernel_rfl
theorem idx2b (a b : Int) (w : World) : (Instr.index 52 (.agg #[.int .i64 a, .int .i64 b]) (.int .i64 1)).run Tryz.prog w = .ok (.int .i64 b) w := by kernel_rfl
set_option maxHeartbeats 16000000 in
theorem parse_any (w : World) (hV : VP w w.heap.size) (s : List UInt8) (hs : s.length ≤ 18) :
  Calls Tryz.prog 9 #[.string ⟨s.toArray⟩] w fun e w' => ∃ n ≤ s.length, (AllA s → n = behindF s) ∧ e = .returned (.tuple #[((parseG s n).getD zeroI).val, .int .i64 (optE (parseG s n))]) ∧ Below w.heap.size w w' := by
 obtain ⟨w1, hw1⟩ : ∃ w1, w.alloc (inO zeroI) = w1 := ⟨_, rfl⟩
 have hb1 : Below w.heap.size w w1 := hw1 ▸ (Below.refl _ _).alloc (Nat.le_refl _) _
 have hr1 : InW w1 w.heap.size zeroI := hw1 ▸ InW.laid w zeroI
 have hz : (⟨s.toArray⟩ : ByteArray).size = s.length := by simp [ByteArray.size]
 have HBn := z_ (bn_any w1 s (by omega))
 have HFo := z_ (fun (w0 : World) (h : VP w0 w0.heap.size) (k : Nat) (hk : k ≤ s.length) => found_any w0 h s k hs hk)
 have HDi := z_ (fun (w0 : World) (h : VP w0 w0.heap.size) => digits_any w0 h s hs)
 have HIs := z_ (fun (w0 : World) (h : VP w0 w0.heap.size) (i : In) (hi : i.Wf) => istext_any w0 h.vt i hi s)
 have HWf := z_ (fun k => foundG_wf s k hs)
 obtain ⟨L, hL⟩ : ∃ L, s.length = L := ⟨_, rfl⟩
 obtain ⟨S, hS⟩ : ∃ S : ByteArray, (⟨s.toArray⟩ : ByteArray) = S := ⟨_, rfl⟩
 rw [hS] at hz HBn HFo HDi HIs ⊢
 rw [hL] at hz hs HBn HFo ⊢
 have hz1 : ¬ (18 : Int) < S.size := by omega
 have HB := z_ hb1
 have HR := z_ hr1
 have HV := z_ hV
 unfold inO zeroI at hw1
 clear hb1 hr1 hV hL hS hz
 go_enter Tryz.func9, Tryz.ntmps9
 go_wp2_with (go_at_call 27; (with_reducible refine HBn.out.mono ?_); rintro e w2 ⟨n, rfl, hn, hnb, hb2⟩)
 have hB2 : Below w.heap.size w w2 := HB.out.trans (hb2.mono HB.out.size)
 have HB2 := z_ hB2
 have HR2 := z_ (HR.out.below hb2 HR.out.lt)
 have HNb := z_ hnb
 clear hb2 hB2 hnb
 go_loopw [3, 15] (fun v i wr => ∃ k : Nat, k ≤ 2 ∧ v = .int .i64 0 ∧ i = .int .i64 k ∧ Below w2.heap.size w2 wr ∧ Hid ((1 ≤ k → isTx (foundG s 0) s = false) ∧ (2 ≤ k → isTx (foundG s n) s = false))) (fun _ i _ => 2 - (intOf i).toNat)
 case atStart => exact ⟨0, by omega, rfl, rfl, Below.refl _ _, z_ ⟨fun h => by omega, fun h => by omega⟩⟩
 case round =>
  rename World => wr
  obtain ⟨k, hk, rfl, rfl, hb, hinv⟩ := hrel
  have hBr : Below w.heap.size w wr := HB2.out.trans (hb.mono HB2.out.size)
  have hRr : InW wr w.heap.size zeroI := HR2.out.below hb HR2.out.lt
  have hVr : VP wr wr.heap.size := HV.out.later hBr
  have HBr := z_ hBr
  have HRr := z_ hRr
  have HVr := z_ hVr
  have Hb := z_ hb
  clear hBr hRr hVr hb
  by_cases hk2 : k < 2
  ·obtain ⟨m, hm⟩ : ∃ m, (if k = 0 then 0 else n) = m := ⟨_, rfl⟩
   have hmn : m ≤ L := by rw [← hm]; split <;> omega
   have hidx : ∀ w, (Instr.index 52 (.agg #[.int .i64 0, .int .i64 (n : Int)]) (.int .i64 (k : Int))).run Tryz.prog w = .ok (.int .i64 (m : Int)) w := fun w => by
    have h01 : k = 0 ∨ k = 1 := by omega
    rcases h01 with rfl | rfl
    ·rw [← hm]; exact idx2a _ _ w
    ·rw [← hm]; exact idx2b _ _ w
   have hfo := HFo.out wr HVr.out m hmn
   have hwf := HWf.out m
   have hpar : (isTx (foundG s m) s = true → parseG s n = some (foundG s m)) ∧ (isTx (foundG s m) s = false → (1 ≤ k + 1 → isTx (foundG s 0) s = false) ∧ (2 ≤ k + 1 → isTx (foundG s n) s = false)) := by
    have h01 : k = 0 ∨ k = 1 := by omega
    obtain ⟨i0, i1⟩ := hinv.out
    rcases h01 with rfl | rfl
    ·have : m = 0 := hm.symm
     subst this
     exact ⟨fun h => by unfold parseG; rw [if_pos h], fun h => ⟨fun _ => h, fun h2 => by omega⟩⟩
    ·have : m = n := hm.symm
     subst this
     have h0 := i0 (by omega)
     exact ⟨fun h => by unfold parseG; rw [if_neg (by rw [h0]; decide), if_pos h], fun h => ⟨fun _ => h0, fun _ => h⟩⟩
   obtain ⟨X, hX⟩ : ∃ X, foundG s m = X := ⟨_, rfl⟩
   rw [hX] at hfo hwf hpar
   have his := fun (w0 : World) (h : VP w0 w0.heap.size) => HIs.out w0 h X hwf
   obtain ⟨q, hq⟩ : ∃ q, isTx X s = q := ⟨_, rfl⟩
   rw [hq] at hpar
   simp only [hq] at his
   simp only [show X.val = Value.agg X.cells from rfl] at his
   rw [in_val] at hfo
   have HFo2 := z_ hfo
   have HIs2 := z_ his
   have HPar := z_ hpar
   clear hfo his hpar hm hq hX hwf hinv
   go_upto_region 7 with (first
    | (go_at_call 28; (with_reducible refine HFo2.out.mono ?_); rintro e w3 ⟨rfl, hb3⟩)
    | (refine sr w3.heap.size rfl rfl rfl rfl (InW.laid w3 zeroI) (in_one X) ?_))
   obtain ⟨w4, hw4⟩ : ∃ w4, (w3.alloc (inO zeroI)).setRow w3.heap.size X.cells = w4 := ⟨_, rfl⟩
   have hI4 : InW w4 w3.heap.size X := hw4 ▸ setRow_heap _ _ _ _ _ _ (InW.laid w3 zeroI)
   have hs3 := hb3.size
   have hlt := HRr.out.lt
   have hr3 : InW w3 w.heap.size zeroI := HRr.out.below hb3 hlt
   have hr4 : InW w4 w.heap.size zeroI := hw4 ▸ (setRow_other _ _ _ _ (by omega)).trans (hr3.more _)
   have hb34 : Below wr.heap.size wr w4 := hw4 ▸ below_setRow (hb3.alloc hs3 _) (by omega) _
   have HI4 := z_ hI4
   have HR4 := z_ hr4
   have HB4 := z_ hb34
   have HV4 := z_ (HVr.out.later hb34)
   unfold inO zeroI In.cells at hw4
   simp only at hw4
   rw [hw4]
   clear hw4 hI4 hs3 hlt hr3 hr4 hb34 hb3 HFo2 hidx
   cases q with
   | false =>
    have HP := z_ (HPar.out.2 rfl)
    clear HPar
    go_wp2_with (first
     | (refine lr w3.heap.size rfl rfl rfl HI4.out ?_)
     | (go_at_call 29; (with_reducible refine (HIs2.out _ HV4.out).mono ?_); rintro e w5 ⟨rfl, hb5⟩; have HI5 := z_ (HI4.out.below hb5 HI4.out.lt); have HR5 := z_ (HR4.out.below hb5 HR4.out.lt); have HB5 := z_ (HBr.out.trans ((HB4.out.trans (hb5.mono HB4.out.size)).mono HBr.out.size)); have Hb5 := z_ (Hb.out.trans ((HB4.out.trans (hb5.mono HB4.out.size)).mono Hb.out.size)); clear hb5))
    go_roundw
    case rel => exact ⟨k + 1, by omega, rfl, by go_num, Hb5.out, z_ HP.out⟩
    case measure => simp [intOf]; omega
   | true =>
    have HP := z_ (HPar.out.1 rfl)
    clear HPar
    go_wp2_with (first
     | (refine lr w3.heap.size rfl rfl rfl HI5.out ?_)
     | (refine lr w3.heap.size rfl rfl rfl HI4.out ?_)
     | (go_at_call 29; (with_reducible refine (HIs2.out _ HV4.out).mono ?_); rintro e w5 ⟨rfl, hb5⟩; have HI5 := z_ (HI4.out.below hb5 HI4.out.lt); have HR5 := z_ (HR4.out.below hb5 HR4.out.lt); have HB5 := z_ (HBr.out.trans ((HB4.out.trans (hb5.mono HB4.out.size)).mono HBr.out.size)); have Hb5 := z_ (Hb.out.trans ((HB4.out.trans (hb5.mono HB4.out.size)).mono Hb.out.size)); clear hb5)
     | (refine sr w.heap.size rfl rfl rfl rfl HR5.out (in_one X) ?_))
    (try simp only [Exit.inBlock, Exit.then])
    exact bodyPost_ret (results_ins_tmp rfl _ _ _ X _ rfl rfl (setRow_heap _ _ _ _ _ _ HR5.out)) rfl ⟨n, hn, HNb.out, by rw [HP.out]; rfl, below_setRow HB5.out (Nat.le_refl _) _⟩
  ·obtain rfl : k = 2 := by omega
   obtain ⟨i0, i1⟩ := hinv.out
   have hpar : parseG s n = if isTx (digitsF s) s = true then some (digitsF s) else none := by
    unfold parseG
    rw [if_neg (by rw [i0 (by omega)]; decide), if_neg (by rw [i1 (by omega)]; decide)]
   have hdi := HDi.out wr HVr.out
   have hwf := digits_wf s
   obtain ⟨X, hX⟩ : ∃ X, digitsF s = X := ⟨_, rfl⟩
   rw [hX] at hdi hwf hpar
   have his := fun (w0 : World) (h : VP w0 w0.heap.size) => HIs.out w0 h X hwf
   obtain ⟨q, hq⟩ : ∃ q, isTx X s = q := ⟨_, rfl⟩
   rw [hq] at hpar
   simp only [hq] at his
   simp only [show X.val = Value.agg X.cells from rfl] at his
   rw [in_val] at hdi
   have HDi2 := z_ hdi
   have HIs2 := z_ his
   have HPar := z_ hpar
   clear hdi his hpar hq hX hwf hinv i0 i1
   go_upto_region 11 with (first
    | (go_at_call 30; (with_reducible refine HDi2.out.mono ?_); rintro e w3 ⟨rfl, hb3⟩)
    | (refine sr w3.heap.size rfl rfl rfl rfl (InW.laid w3 zeroI) (in_one X) ?_))
   obtain ⟨w4, hw4⟩ : ∃ w4, (w3.alloc (inO zeroI)).setRow w3.heap.size X.cells = w4 := ⟨_, rfl⟩
   have hI4 : InW w4 w3.heap.size X := hw4 ▸ setRow_heap _ _ _ _ _ _ (InW.laid w3 zeroI)
   have hs3 := hb3.size
   have hlt := HRr.out.lt
   have hr3 : InW w3 w.heap.size zeroI := HRr.out.below hb3 hlt
   have hr4 : InW w4 w.heap.size zeroI := hw4 ▸ (setRow_other _ _ _ _ (by omega)).trans (hr3.more _)
   have hb34 : Below wr.heap.size wr w4 := hw4 ▸ below_setRow (hb3.alloc hs3 _) (by omega) _
   have HI4 := z_ hI4
   have HR4 := z_ hr4
   have HB4 := z_ hb34
   have HV4 := z_ (HVr.out.later hb34)
   unfold inO zeroI In.cells at hw4
   simp only at hw4
   rw [hw4]
   clear hw4 hI4 hs3 hlt hr3 hr4 hb34 hb3 HDi2
   cases q with
   | false =>
    have HP := z_ (HPar.out.trans (if_neg (by decide)))
    clear HPar
    go_wp2_with (first
     | (refine lr w3.heap.size rfl rfl rfl HI4.out ?_)
     | (go_at_call 29; (with_reducible refine (HIs2.out _ HV4.out).mono ?_); rintro e w5 ⟨rfl, hb5⟩; have HI5 := z_ (HI4.out.below hb5 HI4.out.lt); have HR5 := z_ (HR4.out.below hb5 HR4.out.lt); have HB5 := z_ (HBr.out.trans ((HB4.out.trans (hb5.mono HB4.out.size)).mono HBr.out.size)); have Hb5 := z_ (Hb.out.trans ((HB4.out.trans (hb5.mono HB4.out.size)).mono Hb.out.size)); clear hb5)
     | (refine sr w.heap.size rfl rfl rfl rfl HR5.out (in_one zeroI) ?_))
    (try simp only [Exit.inBlock, Exit.then])
    exact bodyPost_ret (results_ins_tmp rfl _ _ _ zeroI _ rfl rfl (setRow_heap _ _ _ _ _ _ HR5.out)) rfl ⟨n, hn, HNb.out, by rw [HP.out]; rfl, below_setRow HB5.out (Nat.le_refl _) _⟩
   | true =>
    have HP := z_ (HPar.out.trans (if_pos rfl))
    clear HPar
    go_wp2_with (first
     | (refine lr w3.heap.size rfl rfl rfl HI5.out ?_)
     | (refine lr w3.heap.size rfl rfl rfl HI4.out ?_)
     | (go_at_call 29; (with_reducible refine (HIs2.out _ HV4.out).mono ?_); rintro e w5 ⟨rfl, hb5⟩; have HI5 := z_ (HI4.out.below hb5 HI4.out.lt); have HR5 := z_ (HR4.out.below hb5 HR4.out.lt); have HB5 := z_ (HBr.out.trans ((HB4.out.trans (hb5.mono HB4.out.size)).mono HBr.out.size)); have Hb5 := z_ (Hb.out.trans ((HB4.out.trans (hb5.mono HB4.out.size)).mono Hb.out.size)); clear hb5)
     | (refine sr w.heap.size rfl rfl rfl rfl HR5.out (in_one X) ?_))
    (try simp only [Exit.inBlock, Exit.then])
    exact bodyPost_ret (results_ins_tmp rfl _ _ _ X _ rfl rfl (setRow_heap _ _ _ _ _ _ HR5.out)) rfl ⟨n, hn, HNb.out, by rw [HP.out]; rfl, below_setRow HB5.out (Nat.le_refl _) _⟩
end Go.Proofs.YtgaihekapakoeaaGreatDoor
namespace Go.Proofs.YtgaihekapakoeaaGreatDoor
open Go.RowKit


theorem parseG_wf {s : List UInt8} (hs : s.length ≤ 18) {n : Nat} {x : In} (h : parseG s n = some x) : x.Wf := by
 unfold parseG at h
 split at h
 ·cases h; exact foundG_wf s 0 hs
 ·split at h
  ·cases h; exact foundG_wf s n hs
  ·split at h
   ·cases h; exact digits_wf s
   ·cases h
theorem parse_to (w : World) (hV : VP w w.heap.size) : ParseTo w := by
 intro s hs w' hb
 have hV' : VP w' w'.heap.size := hV.later hb
 obtain ⟨l, rfl⟩ : ∃ l : List UInt8, (⟨l.toArray⟩ : ByteArray) = s := ⟨s.data.toList, by simp⟩
 have hsz : (⟨l.toArray⟩ : ByteArray).size = l.length := by simp [ByteArray.size]
 by_cases h18 : 18 < (⟨l.toArray⟩ : ByteArray).size
 ·refine ⟨zeroI, 11, parse_long w' _ h18 hs, zero_wf, .inr ⟨rfl, rfl, fun j hj h => ?_⟩⟩
  have h1 := text_short hj
  rw [arr_inj h] at h1
  omega
 ·have hn : l.length ≤ 18 := by omega
  by_cases he : ∃ j : In, j.may = true ∧ textI j = l
  ·obtain ⟨j, hj, ht⟩ := he
   have hp := parse_one hj
   rw [ht] at hp
   have key : ∀ n, (AllA l → n = behindF l) → parseG l n = some j := by
    intro n hn
    have inj : ∀ x : In, isTx x l = true → x = j := fun x hx => by
     obtain ⟨hm, ht2⟩ := isTx_iff.1 hx
     exact text_inj hm hj (by rw [ht2, ht])
    have hjj : isTx j l = true := isTx_iff.2 ⟨hj, ht⟩
    unfold parseG
    split
    ·rename_i h; rw [inj _ h]
    ·rename_i h0
     split
     ·rename_i h; rw [inj _ h]
     ·rename_i h1
      split
      ·rename_i h; rw [inj _ h]
      ·rename_i h2
       exfalso
       rcases hp with hp | ⟨ha, hp⟩ | hp
       ·exact h0 (by rw [hp]; exact hjj)
       ·exact h1 (by rw [hn ha, hp]; exact hjj)
       ·exact h2 (by rw [hp]; exact hjj)
   have hw : j.Wf := parseG_wf hn (key (behindF l) fun _ => rfl)
   refine ⟨j, 0, (parse_any w' hV' l hn).mono ?_, hw, .inl ⟨rfl, hj, by rw [ht]⟩⟩
   rintro e w2 ⟨n, -, hb0, rfl, hb2⟩
   rw [key n hb0]
   exact ⟨rfl, hb2⟩
  ·have key : ∀ n, parseG l n = none := by
    intro n
    have no : ∀ x : In, ¬ isTx x l = true := fun x hx => he ⟨x, isTx_iff.1 hx⟩
    unfold parseG
    rw [if_neg (no _), if_neg (no _), if_neg (no _)]
   refine ⟨zeroI, 11, (parse_any w' hV' l hn).mono ?_, zero_wf, .inr ⟨rfl, rfl, fun j hj h => he ⟨j, hj, arr_inj h⟩⟩⟩
   rintro e w2 ⟨n, -, -, rfl, hb2⟩
   rw [key n]
   exact ⟨rfl, hb2⟩
end Go.Proofs.YtgaihekapakoeaaGreatDoor
