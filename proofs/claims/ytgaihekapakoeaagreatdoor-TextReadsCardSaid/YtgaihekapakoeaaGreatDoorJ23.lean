/-      -/
import Derived.Test.YtgaihekapakoeaaGreatDoorShelfB
import Derived.Test.YtgaihekapakoeaaGreatDoorZB
import Derived.Test.YtgaihekapakoeaaGreatDoorZQ4
import Derived.Lib.Hide
import Derived.Lib.OthersKept
import Derived.Lib.IndexAny
import Derived.Deep.LoopGhost
import Derived.Laws.Runes
import Derived.WalkMore
import Derived.Test.YtgaihekapakoeaaGreatDoorJ20
import Derived.Test.YtgaihekapakoeaaGreatDoorJ22
import Derived.Lib.AtoiBound
import Derived.Shelf.Strings.SlTrimAscii
set_option linter.unusedVariables false
set_option linter.unusedSimpArgs false
namespace Go.Proofs.YtgaihekapakoeaaGreatDoor
open Go.RowKit


set_option maxRecDepth 100000

def signsB : ByteArray := ⟨#[43, 45, 48, 49, 50, 51, 52, 53, 54, 55, 56, 57]⟩
theorem signs_at : ∀ k : Fin 12, Utf8.decode signsB k.val = ((signsB.data.toList.getD k.val 0).toNat, 1) ∧ (signsB.data.toList.getD k.val 0).toNat < 128 := by decide +kernel

set_option maxHeartbeats 4000000 in
theorem ir_error (w : World) : Calls Tryz.prog 88 #[.string signsB, .int .i32 65533] w fun e w' => e = .returned (.int .i64 (-1)) ∧ Below w.heap.size w w' := by
 have hz : signsB.size = 12 := rfl
 have H := z_ signs_at
 have hsb : signsB = ⟨#[43, 45, 48, 49, 50, 51, 52, 53, 54, 55, 56, 57]⟩ := rfl
 obtain ⟨s, hs⟩ : ∃ s, signsB = s := ⟨_, rfl⟩
 rw [hs] at hz H ⊢
 clear hs hsb
 go_enter Tryz.func88, Tryz.ntmps88
 go_wp2_with fail
 go_loopg [] 12 (fun gk wx => ∃ pos : Nat, wx.heap[w.heap.size]? = some (.stringIter s pos) ∧ Below w.heap.size w wx ∧ 12 ≤ pos + gk ∧ pos ≤ 12)
 case atStart => exact ⟨0, World.iter_heap w s 0, (Below.refl _ w).alloc (Nat.le_refl _) _, by omega, by omega⟩
 case round =>
  obtain ⟨pos, hit, hb, h1, h2⟩ := hrel
  by_cases hlt : pos < 12
  ·obtain ⟨g', rfl⟩ : ∃ g', gk = g' + 1 := ⟨gk - 1, by omega⟩
   have hnx : ∀ ty, (Instr.next (.pointer (some ⟨w.heap.size, 0, none⟩)) true ty).run Tryz.prog wr = _ := fun ty => Lib.run_next_any_at wr w.heap.size s pos ty hit (by omega)
   obtain ⟨hd, hd2⟩ := H.out ⟨pos, hlt⟩
   simp only at hd hd2
   obtain ⟨R, hR⟩ : ∃ R, (s.data.toList.getD pos 0).toNat = R := ⟨_, rfl⟩
   rw [hR] at hd hd2
   rw [hd] at hnx
   have hit2 := Lib.iterAt_heap wr w.heap.size s pos (pos + 1) hit
   have hb2 := Lib.below_iterAt hb (k := w.heap.size) (Nat.le_refl _) s (pos + 1)
   have hne : ((R : Int) == 65533) = false := by rw [beq_eq_false_iff_ne]; omega
   obtain ⟨W, hW⟩ : ∃ W, wr.iterAt w.heap.size s (pos + 1) = W := ⟨_, rfl⟩
   simp only at hnx
   rw [hW] at hnx hit2 hb2
   clear hit hb hW hd hR
   go_wp2_with fail
   go_roundg g'
   case measure => omega
   case rel => exact ⟨pos + 1, hit2, hb2, by omega, by omega⟩
  ·obtain rfl : pos = 12 := by omega
   have hnx : ∀ ty, (Instr.next (.pointer (some ⟨w.heap.size, 0, none⟩)) true ty).run Tryz.prog wr = _ := fun ty => Lib.run_next_end_at wr w.heap.size s 12 ty hit (by omega)
   go_wp2_with fail
   go_ret
   exact ⟨rfl, hb⟩

set_option maxHeartbeats 4000000 in
theorem ir_bad (w : World) (r : Int) (h : 128 ≤ r) (hv : Lib.validRune r = false) (h5 : r ≠ 65533) : Calls Tryz.prog 88 #[.string signsB, .int .i32 r] w fun e w' => e = .returned (.int .i64 (-1)) ∧ Below w.heap.size w w' := by
 have HV := z_ (Tryz.utf8_ValidRune r w)
 rw [hv] at HV
 have he : (r == 65533) = false := beq_eq_false_iff_ne.2 h5
 have hl : ¬ r < 128 := by omega
 have h0 : 0 ≤ r := by omega
 clear hv h5
 go_enter Tryz.func88, Tryz.ntmps88
 go_wp2_with (go_at_call 128; (with_reducible refine HV.out.mono ?_); rintro e w' ⟨rfl, rfl⟩)
 go_ret
 exact ⟨rfl, Below.refl _ _⟩
theorem no_high : ∀ c : UInt8, 128 ≤ c.toNat → ∀ k, Lib.indexByte (signsB.data.toList.drop k) c = -1 := by
 intro c hc k
 have h : ∀ l : List UInt8, (∀ b ∈ l, b.toNat < 128) → Lib.indexByte l c = -1 := by
  intro l
  induction l with
  | nil => intro _; rfl
  | cons b l ih =>
   intro h
   have hb := h b (List.mem_cons_self ..)
   rw [Lib.indexByte, ih (fun d hd => h d (List.mem_cons_of_mem _ hd)), if_neg (by intro e; rw [beq_iff_eq] at e; subst e; omega)]; rfl
 refine h _ fun b hb => ?_
 have hm := List.mem_of_mem_drop hb
 revert b
 have : ∀ b ∈ signsB.data.toList, b.toNat < 128 := by decide
 intro b hb hm
 exact this b hm
set_option maxHeartbeats 4000000 in
theorem ir_valid (w : World) (r : Int) (h : 128 ≤ r) (hv : Lib.validRune r = true) (h5 : r ≠ 65533) : Calls Tryz.prog 88 #[.string signsB, .int .i32 r] w fun e w' => e = .returned (.int .i64 (-1)) ∧ Below w.heap.size w w' := by
 have HV := z_ (Tryz.utf8_ValidRune r w)
 rw [hv] at HV
 have hu : Utf8.valid r = true := by
  unfold Lib.validRune at hv
  unfold Utf8.valid
  simp at hv ⊢
  omega
 obtain ⟨e1, e2, e3⟩ := encode_facts r hu h
 obtain ⟨R, hR⟩ : ∃ R, Utf8.encode r = R := ⟨_, rfl⟩
 have hconv : ∀ w, (convert 21 9 (.int .i32 r)).run Tryz.prog w = .ok (.string R) w := fun w => by
  rw [← hR]; exact run_convert_int_string w _ _ _ _ (by kernel_rfl) Tryz.underlying9
 rw [hR] at e1 e2 e3
 have he : (r == 65533) = false := beq_eq_false_iff_ne.2 h5
 have hl : ¬ r < 128 := by omega
 have h0 : 0 ≤ r := by omega
 obtain ⟨n, hn⟩ : ∃ n : Nat, R.size = n + 1 := ⟨R.size - 1, by omega⟩
 have hlast := e3 (by omega)
 have hsz : signsB.size = 12 := rfl
 have hat : ∀ k : Fin 12, (signsB[k.val]'(by have := k.isLt; show _ < 12; omega)).toNat < 128 := by decide
 obtain ⟨c, hc⟩ : ∃ c : UInt8, R[n]'(by omega) = c := ⟨_, rfl⟩
 have hcn : 128 ≤ c.toNat := by
  rw [← hc]
  have : R.size - 1 = n := by omega
  simp only [this] at hlast
  exact hlast
 obtain ⟨d, hd⟩ : ∃ d : UInt8, signsB[n]'(by omega) = d := ⟨_, rfl⟩
 have hdn : d.toNat < 128 := by rw [← hd]; exact hat ⟨n, by omega⟩
 have hix : ∀ w, (Instr.index 9 (.string signsB) (.int .i64 (n : Int))).run Tryz.prog w = .ok (.int .u8 (d.toNat : Int)) w := fun w => by
  rw [run_index_string w _ _ _ _ Tryz.underlying9, dif_pos ⟨by omega, by omega⟩]
  simp only [Int.toNat_natCast, hd]
 have hir : ∀ w, (Instr.index 9 (.string R) (.int .i64 (n : Int))).run Tryz.prog w = .ok (.int .u8 (c.toNat : Int)) w := fun w => by
  rw [run_index_string w _ _ _ _ Tryz.underlying9, dif_pos ⟨by omega, by omega⟩]
  simp only [Int.toNat_natCast, hc]
 have hne : ((d.toNat : Int) != (c.toNat : Int)) = true := by rw [bne_iff_ne]; omega
 have HB := z_ (fun (w : World) => Tryz.strings_IndexByte (signsB.extract (n + 1) signsB.size) (c.toNat : Int) w)
 have hres : Lib.indexByte (signsB.extract (n + 1) signsB.size).data.toList (((c.toNat : Int)).toNat.toUInt8) = -1 := by
  rw [Lib.extract_to_end, Int.toNat_natCast]
  have : c.toNat.toUInt8 = c := by simp
  rw [this]
  exact no_high c hcn (n + 1)
 rw [hres] at HB
 obtain ⟨S, hS⟩ : ∃ S, signsB = S := ⟨_, rfl⟩
 rw [hS] at hix HB hsz ⊢
 rw [hsz] at HB
 obtain ⟨cc, hcc⟩ : ∃ cc : Int, (c.toNat : Int) = cc := ⟨_, rfl⟩
 obtain ⟨dd, hdd⟩ : ∃ dd : Int, (d.toNat : Int) = dd := ⟨_, rfl⟩
 rw [hcc] at hir HB hne
 rw [hdd] at hix hne
 rw [hn] at e1 e2
 clear hS hR hu e3 hat hd hc hcn hdn hres hlast hv hcc hdd
 go_enter Tryz.func88, Tryz.ntmps88
 go_wp2_with (go_at_call 128; (with_reducible refine HV.out.mono ?_); rintro e w' ⟨rfl, hw⟩; obtain rfl := hw.symm)
 go_step3
 go_wp2_with fail
 go_loopg [9] 1 (fun gk s9 wx => s9 = .int .i64 (n : Int) ∧ wx = w)
 case atStart => exact ⟨rfl, rfl⟩
 case round =>
  obtain ⟨rfl, rfl⟩ := hrel
  have hlt : (n : Int) < 12 := by omega
  go_upto_region 6 with fail
  go_step3
  go_wp2_with fail
  go_region
  go_upto_region 7 with fail
  refine M.rg ?_
  refine M.sg [0, 1, 2, 3, 4, 5, 6] 2 ?_
  repeat (go_big_quiet_step (fail))
  refine wpQuiet_nil ?_
  refine M.cm 7 (.int .i64 (-1)) ?_ ?_
  ·intro wz sz
   unfold Oper.does
   go_simp
   exact (HB.out wz).mono fun e w' ⟨he, hw⟩ => ⟨_, he, rfl, hw ▸ Save.refl _ _⟩
  go_simp
  refine M.sg [8] 0 ?_
  repeat (go_big_quiet_step (fail))
  refine wpQuiet_nil ?_
  refine M.en ?_
  intro wc sc
  go_wp2_with fail
  rw [Exit.noGoto_ret]
  go_wp2_with fail
  rw [Exit.noGoto_ret]
  go_wp2_with fail
  go_ret
  exact ⟨rfl, ((Below.refl _ wr).drew).trans sc.2⟩
end Go.Proofs.YtgaihekapakoeaaGreatDoor
namespace Go.Proofs.YtgaihekapakoeaaGreatDoor
open Go.RowKit


set_option maxRecDepth 100000

theorem signs_rune : ∀ k : Fin 128, decide (0 ≤ Lib.indexByte signsB.data.toList (((k.val : Int)).toNat.toUInt8)) = numC k.val := by decide +kernel
theorem ir_high (w : World) (x : Nat) (h : 128 ≤ x) : Calls Tryz.prog 88 #[.string signsB, .int .i32 (x : Int)] w fun e w' => e = .returned (.int .i64 (-1)) ∧ Below w.heap.size w w' := by
 by_cases h5 : x = 65533
 ·subst h5; exact ir_error w
 ·cases hv : Lib.validRune (x : Int) with
  | true => exact ir_valid w x (by omega) hv (by omega)
  | false => exact ir_bad w x (by omega) hv (by omega)
theorem num_high {x : Nat} (h : 128 ≤ x) : numC x = false := by
 cases hn : numC x with
 | false => rfl
 | true => have := numC_lt hn; omega
set_option maxHeartbeats 1000000 in
theorem cr_any (w : World) (x : Nat) : Calls Tryz.prog 105 #[.string signsB, .int .i32 (x : Int)] w fun e w' => e = .returned (.bool (numC x)) ∧ Below w.heap.size w w' := by
 by_cases h : x < 128
 ·refine (Tryz.strings_ContainsRune_ascii signsB x w (by omega) (by omega)).mono ?_
  rintro e w' ⟨rfl, rfl⟩
  have := signs_rune ⟨x, h⟩
  simp only at this
  rw [this]
  exact ⟨rfl, Below.refl _ _⟩
 ·have hn := num_high (x := x) (by omega)
  rw [hn]
  have HI := z_ (ir_high w x (by omega))
  obtain ⟨S, hS⟩ : ∃ S, signsB = S := ⟨_, rfl⟩
  obtain ⟨r, hr⟩ : ∃ r : Int, (x : Int) = r := ⟨_, rfl⟩
  rw [hS, hr] at HI ⊢
  clear hS hr hn h
  go_enter Tryz.func105, Tryz.ntmps105
  go_wp2_with (go_at_call 88; (with_reducible refine HI.out.mono ?_); rintro e w' ⟨rfl, hb⟩)
  go_ret
  exact ⟨rfl, hb⟩
set_option maxHeartbeats 1000000 in
theorem non_any (w : World) (x : Nat) : Calls Tryz.prog 57 #[.int .i32 (x : Int)] w fun e w' => e = .returned (.bool (sepR x)) ∧ Below w.heap.size w w' := by
 have HC := z_ (cr_any w x)
 have hs : sepR x = !numC x := rfl
 rw [hs]
 obtain ⟨q, hq⟩ : ∃ q, numC x = q := ⟨_, rfl⟩
 rw [hq] at HC ⊢
 unfold signsB at HC
 obtain ⟨r, hr⟩ : ∃ r : Int, (x : Int) = r := ⟨_, rfl⟩
 rw [hr] at HC ⊢
 clear hr hq hs
 go_enter Tryz.func57, Tryz.ntmps57
 go_wp2_with (go_at_call 105; (with_reducible refine HC.out.mono ?_); rintro e w' ⟨rfl, hb⟩)
 go_ret
 exact ⟨rfl, hb⟩
set_option maxHeartbeats 1000000 in
theorem kept_any (w : World) (x : Nat) : Calls Tryz.prog 54 #[.int .i32 (x : Int)] w fun e w' => e = .returned (.int .i32 (keepR (x : Int))) ∧ Below w.heap.size w w' := by
 have HC := z_ (non_any w x)
 have hs : sepR x = !numC x := rfl
 have hk : keepR (x : Int) = if numC x = true then -1 else (x : Int) := by unfold keepR; rw [Int.toNat_natCast]
 rw [hs] at HC
 rw [hk]
 obtain ⟨q, hq⟩ : ∃ q, numC x = q := ⟨_, rfl⟩
 rw [hq] at HC ⊢
 obtain ⟨r, hr⟩ : ∃ r : Int, (x : Int) = r := ⟨_, rfl⟩
 rw [hr] at HC ⊢
 clear hr hq hs hk
 cases q with
 | true =>
  go_enter Tryz.func54, Tryz.ntmps54
  go_wp2_with (go_at_call 57; (with_reducible refine HC.out.mono ?_); rintro e w' ⟨rfl, hb⟩)
  go_ret
  exact ⟨rfl, hb⟩
 | false =>
  go_enter Tryz.func54, Tryz.ntmps54
  go_wp2_with (go_at_call 57; (with_reducible refine HC.out.mono ?_); rintro e w' ⟨rfl, hb⟩)
  go_ret
  exact ⟨rfl, hb⟩
theorem kept_grows (w : World) : MapGrows Tryz.prog 54 #[] keepR w := fun W x _ _ => kept_any W x
theorem seps_grow (w : World) : PredGrows Tryz.prog 57 #[] sepR w := fun W x _ _ => non_any W x
theorem keep_in (x : Nat) (h : x ≤ 1114111) : -2147483648 ≤ keepR (x : Int) ∧ keepR (x : Int) ≤ 2147483647 := by
 unfold keepR
 split <;> omega
end Go.Proofs.YtgaihekapakoeaaGreatDoor
namespace Go.Proofs.YtgaihekapakoeaaGreatDoor
open Go.RowKit


set_option maxRecDepth 100000

set_option maxHeartbeats 1000000 in
theorem val_any (w : World) (B : Nat) (hV : VP w B) (p : List UInt8) (hp : p.length ≤ 18) : Calls Tryz.prog 60 #[.string ⟨p.toArray⟩] w fun e w' => e = .returned (.int .i64 (valW p)) ∧ Below w.heap.size w w' := by
 have hz : (⟨p.toArray⟩ : ByteArray).size ≤ 18 := by simp [ByteArray.size]; exact hp
 obtain ⟨ev, h1, h2, -⟩ := hV.err
 unfold valW
 cases ha : Lib.atoi p with
 | some n =>
  have HA := z_ (Tryz.strconv_Atoi ⟨p.toArray⟩ n hz ha w)
  obtain ⟨P, hP⟩ : ∃ P : ByteArray, (⟨p.toArray⟩ : ByteArray) = P := ⟨_, rfl⟩
  rw [hP] at HA ⊢
  clear hP hz ha h1 h2 hV
  simp only [Option.getD_some]
  go_enter Tryz.func60, Tryz.ntmps60
  go_wp2_with (go_at_call 108; (with_reducible refine HA.out.mono ?_); rintro e w' ⟨rfl, t, rfl⟩)
  go_ret
  exact ⟨rfl, Lib.bytesWorld_below _ _ _⟩
 | none =>
  have HA := z_ (Tryz.strconv_Atoi_err ⟨p.toArray⟩ hz ha ev w h1 h2)
  obtain ⟨P, hP⟩ : ∃ P : ByteArray, (⟨p.toArray⟩ : ByteArray) = P := ⟨_, rfl⟩
  rw [hP] at HA ⊢
  clear hP hz ha h1 h2 hV
  simp only [Option.getD_none]
  go_enter Tryz.func60, Tryz.ntmps60
  go_wp2_with (go_at_call 108; (with_reducible refine HA.out.mono ?_); rintro e w' ⟨N, rfl, -, -, hb⟩)
  go_ret
  exact ⟨rfl, hb⟩

def insD (i : In) : Option Obj → Prop := fun o => ∃ v, o = some (.cells ({ i with d := v } : In).cells 23 (0, 0))
theorem val_in (p : List UInt8) (hp : p.length ≤ 18) : -9223372036854775808 ≤ valW p ∧ valW p ≤ 9223372036854775807 := by
 unfold valW
 cases ha : Lib.atoi p with
 | none => exact ⟨by decide, by decide⟩
 | some n =>
  have := Lib.atoi_bound ha hp
  simp only [Option.getD_some]
  omega
end Go.Proofs.YtgaihekapakoeaaGreatDoor
namespace Go.Proofs.YtgaihekapakoeaaGreatDoor
open Go.RowKit


set_option maxRecDepth 100000

def TxAt (w : World) (A : Nat) (N : List (List UInt8)) : Prop := ∀ (j : Nat) p, N[j]? = some p → w.cell? ⟨A, j, none⟩ = some (.string ⟨p.toArray⟩)
theorem TxAt.below {w w' : World} {A : Nat} {N : List (List UInt8)} (h : TxAt w A N) (hb : Below w.heap.size w w') (hA : A < w.heap.size) : TxAt w' A N := fun j p hj => (hb.cell (p := ⟨A, j, none⟩) hA).trans (h j p hj)
set_option maxHeartbeats 16000000 in
theorem wop_any (w : World) (hV : VP w w.heap.size) (I : In) (A n : Nat) (N : List (List UInt8)) (hn : N.length = n) (hA : A < w.heap.size) (hT : TxAt w A N) (hl : ∀ p ∈ N, p.length ≤ 18) (hnb : n ≤ 1000) :
  Calls Tryz.prog 55 #[I.val, .slice (some ⟨A, 0, none⟩) n n] w fun e w' => e = .returned (wopI I N).val ∧ Below w.heap.size w w' := by
 have hb2 : Below w.heap.size w ((w.alloc (inO I)).alloc (inO zeroI)) := ((Below.refl _ _).alloc (Nat.le_refl _) _).alloc (by simp) _
 have hI := (InW.laid w I).more (inO zeroI)
 have hZ := InW.laid (w.alloc (inO I)) zeroI
 have hsz : (w.alloc (inO I)).heap.size = w.heap.size + 1 := by simp
 rw [hsz] at hZ
 obtain ⟨w2, hw2⟩ : ∃ w2, (w.alloc (inO I)).alloc (inO zeroI) = w2 := ⟨_, rfl⟩
 rw [hw2] at hb2 hI hZ
 have hV2 : VP w2 w2.heap.size := hV.later hb2
 have hT2 : TxAt w2 A N := hT.below hb2 hA
 have g0 := hI.gs
 have g1 := hI.gx
 have g2 := hI.go
 have g3 := hI.gd
 have g4 := hI.gm
 have f3 := hI.free 3
 have f4 := hI.free 4
 have HN := z_ (fun w' => c9_needs I.s I.x I.o w')
 have hAb : A ≠ w.heap.size := by omega
 obtain ⟨dD, hdD⟩ : ∃ d, needD I.s I.x I.o = d := ⟨_, rfl⟩
 obtain ⟨nN, hnN⟩ : ∃ d, needN I.s I.x I.o = d := ⟨_, rfl⟩
 rw [hdD, hnN] at HN
 have HI := z_ hI
 have HZ := z_ hZ
 have HB2 := z_ hb2
 have HV2 := z_ hV2
 have HVo := z_ (hV.below hb2)
 have HT2 := z_ hT2
 have HL := z_ hl
 have HD := z_ hdD
 have HNN := z_ hnN
 have HLn := z_ hn
 have HA := z_ hA
 have HAb := z_ hAb
 unfold inO zeroI at hw2
 rw [in_val I]
 obtain ⟨W, hW⟩ : ∃ W, wopI I N = W := ⟨_, rfl⟩
 rw [hW]
 have HW := z_ hW
 clear hI hZ hb2 hV2 hT2 hl hn hA hAb hT hV hdD hnN hW
 by_cases hd : dD = true ∧ 0 < n
 ·obtain ⟨rfl, hn0⟩ := hd
  obtain ⟨p, hp⟩ : ∃ p, N[0]? = some p := ⟨_, List.getElem?_eq_getElem (by rw [HLn.out]; exact hn0)⟩
  have hN2 : N = p :: N.tail := by
   cases N with
   | nil => cases hp
   | cons a r => simp at hp; subst hp; rfl
  have hpl := HL.out p (List.mem_of_getElem? hp)
  obtain ⟨X, hX⟩ : ∃ X, valW p = X := ⟨_, rfl⟩
  have hwd : wopD I N = { I with d := X } := by
   unfold wopD
   rw [HD.out, if_pos ⟨rfl, fun h => by rw [h] at hp; cases hp⟩, hN2, ← hX]; rfl
  have hwn : wopN I N = N.tail := by
   unfold wopN
   rw [HD.out, if_pos ⟨rfl, fun h => by rw [h] at hp; cases hp⟩]
  have hval := fun (wz : World) (hz : M.But w2 w.heap.size (insD I) wz) => val_any wz w.heap.size (HVo.out.below (hz.below (Nat.le_refl _))) p hpl
  have hlt := HI.out.lt
  have hI0 : insD I (w2.heap[w.heap.size]?) := ⟨I.d, HI.out⟩
  have hf : ∀ q : M.Of (M.But w2 w.heap.size (insD I)), q.w.cell? ⟨A, 0, none⟩ = some (.string ⟨p.toArray⟩) := fun q => by
   rw [World.cell?_of_block (q.ok.other (Nat.lt_of_lt_of_le HA.out HB2.out.size) HAb.out)]
   exact HT2.out 0 p hp
  obtain ⟨P, hP⟩ : ∃ P : ByteArray, (⟨p.toArray⟩ : ByteArray) = P := ⟨_, rfl⟩
  rw [hP] at hf hval
  rw [hX] at hval
  have HVal := z_ hval
  have hm3 : (0 : Int) < n := by omega
  have hm4 : (1 : Int) ≤ n := by omega
  haveI : Nonempty (M.Of (M.But w2 w.heap.size (insD I))) := ⟨⟨w2, M.But.refl hlt hI0⟩⟩
  have HWd := z_ hwd
  have HWn := z_ hwn
  have HN2 := z_ hN2
  have HP0 := z_ hp
  have HXv := z_ (hX ▸ val_in p hpl)
  clear hval hpl hp hN2 hX hwd hwn hP
  go_enter Tryz.func55, Tryz.ntmps55
  go_upto_region 3 with (go_at_call 63; (with_reducible refine (HN.out _).mono ?_); rintro e w' ⟨rfl, hw⟩; obtain rfl := hw)
  refine M.regionC_ (M.But w2 w.heap.size (insD I)) (M.closed_but _ _ _) (fun n => M.But.start hlt hI0 n) (by kernel_rfl) ?_
  refine M.sx [0, 1, 2, 4, 5] 4 (M.But.refl hlt hI0) ?_
  repeat (go_big_quiet_step (fail))
  refine wpQuiet_nil ?_
  clear hf
  refine M.cm 3 (.int .i64 X) ?_ ?_
  ·intro wz sz
   unfold Oper.does
   go_simp
   exact (HVal.out wz sz).mono fun e w' ⟨he, hw⟩ => ⟨_, he, rfl, Save.of_below hw⟩
  go_simp
  refine M.sx [6] 2 (M.But.refl hlt hI0) ?_
  repeat (go_big_quiet_step (fail))
  refine wpQuiet_nil ?_
  refine M.cl 7 ?_
  intro wz sz
  have hf : wz.frozen? ⟨w.heap.size, 3, none⟩ = false := by obtain ⟨v, hv⟩ := sz.2.2; exact InW.free (i := { (I) with d := v }) hv 3
  have hc : ∃ v, wz.cell? ⟨w.heap.size, 3, none⟩ = some (.int .i64 v) := by obtain ⟨v, hv⟩ := sz.2.2; exact ⟨v, InW.gd (i := { (I) with d := v }) hv⟩
  obtain ⟨v, hc⟩ := hc
  unfold Oper.does
  go_simp
  refine ⟨M.But w2 w.heap.size (fun o => o = some (.cells ({ (I) with d := X } : In).cells 23 (0, 0))), sz.step (save_setCell wz w.heap.size 3 _) (by obtain ⟨v, hv⟩ := sz.2.2; exact InW.pd (i := { (I) with d := v }) hv X), M.closed_but _ _ _, M.But.weaken (fun o ho => ⟨X, ho⟩), ?_⟩
  clear hf hc sz
  refine M.sx [8] 0 (M.But.refl hlt hI0) ?_
  repeat (go_big_quiet_step (fail))
  refine wpQuiet_nil ?_
  refine M.en ?_
  intro wc sc
  have hIc : InW wc w.heap.size { (I) with d := X } := sc.2.2
  have hZc : InW wc (w.heap.size + 1) zeroI := (sc.other HZ.out.lt (by omega)).trans HZ.out
  have hBc : Below w.heap.size w wc := HB2.out.trans (sc.below (Nat.le_refl _))
  have hVc : VP wc w.heap.size := HVo.out.below (sc.below (Nat.le_refl _))
  have hAc : ∀ j q, N[j]? = some q → wc.cell? ⟨A, j, none⟩ = some (.string ⟨q.toArray⟩) := fun j q hj => by
   rw [World.cell?_of_block (sc.other (Nat.lt_of_lt_of_le HA.out HB2.out.size) HAb.out)]
   exact HT2.out j q hj
  obtain ⟨A1, hA1⟩ : ∃ A1, (if n = 1 then (some ⟨A, 0, none⟩ : Option Addr) else some ⟨A, 1, none⟩) = A1 := ⟨_, rfl⟩
  obtain ⟨n1, hn1⟩ : ∃ n1, n - 1 = n1 := ⟨_, rfl⟩
  rw [hA1, hn1]
  obtain ⟨I1, hI1⟩ : ∃ I1 : In, { (I) with d := X } = I1 := ⟨_, rfl⟩
  rw [hI1] at hIc HWd
  have HIc := z_ hIc
  have HZc := z_ hZc
  have HBc := z_ hBc
  have HVc := z_ hVc
  have HAc := z_ hAc
  have HA1 := z_ hA1
  have HN1 := z_ hn1
  have HtL : N.tail.length = n1 := by rw [List.length_tail, HLn.out]; exact hn1
  have HTl := z_ HtL
  clear sc hIc hZc hBc hVc hAc hA1 hn1 hI1 HtL g0 g1 g2 g3 g4 f3 f4 hI0 hlt this hm3 hm4 hw2
  by_cases hm : 0 < nN ∧ 0 < n1
  ·obtain ⟨hm1, hm2⟩ := hm
   have hnn : ¬ n = 1 := by have := HN1.out; omega
   have hA2 : A1 = some ⟨A, 1, none⟩ := by rw [← HA1.out, if_neg hnn]
   subst hA2
   obtain ⟨p2, hp2⟩ : ∃ p, N.tail[0]? = some p := ⟨_, List.getElem?_eq_getElem (by rw [HTl.out]; exact hm2)⟩
   have hp1 : N[1]? = some p2 := by rw [List.getElem?_tail] at hp2; exact hp2
   have hf := HAc.out 1 p2 hp1
   have hpl := HL.out p2 (List.mem_of_getElem? hp1)
   have hWe : W = { (I1) with m := valW p2 } := by
    rw [← HW.out]
    unfold wopI
    rw [HNN.out, HWn.out, HWd.out, if_pos ⟨hm1, fun h => by rw [h] at hp2; cases hp2⟩]
    congr 2
    rw [List.headD_eq_head?_getD, List.head?_eq_getElem?, hp2]; rfl
   have hval := val_any wc _ HVc.out p2 hpl
   obtain ⟨P2, hP2⟩ : ∃ P : ByteArray, (⟨p2.toArray⟩ : ByteArray) = P := ⟨_, rfl⟩
   rw [hP2] at hf hval
   obtain ⟨Y, hY⟩ : ∃ Y, valW p2 = Y := ⟨_, rfl⟩
   rw [hY] at hval hWe
   have HVal2 := z_ hval
   have HWe := z_ hWe
   have hm3 : (0 : Int) < n1 := by omega
   clear hval hWe hP2 hY hpl hp1 hp2 hnn
   go_wp2_with fail
   refine HVal2.out.mono ?_
   rintro e w3 ⟨rfl, hb3⟩
   have hI3 : InW w3 w.heap.size I1 := HIc.out.below hb3 HIc.out.lt
   have hZ3 : InW w3 (w.heap.size + 1) zeroI := HZc.out.below hb3 HZc.out.lt
   have hB3 : Below w.heap.size w w3 := HBc.out.trans (hb3.mono HBc.out.size)
   have y4 := hI3.gm
   have z4 := hI3.free 4
   have HI4 := z_ (hI3.pm Y)
   have HZ4 := z_ (show InW (w3.setCell ⟨w.heap.size, 4, none⟩ (.int .i64 Y)) (w.heap.size + 1) zeroI from (heap_setCell_other w3 _ _ _ (by simp)).trans hZ3)
   have HB4 := z_ (hB3.setCell (p := ⟨w.heap.size, 4, none⟩) (Nat.le_refl _) (.int .i64 Y))
   clear hb3 hI3 hZ3 hB3 hf HVal2
   go_wp2_with (first
    | (refine lr w.heap.size rfl rfl rfl HI4.out ?_)
    | (refine sr (w.heap.size + 1) rfl rfl rfl rfl HZ4.out (in_one _) ?_))
   (try simp only [Exit.inBlock, Exit.then])
   exact bodyPost_ret (results_cell_row rfl _ _ _ _ _ (0, 0) _ rfl (setRow_heap _ _ _ _ _ _ HZ4.out) Tryz.underlying23 rfl in_info) rfl ⟨by rw [HWe.out]; rfl, below_setRow HB4.out (by omega) _⟩
  ·have hWe : W = I1 := by
    rw [← HW.out]
    unfold wopI
    rw [HNN.out, HWn.out, HWd.out, if_neg]
    rintro ⟨h1, h2⟩
    exact hm ⟨h1, by rw [← HTl.out]; exact List.length_pos_iff.2 h2⟩
   have HWe := z_ hWe
   have hmn : (nN ≤ 0) ∨ n1 = 0 := by
    by_cases h : 0 < nN
    ·exact .inr (by have : ¬ 0 < n1 := fun k => hm ⟨h, k⟩; omega)
    ·exact .inl (by omega)
   clear hm hWe
   rcases hmn with hmn | hmn
   all_goals try (have h0 : ¬ (0 < nN) := by omega)
   all_goals try subst hmn
   all_goals
    go_wp2_with (first
     | (refine lr w.heap.size rfl rfl rfl HIc.out ?_)
     | (refine sr (w.heap.size + 1) rfl rfl rfl rfl HZc.out (in_one _) ?_))
   all_goals
    (try simp only [Exit.inBlock, Exit.then])
    exact bodyPost_ret (results_cell_row rfl _ _ _ _ _ (0, 0) _ rfl (setRow_heap _ _ _ _ _ _ HZc.out) Tryz.underlying23 rfl in_info) rfl ⟨by rw [HWe.out]; rfl, below_setRow HBc.out (by omega) _⟩
 ·have hwd : wopD I N = I := by
   unfold wopD
   rw [HD.out, if_neg]
   rintro ⟨h1, h2⟩
   exact hd ⟨h1, by rw [← HLn.out]; exact List.length_pos_iff.2 h2⟩
  have hwn : wopN I N = N := by
   unfold wopN
   rw [HD.out, if_neg]
   rintro ⟨h1, h2⟩
   exact hd ⟨h1, by rw [← HLn.out]; exact List.length_pos_iff.2 h2⟩
  have hdn : dD = false ∨ n = 0 := by
   cases dD with
   | false => exact .inl rfl
   | true => exact .inr (by have : ¬ 0 < n := fun h => hd ⟨rfl, h⟩; omega)
  have HWd := z_ hwd
  have HWn := z_ hwn
  clear hd hwd hwn
  by_cases hm : 0 < nN ∧ 0 < n
  ·have hdf : dD = false := by
    rcases hdn with h | h
    ·exact h
    ·omega
   subst hdf
   obtain ⟨p, hp⟩ : ∃ p, N[0]? = some p := ⟨_, List.getElem?_eq_getElem (by rw [HLn.out]; exact hm.2)⟩
   have hf : w2.cell? ⟨A, 0, none⟩ = some (.string ⟨p.toArray⟩) := HT2.out 0 p hp
   have hpl := HL.out p (List.mem_of_getElem? hp)
   have hWe : W = { I with m := valW p } := by
    rw [← HW.out]
    unfold wopI
    rw [HNN.out, HWn.out, HWd.out, if_pos ⟨hm.1, fun h => by rw [h] at hp; cases hp⟩]
    congr 2
    rw [List.headD_eq_head?_getD, List.head?_eq_getElem?, hp]; rfl
   have hval := val_any w2 _ HV2.out p hpl
   obtain ⟨P, hP⟩ : ∃ P : ByteArray, (⟨p.toArray⟩ : ByteArray) = P := ⟨_, rfl⟩
   rw [hP] at hf hval
   obtain ⟨X, hX⟩ : ∃ X, valW p = X := ⟨_, rfl⟩
   rw [hX] at hval hWe
   have HVal := z_ hval
   have HWe := z_ hWe
   obtain ⟨hm1, hm2⟩ := hm
   have hm3 : (0 : Int) < n := by omega
   clear hval hWe hP hX hpl hp hdn
   go_enter Tryz.func55, Tryz.ntmps55
   go_wp2_with (go_at_call 63; (with_reducible refine (HN.out _).mono ?_); rintro e w' ⟨rfl, hw⟩; obtain rfl := hw)
   refine HVal.out.mono ?_
   rintro e w3 ⟨rfl, hb3⟩
   have hI3 : InW w3 w.heap.size I := HI.out.below hb3 HI.out.lt
   have hZ3 : InW w3 (w.heap.size + 1) zeroI := HZ.out.below hb3 HZ.out.lt
   have hB3 : Below w.heap.size w w3 := HB2.out.trans (hb3.mono HB2.out.size)
   have y4 := hI3.gm
   have z4 := hI3.free 4
   have HI4 := z_ (hI3.pm X)
   have HZ4 := z_ (show InW (w3.setCell ⟨w.heap.size, 4, none⟩ (.int .i64 X)) (w.heap.size + 1) zeroI from (heap_setCell_other w3 _ _ _ (by simp)).trans hZ3)
   have HB4 := z_ (hB3.setCell (p := ⟨w.heap.size, 4, none⟩) (Nat.le_refl _) (.int .i64 X))
   clear hb3 hI3 hZ3 hB3 hf g0 g1 g2 g3 g4 f3 f4 HVal hw2
   go_wp2_with (first
    | (refine lr w.heap.size rfl rfl rfl HI4.out ?_)
    | (refine sr (w.heap.size + 1) rfl rfl rfl rfl HZ4.out (in_one _) ?_))
   (try simp only [Exit.inBlock, Exit.then])
   exact bodyPost_ret (results_cell_row rfl _ _ _ _ _ (0, 0) _ rfl (setRow_heap _ _ _ _ _ _ HZ4.out) Tryz.underlying23 rfl in_info) rfl ⟨by rw [HWe.out]; rfl, below_setRow HB4.out (by omega) _⟩
  ·have hWe : W = I := by
    rw [← HW.out]
    unfold wopI
    rw [HNN.out, HWn.out, HWd.out, if_neg]
    rintro ⟨h1, h2⟩
    exact hm ⟨h1, by rw [← HLn.out]; exact List.length_pos_iff.2 h2⟩
   have HWe := z_ hWe
   have hmn : (nN ≤ 0) ∨ n = 0 := by
    by_cases h : 0 < nN
    ·exact .inr (by have : ¬ 0 < n := fun k => hm ⟨h, k⟩; omega)
    ·exact .inl (by omega)
   clear hm hWe
   have key : ∀ (hD1 : (dD = false ∨ n = 0)) (hN1 : (nN ≤ 0) ∨ n = 0), True := fun _ _ => trivial
   rcases hdn with rfl | rfl
   all_goals rcases hmn with hmn | hmn
   all_goals try (have h0 : ¬ (0 < nN) := by omega)
   all_goals try subst hmn
   all_goals
    go_enter Tryz.func55, Tryz.ntmps55
    go_wp2_with (first
     | (go_at_call 63; (with_reducible refine (HN.out _).mono ?_); rintro e w' ⟨rfl, hw⟩; obtain rfl := hw)
     | (refine lr w.heap.size rfl rfl rfl HI.out ?_)
     | (refine sr (w.heap.size + 1) rfl rfl rfl rfl HZ.out (in_one _) ?_))
   all_goals
    (try simp only [Exit.inBlock, Exit.then])
    exact bodyPost_ret (results_cell_row rfl _ _ _ _ _ (0, 0) _ rfl (setRow_heap _ _ _ _ _ _ HZ.out) Tryz.underlying23 rfl in_info) rfl ⟨by rw [HWe.out]; rfl, below_setRow HB2.out (by omega) _⟩
end Go.Proofs.YtgaihekapakoeaaGreatDoor
namespace Go.Proofs.YtgaihekapakoeaaGreatDoor
open Go.RowKit


set_option maxRecDepth 100000

theorem indexAny_lt (C : List UInt8) : ∀ l : List UInt8, Lib.indexAny l C < l.length ∨ (Lib.indexAny l C = -1)
 | [] => .inr rfl
 | b :: l => by
  have ih := indexAny_lt C l
  unfold Lib.indexAny
  split
  ·left; simp
  ·split
   ·right; rfl
   ·rename_i h
    rcases ih with ih | ih
    ·left; simp only [List.length_cons]; push_cast; omega
    ·rw [ih] at h; exact absurd rfl h
def irF (x : Nat) : Int := if x < 128 then Lib.indexByte signsB.data.toList (((x : Int)).toNat.toUInt8) else -1
theorem ir_any (w : World) (x : Nat) : Calls Tryz.prog 88 #[.string signsB, .int .i32 (x : Int)] w fun e w' => e = .returned (.int .i64 (irF x)) ∧ Below w.heap.size w w' := by
 unfold irF
 by_cases h : x < 128
 ·rw [if_pos h]
  refine (Tryz.strings_IndexRune_ascii signsB x w (by omega) (by omega)).mono ?_
  rintro e w' ⟨rfl, rfl⟩
  exact ⟨rfl, Below.refl _ _⟩
 ·rw [if_neg h]; exact ir_high w x (by omega)
theorem use_small (n : Int) (hn : n ≤ 8) (w : World) : Calls Tryz.prog 89 #[.int .i64 n] w fun e w' => e = .returned (.bool false) ∧ w = w' := by
 have h : ¬ 8 < n := by omega
 go_enter Tryz.func89, Tryz.ntmps89
 go_wp2
 go_ret
 exact ⟨rfl, rfl⟩
set_option maxHeartbeats 4000000 in
theorem ia_odd (w : World) (s : ByteArray) (hs : s.size ≤ 8) : Calls Tryz.prog 50 #[.string s, .string signsB] w fun e w' => ∃ k : Int, e = .returned (.int .i64 k) ∧ -1 ≤ k ∧ k ≤ s.size ∧ Below w.heap.size w w' := by
 have hz : signsB.size = 12 := rfl
 have hne : (signsB.toList.isEmpty) = false := by rw [show signsB = ⟨signsL.toArray⟩ from rfl, ByteArray.toList_eq]; rfl
 have HI := z_ (fun w x => ir_any w x)
 have HU := z_ (use_small (s.size : Int) (by omega) w)
 obtain ⟨C, hC⟩ : ∃ C, signsB = C := ⟨_, rfl⟩
 rw [hC] at hz HI hne ⊢
 clear hC
 obtain ⟨n, hn⟩ : ∃ n, s.size = n := ⟨_, rfl⟩
 rw [hn] at HU hs ⊢
 go_enter Tryz.func50, Tryz.ntmps50
 go_wp2_with (go_at_call 89; (with_reducible refine HU.out.mono ?_); rintro e w' ⟨rfl, hw⟩; obtain rfl := hw)
 go_loopg [] n (fun gk wx => ∃ pos : Nat, wx.heap[w.heap.size]? = some (.stringIter s pos) ∧ Below w.heap.size w wx ∧ n ≤ pos + gk ∧ pos ≤ n)
 case atStart => exact ⟨0, World.iter_heap w s 0, (Below.refl _ w).alloc (Nat.le_refl _) _, by omega, by omega⟩
 case round =>
  obtain ⟨pos, hit, hb, h1, h2⟩ := hrel
  by_cases hlt : pos < n
  ·obtain ⟨g', rfl⟩ : ∃ g', gk = g' + 1 := ⟨gk - 1, by omega⟩
   have hnx : ∀ ty, (Instr.next (.pointer (some ⟨w.heap.size, 0, none⟩)) true ty).run Tryz.prog wr = _ := fun ty => Lib.run_next_any_at wr w.heap.size s pos ty hit (by omega)
   have hwd := Lib.width_pos s pos
   have hwn : pos + (Utf8.decode s pos).2 ≤ n := by
    have hne : s.data.toList.drop pos ≠ [] := by
     intro h0
     have := congrArg List.length h0
     rw [List.length_drop, ← Lib.size_eq, hn] at this
     simp at this
     omega
    have := Lib.decodeL_le _ hne
    rw [Lib.decodeL_drop, List.length_drop, ← Lib.size_eq, hn] at this
    omega
   obtain ⟨R, hR⟩ : ∃ R, (Utf8.decode s pos).1 = R := ⟨_, rfl⟩
   obtain ⟨K, hK⟩ : ∃ K, (Utf8.decode s pos).2 = K := ⟨_, rfl⟩
   rw [hR, hK] at hnx
   rw [hK] at hwd hwn
   have hit2 := Lib.iterAt_heap wr w.heap.size s pos (pos + K) hit
   have hb2 := Lib.below_iterAt hb (k := w.heap.size) (Nat.le_refl _) s (pos + K)
   obtain ⟨W, hW⟩ : ∃ W, wr.iterAt w.heap.size s (pos + K) = W := ⟨_, rfl⟩
   rw [hW] at hnx hit2 hb2
   have HIR := z_ (HI.out W R)
   obtain ⟨z, hz2⟩ : ∃ z, irF R = z := ⟨_, rfl⟩
   rw [hz2] at HIR
   have Hit := z_ hit2
   have Hb := z_ hb2
   clear hit hb hW hR hK hz2 hit2 hb2
   by_cases hzz : 0 ≤ z
   ·go_wp2_with (go_at_call 88; (with_reducible refine HIR.out.mono ?_); rintro e w' ⟨rfl, hb3⟩)
    go_ret
    exact ⟨pos, rfl, by omega, by omega, Hb.out.trans (hb3.mono Hb.out.size)⟩
   ·have hzn : ¬ 0 ≤ z := hzz
    go_wp2_with (go_at_call 88; (with_reducible refine HIR.out.mono ?_); rintro e w' ⟨rfl, hb3⟩)
    go_roundg g'
    case measure => omega
    case rel => exact ⟨pos + K, (hb3.block _ (Array.getElem?_eq_some_iff.1 Hit.out).1).trans Hit.out, Hb.out.trans (hb3.mono Hb.out.size), by omega, hwn⟩
  ·obtain rfl : pos = n := by omega
   have hnx : ∀ ty, (Instr.next (.pointer (some ⟨w.heap.size, 0, none⟩)) true ty).run Tryz.prog wr = _ := fun ty => Lib.run_next_end_at wr w.heap.size s pos ty hit (by omega)
   go_wp2_with fail
   go_ret
   exact ⟨-1, rfl, by omega, by omega, hb⟩

theorem info116 : (Tryz.prog.info? 107).map (fun i => (i.zero, i.size)) = some (some (.agg (Array.replicate 256 (.bool false))), 256) := by kernel_rfl
theorem signs_ascii : ∀ (j : Nat) b, signsB.data.toList[j]? = some b → b.toNat < 128 := ascii_of_all (by decide)
theorem ia_any (w : World) (s : List UInt8) (hs : s.length ≤ 1000) : Calls Tryz.prog 50 #[.string ⟨s.toArray⟩, .string signsB] w fun e w' => ∃ k : Int, e = .returned (.int .i64 k) ∧ -1 ≤ k ∧ k ≤ s.length ∧ (AllA s → k = Lib.indexAny s signsL) ∧ Below w.heap.size w w' := by
 have hz : (⟨s.toArray⟩ : ByteArray).size = s.length := by simp [ByteArray.size]
 have hge := Lib.indexAny_ge signsL s
 have hlt := indexAny_lt signsL s
 by_cases ha : AllA s
 ·refine (Any.strings_IndexAny_laid Tryz.lays153 info116 ⟨s.toArray⟩ signsB w (by omega) (by decide) (fun j b hj => ha b (List.mem_of_getElem? hj)) signs_ascii).mono ?_
  rintro e w' ⟨rfl, hb⟩
  exact ⟨_, rfl, hge, by show Lib.indexAny s signsL ≤ _; omega, fun _ => rfl, hb⟩
 ·by_cases h8 : 8 < s.length
  ·refine (Tryz.strings_IndexAny_long (zero_of_info info116).1 ⟨s.toArray⟩ signsB w (by decide) (by omega) (by omega) (by decide) signs_ascii).mono ?_
   rintro e w' ⟨rfl, rfl⟩
   exact ⟨_, rfl, hge, by show Lib.indexAny s signsL ≤ _; omega, fun _ => rfl, ((Below.refl _ _).alloc (Nat.le_refl _) _).alloc (by simp) _⟩
  ·refine (ia_odd w ⟨s.toArray⟩ (by omega)).mono ?_
   rintro e w' ⟨k, rfl, h1, h2, hb⟩
   exact ⟨k, rfl, h1, by omega, fun h => absurd h ha, hb⟩
theorem trim_len (C : List UInt8) : ∀ l : List UInt8, (Lib.trimLeftS l C).length ≤ l.length := fun l => by
 unfold Lib.trimLeftS
 exact (List.dropWhile_sublist _).length_le
theorem cut_text (s : List UInt8) (k n : Nat) (h : n = s.length) : (⟨s.toArray⟩ : ByteArray).extract k n = ⟨(s.drop k).toArray⟩ := by
 apply ByteArray.ext
 apply Array.toList_inj.1
 rw [Lib.extract_data]
 subst h
 simp
 rw [List.take_of_length_le (by simp)]
theorem head_text (s : List UInt8) (k : Nat) : (⟨s.toArray⟩ : ByteArray).extract 0 k = ⟨(s.take k).toArray⟩ := by
 apply ByteArray.ext
 apply Array.toList_inj.1
 rw [Lib.extract_data]
 simp
set_option maxHeartbeats 4000000 in
theorem bn_any (w : World) (s : List UInt8) (hs : s.length ≤ 1000) : Calls Tryz.prog 27 #[.string ⟨s.toArray⟩] w fun e w' => ∃ n : Nat, e = .returned (.int .i64 (n : Int)) ∧ n ≤ s.length ∧ (AllA s → n = behindF s) ∧ Below w.heap.size w w' := by
 have HA := z_ (ia_any w s hs)
 have HT := z_ (fun (w1 : World) (k : Nat) => Any.strings_TrimLeft_laid Tryz.lays161 info116 ⟨(s.drop k).toArray⟩ signsB w1 (by decide) signs_ascii)
 have HC := z_ (fun k => cut_text s k s.length rfl)
 have hz : (⟨s.toArray⟩ : ByteArray).size = s.length := by simp [ByteArray.size]
 unfold signsB at HA HT
 obtain ⟨S, hS⟩ : ∃ S : ByteArray, (⟨s.toArray⟩ : ByteArray) = S := ⟨_, rfl⟩
 rw [hS] at HA HC hz ⊢
 obtain ⟨n, hn⟩ : ∃ n, s.length = n := ⟨_, rfl⟩
 rw [hn] at HA HC hz hs ⊢
 have HN := z_ hn
 clear hS hn
 go_enter Tryz.func27, Tryz.ntmps27
 go_upto_if 7 with (go_at_call 50; (with_reducible refine HA.out.mono ?_); rintro e w1 ⟨k, rfl, k1, k2, k3, hb1⟩)
 by_cases hk : k < 0
 ·have hb : decide (k < 0) = true := decide_eq_true hk
  go_wp2_with fail
  go_ret
  refine ⟨n, rfl, Nat.le_refl _, fun ha => ?_, hb1⟩
  unfold behindF
  rw [if_pos (by rw [← k3 ha]; exact hk), HN.out]
 ·obtain ⟨kn, rfl⟩ : ∃ kn : Nat, k = kn := ⟨k.toNat, by omega⟩
  have hkn : kn ≤ n := by omega
  have hTk : Calls Tryz.prog 51 #[.string (S.extract kn n), .string signsB] w1 fun e w' => e = .returned (.string ⟨(Lib.trimLeftS (s.drop kn) signsL).toArray⟩) ∧ Below w1.heap.size w1 w' := by
   rw [HC.out kn]
   exact HT.out w1 kn
  unfold signsB at hTk
  have htl := trim_len signsL (s.drop kn)
  have hbf : AllA s → behindF s = s.length - (Lib.trimLeftS (s.drop kn) signsL).length := fun ha => by
   unfold behindF
   rw [← k3 ha, if_neg (by omega), Int.toNat_natCast]
  obtain ⟨L, hL⟩ : ∃ L, Lib.trimLeftS (s.drop kn) signsL = L := ⟨_, rfl⟩
  rw [hL] at hTk htl hbf
  obtain ⟨m, hm⟩ : ∃ m, L.length = m := ⟨_, rfl⟩
  have hTz : (⟨L.toArray⟩ : ByteArray).size = m := by rw [← hm]; simp [ByteArray.size]
  obtain ⟨T, hTT⟩ : ∃ T : ByteArray, (⟨L.toArray⟩ : ByteArray) = T := ⟨_, rfl⟩
  rw [hTT] at hTk hTz
  rw [hm] at htl hbf
  have hmn : m ≤ n := by
   have : (s.drop kn).length = n - kn := by rw [List.length_drop, HN.out]
   omega
  have HTk := z_ hTk
  have HBf := z_ hbf
  have Hb1 := z_ hb1
  clear hTk hbf hL hm hTT htl k1 k2 k3 hb1
  go_wp2_with (go_at_call 51; (with_reducible refine HTk.out.mono ?_); rintro e w2 ⟨rfl, hb2⟩)
  go_ret
  refine ⟨n - m, ?_, by omega, fun ha => ?_, Hb1.out.trans (hb2.mono Hb1.out.size)⟩
  ·show Ending.returned (.int .i64 _) = _
   congr 2
   omega
  ·rw [HBf.out ha, HN.out]
end Go.Proofs.YtgaihekapakoeaaGreatDoor
