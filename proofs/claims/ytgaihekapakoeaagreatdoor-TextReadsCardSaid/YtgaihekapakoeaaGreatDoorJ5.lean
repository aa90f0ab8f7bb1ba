/-    -/
import Derived.Test.YtgaihekapakoeaaGreatDoorJ4
import Derived.Test.YtgaihekapakoeaaGreatDoorJ3
import Derived.Laws.CopyOwn
import Derived.Test.YtgaihekapakoeaaGreatDoorZQ4
set_option linter.unusedVariables false
set_option linter.unusedSimpArgs false
namespace Go.Proofs.YtgaihekapakoeaaGreatDoor
open Go.RowKit


set_option maxRecDepth 100000

theorem c9_byteat (A : Option Addr) (c n k : Nat) (K : Int) (hK : K = k) (l : List Int) (w : World) (B : Nat) (hn : n = l.length) (h : RB w B A c l) : Calls Tryz.prog 143 #[.slice A n c, .int .i64 K] w fun e w' => e = .returned (.int .u8 (l.getD k 0)) ∧ w = w' := by
 subst hn hK
 by_cases hk : k < l.length
 ·obtain ⟨b, off, rfl, _, hc⟩ := h.pos (by omega)
  have h1 := hc k hk
  have hle := h.le
  have hcap := h.cap
  unfold maxLen at hcap
  clear hc
  go_enter Tryz.func143, Tryz.ntmps143
  go_wp2
  go_ret
  exact ⟨congrArg (fun z => Ending.returned (.int .u8 z)) (getD_lt hk).symm, rfl⟩
 ·rw [getD_ge (by omega)]
  go_enter Tryz.func143, Tryz.ntmps143
  go_wp2
  go_ret
  exact ⟨rfl, rfl⟩

structure Hd9 where
 s : Int
 x : Int
 at_ : Nat
def headL (a b : Int) : Hd9 :=
 if a = 203 then ⟨1, 0, 1⟩ else if a = 237 then ⟨2, 0, 1⟩ else if idxB a = 0 ∨ loneB b = true then ⟨0, 0, 0⟩ else if b = 203 then ⟨3, idxB a, 3⟩ else ⟨0, idxB a, 1⟩
def Hd9.val (h : Hd9) : Value := .agg #[.int .i64 h.s, .int .i64 h.x, .int .i64 h.at_]
theorem head_info : (Tryz.prog.info? 134).map (·.size) = some 3 := by kernel_rfl

def head0 : Array Value := #[.int .i64 0, .int .i64 0, .int .i64 0]
theorem head_one (a b c : Int) : (#[.int .i64 a, .int .i64 b, .int .i64 c] : Array Value).all (·.oneCell') = true := by rw [List.all_toArray]; rfl
set_option maxHeartbeats 2000000 in
theorem c9_head (A : Option Addr) (c n : Nat) (l : List Int) (w : World) (B : Nat) (hn : n = l.length) (h : RB w B A c l) (hB : B ≤ w.heap.size) : Calls Tryz.prog 109 #[.slice A n c] w fun e w' => e = .returned (headL (l.getD 0 0) (l.getD 1 0)).val ∧ Below w.heap.size w w' := by
 subst hn
 obtain ⟨w1, hw1⟩ : ∃ w1, w.alloc (.cells #[.int .i64 0, .int .i64 0, .int .i64 0] 134) = w1 := ⟨_, rfl⟩
 have hb0 : Below w.heap.size w w1 := hw1 ▸ (Below.refl _ _).alloc (Nat.le_refl _) _
 have hr : w1.heap[w.heap.size]? = some (.cells head0 134 (0, 0)) := by rw [← hw1]; exact heap_alloc_new _ _
 have h1 : RB w1 B A c l := by rw [← hw1]; exact h.alloc hB _
 have H0 := z_ (c9_byteat A c _ 0 0 rfl l _ B rfl h1)
 have H1 := z_ (c9_byteat A c _ 1 1 rfl l _ B rfl h1)
 obtain ⟨z, hz⟩ : ∃ z, (headL (l.getD 0 0) (l.getD 1 0)).val = z := ⟨_, rfl⟩
 rw [hz]
 have hL := z_ (fun w => c9_lone (l.getD 1 0) w)
 have hI := z_ (fun w => c9_indexof (l.getD 0 0) w)
 generalize l.getD 0 0 = a at *
 generalize l.getD 1 0 = b at *
 unfold headL at hz
 have HZ := z_ hz
 have HR := z_ hr
 have HB := z_ hb0
 clear hz h h1 hr hb0
 generalize loneB b = lo at *
 generalize idxB a = ix at *
 go_enter Tryz.func109, Tryz.ntmps109
 go_wp2_with (first
  | (go_at_call 143; (with_reducible refine (H0.out).mono ?_); rintro e w' ⟨rfl, rfl⟩)
  | (go_at_call 143; (with_reducible refine (H1.out).mono ?_); rintro e w' ⟨rfl, rfl⟩)
  | (go_at_call 145; (with_reducible refine (hL.out _).mono ?_); rintro e w' ⟨rfl, rfl⟩)
  | (go_at_call 144; (with_reducible refine (hI.out _).mono ?_); rintro e w' ⟨rfl, rfl⟩)
  | (refine wpList_store_row rfl 134 _ _ rfl w.heap.size _ rfl rfl _ _ HR.out head_info rfl (head_one _ _ _) ?_))
 all_goals

  (try simp only [Exit.inBlock, Exit.then])
  refine bodyPost_ret (results_cell_row rfl _ _ _ _ _ (0, 0) _ rfl (setRow_heap _ _ _ _ _ _ HR.out) Tryz.underlying134 rfl head_info) rfl ⟨?_, below_setRow HB.out (Nat.le_refl _) _⟩
  rw [← HZ.out]
  simp_all [Hd9.val]


def numL9 : List Int → Int
 | [] => 0
 | [a] => a
 | a :: b :: _ => a + 256 * b
def number9 (l : List Int) (sg : Bool) : Int := if sg = true then IntKind.i8.wrap (numL9 l) else numL9 l

theorem or_first (a : Int) (h0 : 0 ≤ a) (h1 : a < 256) : bits .or .i64 0 a = a := byte_all (P := fun a => bits .or .i64 0 a = a) (by decide +kernel) a h0 h1

theorem or_pair64 (a b : Int) (a0 : 0 ≤ a) (a1 : a < 256) (b0 : 0 ≤ b) (b1 : b < 256) : bits .or .i64 a (b * 256) = a + 256 * b := by
 obtain ⟨A, rfl⟩ := Int.eq_ofNat_of_zero_le a0
 obtain ⟨B, rfl⟩ := Int.eq_ofNat_of_zero_le b0
 have e : ((B : Int) * 256) = ((B * 256 : Nat) : Int) := by push_cast; rfl
 rw [e]
 show IntKind.i64.wrap ((BitVec.ofInt 64 (A : Int) ||| BitVec.ofInt 64 ((B * 256 : Nat) : Int)).toNat : Int) = _
 rw [BitVec.toNat_or, ofInt_u64 A (by omega), ofInt_u64 (B * 256) (by omega), nat_join8' _ _ (by omega) (by omega), IntKind.wrap_i64]
 push_cast; omega
theorem wrap64_i8 (x : Int) : wrap64 (IntKind.i8.wrap x) = IntKind.i8.wrap x := by
 have h : -128 ≤ IntKind.i8.wrap x ∧ IntKind.i8.wrap x < 128 := by
  simp only [IntKind.wrap, IntKind.bits, IntKind.signed, Bool.true_and, decide_eq_true_eq, Nat.reduceSub, Int.reducePow, ge_iff_le]
  split <;> omega
 unfold wrap64
 omega

theorem c9_number0 (A : Option Addr) (c : Nat) (sg : Bool) (w : World) : Calls Tryz.prog 147 #[.slice A 0 c, .bool sg] w fun e w' => e = .returned (.int .i64 0) ∧ w = w' := by
 go_enter Tryz.func147, Tryz.ntmps147
 go_wp2_with fail
 go_loopw [4, 9] (fun v i wr => v = .int .i64 0 ∧ i = .int .i64 0 ∧ w = wr) (fun _ _ _ => 0)
 case atStart => exact ⟨rfl, rfl, rfl⟩
 case round =>
  obtain ⟨rfl, rfl, rfl⟩ := hrel
  go_wp2
  all_goals
   go_ret
   exact ⟨rfl, rfl⟩

theorem c9_number1 (b off c : Nat) (a : Int) (sg : Bool) (w : World) (a0 : 0 ≤ a) (a1 : a < 256) (h0 : w.cell? ⟨b, off, none⟩ = some (.int .u8 a)) : Calls Tryz.prog 147 #[.slice (some ⟨b, off, none⟩) 1 c, .bool sg] w fun e w' => e = .returned (.int .i64 (number9 [a] sg)) ∧ w = w' := by
 have q1 := or_first a a0 a1
 go_enter Tryz.func147, Tryz.ntmps147
 go_wp2_with fail
 go_loopw [4, 9] (fun v i wr => ((v = .int .i64 0 ∧ i = .int .i64 0) ∨ (v = .int .i64 a ∧ i = .int .i64 1)) ∧ w = wr) (fun _ i _ => 1 - (intOf i).toNat)
 case atStart => exact ⟨.inl ⟨rfl, rfl⟩, rfl⟩
 case round =>
  obtain ⟨⟨rfl, rfl⟩ | ⟨rfl, rfl⟩, rfl⟩ := hrel
  ·go_wp2_with fail
   go_roundw
   case rel => exact ⟨.inr ⟨rfl, rfl⟩, trivial⟩
   case measure => simp [intOf]
  ·go_wp2
   all_goals
    go_ret
    exact ⟨ret_n (by unfold number9 numL9; simp_all [wrap64_i8]), rfl⟩

theorem c9_number2 (b off c : Nat) (x y : Int) (sg : Bool) (w : World) (x0 : 0 ≤ x) (x1 : x < 256) (y0 : 0 ≤ y) (y1 : y < 256) (h0 : w.cell? ⟨b, off, none⟩ = some (.int .u8 x)) (h1 : w.cell? ⟨b, off + 1, none⟩ = some (.int .u8 y)) : Calls Tryz.prog 147 #[.slice (some ⟨b, off, none⟩) 2 c, .bool sg] w fun e w' => e = .returned (.int .i64 (number9 [x, y] sg)) ∧ w = w' := by
 have q1 := or_first x x0 x1
 have q2 := or_pair64 x y x0 x1 y0 y1
 go_enter Tryz.func147, Tryz.ntmps147
 go_wp2_with fail
 go_loopw [4, 9] (fun v i wr => ((v = .int .i64 0 ∧ i = .int .i64 0) ∨ (v = .int .i64 x ∧ i = .int .i64 1) ∨ (v = .int .i64 (x + 256 * y) ∧ i = .int .i64 2)) ∧ w = wr) (fun _ i _ => 2 - (intOf i).toNat)
 case atStart => exact ⟨.inl ⟨rfl, rfl⟩, rfl⟩
 case round =>
  obtain ⟨⟨rfl, rfl⟩ | ⟨rfl, rfl⟩ | ⟨rfl, rfl⟩, rfl⟩ := hrel
  ·go_wp2_with fail
   go_roundw
   case rel => exact ⟨.inr (.inl ⟨rfl, rfl⟩), trivial⟩
   case measure => simp [intOf]
  ·go_wp2_with fail
   go_roundw
   case rel => exact ⟨.inr (.inr ⟨rfl, rfl⟩), trivial⟩
   case measure => simp [intOf]
  ·go_wp2
   all_goals
    go_ret
    exact ⟨ret_n (by unfold number9 numL9; simp_all [wrap64_i8]), rfl⟩

end Go.Proofs.YtgaihekapakoeaaGreatDoor
namespace Go.Proofs.YtgaihekapakoeaaGreatDoor
open Go.RowKit


set_option maxRecDepth 100000

def opsI (i : In) (l : List Int) : In :=
 { i with d := if needD i.s i.x i.o = true then IntKind.i8.wrap (l.getD 2 0) else i.d, m := number9 (l.drop (l.length - (needN i.s i.x i.o).toNat)) (jumpI i.s i.o) }

theorem c9_number (A : Option Addr) (c n : Nat) (l : List Int) (sg : Bool) (w : World) (B : Nat) (hn : n = l.length) (h : RB w B A c l) (hl : l.length ≤ 2) : Calls Tryz.prog 147 #[.slice A n c, .bool sg] w fun e w' => e = .returned (.int .i64 (number9 l sg)) ∧ w = w' := by
 subst hn
 match l, hl with
 | [], _ => exact (c9_number0 A c sg w).mono fun e w' ⟨he, hw⟩ => ⟨by rw [he]; unfold number9 numL9; cases sg <;> rfl, hw⟩
 | [a], _ =>
  obtain ⟨b, off, rfl, _, hc⟩ := h.pos (by simp)
  have ha := h.bytes a (by simp)
  exact c9_number1 b off c a sg w ha.1 ha.2 (by have := hc 0 (by simp); simpa using this)
 | [x, y], _ =>
  obtain ⟨b, off, rfl, _, hc⟩ := h.pos (by simp)
  have hx := h.bytes x (by simp)
  have hy := h.bytes y (by simp)
  exact c9_number2 b off c x y sg w hx.1 hx.2 hy.1 hy.2 (by have := hc 0 (by simp); simpa using this) (by have := hc 1 (by simp); simpa using this)

def insB (i : In) : Option Obj → Prop := fun o => ∃ v : Int, o = some (.cells ({ i with m := v } : In).cells 23 (0, 0))
theorem insB.gs {b w : World} {g : Nat} {i : In} (h : M.But b g (insB i) w) : w.cell? ⟨g, 0, none⟩ = some (.int .i64 i.s) := by
 obtain ⟨v, hv⟩ := h.2.2
 exact InW.gs (i := { i with m := v }) hv
theorem insB.go {b w : World} {g : Nat} {i : In} (h : M.But b g (insB i) w) : w.cell? ⟨g, 2, none⟩ = some (.int .i64 i.o) := by
 obtain ⟨v, hv⟩ := h.2.2
 exact InW.go (i := { i with m := v }) hv

set_option maxHeartbeats 4000000 in
theorem c9_withops (i : In) (b off n : Nat) (l : List Int) (w : World) (hn : n = l.length) (h : RB w w.heap.size (some ⟨b, off, none⟩) n l) (h1 : needN i.s i.x i.o < n) (h2 : needD i.s i.x i.o = true → 2 < n) :
  Calls Tryz.prog 111 #[i.val, .slice (some ⟨b, off, none⟩) n n] w fun e w' => e = .returned (opsI i l).val ∧ Below w.heap.size w w' := by
 have HN := z_ (fun w => c9_needs i.s i.x i.o w)
 have HJ := z_ (fun w => c9_jumps i.s i.o w)
 have hm := needN_in i.s i.x i.o
 obtain ⟨z, hz⟩ : ∃ z, opsI i l = z := ⟨_, rfl⟩
 rw [hz]
 unfold opsI at hz
 have hcap := h.cap
 unfold maxLen at hcap
 obtain ⟨d, hd⟩ : ∃ d, needD i.s i.x i.o = d := ⟨_, rfl⟩
 obtain ⟨m, hmm⟩ : ∃ m, needN i.s i.x i.o = m := ⟨_, rfl⟩
 obtain ⟨j, hj⟩ : ∃ j, jumpI i.s i.o = j := ⟨_, rfl⟩
 rw [hd] at HN hz h2
 rw [hmm] at HN hz h1 hm
 rw [hj] at HJ hz
 obtain ⟨m0, m1⟩ := hm
 obtain ⟨k, rfl⟩ : ∃ k : Nat, m = k := ⟨m.toNat, by omega⟩
 rw [Int.toNat_natCast] at hz
 -- the two blocks
 have hb2 : Below w.heap.size w ((w.alloc (inO i)).alloc (inO zeroI)) := ((Below.refl _ _).alloc (Nat.le_refl _) _).alloc (by simp) _
 have hI := (InW.laid w i).more (inO zeroI)
 have hZ := InW.laid (w.alloc (inO i)) zeroI
 have hsz : (w.alloc (inO i)).heap.size = w.heap.size + 1 := by simp
 rw [hsz] at hZ
 have hR2 : RB ((w.alloc (inO i)).alloc (inO zeroI)) w.heap.size (some ⟨b, off, none⟩) n l := h.below hb2
 obtain ⟨w2, hw2⟩ : ∃ w2, (w.alloc (inO i)).alloc (inO zeroI) = w2 := ⟨_, rfl⟩
 rw [hw2] at hb2 hI hZ hR2
 have g0 := hI.gs
 have g1 := hI.gx
 have g2 := hI.go
 have g3 := hI.gd
 have f3 := hI.free 3
 have HZ := z_ hz
 have HL := z_ (show (l.drop (l.length - k)).length = k by rw [List.length_drop]; omega)
 have HK := z_ (show l.length - (l.length - k) = k by omega)
 obtain ⟨A, hA⟩ : ∃ A, (if l.length = l.length - k then some (⟨b, off, none⟩ : Addr) else some ⟨b, off + (l.length - k), none⟩) = A := ⟨_, rfl⟩
 have hRA : RB w2 w.heap.size A k (l.drop (l.length - k)) := by
  subst hn
  rcases Nat.eq_zero_or_pos k with rfl | hk
  ·rw [if_pos (by omega)] at hA
   subst hA
   have := hR2.sub l.length 0 (by omega)
   simp only [Nat.sub_zero, List.drop_length]
   exact RB.empty w2 w.heap.size ⟨b, off, none⟩ 0 (by unfold maxLen; omega)
  ·rw [if_neg (by omega)] at hA
   subst hA
   have := hR2.sub (l.length - k) k (by omega)
   rw [HK.out, List.take_of_length_le (by rw [HL.out]; omega)] at this
   exact this
 have HA := z_ hA
 clear hA
 unfold inO zeroI at hw2
 clear hz hd hmm hj
 rw [in_val]
 cases d with
 | false =>
  clear h2
  have HI := z_ hI
  have HW := z_ hZ
  have HR := z_ hRA
  have HB := z_ hb2
  clear hI hZ hR2 hb2 hRA
  go_enter Tryz.func111, Tryz.ntmps111
  go_wp2_with (go_at_call 63; (with_reducible refine (HN.out _).mono ?_); rintro e w' ⟨rfl, rfl⟩)
  have hlt := HI.out.lt
  have hI3 := HI.out
  have hg0 : ∀ p : M.Of (M.But w2 w.heap.size (insB i)), p.w.cell? ⟨w.heap.size, 0, none⟩ = some (.int .i64 i.s) := fun p => insB.gs p.ok
  have hg2 : ∀ p : M.Of (M.But w2 w.heap.size (insB i)), p.w.cell? ⟨w.heap.size, 2, none⟩ = some (.int .i64 i.o) := fun p => insB.go p.ok
  haveI : Nonempty (M.Of (M.But w2 w.heap.size (insB i))) := ⟨⟨w2, M.But.refl hlt ⟨i.m, hI3⟩⟩⟩
  refine M.regionC_ (M.But w2 w.heap.size (insB i)) (M.closed_but _ _ _) (fun n => M.But.start hlt ⟨i.m, hI3⟩ n) (by kernel_rfl) ?_
  refine M.sx [0, 1, 2, 3, 4, 5, 6, 7, 8, 9, 10, 11, 12, 13] 4 (M.But.refl hlt ⟨i.m, hI3⟩) ?_
  repeat (go_big_quiet_step (fail))
  refine wpQuiet_nil ?_
  clear hg0 hg2
  rw [HK.out, HA.out]
  refine M.cm 14 (.bool j) ?_ ?_
  ·intro wz sz
   unfold Oper.does
   go_simp
   exact (HJ.out wz).mono fun e w' ⟨he, hw⟩ => ⟨_, he, rfl, hw ▸ Save.refl _ _⟩
  go_simp
  refine M.cm 15 (.int .i64 (number9 (l.drop (l.length - k)) j)) ?_ ?_
  ·intro wz sz
   unfold Oper.does
   go_simp
   exact (c9_number _ _ _ _ _ wz _ HL.out.symm (HR.out.below (sz.below (Nat.le_refl _))) (by rw [HL.out]; omega)).mono fun e w' ⟨he, hw⟩ => ⟨_, he, rfl, hw ▸ Save.refl _ _⟩
  go_simp
  refine M.sx [16] 1 (M.But.refl hlt ⟨i.m, hI3⟩) ?_
  repeat (go_big_quiet_step (fail))
  refine wpQuiet_nil ?_
  generalize number9 (l.drop (l.length - k)) j = X at *
  refine M.cl 17 ?_
  intro wz sz
  have hf : wz.frozen? ⟨w.heap.size, 4, none⟩ = false := by obtain ⟨v, hv⟩ := sz.2.2; exact InW.free (i := { (i) with m := v }) hv 4
  have hc : ∃ v, wz.cell? ⟨w.heap.size, 4, none⟩ = some (.int .i64 v) := by obtain ⟨v, hv⟩ := sz.2.2; exact ⟨v, InW.gm (i := { (i) with m := v }) hv⟩
  obtain ⟨v, hc⟩ := hc
  unfold Oper.does
  go_simp
  refine ⟨M.But w2 w.heap.size (fun o => o = some (.cells ({ (i) with m := X } : In).cells 23 (0, 0))), sz.step (save_setCell wz w.heap.size 4 _) (by obtain ⟨v, hv⟩ := sz.2.2; exact InW.pm (i := { (i) with m := v }) hv X), M.closed_but _ _ _, M.But.weaken (fun o ho => ⟨X, ho⟩), ?_⟩
  clear hf hc sz
  refine M.en ?_
  intro wc sc
  have hIc : InW wc w.heap.size { (i) with m := X } := sc.2.2
  have hZc : InW wc (w.heap.size + 1) zeroI := (sc.other HW.out.lt (by omega)).trans HW.out
  have hBc := HB.out.trans (sc.below (Nat.le_refl _))
  clear sc HI HW HR HB HJ HN hI3 this
  go_wp2_with (first
   | (refine lr w.heap.size rfl rfl rfl hIc ?_)
   | (refine sr (w.heap.size + 1) rfl rfl rfl rfl hZc (in_one _) ?_))
  (try simp only [Exit.inBlock, Exit.then])
  exact bodyPost_ret (results_cell_row rfl _ _ _ _ _ (0, 0) _ rfl (setRow_heap _ _ _ _ _ _ hZc) Tryz.underlying23 rfl in_info) rfl ⟨by rw [← HZ.out]; rfl, below_setRow hBc (by omega) _⟩
 | true =>
  have h3 := h2 rfl
  clear h2
  obtain ⟨xb, hx⟩ : ∃ x, l.getD 2 0 = x := ⟨_, rfl⟩
  rw [hx] at HZ
  obtain ⟨b', off', he, hbb, hc⟩ := h.pos (by omega)
  simp only [Option.some.injEq, Addr.mk.injEq, and_true] at he
  obtain ⟨rfl, rfl⟩ := he
  have hc2 : w2.cell? ⟨b, off + 2, none⟩ = some (.int .u8 xb) := by rw [← hx]; exact (hb2.cell (p := ⟨b, off + 2, none⟩) hbb).trans (hc 2 (by omega))
  clear hc hx
  have hw8 := wrap64_i8 xb
  have HI := z_ (hI.pd (IntKind.i8.wrap xb))
  have HW := z_ (show InW (w2.setCell ⟨w.heap.size, 3, none⟩ (.int .i64 (IntKind.i8.wrap xb))) (w.heap.size + 1) zeroI from (heap_setCell_other w2 _ _ _ (by simp)).trans hZ)
  have HB := z_ (hb2.setCell (p := ⟨w.heap.size, 3, none⟩) (Nat.le_refl _) (.int .i64 (IntKind.i8.wrap xb)))
  have HR := z_ (hRA.below ((Below.refl w.heap.size w2).setCell (p := ⟨w.heap.size, 3, none⟩) (Nat.le_refl _) (.int .i64 (IntKind.i8.wrap xb))))
  clear hI hZ hR2 hb2 hRA
  go_enter Tryz.func111, Tryz.ntmps111
  go_wp2_with (go_at_call 63; (with_reducible refine (HN.out _).mono ?_); rintro e w' ⟨rfl, rfl⟩)
  clear g0 g1 g2 g3 f3 hc2 hw2 hw8
  generalize w2.setCell ⟨w.heap.size, 3, none⟩ (.int .i64 (IntKind.i8.wrap xb)) = w3 at *
  obtain ⟨i3, h3⟩ : ∃ i3 : In, { i with d := IntKind.i8.wrap xb } = i3 := ⟨_, rfl⟩
  rw [h3] at HI
  have e1 : i.s = i3.s := by rw [← h3]
  have e2 : i.o = i3.o := by rw [← h3]
  rw [e1, e2] at HJ
  have H3 := z_ h3
  clear h3
  have E1 := z_ e1
  have E2 := z_ e2
  clear e1 e2
  have hlt := HI.out.lt
  have hI3 : insB i3 (w3.heap[w.heap.size]?) := ⟨i3.m, HI.out⟩
  have hg0 : ∀ p : M.Of (M.But w3 w.heap.size (insB i3)), p.w.cell? ⟨w.heap.size, 0, none⟩ = some (.int .i64 i3.s) := fun p => insB.gs p.ok
  have hg2 : ∀ p : M.Of (M.But w3 w.heap.size (insB i3)), p.w.cell? ⟨w.heap.size, 2, none⟩ = some (.int .i64 i3.o) := fun p => insB.go p.ok
  haveI : Nonempty (M.Of (M.But w3 w.heap.size (insB i3))) := ⟨⟨w3, M.But.refl hlt hI3⟩⟩
  refine M.regionC_ (M.But w3 w.heap.size (insB i3)) (M.closed_but _ _ _) (fun n => M.But.start hlt hI3 n) (by kernel_rfl) ?_
  refine M.sx [0, 1, 2, 3, 4, 5, 6, 7, 8, 9, 10, 11, 12, 13] 4 (M.But.refl hlt hI3) ?_
  repeat (go_big_quiet_step (fail))
  refine wpQuiet_nil ?_
  clear hg0 hg2
  rw [HK.out, HA.out]
  refine M.cm 14 (.bool j) ?_ ?_
  ·intro wz sz
   unfold Oper.does
   go_simp
   exact (HJ.out wz).mono fun e w' ⟨he, hw⟩ => ⟨_, he, rfl, hw ▸ Save.refl _ _⟩
  go_simp
  refine M.cm 15 (.int .i64 (number9 (l.drop (l.length - k)) j)) ?_ ?_
  ·intro wz sz
   unfold Oper.does
   go_simp
   exact (c9_number _ _ _ _ _ wz _ HL.out.symm (HR.out.below (sz.below (Nat.le_refl _))) (by rw [HL.out]; omega)).mono fun e w' ⟨he, hw⟩ => ⟨_, he, rfl, hw ▸ Save.refl _ _⟩
  go_simp
  refine M.sx [16] 1 (M.But.refl hlt hI3) ?_
  repeat (go_big_quiet_step (fail))
  refine wpQuiet_nil ?_
  generalize number9 (l.drop (l.length - k)) j = X at *
  refine M.cl 17 ?_
  intro wz sz
  have hf : wz.frozen? ⟨w.heap.size, 4, none⟩ = false := by obtain ⟨v, hv⟩ := sz.2.2; exact InW.free (i := { (i3) with m := v }) hv 4
  have hc : ∃ v, wz.cell? ⟨w.heap.size, 4, none⟩ = some (.int .i64 v) := by obtain ⟨v, hv⟩ := sz.2.2; exact ⟨v, InW.gm (i := { (i3) with m := v }) hv⟩
  obtain ⟨v, hc⟩ := hc
  unfold Oper.does
  go_simp
  refine ⟨M.But w3 w.heap.size (fun o => o = some (.cells ({ (i3) with m := X } : In).cells 23 (0, 0))), sz.step (save_setCell wz w.heap.size 4 _) (by obtain ⟨v, hv⟩ := sz.2.2; exact InW.pm (i := { (i3) with m := v }) hv X), M.closed_but _ _ _, M.But.weaken (fun o ho => ⟨X, ho⟩), ?_⟩
  clear hf hc sz
  refine M.en ?_
  intro wc sc
  have hIc : InW wc w.heap.size { (i3) with m := X } := sc.2.2
  have hZc : InW wc (w.heap.size + 1) zeroI := (sc.other HW.out.lt (by omega)).trans HW.out
  have hBc := HB.out.trans (sc.below (Nat.le_refl _))
  clear sc HI HW HR HB HJ HN hI3 this
  go_wp2_with (first
   | (refine lr w.heap.size rfl rfl rfl hIc ?_)
   | (refine sr (w.heap.size + 1) rfl rfl rfl rfl hZc (in_one _) ?_))
  (try simp only [Exit.inBlock, Exit.then])
  exact bodyPost_ret (results_cell_row rfl _ _ _ _ _ (0, 0) _ rfl (setRow_heap _ _ _ _ _ _ hZc) Tryz.underlying23 rfl in_info) rfl ⟨by rw [← HZ.out, ← H3.out]; rfl, below_setRow hBc (by omega) _⟩
end Go.Proofs.YtgaihekapakoeaaGreatDoor
namespace Go.Proofs.YtgaihekapakoeaaGreatDoor
open Go.RowKit


set_option maxRecDepth 100000

theorem needD_len {s x o : Int} (h : needD s x o = true) : 3 ≤ lenI s x o := by
 have hn := needN_in s x o
 unfold lenI
 rw [h]
 have h1 := num1_in (x != 0)
 have h2 := num1_in (s != 0)
 have h3 : (x != 0) = true := by
  unfold needD isOneI at h
  by_cases hs : s = 0
  ·simp_all
  ·simp only [hs, if_false, Bool.and_eq_true] at h
   have h4 := h.2
   have : s = 3 := by simpa using h4
   subst this
   simp_all
   omega
 rw [h3]
 have : num1 true = 1 := rfl
 omega
theorem lenI_in (s x o : Int) : needN s x o < lenI s x o ∧ 1 ≤ lenI s x o ∧ lenI s x o ≤ 6 := by
 have hn := needN_in s x o
 have h0 := num1_in (needD s x o)
 have h1 := num1_in (x != 0)
 have h2 := num1_in (s != 0)
 unfold lenI
 omega

def of0 (l : List Int) : In := ⟨(headL (l.getD 0 0) (l.getD 1 0)).s, (headL (l.getD 0 0) (l.getD 1 0)).x, l.getD (headL (l.getD 0 0) (l.getD 1 0)).at_ 0, 0, 0, 0⟩
def ofI (l : List Int) : Option In :=
 if l.length ≤ (headL (l.getD 0 0) (l.getD 1 0)).at_ then none
 else if (l.length : Int) < (of0 l).len then none else some (opsI { of0 l with n := (of0 l).len } (l.take (of0 l).len.toNat))
def ofV (l : List Int) : In := (ofI l).getD zeroI
def ofE (l : List Int) : Int := if (ofI l).isSome = true then 0 else 5

theorem does_store_ins {P : Program} {o : Oper} {a : Act} {w : World} {next : Value → World → Prop} (ty : TypeId) (x y : Operand) (ho : o.op = .store ty x y)
  (g : Nat) (cells : Array Value) (hx : a.eval x = .pointer (some ⟨g, 0, none⟩)) (hy : a.eval y = .agg cells)
  (t : TypeId) (old : Array Value) (hg : w.heap[g]? = some (.cells old t (0, 0))) (hi : (P.info? ty).map (·.size) = some cells.size)
  (hold : old.size = cells.size) (h1 : cells.all (·.oneCell') = true)
  (h : next undef (w.setRow g cells)) : Oper.does P o a w next := by
 unfold Oper.does execOp
 simp only [ho, hx, hy, Instr.storeAt, Instr.sureAddr, Sem.run_bind, Sem.run_pure, Result.andThen_ok, run_storeVar_row w g t ty old cells hg hi hold h1]
 exact h
theorem save_setRow (w : World) (g : Nat) (cs : Array Value) : Save (· = g) w (w.setRow g cs) := by
 have hb := below_setRow (Below.refl g w) (Nat.le_refl g) cs
 exact ⟨hb.os, hb.tape, hb.output, hb.size, fun k hk hn => setRow_other _ _ _ _ hn⟩
theorem results_ins_tmp {fn : Func} {p u : Tmp} (h : fn.results = #[.cell p 23, .tmp u]) (tmps : Array Value) (w : World) (g : Nat) (i : In) (e : Value)
  (hp : tmps.getD p undef = .pointer (some ⟨g, 0, none⟩)) (he : tmps.getD u undef = e) (hg : InW w g i) :
  (results fn tmps).run Tryz.prog w = .ok (.tuple #[i.val, e]) w := by
 rw [results_cell_tmp h, hp, he]
 simp [asAddr, run_loadVar_row w g _ 23 i.cells (0, 0) _ hg Tryz.underlying23 rfl in_info]
 rfl

theorem RB.cut {w : World} {B b off c : Nat} {l : List Int} (h : RB w B (some ⟨b, off, none⟩) c l) (m : Nat) (hm : m ≤ l.length) : RB w B (some ⟨b, off, none⟩) m (l.take m) := by
 have hl : (l.take m).length = m := by rw [List.length_take]; omega
 have hcap := h.cap
 have hle := h.le
 refine ⟨by omega, by omega, h.bytes.take m, .inr ⟨_, rfl, fun h0 => ?_⟩⟩
 obtain ⟨b', off', he, hb, hc⟩ := h.pos (by omega)
 simp only [Option.some.injEq, Addr.mk.injEq, and_true] at he
 obtain ⟨rfl, rfl⟩ := he
 refine ⟨rfl, hb, fun i hi => ?_⟩
 rw [hc i (by omega)]
 simp only [List.getD]
 rw [List.getElem?_take, if_pos (by omega)]
def insA : Option Obj → Prop := fun o => ∃ i : In, o = some (.cells i.cells 23 (0, 0))
theorem closed_ins (b : World) (n : Nat) (i : In) : M.Closed (fun w' => M.Base b w' ∧ InW w' n i) := fun w w1 h hs => ⟨M.closed_base b w w1 h.1 hs, h.2.keep (hs.all.block _ h.2.lt)⟩

set_option maxHeartbeats 8000000 in
theorem c9_of (A : Option Addr) (c n : Nat) (l : List Int) (w : World) (hn : n = l.length) (h : RB w w.heap.size A c l) :
  Calls Tryz.prog 61 #[.slice A n c] w fun e w' => e = .returned (.tuple #[(ofV l).val, .int .i64 (ofE l)]) ∧ Below w.heap.size w w' := by
 subst hn
 obtain ⟨w1, hw1⟩ : ∃ w1, w.alloc (inO zeroI) = w1 := ⟨_, rfl⟩
 have hb1 : Below w.heap.size w w1 := hw1 ▸ (Below.refl _ _).alloc (Nat.le_refl _) _
 have hr1 : InW w1 w.heap.size zeroI := hw1 ▸ InW.laid w zeroI
 have h1 : RB w1 w.heap.size A c l := h.below hb1
 have H0 := z_ (c9_head A c l.length l w1 _ rfl h1 hb1.size)
 obtain ⟨X, hX⟩ : ∃ X, ofV l = X := ⟨_, rfl⟩
 obtain ⟨E, hE⟩ : ∃ E, ofE l = E := ⟨_, rfl⟩
 rw [hX, hE]
 unfold ofV ofI at hX
 unfold ofE ofI at hE
 have h0 : of0 l = ⟨(headL (l.getD 0 0) (l.getD 1 0)).s, (headL (l.getD 0 0) (l.getD 1 0)).x, l.getD (headL (l.getD 0 0) (l.getD 1 0)).at_ 0, 0, 0, 0⟩ := rfl
 generalize of0 l = i0 at *
 generalize headL (l.getD 0 0) (l.getD 1 0) = hd at *
 obtain ⟨s, x, p⟩ := hd
 simp only at h0 hX hE
 have HX := z_ hX
 have HE := z_ hE
 have HR := z_ hr1
 have HB := z_ hb1
 have HH := z_ h1
 clear hX hE hr1 hb1 h1
 have hval : Hd9.val ⟨s, x, p⟩ = .agg #[.int .i64 s, .int .i64 x, .int .i64 p] := rfl
 rw [hval] at H0
 clear hval
 unfold inO zeroI at hw1
 go_enter Tryz.func61, Tryz.ntmps61
 go_wp2_with fail
 refine H0.out.mono ?_
 rintro e w2 ⟨rfl, hb⟩
 have hr2 := HR.out.below hb HR.out.lt
 have hb2 := HB.out.trans (hb.mono HB.out.size)
 have h2 := HH.out.below (hb.mono HB.out.size)
 clear hb HR HB HH hw1 H0
 obtain ⟨w3, hw3⟩ : ∃ w3, w2.alloc (.cells #[.int .i64 s, .int .i64 x, .int .i64 p] 134) = w3 := ⟨_, rfl⟩
 obtain ⟨b1, hb1⟩ : ∃ b1, w2.heap.size = b1 := ⟨_, rfl⟩
 have hq3 : w3.heap[b1]? = some (.cells #[.int .i64 s, .int .i64 x, .int .i64 p] 134 (0, 0)) := by rw [← hw3, ← hb1]; exact heap_alloc_new _ _
 have hb23 : Below w2.heap.size w2 w3 := hw3 ▸ (Below.refl _ _).alloc (Nat.le_refl _) _
 have hr3 : InW w3 w.heap.size zeroI := hr2.below hb23 hr2.lt
 have hb3 := hb2.trans (hb23.mono hb2.size)
 have hh3 : RB w3 w.heap.size A c l := h2.below (hb23.mono hb2.size)
 have hlt1 : w.heap.size < b1 := by have := hr2.lt; omega
 have hlt3 : b1 < w3.heap.size := (Array.getElem?_eq_some_iff.1 hq3).1
 have q0 : w3.cell? ⟨b1, 0, none⟩ = some (.int .i64 s) := by rw [cell_of_row _ _ _ _ _ _ hq3]; rfl
 have q1 : w3.cell? ⟨b1, 1, none⟩ = some (.int .i64 x) := by rw [cell_of_row _ _ _ _ _ _ hq3]; rfl
 have q2 : w3.cell? ⟨b1, 2, none⟩ = some (.int .i64 p) := by rw [cell_of_row _ _ _ _ _ _ hq3]; rfl
 clear hr2 hb2 h2 hb23 hq3
 have HR := z_ hr3
 have HB := z_ hb3
 have HH := z_ hh3
 clear hr3 hb3 hh3
 by_cases hp : l.length ≤ p
 ·have HX2 := z_ (show zeroI = X by rw [← HX.out, if_pos hp]; rfl)
  have HE2 := z_ (show (5 : Int) = E by rw [← HE.out, if_pos hp]; rfl)
  clear HX HE
  go_wp2_with (refine sr w.heap.size rfl rfl rfl rfl HR.out (in_one zeroI) ?_)
  (try simp only [Exit.inBlock, Exit.then])
  exact bodyPost_ret (results_ins_tmp rfl _ _ _ zeroI _ rfl rfl (setRow_heap _ _ _ _ _ _ HR.out)) rfl ⟨by rw [← HX2.out, ← HE2.out]; rfl, below_setRow HB.out (Nat.le_refl _) _⟩
 ·rw [if_neg hp] at HX HE
  obtain ⟨bb, off, rfl, hbb, hc⟩ := HH.out.pos (by omega)
  have hcp := hc p (by omega)
  have hcap := HH.out.le
  have hmax := HH.out.cap
  have hbytes := HH.out.bytes.getD p
  unfold maxLen at hmax
  clear hc
  generalize l.getD p 0 = o at *
  have H0 := z_ h0
  clear h0
  go_upto_region 4 with fail
  have G := fun (p' : M.Of (M.Base w3)) => p'.ok.2
  have g0 : ∀ p' : M.Of (M.Base w3), p'.w.cell? ⟨b1, 0, none⟩ = some (.int .i64 s) := fun p' => ((G p').cell (p := ⟨b1, 0, none⟩) hlt3).trans q0
  have g1 : ∀ p' : M.Of (M.Base w3), p'.w.cell? ⟨b1, 1, none⟩ = some (.int .i64 x) := fun p' => ((G p').cell (p := ⟨b1, 1, none⟩) hlt3).trans q1
  have g2 : ∀ p' : M.Of (M.Base w3), p'.w.cell? ⟨b1, 2, none⟩ = some (.int .i64 p) := fun p' => ((G p').cell (p := ⟨b1, 2, none⟩) hlt3).trans q2
  have g3 : ∀ p' : M.Of (M.Base w3), p'.w.cell? ⟨bb, off + p, none⟩ = some (.int .u8 o) := fun p' => ((G p').cell (p := ⟨bb, off + p, none⟩) (by show bb < w3.heap.size; omega)).trans hcp
  refine M.rg ?_
  refine M.sg [0, 1, 2, 3, 4, 5, 6, 7, 8, 9, 10] 2 ?_
  repeat (go_big_quiet_step (fail))
  refine wpQuiet_nil ?_
  clear g0 g1 g2 g3 G
  refine M.cl 11 ?_
  intro wz sz
  unfold Oper.does
  go_simp
  refine ⟨fun w' => M.Base w3 w' ∧ InW w' wz.heap.size zeroI, ⟨M.Base.below sz ((Below.refl _ _).alloc sz.1 _), InW.laid wz zeroI⟩, closed_ins _ _ _, fun _ h => h.1, ?_⟩
  have hN : w3.heap.size ≤ wz.heap.size := sz.1
  clear sz
  generalize wz.heap.size = N at *
  refine M.cl 12 ?_
  intro wy sy
  refine does_store_ins 23 _ _ rfl N _ rfl rfl 23 _ sy.2 in_info rfl (in_one ⟨s, x, o, 0, 0, 0⟩) ?_
  refine ⟨fun w' => M.Base w3 w' ∧ InW w' N ⟨s, x, o, 0, 0, 0⟩, ⟨M.Base.below sy.1 (below_setRow (Below.refl _ _) hN _), setRow_heap _ _ _ _ _ _ sy.2⟩, closed_ins _ _ _, fun _ h => h.1, ?_⟩
  clear sy
  refine M.en ?_
  intro wc sc
  have hb3 := sc.1.2
  have hI := sc.2
  clear sc
  rw [← H0.out] at hI
  have hr := HR.out.below hb3 HR.out.lt
  have hB := HB.out.trans (hb3.mono HB.out.size)
  have hh := HH.out.below (hb3.mono HB.out.size)
  have hbb3 : bb < w3.heap.size := by omega
  clear HR HB HH hb3 hcp q0 q1 q2 hw3
  have HI := z_ hI
  have HR := z_ hr
  have HB := z_ hB
  have HH := z_ hh
  clear hI hr hB hh
  go_wp2_with (refine lr N rfl rfl rfl HI.out ?_)
  refine (c9_length i0 _).mono ?_
  rintro e w5 ⟨rfl, hb⟩
  have hI5 := HI.out.below hb HI.out.lt
  have hR5 := HR.out.below hb HR.out.lt
  have hB5 := HB.out.trans (hb.mono HB.out.size)
  have hH5 := HH.out.below (hb.mono HB.out.size)
  have hN5 := HI.out.lt
  clear hb HI HR HB HH
  have hL := lenI_in i0.s i0.x i0.o
  have hD := fun h => needD_len (s := i0.s) (x := i0.x) (o := i0.o) h
  have eL : lenI i0.s i0.x i0.o = i0.len := rfl
  rw [eL] at hL hD
  generalize i0.len = L at *
  obtain ⟨hL0, hL1, hL2⟩ := hL
  clear eL
  have g5 := hI5.gn
  have f5 := hI5.free 5
  have HI := z_ (hI5.pn L)
  have hne : N ≠ w.heap.size := by omega
  have HR := z_ (show InW (w5.setCell ⟨N, 5, none⟩ (.int .i64 L)) w.heap.size zeroI from (heap_setCell_other w5 _ _ _ (fun e => hne e.symm)).trans hR5)
  have HB := z_ (hB5.setCell (p := ⟨N, 5, none⟩) (show w.heap.size ≤ N by omega) (.int .i64 L))
  have HH := z_ (hH5.below ((Below.refl w.heap.size w5).setCell (p := ⟨N, 5, none⟩) (show w.heap.size ≤ N by omega) (.int .i64 L)))
  clear hI5 hR5 hB5 hH5
  go_upto_region 6 with fail
  generalize w5.setCell ⟨N, 5, none⟩ (.int .i64 L) = w6 at *
  clear g5 f5
  obtain ⟨i1, hi1⟩ : ∃ i1 : In, { i0 with n := L } = i1 := ⟨_, rfl⟩
  rw [hi1] at HI HX HE
  have e1 : i1.n = L := by rw [← hi1]
  have es : i0.s = i1.s := by rw [← hi1]
  have ex : i0.x = i1.x := by rw [← hi1]
  have eo : i0.o = i1.o := by rw [← hi1]
  rw [es, ex, eo] at hL0 hD
  have g6 := HI.out.gn
  rw [e1] at g6
  clear hi1 es ex eo e1
  by_cases hlen : (l.length : Int) < L
  ·have HX2 := z_ (show zeroI = X by rw [← HX.out, if_pos hlen]; rfl)
   have HE2 := z_ (show (5 : Int) = E by rw [← HE.out, if_pos hlen]; rfl)
   clear HX HE
   go_wp2_with (refine sr w.heap.size rfl rfl rfl rfl HR.out (in_one zeroI) ?_)
   (try simp only [Exit.inBlock, Exit.then])
   exact bodyPost_ret (results_ins_tmp rfl _ _ _ zeroI _ rfl rfl (setRow_heap _ _ _ _ _ _ HR.out)) rfl ⟨by rw [← HX2.out, ← HE2.out]; rfl, below_setRow HB.out (Nat.le_refl _) _⟩
  ·rw [if_neg hlen] at HX HE
   obtain ⟨m, rfl⟩ : ∃ m : Nat, L = m := ⟨L.toNat, by omega⟩
   rw [Int.toNat_natCast] at HX HE
   have hml : m ≤ l.length := by omega
   have hNlt := HI.out.lt
   have HT := z_ (show (l.take m).length = m by rw [List.length_take]; omega)
   go_upto_region 8 with fail
   have hlt := HR.out.lt
   have hR0 : insA (w6.heap[w.heap.size]?) := ⟨zeroI, HR.out⟩
   have g7 : ∀ p' : M.Of (M.But w6 w.heap.size insA), p'.w.cell? ⟨N, 5, none⟩ = some (.int .i64 m) := fun p' => (World.cell?_of_block (p'.ok.other hNlt hne)).trans g6
   haveI : Nonempty (M.Of (M.But w6 w.heap.size insA)) := ⟨⟨w6, M.But.refl hlt hR0⟩⟩
   refine M.regionC_ (M.But w6 w.heap.size insA) (M.closed_but _ _ _) (fun n => M.But.start hlt hR0 n) (by kernel_rfl) ?_
   refine M.cm 0 i1.val ?_ ?_
   ·intro wz sz
    exact dl ((sz.other hNlt hne).trans HI.out)
   go_simp
   refine M.sx [1, 2, 3, 4, 5, 6] 3 (M.But.refl hlt hR0) ?_
   repeat (go_big_quiet_step (fail))
   refine wpQuiet_nil ?_
   clear g7 g6
   refine M.cm 7 (opsI i1 (l.take m)).val ?_ ?_
   ·intro wz sz
    unfold Oper.does
    go_simp
    exact (c9_withops i1 bb off m (l.take m) wz HT.out.symm (((HH.out.cut m hml).below (sz.below (Nat.le_refl _))).more (by have := sz.2.1.size; omega)) hL0 (fun h => by have := hD h; omega)).mono fun e w' ⟨he, hw⟩ => ⟨_, he, rfl, Save.of_below hw⟩
   go_simp
   generalize opsI i1 (l.take m) = Y at *
   refine M.cl 8 ?_
   intro wy sy
   obtain ⟨iv, hv⟩ := sy.2.2
   refine does_store_ins 23 _ _ rfl w.heap.size Y.cells rfl rfl 23 _ hv in_info rfl (in_one Y) ?_
   refine ⟨M.But w6 w.heap.size (fun o => o = some (.cells Y.cells 23 (0, 0))), sy.step (save_setRow wy w.heap.size _) (setRow_heap _ _ _ _ _ _ hv), M.closed_but _ _ _, M.But.weaken (fun o ho => ⟨Y, ho⟩), ?_⟩
   clear sy hv iv
   go_simp
   refine M.sx [9] 0 (M.But.refl hlt hR0) ?_
   repeat (go_big_quiet_step (fail))
   refine wpQuiet_nil ?_
   refine M.en ?_
   intro wc sc
   have hBc := HB.out.trans (sc.below (Nat.le_refl _))
   have hIc : InW wc w.heap.size Y := sc.2.2
   go_wp2
   (try simp only [Exit.inBlock, Exit.then])
   exact bodyPost_ret (results_ins_tmp rfl _ _ _ Y _ rfl rfl hIc) rfl ⟨by rw [← HX.out, ← HE.out]; rfl, hBc⟩
end Go.Proofs.YtgaihekapakoeaaGreatDoor
