
/- Instructions (chapter 9): what bytes tell: byteAt, headOf, number, withOperands, Of. -/
import Derived.Test.YtedlfcmlchjjlaaD2
import Derived.Test.YtedlfcmlchjjlaaY
import Derived.Laws.CopyOwn
namespace Go.Proofs.Ytedlfcmlchjjlaa
open Go.RowKit
set_option linter.unusedSimpArgs false
set_option linter.unusedVariables false
set_option maxRecDepth 100000

theorem c9_byteat (A : Option Addr) (c n k : Nat) (K : Int) (hK : K = k) (l : List Int) (w : World) (B : Nat) (hn : n = l.length) (h : RB w B A c l) : Calls Try.prog 83 #[.slice A n c, .int .i64 K] w fun e w' => e = .returned (.int .u8 (l.getD k 0)) ∧ w = w' := by
  subst hn hK
  by_cases hk : k < l.length
  · obtain ⟨b, off, rfl, _, hc⟩ := h.pos (by omega)
    have h1 := hc k hk
    have hle := h.le
    have hcap := h.cap
    unfold maxLen at hcap
    clear hc
    go_enter Try.func83, Try.ntmps83
    go_wp2
    go_ret
    exact ⟨congrArg (fun z => Ending.returned (.int .u8 z)) (getD_lt hk).symm, rfl⟩
  · rw [getD_ge (by omega)]
    go_enter Try.func83, Try.ntmps83
    go_wp2
    go_ret
    exact ⟨rfl, rfl⟩

/-- What is told by the bytes ahead of an operation's, and where that stands. -/
structure Hd9 where
  s : Int
  x : Int
  at_ : Nat
def headL (a b : Int) : Hd9 :=
  if a = 203 then ⟨1, 0, 1⟩ else if a = 237 then ⟨2, 0, 1⟩ else if idxB a = 0 ∨ loneB b = true then ⟨0, 0, 0⟩ else if b = 203 then ⟨3, idxB a, 3⟩ else ⟨0, idxB a, 1⟩
def Hd9.val (h : Hd9) : Value := .agg #[.int .i64 h.s, .int .i64 h.x, .int .i64 h.at_]
theorem head_info : (Try.prog.info? 98).map (·.size) = some 3 := by kernel_rfl

def head0 : Array Value := #[.int .i64 0, .int .i64 0, .int .i64 0]
theorem head_one (a b c : Int) : (#[.int .i64 a, .int .i64 b, .int .i64 c] : Array Value).all (·.oneCell') = true := by rw [List.all_toArray]; rfl
set_option maxHeartbeats 2000000 in
theorem c9_head (A : Option Addr) (c n : Nat) (l : List Int) (w : World) (B : Nat) (hn : n = l.length) (h : RB w B A c l) (hB : B ≤ w.heap.size) : Calls Try.prog 65 #[.slice A n c] w fun e w' => e = .returned (headL (l.getD 0 0) (l.getD 1 0)).val ∧ Below w.heap.size w w' := by
  subst hn
  obtain ⟨w1, hw1⟩ : ∃ w1, w.alloc (.cells #[.int .i64 0, .int .i64 0, .int .i64 0] 98) = w1 := ⟨_, rfl⟩
  have hb0 : Below w.heap.size w w1 := hw1 ▸ (Below.refl _ _).alloc (Nat.le_refl _) _
  have hr : w1.heap[w.heap.size]? = some (.cells head0 98 (0, 0)) := by rw [← hw1]; exact heap_alloc_new _ _
  have h1 : RB w1 B A c l := by rw [← hw1]; exact h.alloc hB _
  have H0 := Lib.hid (c9_byteat A c _ 0 0 rfl l _ B rfl h1)
  have H1 := Lib.hid (c9_byteat A c _ 1 1 rfl l _ B rfl h1)
  obtain ⟨z, hz⟩ : ∃ z, (headL (l.getD 0 0) (l.getD 1 0)).val = z := ⟨_, rfl⟩
  rw [hz]
  have hL := Lib.hid (fun w => c9_lone (l.getD 1 0) w)
  have hI := Lib.hid (fun w => c9_indexof (l.getD 0 0) w)
  generalize l.getD 0 0 = a at *
  generalize l.getD 1 0 = b at *
  unfold headL at hz
  have HZ := Lib.hid hz
  have HR := Lib.hid hr
  have HB := Lib.hid hb0
  clear hz h h1 hr hb0
  generalize loneB b = lo at *
  generalize idxB a = ix at *
  go_enter Try.func65, Try.ntmps65
  go_wp2_with (first
    | (go_at_call 83; (with_reducible refine (H0.out).mono ?_); rintro e w' ⟨rfl, rfl⟩)
    | (go_at_call 83; (with_reducible refine (H1.out).mono ?_); rintro e w' ⟨rfl, rfl⟩)
    | (go_at_call 85; (with_reducible refine (hL.out _).mono ?_); rintro e w' ⟨rfl, rfl⟩)
    | (go_at_call 84; (with_reducible refine (hI.out _).mono ?_); rintro e w' ⟨rfl, rfl⟩)
    | (refine wpList_store_row rfl 98 _ _ rfl w.heap.size _ rfl rfl _ _ HR.out head_info rfl (head_one _ _ _) ?_))
  all_goals

    (try simp only [Exit.inBlock, Exit.then])
    refine bodyPost_ret (results_cell_row rfl _ _ _ _ _ (0, 0) _ rfl (setRow_heap _ _ _ _ _ _ HR.out) Try.underlying98 rfl head_info) rfl ⟨?_, below_setRow HB.out (Nat.le_refl _) _⟩
    rw [← HZ.out]
    simp_all [Hd9.val]


/-- What at most two bytes tell, the low one first. -/
def numL9 : List Int → Int
  | [] => 0
  | [a] => a
  | a :: b :: _ => a + 256 * b
def number9 (l : List Int) (sg : Bool) : Int := if sg = true then IntKind.i8.wrap (numL9 l) else numL9 l

theorem or_first (a : Int) (h0 : 0 ≤ a) (h1 : a < 256) : bits .or .i64 0 a = a := byte_all (P := fun a => bits .or .i64 0 a = a) (by decide +kernel) a h0 h1

theorem or_pair64 (a b : Int) (a0 : 0 ≤ a) (a1 : a < 256) (b0 : 0 ≤ b) (b1 : b < 256) : bits .or .i64 a (b * 256) = a + 256 * b := by
  obtain ⟨A, rfl⟩ := Int.eq_ofNat_of_zero_le a0
  obtain ⟨B, rfl⟩ := Int.eq_ofNat_of_zero_le b0
  have e : ((B : Int) * 256) = ((B * 256 : Nat) : Int) := by push_cast; rfl
  rw [e]
  show IntKind.i64.wrap ((BitVec.ofInt 64 (A : Int) ||| BitVec.ofInt 64 ((B * 256 : Nat) : Int)).toNat : Int) = _
  rw [BitVec.toNat_or, ofInt_u64 A (by omega), ofInt_u64 (B * 256) (by omega), nat_join8' _ _ (by omega) (by omega), IntKind.wrap_i64]
  push_cast; omega
theorem wrap64_i8 (x : Int) : wrap64 (IntKind.i8.wrap x) = IntKind.i8.wrap x := by
  have h : -128 ≤ IntKind.i8.wrap x ∧ IntKind.i8.wrap x < 128 := by
    simp only [IntKind.wrap, IntKind.bits, IntKind.signed, Bool.true_and, decide_eq_true_eq, Nat.reduceSub, Int.reducePow, ge_iff_le]
    split <;> omega
  unfold wrap64
  omega

theorem c9_number0 (A : Option Addr) (c : Nat) (sg : Bool) (w : World) : Calls Try.prog 87 #[.slice A 0 c, .bool sg] w fun e w' => e = .returned (.int .i64 0) ∧ w = w' := by
  go_enter Try.func87, Try.ntmps87
  go_wp2_with fail
  go_loopw [4, 9] (fun v i wr => v = .int .i64 0 ∧ i = .int .i64 0 ∧ w = wr) (fun _ _ _ => 0)
  case atStart => exact ⟨rfl, rfl, rfl⟩
  case round =>
    obtain ⟨rfl, rfl, rfl⟩ := hrel
    go_wp2
    all_goals
      go_ret
      exact ⟨rfl, rfl⟩

theorem c9_number1 (b off c : Nat) (a : Int) (sg : Bool) (w : World) (a0 : 0 ≤ a) (a1 : a < 256) (h0 : w.cell? ⟨b, off, none⟩ = some (.int .u8 a)) : Calls Try.prog 87 #[.slice (some ⟨b, off, none⟩) 1 c, .bool sg] w fun e w' => e = .returned (.int .i64 (number9 [a] sg)) ∧ w = w' := by
  have q1 := or_first a a0 a1
  go_enter Try.func87, Try.ntmps87
  go_wp2_with fail
  go_loopw [4, 9] (fun v i wr => ((v = .int .i64 0 ∧ i = .int .i64 0) ∨ (v = .int .i64 a ∧ i = .int .i64 1)) ∧ w = wr) (fun _ i _ => 1 - (intOf i).toNat)
  case atStart => exact ⟨.inl ⟨rfl, rfl⟩, rfl⟩
  case round =>
    obtain ⟨⟨rfl, rfl⟩ | ⟨rfl, rfl⟩, rfl⟩ := hrel
    · go_wp2_with fail
      go_roundw
      case rel => exact ⟨.inr ⟨rfl, rfl⟩, trivial⟩
      case measure => simp [intOf]
    · go_wp2
      all_goals
        go_ret
        exact ⟨ret_n (by unfold number9 numL9; simp_all [wrap64_i8]), rfl⟩

theorem c9_number2 (b off c : Nat) (x y : Int) (sg : Bool) (w : World) (x0 : 0 ≤ x) (x1 : x < 256) (y0 : 0 ≤ y) (y1 : y < 256) (h0 : w.cell? ⟨b, off, none⟩ = some (.int .u8 x)) (h1 : w.cell? ⟨b, off + 1, none⟩ = some (.int .u8 y)) : Calls Try.prog 87 #[.slice (some ⟨b, off, none⟩) 2 c, .bool sg] w fun e w' => e = .returned (.int .i64 (number9 [x, y] sg)) ∧ w = w' := by
  have q1 := or_first x x0 x1
  have q2 := or_pair64 x y x0 x1 y0 y1
  go_enter Try.func87, Try.ntmps87
  go_wp2_with fail
  go_loopw [4, 9] (fun v i wr => ((v = .int .i64 0 ∧ i = .int .i64 0) ∨ (v = .int .i64 x ∧ i = .int .i64 1) ∨ (v = .int .i64 (x + 256 * y) ∧ i = .int .i64 2)) ∧ w = wr) (fun _ i _ => 2 - (intOf i).toNat)
  case atStart => exact ⟨.inl ⟨rfl, rfl⟩, rfl⟩
  case round =>
    obtain ⟨⟨rfl, rfl⟩ | ⟨rfl, rfl⟩ | ⟨rfl, rfl⟩, rfl⟩ := hrel
    · go_wp2_with fail
      go_roundw
      case rel => exact ⟨.inr (.inl ⟨rfl, rfl⟩), trivial⟩
      case measure => simp [intOf]
    · go_wp2_with fail
      go_roundw
      case rel => exact ⟨.inr (.inr ⟨rfl, rfl⟩), trivial⟩
      case measure => simp [intOf]
    · go_wp2
      all_goals
        go_ret
        exact ⟨ret_n (by unfold number9 numL9; simp_all [wrap64_i8]), rfl⟩

end Go.Proofs.Ytedlfcmlchjjlaa
