/-  -/
import Derived.Test.YtofenjloieagaaaZC
import Derived.Test.YtofenjloieagaaaJ1
namespace Go.Proofs.Ytofenjloieagaaa
open Go.RowKit
set_option maxRecDepth 100000

set_option maxHeartbeats 400000 in
theorem numberBytes_small (x : Nat) (w : World) (h : x ≤ 247) :
    Calls Try.prog 56 #[.int .u64 x] w (Fresh w.heap.size w (numB x)) := by
  have hn : numB x = [(x : Int)] := by simp [numB, h]
  have HN := Lib.hid hn
  clear hn
  go_enter Try.func56, Try.ntmps56
  go_wp2_with fail
  go_ret
  rw [HN.out]
  refine ⟨_, 1, rfl, ?_, ((Below.refl _ _).alloc (Nat.le_refl _) _)⟩
  exact OB.lit1 w x (by omega) (by omega)

theorem wrap8 (y : Nat) : IntKind.u8.wrap (y : Int) = ((y % 256 : Nat) : Int) := by rw [IntKind.wrap_u8]; omega

set_option maxHeartbeats 1000000 in
theorem numberBytes_great (x : Nat) (w : World) (h : 247 < x) (hx : x < 18446744073709551616) :
    Calls Try.prog 56 #[.int .u64 x] w (Fresh w.heap.size w (numB x)) := by
  obtain ⟨i, hi, hz0, hz1, hz2⟩ := info_parts infoB
  have hb := dig_bits x hx
  have hl8 := dig_length x
  have hl0 : 0 < (dig x).length := List.length_pos_iff.2 (dig_ne_nil x (by omega))
  have hn : numB x = [((247 + (dig x).length : Nat) : Int)] ++ digF 8 x := by unfold numB; rw [if_neg (by omega)]; rfl
  have HN := Lib.hid hn
  have HB := Lib.hid hb
  have hbl : Go.Lib.bitLen x ≤ 64 := by omega
  clear hn hb
  go_enter Try.func56, Try.ntmps56
  go_wp2_with (first
    | (go_at_call 68; refine (len64_any _ _ (by omega) (by omega)).mono ?_; rintro e w' ⟨rfl, rfl⟩)
    | (at_make; refine wpList_make_own _ rfl _ _ 23 rfl w.heap.size 5 i (.int .u8 0) 1 Try.underlying23 hi hz0 hz1 _ _ _ (1 + (dig x).length) rfl rfl (by have := HB.out; omega) (by rw [hz2]; omega) (by unfold maxLen; omega) (Nat.le_refl _) ?_; intro w1 hown hgrow)
    | (at_builtin; refine wpList_append_rb _ rfl _ _ rfl w.heap.size _ _ _ _ [] rfl rfl (OB.alloc ⟨hown, AllB.nil⟩ _) _ _ _ [_] rfl rfl (RB.lit1 _ _ (by omega) (by omega)) (by simp) (by have := hgrow.size; simp; omega) ?_; intro A' c' w2 hob hbel hne))
  have hb2 : Below w.heap.size w w2 := (((Below.refl _ _).grown hgrow (Nat.le_refl _) (fun _ h => by cases h)).alloc hgrow.size _).trans hbel
  have hcnt : (247 + ((Go.Lib.bitLen x : Int) + 7) / 8) = ((247 + (dig x).length : Nat) : Int) := by have := HB.out; omega
  rw [hcnt] at hob
  clear hcnt hbel hown hgrow hne HB
  go_loopw [0, 4] (fun t v wr => ∃ (y f : Nat) (acc : List Int) (A : Option Addr) (c : Nat), t = .int .u64 y ∧ v = .slice A acc.length c ∧ y < 256 ^ f ∧ f ≤ 8 ∧ acc ++ digF f y = numB x ∧ OB wr w.heap.size A c acc ∧ Below w.heap.size w wr) (fun t _ _ => (intOf t).toNat)
  case atStart => exact ⟨x, 8, _, A', c', rfl, rfl, hx, Nat.le_refl _, HN.out.symm, hob, hb2⟩
  case round =>
    obtain ⟨y, f, acc, A, c, rfl, rfl, hy, hf, hacc, ho, hbl⟩ := hrel
    have hal : acc.length ≤ 9 := by have := (numB_length x).2; rw [← hacc, List.length_append] at this; omega
    by_cases h0 : y = 0
    · subst h0
      rw [digF_zero, List.append_nil] at hacc
      have HA := Lib.hid hacc
      clear hacc
      go_wp2_with fail
      go_ret
      rw [← HA.out]
      exact ⟨A, c, rfl, ho, hbl⟩
    · cases f with
      | zero => simp at hy; omega
      | succ f =>
        rw [digF_pos f y h0] at hacc
        have HA := Lib.hid hacc
        have hy' : y / 256 < 256 ^ f := by rw [Nat.pow_succ] at hy; omega
        have HY := Lib.hid hy'
        have hyb : y < 18446744073709551616 := Nat.lt_of_lt_of_le hy (Nat.le_trans (Nat.pow_le_pow_right (by decide) hf) (by decide))
        have hne : ((y : Int) != 0) = true := by rw [bne_iff_ne]; omega
        clear hacc hy hy'
        go_wp2_with (at_builtin; refine wpList_append_rb _ rfl _ _ rfl w.heap.size _ _ _ _ acc rfl rfl (ho.alloc _) _ _ _ [_] rfl rfl (RB.lit1 _ _ (by first | omega | (simp only [wrap8]; omega)) (by first | omega | (simp only [wrap8]; omega))) (by simp; omega) (by have := hbl.size; simp; omega) ?_; intro A' c' w2 hob hbel hne)
        go_roundw
        case rel =>
          have e : (y : Int) % 256 = ((y % 256 : Nat) : Int) := by omega
          rw [e] at hob
          have e2 : (y : Int) / 256 = ((y / 256 : Nat) : Int) := by omega
          refine ⟨y / 256, f, _, A', c', by rw [e2], by simp, HY.out, by omega, ?_, hob, hbl.trans (((Below.refl _ _).alloc hbl.size _).trans hbel)⟩
          rw [List.append_assoc]; exact HA.out
        case measure => simp [intOf]; omega

theorem numberBytes_any (x : Nat) (w : World) (hx : x < 18446744073709551616) :
    Calls Try.prog 56 #[.int .u64 x] w (Fresh w.heap.size w (numB x)) := by
  by_cases h : x ≤ 247
  · exact numberBytes_small x w h
  · exact numberBytes_great x w (by omega) hx

set_option maxHeartbeats 400000 in
theorem number_any (A : Option Addr) (n c : Nat) (l : List Int) (x : Nat) (w : World) (B : Nat) (hn : n = l.length) (h : RB w B A c l) (hB : B ≤ w.heap.size) (hlen : l.length ≤ 70368744177664) (hx : x < 18446744073709551616) :
    Calls Try.prog 30 #[.slice A n c, .int .u64 x] w (Fresh w.heap.size w (l ++ numB x)) := by
  subst hn
  have hl := (numB_length x).2
  go_enter Try.func30, Try.ntmps30
  go_wp2_with (first
    | (go_at_call 56; refine (numberBytes_any _ _ hx).mono ?_; rintro e w1 ⟨A1, c1, rfl, ho1, hb1⟩)
    | (go_at_call 55; refine (concat2 A A1 c c1 l (numB x) w1 ((h.more hB).belowH hb1) ho1.rb (by omega)).mono ?_; rintro e w2 ⟨A2, c2, rfl, ho2, hb2⟩))
  go_ret
  exact ⟨A2, c2, by simp, ho2.mono hb1.size, hb1.trans (hb2.mono hb1.size)⟩

theorem and1 (n : Int) (h0 : 0 ≤ n) (h1 : n < 18446744073709551616) : bits .and .u64 n 1 = n % 2 := by
  rw [u64_and n 1 h0 h1 (by omega) (by omega)]
  have : n.toNat &&& 1 = n.toNat % 2 := nat_mask1 _
  rw [show (1 : Int).toNat = 1 from rfl, this]; omega

theorem xor_all (n : Int) : (BitVec.ofInt 64 (-1) ^^^ BitVec.ofInt 64 n).toNat = 18446744073709551615 - (n % 18446744073709551616).toNat := by
  have h1 : BitVec.ofInt 64 (-1) = BitVec.allOnes 64 := by decide
  rw [h1, BitVec.allOnes_xor, BitVec.toNat_not, BitVec.toNat_ofInt]
  rfl

theorem i64_not (n : Int) (h0 : -9223372036854775808 ≤ n) (h1 : n < 9223372036854775808) : bits .xor .i64 (-1) n = -n - 1 := by
  show IntKind.i64.wrap ((BitVec.ofInt 64 (-1) ^^^ BitVec.ofInt 64 n).toNat : Int) = _
  rw [xor_all, IntKind.wrap_i64]; omega

theorem u64_not (n : Int) (h0 : 0 ≤ n) (h1 : n < 18446744073709551616) : bits .xor .u64 IntKind.u64.max n = 18446744073709551615 - n := by
  show IntKind.u64.wrap ((BitVec.ofInt 64 IntKind.u64.max ^^^ BitVec.ofInt 64 n).toNat : Int) = _
  have h2 : BitVec.ofInt 64 IntKind.u64.max = BitVec.ofInt 64 (-1) := by decide
  rw [h2, xor_all, IntKind.wrap_u64]; omega

/-- A slice of the call's own, and no error; nothing below B has turned. -/
def FreshOk (B : Nat) (w : World) (l : List Int) (e : Ending) (w' : World) : Prop :=
  ∃ A c, e = .returned (.tuple #[.slice A l.length c, .int .i64 0]) ∧ OB w' B A c l ∧ Below B w w'

/-- The answer is a slice of the call's own from block B on. -/
def FreshFrom (B : Nat) (w : World) (l : List Int) (e : Ending) (w' : World) : Prop :=
  ∃ A c, e = .returned (.slice A l.length c) ∧ OB w' B A c l ∧ Below B w w'

set_option maxHeartbeats 1000000 in
theorem refNumber_small (A : Option Addr) (n c : Nat) (l : List Int) (x : Nat) (w : World) (B : Nat) (hn : n = l.length) (h : OB w B A c l) (hB : B ≤ w.heap.size) (hlen : l.length ≤ 70368744177664) (hx : x ≤ 247) :
    Calls Try.prog 32 #[.slice A n c, .int .u64 x] w (FreshFrom B w (l ++ numB x)) := by
  subst hn
  have hnb : numB x = [(x : Int)] := by simp [numB, hx]
  have HN := Lib.hid hnb
  clear hnb
  go_enter Try.func32, Try.ntmps32
  go_wp2_with (at_builtin; refine wpList_append_rb _ rfl _ _ rfl B _ _ _ _ l rfl rfl (h.alloc _) _ _ _ [_] rfl rfl (RB.lit1 _ _ (by omega) (by omega)) (by simp; omega) (by simp; omega) ?_; intro A' c' w2 hob hbel hne)
  go_ret
  rw [HN.out]
  exact ⟨A', c', by simp, hob, ((Below.refl _ _).alloc hB _).trans hbel⟩

set_option maxHeartbeats 1000000 in
theorem refNumber_great (A : Option Addr) (n c : Nat) (l : List Int) (x : Nat) (w : World) (B : Nat) (hn : n = l.length) (h : OB w B A c l) (hB : B ≤ w.heap.size) (hlen : l.length ≤ 70368744177664) (hx : 247 < x) (hx2 : x < 18446744073709551616) :
    Calls Try.prog 32 #[.slice A n c, .int .u64 x] w (FreshFrom B w (l ++ numB x)) := by
  subst hn
  have hl8 := dig_length x
  have hn : numB x = (247 + ((dig x).length : Int)) :: dig x := by unfold numB; rw [if_neg (by omega)]; congr 1
  have HN := Lib.hid hn
  have hlt : ∀ k, (Value.slice A l.length c).ownBlock = some k → k < w.heap.size := fun k hk => (h.own.lt k hk).2
  have HL := Lib.hid hlt
  clear hn hlt
  go_enter Try.func32, Try.ntmps32
  go_wp2_with fail
  go_loopw [5, 6] (fun v t wr => ∃ (y f : Nat) (acc : List Int) (A : Option Addr) (c : Nat), t = .int .u64 y ∧ v = .slice A acc.length c ∧ y < 256 ^ f ∧ f ≤ 8 ∧ acc ++ digF f y = dig x ∧ OB wr w.heap.size A c acc ∧ Below w.heap.size w wr) (fun _ t _ => (intOf t).toNat)
  case atStart => exact ⟨x, 8, [], none, 0, rfl, rfl, hx2, Nat.le_refl _, rfl, OB.nil _ _, Below.refl _ _⟩
  case round =>
    obtain ⟨y, f, acc, A1, c1, rfl, rfl, hy, hf, hacc, ho, hbl⟩ := hrel
    have hal : acc.length ≤ 8 := by rw [← hacc, List.length_append] at hl8; omega
    by_cases h0 : y = 0
    · subst h0
      rw [digF_zero, List.append_nil] at hacc
      subst hacc
      have hA := h.below hbl (Nat.le_refl _)
      go_wp2_with (first
        | (at_builtin; refine wpList_append_rbg _ rfl (.tmp 25) (.tmp 30) rfl B _ _ _ _ l rfl rfl (hA.alloc _) _ _ _ [_] rfl rfl (RB.lit1 _ _ (by omega) (by omega)) (by simp; omega) (by have := hbl.size; simp; omega) ?_; intro A' c' w2 hob hbel hgr)
        | (at_builtin; refine wpList_append_rb _ rfl (.tmp 31) (.tmp 32) rfl B _ _ _ _ _ rfl (by simp) hob _ _ _ (dig x) rfl rfl (((ho.alloc _).grown hgr HL.out).rb) (by simp; omega) (by have := hbl.size; have := hbel.size; simp at *; omega) ?_; intro A'' c'' w3 hob' hbel' hne'))
      go_ret
      rw [HN.out]
      rw [List.append_assoc] at hob'
      exact ⟨A'', c'', by simp, hob', (hbl.mono hB).trans ((((Below.refl _ _).alloc (by have := hbl.size; omega) _).trans hbel).trans hbel')⟩
    · cases f with
      | zero => simp at hy; omega
      | succ f =>
        rw [digF_pos f y h0] at hacc
        have HA := Lib.hid hacc
        have hy' : y / 256 < 256 ^ f := by rw [Nat.pow_succ] at hy; omega
        have HY := Lib.hid hy'
        have hyb : y < 18446744073709551616 := Nat.lt_of_lt_of_le hy (Nat.le_trans (Nat.pow_le_pow_right (by decide) hf) (by decide))
        have hpos : 0 < (y : Int) := by omega
        clear hacc hy hy'
        go_wp2_with (at_builtin; refine wpList_append_rb _ rfl _ _ rfl w.heap.size _ _ _ _ acc rfl rfl (ho.alloc _) _ _ _ [_] rfl rfl (RB.lit1 _ _ (by first | omega | (simp only [wrap8]; omega)) (by first | omega | (simp only [wrap8]; omega))) (by simp; omega) (by have := hbl.size; simp; omega) ?_; intro A' c' w2 hob hbel hne)
        go_roundw
        case rel =>
          have e : (y : Int) % 256 = ((y % 256 : Nat) : Int) := by omega
          rw [e] at hob
          have e2 : (y : Int) / 256 = ((y / 256 : Nat) : Int) := by omega
          refine ⟨y / 256, f, _, A', c', by rw [e2], by simp, HY.out, by omega, ?_, hob, hbl.trans (((Below.refl _ _).alloc hbl.size _).trans hbel)⟩
          rw [List.append_assoc]; exact HA.out
        case measure => simp [intOf]; omega

theorem refNumber_any (A : Option Addr) (n c : Nat) (l : List Int) (x : Nat) (w : World) (B : Nat) (hn : n = l.length) (h : OB w B A c l) (hB : B ≤ w.heap.size) (hlen : l.length ≤ 70368744177664) (hx : x < 18446744073709551616) :
    Calls Try.prog 32 #[.slice A n c, .int .u64 x] w (FreshFrom B w (l ++ numB x)) := by
  by_cases h1 : x ≤ 247
  · exact refNumber_small A n c l x w B hn h hB hlen h1
  · exact refNumber_great A n c l x w B hn h hB hlen (by omega) hx

end Go.Proofs.Ytofenjloieagaaa
