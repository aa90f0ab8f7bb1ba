/-           -/
import Derived.Test.YtgaihekapakoeaaGreatDoorZB
import Derived.ProofKit
import Derived.OpenShut
import Derived.Lib.AppendZeros
import Derived.Lib.Hide
import Derived.Lib.BitFns
import Derived.Shelf.Strconv.Itoa0
import Derived.Test.YtgaihekapakoeaaGreatDoorProg
import Derived.Deep.QuietTactic
import Derived.BigQuiet
import Derived.Lib.SlBytesConst
import Derived.Test.YtgaihekapakoeaaGreatDoorJ1
namespace Go.Proofs.YtgaihekapakoeaaGreatDoor
open Go.RowKit Go.ChangeShapes Go.WideShapes Go.ChangeAt

theorem own : ownKnob Tryz.prog.godebug = none := by kernel_rfl
theorem laidOut : laidOutB Tryz.prog = true := by kernel_rfl

/-- A []byte that came in. -/
theorem open_bytes {H : Type} {enc : TypeId × Value → H} {W : World} {a : Option Addr} {len cap : Nat} {d : DataW H} {p : List MemPlace}
    (h : DataW.Trod enc Tryz.prog W 0 (fun _ => true) true 27 (.slice a len cap) d p) : ∃ l : List Int, len = l.length ∧ RB W W.heap.size a cap l := by
  obtain ⟨fuel, hf⟩ := h
  rcases open_ints Tryz.underlying27 Tryz.underlying5 (by kernel_rfl) hf with ⟨hcs, _⟩ | ⟨x, l, c, zs, hcs, _, hl, hm, hz, _, hcell, hwz⟩
  · simp [Value.cells] at hcs
    obtain ⟨rfl, rfl, rfl⟩ := hcs
    exact ⟨[], rfl, RB.nil _ _⟩
  · simp [Value.cells] at hcs
    obtain ⟨rfl, rfl, rfl⟩ := hcs
    have hz' : zs.length = cap := by simpa using hz
    have hb : AllB zs := fun n hn => by have := bounds_u8 (hwz n hn); omega
    have hlen : (zs.take len).length = len := by rw [List.length_take]; omega
    refine ⟨zs.take len, hlen.symm, by omega, hm, hb.take len, .inr ⟨x, rfl, fun h0 => ?_⟩⟩
    obtain ⟨b, off, rfl, hc⟩ := ints_at hcell (by omega)
    refine ⟨rfl, World.block_lt_of_cell? _ _ (hc 0 (by omega)), fun i hi => ?_⟩
    rw [hc i (by omega)]
    simp only [List.getD]
    rw [List.getElem?_take, if_pos (by omega)]
end Go.Proofs.YtgaihekapakoeaaGreatDoor
namespace Go.Proofs.YtgaihekapakoeaaGreatDoor
open Go.RowKit
set_option maxRecDepth 100000

/-- The answer is a slice of the call's own with the elements l; nothing below B has turned. -/
def Fresh (B : Nat) (w : World) (l : List Int) (e : Ending) (w' : World) : Prop :=
  ∃ A c, e = .returned (.slice A l.length c) ∧ OB w' B A c l ∧ Below B w w'

/-- What is fresh behind more is fresh. -/
theorem Fresh.of {B : Nat} {w w1 : World} {l : List Int} {e : Ending} {w' : World} (h : Fresh w1.heap.size w1 l e w') (hb : Below B w w1) (hB : B ≤ w1.heap.size) : Fresh B w l e w' := by
  obtain ⟨A, c, he, ho, hbl⟩ := h
  exact ⟨A, c, he, ho.mono hB, hb.trans (hbl.mono hB)⟩

set_option maxHeartbeats 400000 in
theorem own_any (A : Option Addr) (c n : Nat) (l : List Int) (w : World) (B : Nat) (hn : n = l.length) (h : RB w B A c l) (hB : B ≤ w.heap.size) (hlen : l.length ≤ 140737488355328) :
    Calls Tryz.prog 16 #[.slice A n c] w (Fresh w.heap.size w l) := by
  subst hn
  go_enter Tryz.func16, Tryz.ntmps16
  go_wp2_with (at_builtin; refine wpList_append_rb _ rfl _ _ rfl w.heap.size B _ _ _ [] rfl rfl (OB.made w #[] (Nat.zero_le _)) _ _ _ l rfl rfl (h.alloc hB _) (by simpa using hlen) (by simp) ?_; intro A' c' w1 hob hbel hne)
  go_ret
  exact ⟨A', c', rfl, hob, ((Below.refl _ _).alloc (Nat.le_refl _) _).trans hbel⟩

/-- Grow(nil, n): an empty slice with room of the call's own, or nil. -/
def Room (B : Nat) (w : World) (e : Ending) (w' : World) : Prop :=
  ∃ A c, e = .returned (.slice A 0 c) ∧ OB w' B A c [] ∧ Below B w w'

/-- The pieces of a slice of slices. -/
structure Piece where
  A : Option Addr
  c : Nat
  l : List Int

def flat (ps : List Piece) : List Int := (ps.map (·.l)).flatten
theorem flat_nil : flat [] = [] := rfl
theorem flat_take (ps : List Piece) (k : Nat) (h : k < ps.length) : flat (ps.take (k + 1)) = flat (ps.take k) ++ ps[k].l := by
  unfold flat; rw [List.take_succ_eq_append_getElem h, List.map_append, List.flatten_append]; simp only [List.map_cons, List.map_nil, List.flatten_cons, List.flatten_nil, List.append_nil]
theorem flat_le (ps : List Piece) (k : Nat) : (flat (ps.take k)).length ≤ (flat ps).length := by
  have h : flat ps = flat (ps.take k) ++ flat (ps.drop k) := by
    conv => lhs; rw [← List.take_append_drop k ps]
    unfold flat; rw [List.map_append, List.flatten_append]
  rw [h, List.length_append]; omega
theorem flat_all (ps : List Piece) (k : Nat) (h : ps.length ≤ k) : flat (ps.take k) = flat ps := by rw [List.take_of_length_le h]

end Go.Proofs.YtgaihekapakoeaaGreatDoor
namespace Go.Proofs.YtgaihekapakoeaaGreatDoor
open Go.RowKit

/-- One doubling. -/
def stp (v : BitVec 16) : BitVec 16 := if v.msb then (v <<< 1) ^^^ 0x1021#16 else v <<< 1
def st8 (v : BitVec 16) : BitVec 16 := stp (stp (stp (stp (stp (stp (stp (stp v)))))))
/-- A byte more. -/
def byt (s : BitVec 16) (c : Int) : BitVec 16 := st8 (s ^^^ BitVec.ofNat 16 (c.toNat * 256))
def sumFrom (s : BitVec 16) (l : List Int) : BitVec 16 := l.foldl byt s
def sumL (l : List Int) : BitVec 16 := sumFrom 0xffff#16 l

theorem sumFrom_append (s : BitVec 16) (l m : List Int) : sumFrom s (l ++ m) = sumFrom (sumFrom s l) m := by simp [sumFrom]
theorem sumFrom_snoc (s : BitVec 16) (l : List Int) (c : Int) : sumFrom s (l ++ [c]) = byt (sumFrom s l) c := by simp [sumFrom]
theorem take_snoc (l : List Int) (k : Nat) (h : k < l.length) : l.take (k + 1) = l.take k ++ [l.getD k 0] := by
  rw [List.take_succ_eq_append_getElem h, getD_lt h]

theorem stp_xor (a b : BitVec 16) : stp (a ^^^ b) = stp a ^^^ stp b := by
  unfold stp
  rw [BitVec.msb_xor, BitVec.shiftLeft_xor_distrib]
  cases a.msb <;> cases b.msb <;> simp [BitVec.xor_assoc]
  · rw [BitVec.xor_comm (b <<< 1), BitVec.xor_comm (4129#16)]
  · rw [BitVec.xor_comm (b <<< 1), ← BitVec.xor_assoc, BitVec.xor_self, BitVec.zero_xor]

theorem st8_xor (a b : BitVec 16) : st8 (a ^^^ b) = st8 a ^^^ st8 b := by unfold st8; simp only [stp_xor]

/-- What eight doublings make of a high byte. -/
def wordB (h : Nat) : BitVec 16 := st8 (BitVec.ofNat 16 (h * 256))

theorem st8_low : ∀ n : Fin 256, st8 (BitVec.ofNat 16 n.val) = BitVec.ofNat 16 (n.val * 256) := by decide +kernel

theorem nat_split (s c : Nat) : s ^^^ (c * 256) = (((s / 256) ^^^ c) * 256) ^^^ (s % 256) := by
  have e : ∀ x : Nat, x * 256 = x <<< 8 := fun x => by rw [Nat.shiftLeft_eq]
  rw [e, e]
  apply Nat.eq_of_testBit_eq
  intro i
  have h256 : s % 256 = s % 2 ^ 8 := rfl
  have hd : s / 256 = s / 2 ^ 8 := rfl
  rw [h256, hd]
  simp only [Nat.testBit_xor, Nat.testBit_shiftLeft, Nat.testBit_mod_two_pow, Nat.testBit_div_two_pow]
  by_cases h : i < 8
  · simp [h, show ¬ 8 ≤ i by omega]
  · simp [h, show 8 ≤ i by omega]

theorem byt_word (s : BitVec 16) (c : Nat) : byt s c = BitVec.ofNat 16 (s.toNat % 256 * 256) ^^^ wordB ((s.toNat / 256) ^^^ c) := by
  have hs := s.isLt
  have hx : s ^^^ BitVec.ofNat 16 (c * 256) = BitVec.ofNat 16 (((s.toNat / 256) ^^^ c) * 256) ^^^ BitVec.ofNat 16 (s.toNat % 256) := by
    have h1 : s = BitVec.ofNat 16 s.toNat := by simp
    conv => lhs; rw [h1]
    rw [← BitVec.ofNat_xor, ← BitVec.ofNat_xor, nat_split]
  unfold byt
  rw [Int.toNat_natCast, hx, st8_xor, BitVec.xor_comm]
  congr 1
  exact st8_low ⟨s.toNat % 256, Nat.mod_lt _ (by omega)⟩

def wordI (n : Int) : Int := bits .xor .u16 (bits .xor .u16 (IntKind.u16.wrap (IntKind.u16.wrap (bits .xor .u8 n (n / 16)) * 4096)) (IntKind.u16.wrap (IntKind.u16.wrap (bits .xor .u8 n (n / 16)) * 32))) (IntKind.u16.wrap (bits .xor .u8 n (n / 16)))

theorem wordI_eq : ∀ n : Fin 256, wordI (n.val : Int) = ((wordB n.val).toNat : Int) := by decide +kernel

/-- The argument and the answer of a round, as the walk spells them. -/
theorem round_arg (s : BitVec 16) (c : Int) (h0 : 0 ≤ c) (h1 : c < 256) : bits .xor .u8 ((s.toNat : Int) / 256) c = (((s.toNat / 256) ^^^ c.toNat : Nat) : Int) := by
  have hs := s.isLt
  rw [u8_xor _ _ (by omega) (by omega) h0 h1]
  congr 2

theorem round_lt (s : BitVec 16) (c : Int) (h0 : 0 ≤ c) (h1 : c < 256) : (s.toNat / 256) ^^^ c.toNat < 256 := by
  have hs := s.isLt
  exact Nat.xor_lt_two_pow (n := 8) (by omega) (by omega)

theorem round_val (s : BitVec 16) (c : Int) (h0 : 0 ≤ c) : bits .xor .u16 (IntKind.u16.wrap ((s.toNat : Int) * 256)) ((wordB ((s.toNat / 256) ^^^ c.toNat)).toNat : Int) = ((byt s c).toNat : Int) := by
  have hs := s.isLt
  obtain ⟨d, rfl⟩ := Int.eq_ofNat_of_zero_le h0
  rw [Int.toNat_natCast, byt_word s d, BitVec.toNat_xor, IntKind.wrap_u16]
  have e : ((s.toNat : Int) * 256) % 65536 = ((s.toNat % 256 * 256 : Nat) : Int) := by omega
  rw [e, u16_xor_nat _ _ (by omega) (BitVec.isLt _)]
  congr 2
  rw [BitVec.toNat_ofNat]; exact (Nat.mod_eq_of_lt (by omega)).symm

def stpN : Nat → BitVec 16 → BitVec 16
  | 0, v => v
  | n + 1, v => stp (stpN n v)
theorem stpN_8 (v : BitVec 16) : stpN 8 v = st8 v := rfl

theorem stp_hi (v : BitVec 16) (h : 32768 ≤ v.toNat) : bits .xor .u16 (IntKind.u16.wrap ((v.toNat : Int) * 2)) 4129 = ((stp v).toNat : Int) := by
  have hv := v.isLt
  have hm : v.msb = true := by rw [BitVec.msb_eq_decide]; simp; omega
  unfold stp
  rw [hm, if_pos rfl, BitVec.toNat_xor, IntKind.wrap_u16]
  have e : ((v.toNat : Int) * 2) % 65536 = ((v.toNat * 2 % 65536 : Nat) : Int) := by omega
  rw [e]
  have := u16_xor_nat (v.toNat * 2 % 65536) 4129 (by omega) (by omega)
  rw [show ((4129 : Nat) : Int) = 4129 from rfl] at this
  rw [this]
  congr 2
  rw [BitVec.toNat_shiftLeft, Nat.shiftLeft_eq]

theorem stp_lo (v : BitVec 16) (h : v.toNat < 32768) : IntKind.u16.wrap ((v.toNat : Int) * 2) = ((stp v).toNat : Int) := by
  have hm : v.msb = false := by rw [BitVec.msb_eq_decide]; simp; omega
  unfold stp
  rw [hm, if_neg (by decide), BitVec.toNat_shiftLeft, Nat.shiftLeft_eq, IntKind.wrap_u16]
  omega

theorem ref_first (t : BitVec 16) (x : Int) (h0 : 0 ≤ x) (h1 : x < 256) : bits .xor .u16 (t.toNat : Int) (x * 256) = ((t ^^^ BitVec.ofNat 16 (x.toNat * 256)).toNat : Int) := by
  have ht := t.isLt
  obtain ⟨d, rfl⟩ := Int.eq_ofNat_of_zero_le h0
  have e : ((d : Int) * 256) = ((d * 256 : Nat) : Int) := by omega
  rw [e, u16_xor_nat _ _ ht (by omega), BitVec.toNat_xor, Int.toNat_natCast, BitVec.toNat_ofNat]
  congr 2
  exact (Nat.mod_eq_of_lt (by omega)).symm

end Go.Proofs.YtgaihekapakoeaaGreatDoor
namespace Go.Proofs.YtgaihekapakoeaaGreatDoor

/-- The bytes of x, the lowest first, the highest not 0: at most f of them. -/
def digF : Nat → Nat → List Int
  | 0, _ => []
  | f + 1, x => if x = 0 then [] else ((x % 256 : Nat) : Int) :: digF f (x / 256)

def dig (x : Nat) : List Int := digF 8 x

/-- A number's bytes. -/
def numB (x : Nat) : List Int := if x ≤ 247 then [(x : Int)] else ((247 + (dig x).length : Nat) : Int) :: dig x

theorem digF_zero (f : Nat) : digF f 0 = [] := by cases f <;> simp [digF]
theorem digF_pos (f x : Nat) (h : x ≠ 0) : digF (f + 1) x = ((x % 256 : Nat) : Int) :: digF f (x / 256) := by simp [digF, h]

theorem digF_allB : ∀ (f x : Nat), AllB (digF f x)
  | 0, _ => AllB.nil
  | f + 1, x => by
    unfold digF
    split
    · exact AllB.nil
    · exact AllB.cons (by omega) (by omega) (digF_allB f _)

theorem digF_length : ∀ (f x : Nat), (digF f x).length ≤ f
  | 0, _ => Nat.le_refl _
  | f + 1, x => by
    unfold digF
    split
    · simp
    · have := digF_length f (x / 256); simp; omega

theorem dig_allB (x : Nat) : AllB (dig x) := digF_allB 8 x
theorem dig_length (x : Nat) : (dig x).length ≤ 8 := digF_length 8 x
theorem numB_allB (x : Nat) : AllB (numB x) := by
  unfold numB
  split
  · exact AllB.one (by omega) (by omega)
  · have := dig_length x; exact AllB.cons (by omega) (by omega) (dig_allB x)
theorem numB_length (x : Nat) : 1 ≤ (numB x).length ∧ (numB x).length ≤ 9 := by
  unfold numB
  split
  · simp
  · have := dig_length x; simp; omega

/-- How many bytes: by the number of bits. -/
theorem digF_bits : ∀ (f x : Nat), f ≤ 8 → x < 256 ^ f → (digF f x).length = (Go.Lib.bitLen x + 7) / 8
  | 0, x, _, h => by
    have : x = 0 := by simpa using h
    subst this; rfl
  | f + 1, x, hf, h => by
    by_cases h0 : x = 0
    · subst h0; rw [digF_zero]; rfl
    · rw [digF_pos f x h0, List.length_cons]
      have hlt : x / 256 < 256 ^ f := by rw [Nat.pow_succ] at h; omega
      rw [digF_bits f (x / 256) (by omega) hlt]
      by_cases h1 : 256 ≤ x
      · have hb : x < 18446744073709551616 := by
          refine Nat.lt_of_lt_of_le h ?_
          exact Nat.le_trans (Nat.pow_le_pow_right (by decide) hf) (by decide)
        rw [Go.Lib.bitLen_shift8 x h1 hb]; omega
      · have h2 : x / 256 = 0 := by omega
        rw [h2]
        have h3 := Go.Lib.bitLen_le8 ⟨x, by omega⟩
        have h4 : 1 ≤ Go.Lib.bitLen x := by
          unfold Go.Lib.bitLen; simp [Go.Lib.bitLenAux, h0]
        have h5 : Go.Lib.bitLen 0 = 0 := rfl
        simp only [h5] at *; omega

theorem dig_bits (x : Nat) (h : x < 18446744073709551616) : (dig x).length = (Go.Lib.bitLen x + 7) / 8 := digF_bits 8 x (Nat.le_refl _) h

/-- What bytes, the lowest first, are as a number. -/
def leV : List Int → Nat
  | [] => 0
  | b :: l => b.toNat + 256 * leV l

theorem leV_digF : ∀ (f x : Nat), x < 256 ^ f → leV (digF f x) = x
  | 0, x, h => by have : x = 0 := by simpa using h
                  subst this; rfl
  | f + 1, x, h => by
    by_cases h0 : x = 0
    · subst h0; rw [digF_zero]; rfl
    · rw [digF_pos f x h0, leV, leV_digF f (x / 256) (by rw [Nat.pow_succ] at h; omega)]
      simp only [Int.toNat_natCast]; omega

theorem leV_dig (x : Nat) (h : x < 18446744073709551616) : leV (dig x) = x := leV_digF 8 x h

theorem leV_lt : ∀ (l : List Int), AllB l → leV l < 256 ^ l.length
  | [], _ => by simp [leV]
  | b :: l, h => by
    have h1 := h b (by simp)
    have h2 := leV_lt l (fun n hn => h n (by simp [hn]))
    rw [leV, List.length_cons, Nat.pow_succ]; omega

theorem leV_append : ∀ (l m : List Int), leV (l ++ m) = leV l + 256 ^ l.length * leV m
  | [], m => by simp [leV]
  | b :: l, m => by
    rw [List.cons_append, leV, leV_append l m, leV, List.length_cons, Nat.pow_succ, Nat.mul_add, ← Nat.mul_assoc, Nat.mul_comm 256 (256 ^ l.length), Nat.add_assoc]

theorem leV_snoc (l : List Int) (x : Int) : leV (l ++ [x]) = leV l + x.toNat * 256 ^ l.length := by
  rw [leV_append, leV, leV, Nat.mul_zero, Nat.add_zero, Nat.mul_comm]

/-- The bytes of a number whose highest is not 0 are its own. -/
theorem dig_leV : ∀ (f : Nat) (l : List Int), AllB l → l.length ≤ f → (l = [] ∨ l.getLastD 0 ≠ 0) → digF f (leV l) = l
  | _, [], _, _, _ => by rw [leV, digF_zero]
  | 0, b :: l, _, h, _ => by simp at h
  | f + 1, b :: l, hb, hl, hz => by
    have h1 := hb b (by simp)
    have hbl : AllB l := fun n hn => hb n (by simp [hn])
    have hz' : l = [] ∨ l.getLastD 0 ≠ 0 := by
      cases l with
      | nil => exact .inl rfl
      | cons c m => right; rcases hz with h | h
                    · cases h
                    · simpa using h
    have ih := dig_leV f l hbl (by simpa using hl) hz'
    have hne : leV (b :: l) ≠ 0 := by
      intro h0
      rw [leV] at h0
      have hb0 : b = 0 := by omega
      have hl0 : leV l = 0 := by omega
      rw [hl0, digF_zero] at ih
      subst ih
      rcases hz with h | h
      · cases h
      · simp [hb0] at h
    rw [digF_pos f _ hne, leV]
    have e1 : (b.toNat + 256 * leV l) % 256 = b.toNat := by omega
    have e2 : (b.toNat + 256 * leV l) / 256 = leV l := by omega
    rw [e1, e2, ih, Int.toNat_of_nonneg h1.1]

theorem digF_last : ∀ (f x : Nat), x ≠ 0 → x < 256 ^ f → (digF f x).getLastD 0 ≠ 0
  | 0, x, h0, h => by have : x = 0 := by simpa using h
                      exact absurd this h0
  | f + 1, x, h0, h => by
    rw [digF_pos f x h0]
    by_cases h1 : x / 256 = 0
    · rw [h1, digF_zero]; simp; omega
    · have := digF_last f (x / 256) h1 (by rw [Nat.pow_succ] at h; omega)
      cases hd : digF f (x / 256) with
      | nil => rw [hd] at this; simp at this
      | cons c m => rw [hd] at this; simpa using this

theorem dig_last (x : Nat) (h0 : x ≠ 0) (h : x < 18446744073709551616) : (dig x).getLastD 0 ≠ 0 := digF_last 8 x h0 h

theorem dig_ne_nil (x : Nat) (h : x ≠ 0) : dig x ≠ [] := by unfold dig; rw [digF_pos 7 x h]; simp

/-- A signed number as a number. -/
def foldZ (y : Int) : Nat := if 0 ≤ y then (2 * y).toNat else (-2 * y - 1).toNat
def unfoldN (n : Nat) : Int := if n % 2 = 0 then (n / 2 : Nat) else -((n / 2 : Nat) : Int) - 1
theorem unfold_fold (y : Int) : unfoldN (foldZ y) = y := by unfold unfoldN foldZ; split <;> split <;> omega
theorem fold_unfold (n : Nat) : foldZ (unfoldN n) = n := by unfold unfoldN foldZ; split <;> split <;> omega
theorem foldZ_lt (y : Int) (h0 : -9223372036854775808 ≤ y) (h1 : y < 9223372036854775808) : foldZ y < 18446744073709551616 := by unfold foldZ; split <;> omega

/-- What reading a number does to what is left of the bytes: the number, how many bytes went, the error. -/
def numRd (r : List Int) : Nat × Nat × Int :=
  match r with
  | [] => (0, 0, 5)
  | f :: t =>
    if f ≤ 247 then (f.toNat, 1, 0)
    else if t.length < (f - 247).toNat then (0, 1, 5)
    else if (t.take (f - 247).toNat).getLastD 0 = 0 ∨ leV (t.take (f - 247).toNat) ≤ 247 then (0, 1 + (f - 247).toNat, 4)
    else (leV (t.take (f - 247).toNat), 1 + (f - 247).toNat, 0)

theorem numRd_numB (x : Nat) (h : x < 18446744073709551616) (r : List Int) : numRd (numB x ++ r) = (x, (numB x).length, 0) := by
  unfold numB
  split
  · rename_i hx
    simp [numRd, show (x : Int) ≤ 247 by omega]
  · rename_i hx
    have hl := dig_length x
    have hne := dig_ne_nil x (by omega)
    have hpos : 0 < (dig x).length := List.length_pos_iff.2 hne
    have e : (((247 + (dig x).length : Nat) : Int) - 247).toNat = (dig x).length := by omega
    have h1 : ¬ (((247 + (dig x).length : Nat) : Int) ≤ 247) := by omega
    simp only [numRd, List.cons_append, h1, if_false, e]
    rw [if_neg (by simp), List.take_left', leV_dig x h, if_neg (by
      intro hc
      rcases hc with hc | hc
      · exact dig_last x (by omega) h hc
      · omega)]
    · simp; omega
    · rfl

/-- What is read as a number is just its bytes. -/
theorem numB_numRd (r : List Int) (hb : AllB r) (h : (numRd r).2.2 = 0) : numB (numRd r).1 = r.take (numRd r).2.1 ∧ (numRd r).2.1 ≤ r.length := by
  cases r with
  | nil => simp [numRd] at h
  | cons f t =>
    have hf := hb f (by simp)
    have ht : AllB t := fun n hn => hb n (by simp [hn])
    unfold numRd at h ⊢
    simp only at h ⊢
    split
    · rename_i h1
      have : f.toNat ≤ 247 := by omega
      simp [numB, this, Int.toNat_of_nonneg hf.1]
    · rename_i h1
      rw [if_neg h1] at h
      split
      · rename_i h2; rw [if_pos h2] at h; simp at h
      · rename_i h2
        rw [if_neg h2] at h
        split
        · rename_i h3; rw [if_pos h3] at h; simp at h
        · rename_i h3
          have h3' : ¬ (t.take (f - 247).toNat).getLastD 0 = 0 ∧ ¬ leV (t.take (f - 247).toNat) ≤ 247 := by
            constructor
            · exact fun hc => h3 (.inl hc)
            · exact fun hc => h3 (.inr hc)
          have hlen : (t.take (f - 247).toNat).length = (f - 247).toNat := by rw [List.length_take]; omega
          have hd : dig (leV (t.take (f - 247).toNat)) = t.take (f - 247).toNat := dig_leV 8 _ (ht.take _) (by omega) (.inr h3'.1)
          unfold numB
          rw [if_neg h3'.2, hd, hlen]
          refine ⟨?_, by simp; omega⟩
          rw [Nat.add_comm 1, List.take_succ_cons]
          congr 1
          omega

theorem numRd_le (r : List Int) (hb : AllB r) : (numRd r).1 < 18446744073709551616 := by
  cases r with
  | nil => simp [numRd]
  | cons f t =>
    have hf := hb f (by simp)
    have ht : AllB t := fun n hn => hb n (by simp [hn])
    unfold numRd
    simp only
    split
    · simp only; omega
    · split
      · simp
      · split
        · simp
        · have h1 := leV_lt _ (ht.take (f - 247).toNat)
          have h2 : (t.take (f - 247).toNat).length ≤ 8 := by rw [List.length_take]; omega
          exact Nat.lt_of_lt_of_le h1 (Nat.le_trans (Nat.pow_le_pow_right (by decide) h2) (by decide))

/-- A number whose last byte is missing is not read. -/
theorem numRd_short (x : Nat) (h : x < 18446744073709551616) (k : Nat) (hk : k < (numB x).length) : (numRd ((numB x).take k)).2.2 = 5 := by
  cases k with
  | zero => rfl
  | succ k =>
    unfold numB at hk ⊢
    split
    · rename_i hx; rw [if_pos hx] at hk; simp at hk
    · rename_i hx
      rw [if_neg hx] at hk
      have hl := dig_length x
      have e : (((247 + (dig x).length : Nat) : Int) - 247).toNat = (dig x).length := by omega
      have hpos : 0 < (dig x).length := List.length_pos_iff.2 (dig_ne_nil x (by omega))
      have h1 : ¬ (((247 + (dig x).length : Nat) : Int) ≤ 247) := by omega
      simp only [List.length_cons] at hk
      simp only [List.take_succ_cons, numRd, h1, if_false, e]
      rw [if_pos (by rw [List.length_take]; omega)]

end Go.Proofs.YtgaihekapakoeaaGreatDoor
namespace Go.Proofs.YtgaihekapakoeaaGreatDoor
open Go.Shelf
def len64_ren : Go.Shelf.Ren := ⟨fun | 129 => 190 | n => n, fun | 53 => 98 | 3 => 3 | 4 => 4 | 46 => 139 | 5 => 5 | 9 => 9 | n => n, fun | n => n⟩
theorem len64_lays : Go.Proofs.Lays.n129 Tryz.prog len64_ren := {
  mixed := by kernel_rfl
  f129 := Tryz.func190.trans (congrArg some (by kernel_rfl))
  t3 := Tryz.underlying3
  a3 := Tryz.isAgg3
  z3 := Tryz.sizeOf3
  v3 := Tryz.zeroValue3
  t4 := Tryz.underlying4
  a4 := Tryz.isAgg4
  z4 := Tryz.sizeOf4
  v4 := Tryz.zeroValue4
  t5 := Tryz.underlying5
  a5 := Tryz.isAgg5
  z5 := Tryz.sizeOf5
  v5 := Tryz.zeroValue5
  t9 := Tryz.underlying9
  a9 := Tryz.isAgg9
  z9 := Tryz.sizeOf9
  v9 := Tryz.zeroValue9
  t46 := Tryz.underlying139
  a46 := Tryz.isAgg139
  z46 := Tryz.sizeOf139
  v46 := Tryz.zeroValue139
  t53 := Tryz.underlying98
  a53 := Tryz.isAgg98
  z53 := Tryz.sizeOf98
  v53 := Tryz.zeroValue98 }
theorem len64_any (x : Int) (w : World) (h0 : 0 ≤ x) (h1 : x ≤ 18446744073709551615) :
    Calls Tryz.prog 190 #[.int .u64 x] w fun e w' => e = .returned (.int .i64 (Go.Lib.bitLen x.toNat)) ∧ w = w' := (Any.bits_Len64 len64_lays x w h0 h1).mono fun _ _ ⟨h, k⟩ => ⟨h, k.symm⟩
end Go.Proofs.YtgaihekapakoeaaGreatDoor
namespace Go.Proofs.YtgaihekapakoeaaGreatDoor
open Go.RowKit
set_option maxRecDepth 100000

theorem wrap8 (y : Nat) : IntKind.u8.wrap (y : Int) = ((y % 256 : Nat) : Int) := by rw [IntKind.wrap_u8]; omega

theorem and1 (n : Int) (h0 : 0 ≤ n) (h1 : n < 18446744073709551616) : bits .and .u64 n 1 = n % 2 := by
  rw [u64_and n 1 h0 h1 (by omega) (by omega)]
  have : n.toNat &&& 1 = n.toNat % 2 := nat_mask1 _
  rw [show (1 : Int).toNat = 1 from rfl, this]; omega

theorem xor_all (n : Int) : (BitVec.ofInt 64 (-1) ^^^ BitVec.ofInt 64 n).toNat = 18446744073709551615 - (n % 18446744073709551616).toNat := by
  have h1 : BitVec.ofInt 64 (-1) = BitVec.allOnes 64 := by decide
  rw [h1, BitVec.allOnes_xor, BitVec.toNat_not, BitVec.toNat_ofInt]
  rfl

theorem i64_not (n : Int) (h0 : -9223372036854775808 ≤ n) (h1 : n < 9223372036854775808) : bits .xor .i64 (-1) n = -n - 1 := by
  show IntKind.i64.wrap ((BitVec.ofInt 64 (-1) ^^^ BitVec.ofInt 64 n).toNat : Int) = _
  rw [xor_all, IntKind.wrap_i64]; omega

theorem u64_not (n : Int) (h0 : 0 ≤ n) (h1 : n < 18446744073709551616) : bits .xor .u64 IntKind.u64.max n = 18446744073709551615 - n := by
  show IntKind.u64.wrap ((BitVec.ofInt 64 IntKind.u64.max ^^^ BitVec.ofInt 64 n).toNat : Int) = _
  have h2 : BitVec.ofInt 64 IntKind.u64.max = BitVec.ofInt 64 (-1) := by decide
  rw [h2, xor_all, IntKind.wrap_u64]; omega

/-- A slice of the call's own, and no error; nothing below B has turned. -/
def FreshOk (B : Nat) (w : World) (l : List Int) (e : Ending) (w' : World) : Prop :=
  ∃ A c, e = .returned (.tuple #[.slice A l.length c, .int .i64 0]) ∧ OB w' B A c l ∧ Below B w w'

/-- The answer is a slice of the call's own from block B on. -/
def FreshFrom (B : Nat) (w : World) (l : List Int) (e : Ending) (w' : World) : Prop :=
  ∃ A c, e = .returned (.slice A l.length c) ∧ OB w' B A c l ∧ Below B w w'

end Go.Proofs.YtgaihekapakoeaaGreatDoor
namespace Go.Proofs.YtgaihekapakoeaaGreatDoor
open Go.RowKit
set_option maxRecDepth 100000

section
variable {w w' : World} {g : Nat} {A : Option Addr} {c : Nat} {l : List Int} {p : Nat} {e : Int}

end

theorem grown_setCell (w : World) (g i : Nat) (u : Value) : w.grownBy (w.setCell ⟨g, i, none⟩ u) (some g) :=
  ⟨rfl, rfl, rfl, by simp [World.setCell], fun k _ hk => heap_setCell_other w ⟨g, i, none⟩ k u (fun e => hk (by rw [e]))⟩
theorem grown_drewN (w : World) (n : Nat) (row : Option Nat) : w.grownBy (w.drewN n) row :=
  ⟨rfl, rfl, rfl, Nat.le_refl _, fun _ _ _ => rfl⟩
theorem grown_trans {a b c : World} {row : Option Nat} (h : a.grownBy b row) (k : b.grownBy c row) : a.grownBy c row :=
  ⟨k.os.trans h.os, k.tape.trans h.tape, k.output.trans h.output, Nat.le_trans h.size k.size, fun i hi hne => (k.block i (Nat.lt_of_lt_of_le hi h.size) hne).trans (h.block i hi hne)⟩

/-- The answer is v; the world has been drawn upon. -/
def Drawn (w : World) (v : Value) (e : Ending) (w' : World) : Prop := e = .returned v ∧ ∃ n, w' = w.drewN n

theorem or_place (V k : Nat) (x : Int) (hk : k < 8) (hV : V < 256 ^ k) (h0 : 0 ≤ x) (h1 : x < 256) :
    bits .or .u64 (V : Int) (IntKind.u64.wrap (x * 2 ^ (8 * k))) = ((V + x.toNat * 256 ^ k : Nat) : Int) := by
  obtain ⟨d, rfl⟩ := Int.eq_ofNat_of_zero_le h0
  have e2 : (2 : Nat) ^ (8 * k) = 256 ^ k := by rw [Nat.pow_mul]
  have hd : d * 256 ^ k < 18446744073709551616 := by
    have h3 : d * 256 ^ k < 256 * 256 ^ k := Nat.mul_lt_mul_of_pos_right (by omega) (Nat.pow_pos (by decide))
    have h4 : 256 * 256 ^ k ≤ 256 ^ 8 := by rw [Nat.mul_comm, ← Nat.pow_succ]; exact Nat.pow_le_pow_right (by decide) (by omega)
    have h5 : (256 : Nat) ^ 8 = 18446744073709551616 := by decide
    omega
  have hVb : V < 18446744073709551616 := by
    have h4 : (256 : Nat) ^ k ≤ 256 ^ 8 := Nat.pow_le_pow_right (by decide) (by omega)
    have h5 : (256 : Nat) ^ 8 = 18446744073709551616 := by decide
    omega
  have ew : IntKind.u64.wrap ((d : Int) * 2 ^ (8 * k)) = ((d * 256 ^ k : Nat) : Int) := by
    rw [IntKind.wrap_u64]
    have : (d : Int) * 2 ^ (8 * k) = ((d * 256 ^ k : Nat) : Int) := by rw [← e2]; push_cast; rfl
    rw [this]; omega
  rw [ew, u64_or_nat _ _ hVb hd, Int.toNat_natCast, Nat.or_comm]
  congr 1
  rw [nat_join (8 * k) (d * 256 ^ k) V (by rw [e2]; exact Nat.mul_mod_left _ _) (by rw [e2]; exact hV)]
  omega

theorem getLastD_getD : ∀ (m : List Int), m.getLastD 0 = m.getD (m.length - 1) 0
  | [] => rfl
  | [_] => rfl
  | a :: b :: m => by
    have := getLastD_getD (b :: m)
    simp only [List.getLastD_cons, List.length_cons] at this ⊢
    rw [this]
    simp

end Go.Proofs.YtgaihekapakoeaaGreatDoor
namespace Go.Proofs.YtgaihekapakoeaaGreatDoor
open Go.RowKit
set_option maxRecDepth 100000

/-- What Number does in a state: the number, the place, the error. -/
def numSt (l : List Int) (p : Nat) (e : Int) : Nat × Nat × Int :=
  if e = 0 then ((numRd (l.drop p)).1, p + (numRd (l.drop p)).2.1, (numRd (l.drop p)).2.2) else (0, p, e)

theorem numSt_lt (l : List Int) (p : Nat) (e : Int) (h : AllB l) : (numSt l p e).1 < 18446744073709551616 := by
  unfold numSt; split
  · exact numRd_le _ (h.drop p)
  · simp

/-- What Count does in a state. -/
def countSt (l : List Int) (p : Nat) (e : Int) (most : Int) : Nat × Nat × Int :=
  if ((numSt l p e).1 : Int) > max most 0 then (0, (numSt l p e).2.1, 3) else numSt l p e

/-- What Block does in a state: the bytes, the place, the error. -/
def blockSt (l : List Int) (p : Nat) (e : Int) : List Int × Nat × Int :=
  if 1048576 < (numSt l p e).1 then ([], (numSt l p e).2.1, 3)
  else if (numSt l p e).2.2 ≠ 0 then ([], (numSt l p e).2.1, (numSt l p e).2.2)
  else if l.length - (numSt l p e).2.1 < (numSt l p e).1 then ([], (numSt l p e).2.1, 5)
  else ((l.drop (numSt l p e).2.1).take (numSt l p e).1, (numSt l p e).2.1 + (numSt l p e).1, 0)

theorem grown_below {w w' : World} (h : Below w.heap.size w w') (row : Option Nat) : w.grownBy w' row := ⟨h.os, h.tape, h.output, h.size, fun k hk _ => h.block k hk⟩
/-- What End does in a state. -/
def endSt (l : List Int) (p : Nat) (e : Int) : Int := if e = 0 ∧ p < l.length then 4 else e

theorem OB.from_ {w : World} {B : Nat} {A : Option Addr} {c : Nat} {l : List Int} (h : OB w B A c l) : ∀ a, A = some a → B ≤ a.block := by
  intro a ha
  rcases h.own.2 with ⟨h1, _⟩ | ⟨g, cap, cur, h1, hb, _⟩
  · injection h1 with h3; rw [h3] at ha; cases ha
  · injection h1 with h3; rw [h3] at ha; obtain rfl := Option.some.inj ha; exact hb

section
variable {w w' : World} {lo g g' : Nat} {A : Option Addr} {c : Nat} {l : List Int} {p : Nat} {e : Int}
end

end Go.Proofs.YtgaihekapakoeaaGreatDoor
namespace Go.Proofs.YtgaihekapakoeaaGreatDoor
open Go.RowKit

/-- The row of a literal, marked or not. -/
theorem RB.row (w : World) (l : List Int) (fr : Nat × Nat) (hb : AllB l) (hm : l.length ≤ maxLen) : RB (w.alloc (.cells (l.map (Value.int .u8)).toArray 5 fr)) (w.heap.size + 1) (some ⟨w.heap.size, 0, none⟩) l.length l := by
  refine RB.mk_ (Nat.le_refl _) hm hb (Nat.lt_succ_self _) fun i hi => ?_
  rw [cell_of_row _ _ _ _ _ _ (heap_alloc_new w _)]
  simp [hi]

theorem str_rb (w : World) (B : Nat) (A : Option Addr) (c n : Nat) (l : List Int) (h : RB w B A c l) (hn : n = l.length) :
    (convert 27 9 (.slice A n c)).run Tryz.prog w = .ok (.string (strOfNums l)) w := by subst hn; exact run_string_rb w B A c l h

theorem AllB.of {l : List Int} (h : l.all (fun n => decide (0 ≤ n) && decide (n < 256)) = true) : AllB l := fun n hn => by
  have := List.all_eq_true.1 h n hn
  simpa using this

theorem sum_nine : (sumL [49, 50, 51, 52, 53, 54, 55, 56, 57]).toNat = 10673 := by decide +kernel
theorem read1 : numSt [250, 0, 0, 1, 5] 0 0 = (65536, 4, 0) := by decide +kernel
theorem read2 : numSt [250, 0, 0, 1, 5] 4 0 = (5, 5, 0) := by decide +kernel
theorem read3 : endSt [250, 0, 0, 1, 5] 5 0 = 0 := by decide +kernel

end Go.Proofs.YtgaihekapakoeaaGreatDoor
namespace Go.Proofs.YtgaihekapakoeaaGreatDoor
open Go.RowKit

theorem RB.pre {w : World} {B c : Nat} {A : Option Addr} {l : List Int} (h : RB w B A c l) (k : Nat) (hk : k ≤ l.length) : RB w B A c (l.take k) := by
  have hlen : (l.take k).length = k := by rw [List.length_take]; omega
  refine ⟨by have := h.le; omega, h.cap, h.bytes.take k, ?_⟩
  rcases h.at_ with h1 | ⟨a, rfl, hc⟩
  · exact .inl h1
  · refine .inr ⟨a, rfl, fun h0 => ?_⟩
    obtain ⟨hs, hb, hc⟩ := hc (by omega)
    refine ⟨hs, hb, fun i hi => ?_⟩
    rw [hc i (by omega)]
    simp only [List.getD]
    rw [List.getElem?_take, if_pos (by omega)]

theorem unfoldN_bd (v : Nat) (h : v < 18446744073709551616) : -9223372036854775808 ≤ unfoldN v ∧ unfoldN v < 9223372036854775808 := by unfold unfoldN; split <;> omega

theorem numRd_err (r : List Int) : (numRd r).2.2 = 0 ∨ (numRd r).2.2 = 4 ∨ (numRd r).2.2 = 5 := by
  cases r with
  | nil => exact .inr (.inr rfl)
  | cons f t =>
    unfold numRd
    simp only
    split
    · exact .inl rfl
    · split
      · exact .inr (.inr rfl)
      · split
        · exact .inr (.inl rfl)
        · exact .inl rfl

theorem block_back (l : List Int) (hb : AllB l) : ∃ (m : List Int) (q : Nat) (x : Int), blockSt l 0 0 = (m, q, x) ∧ AllB m ∧ m.length ≤ 1048576 ∧ (x = 0 ∨ x = 3 ∨ x = 4 ∨ x = 5) ∧ (x = 0 → numB m.length ++ m = l.take q ∧ q ≤ l.length) := by
  have h1 := numB_numRd l hb
  have h2 := numRd_err l
  unfold blockSt numSt
  simp only [if_true, List.drop_zero]
  generalize numRd l = r at *
  obtain ⟨v, k, x⟩ := r
  simp only at *
  by_cases hv : 1048576 < v
  · rw [if_pos hv]
    exact ⟨_, _, _, rfl, AllB.nil, by simp, by simp, by simp⟩
  · rw [if_neg hv]
    by_cases hx : x = 0
    · subst hx
      obtain ⟨h3, h4⟩ := h1 rfl
      simp only [ne_eq, not_true, if_false, Nat.zero_add]
      by_cases hl : l.length - k < v
      · rw [if_pos hl]; exact ⟨_, _, _, rfl, AllB.nil, by simp, by simp, by simp⟩
      · rw [if_neg hl]
        have hml : ((l.drop k).take v).length = v := by rw [List.length_take, List.length_drop]; omega
        refine ⟨_, _, _, rfl, (hb.drop k).take v, by omega, .inl rfl, fun _ => ⟨?_, by omega⟩⟩
        rw [hml, h3, ← List.take_add]
    · simp only [ne_eq, hx, not_false_eq_true, if_true]
      refine ⟨_, _, _, rfl, AllB.nil, by simp, ?_, fun h => absurd h hx⟩
      rcases h2 with h2 | h2 | h2
      · exact absurd h2 hx
      · exact .inr (.inr (.inl h2))
      · exact .inr (.inr (.inr h2))

end Go.Proofs.YtgaihekapakoeaaGreatDoor
