
/- The sum of bytes: the plain mathematics, and the walks of sumWord, Sum and the reference's Sum. -/
import Derived.Test.YtedlfcmlchjjlaaC
namespace Go.Proofs.Ytedlfcmlchjjlaa
open Go.RowKit

/-- One doubling. -/
def stp (v : BitVec 16) : BitVec 16 := if v.msb then (v <<< 1) ^^^ 0x1021#16 else v <<< 1
def st8 (v : BitVec 16) : BitVec 16 := stp (stp (stp (stp (stp (stp (stp (stp v)))))))
/-- A byte more. -/
def byt (s : BitVec 16) (c : Int) : BitVec 16 := st8 (s ^^^ BitVec.ofNat 16 (c.toNat * 256))
def sumFrom (s : BitVec 16) (l : List Int) : BitVec 16 := l.foldl byt s
def sumL (l : List Int) : BitVec 16 := sumFrom 0xffff#16 l

theorem sumFrom_append (s : BitVec 16) (l m : List Int) : sumFrom s (l ++ m) = sumFrom (sumFrom s l) m := by simp [sumFrom]
theorem sumFrom_snoc (s : BitVec 16) (l : List Int) (c : Int) : sumFrom s (l ++ [c]) = byt (sumFrom s l) c := by simp [sumFrom]
theorem take_snoc (l : List Int) (k : Nat) (h : k < l.length) : l.take (k + 1) = l.take k ++ [l.getD k 0] := by
  rw [List.take_succ_eq_append_getElem h, getD_lt h]

theorem stp_xor (a b : BitVec 16) : stp (a ^^^ b) = stp a ^^^ stp b := by
  unfold stp
  rw [BitVec.msb_xor, BitVec.shiftLeft_xor_distrib]
  cases a.msb <;> cases b.msb <;> simp [BitVec.xor_assoc]
  · rw [BitVec.xor_comm (b <<< 1), BitVec.xor_comm (4129#16)]
  · rw [BitVec.xor_comm (b <<< 1), ← BitVec.xor_assoc, BitVec.xor_self, BitVec.zero_xor]

theorem st8_xor (a b : BitVec 16) : st8 (a ^^^ b) = st8 a ^^^ st8 b := by unfold st8; simp only [stp_xor]

/-- What eight doublings make of a high byte. -/
def wordB (h : Nat) : BitVec 16 := st8 (BitVec.ofNat 16 (h * 256))

theorem st8_low : ∀ n : Fin 256, st8 (BitVec.ofNat 16 n.val) = BitVec.ofNat 16 (n.val * 256) := by decide +kernel

theorem nat_split (s c : Nat) : s ^^^ (c * 256) = (((s / 256) ^^^ c) * 256) ^^^ (s % 256) := by
  have e : ∀ x : Nat, x * 256 = x <<< 8 := fun x => by rw [Nat.shiftLeft_eq]
  rw [e, e]
  apply Nat.eq_of_testBit_eq
  intro i
  have h256 : s % 256 = s % 2 ^ 8 := rfl
  have hd : s / 256 = s / 2 ^ 8 := rfl
  rw [h256, hd]
  simp only [Nat.testBit_xor, Nat.testBit_shiftLeft, Nat.testBit_mod_two_pow, Nat.testBit_div_two_pow]
  by_cases h : i < 8
  · simp [h, show ¬ 8 ≤ i by omega]
  · simp [h, show 8 ≤ i by omega]

theorem byt_word (s : BitVec 16) (c : Nat) : byt s c = BitVec.ofNat 16 (s.toNat % 256 * 256) ^^^ wordB ((s.toNat / 256) ^^^ c) := by
  have hs := s.isLt
  have hx : s ^^^ BitVec.ofNat 16 (c * 256) = BitVec.ofNat 16 (((s.toNat / 256) ^^^ c) * 256) ^^^ BitVec.ofNat 16 (s.toNat % 256) := by
    have h1 : s = BitVec.ofNat 16 s.toNat := by simp
    conv => lhs; rw [h1]
    rw [← BitVec.ofNat_xor, ← BitVec.ofNat_xor, nat_split]
  unfold byt
  rw [Int.toNat_natCast, hx, st8_xor, BitVec.xor_comm]
  congr 1
  exact st8_low ⟨s.toNat % 256, Nat.mod_lt _ (by omega)⟩

def wordI (n : Int) : Int := bits .xor .u16 (bits .xor .u16 (IntKind.u16.wrap (IntKind.u16.wrap (bits .xor .u8 n (n / 16)) * 4096)) (IntKind.u16.wrap (IntKind.u16.wrap (bits .xor .u8 n (n / 16)) * 32))) (IntKind.u16.wrap (bits .xor .u8 n (n / 16)))

theorem wordI_eq : ∀ n : Fin 256, wordI (n.val : Int) = ((wordB n.val).toNat : Int) := by decide +kernel

set_option maxHeartbeats 400000 in
theorem sumWord_any (n : Nat) (w : World) (h : n < 256) :
    Calls Try.prog 75 #[.int .u8 n] w fun e w' => e = .returned (.int .u16 (wordB n).toNat) ∧ w = w' := by
  have he := wordI_eq ⟨n, h⟩
  have HE := Lib.hid he
  clear he
  go_enter Try.func75, Try.ntmps75
  go_wp2
  go_ret
  refine ⟨?_, rfl⟩
  rw [← HE.out]
  rfl

/-- The argument and the answer of a round, as the walk spells them. -/
theorem round_arg (s : BitVec 16) (c : Int) (h0 : 0 ≤ c) (h1 : c < 256) : bits .xor .u8 ((s.toNat : Int) / 256) c = (((s.toNat / 256) ^^^ c.toNat : Nat) : Int) := by
  have hs := s.isLt
  rw [u8_xor _ _ (by omega) (by omega) h0 h1]
  congr 2

theorem round_lt (s : BitVec 16) (c : Int) (h0 : 0 ≤ c) (h1 : c < 256) : (s.toNat / 256) ^^^ c.toNat < 256 := by
  have hs := s.isLt
  exact Nat.xor_lt_two_pow (n := 8) (by omega) (by omega)

theorem round_val (s : BitVec 16) (c : Int) (h0 : 0 ≤ c) : bits .xor .u16 (IntKind.u16.wrap ((s.toNat : Int) * 256)) ((wordB ((s.toNat / 256) ^^^ c.toNat)).toNat : Int) = ((byt s c).toNat : Int) := by
  have hs := s.isLt
  obtain ⟨d, rfl⟩ := Int.eq_ofNat_of_zero_le h0
  rw [Int.toNat_natCast, byt_word s d, BitVec.toNat_xor, IntKind.wrap_u16]
  have e : ((s.toNat : Int) * 256) % 65536 = ((s.toNat % 256 * 256 : Nat) : Int) := by omega
  rw [e, u16_xor_nat _ _ (by omega) (BitVec.isLt _)]
  congr 2
  rw [BitVec.toNat_ofNat]; exact (Nat.mod_eq_of_lt (by omega)).symm

set_option maxHeartbeats 2000000 in
set_option maxRecDepth 100000 in
theorem sum_any (g cp : Nat) (ps : List Piece) (w : World) (hps : ps.length ≤ 1000)
    (hcell : ∀ i (h : i < ps.length), w.cell? ⟨g, i, none⟩ = some (.slice ps[i].A ps[i].l.length ps[i].c))
    (hr : ∀ i (h : i < ps.length), RB w w.heap.size ps[i].A ps[i].c ps[i].l) (hlen : (flat ps).length ≤ 140737488355328) :
    Calls Try.prog 47 #[.slice (some ⟨g, 0, none⟩) ps.length cp] w fun e w' => e = .returned (.int .u16 (sumL (flat ps)).toNat) ∧ w = w' := by
  go_enter Try.func47, Try.ntmps47
  go_wp2_with fail
  go_loop [3, 10] (fun s i => ∃ k : Nat, k ≤ ps.length ∧ i = .int .i64 k ∧ s = .int .u16 (sumL (flat (ps.take k))).toNat) (fun _ i => ps.length - (intOf i).toNat)
  case atStart => exact ⟨0, Nat.zero_le _, rfl, rfl⟩
  case round =>
    obtain ⟨k, hk, rfl, rfl⟩ := hrel
    by_cases hlt : k < ps.length
    · have hc := hcell k hlt
      have hb := hr k hlt
      have hft := flat_take ps k hlt
      have hl1 := flat_le ps (k + 1)
      rw [hft, List.length_append] at hl1
      have HF := Lib.hid hft
      clear hft
      have hslt := (sumL (flat (ps.take k))).isLt
      generalize hS : sumL (flat (ps.take k)) = S at *
      have hfin : sumL (flat (ps.take (k + 1))) = sumFrom S ps[k].l := by rw [HF.out, ← hS]; unfold sumL; rw [sumFrom_append]
      have HS := Lib.hid hfin
      clear hS hfin HF
      clear hcell hr
      generalize ps[k] = P at *
      obtain ⟨A, c, l⟩ := P
      simp only at *
      have hle := hb.le
      have hby := hb.bytes
      rcases Nat.eq_zero_or_pos l.length with hl0 | hl0
      · replace hl0 : l = [] := List.eq_nil_of_length_eq_zero hl0
        subst hl0
        go_wp2_with fail
        go_loop [3, 16] (fun s i => i = .int .i64 0 ∧ s = .int .u16 S.toNat) (fun _ _ => 0)
        case atStart => exact ⟨rfl, rfl⟩
        case round =>
          obtain ⟨rfl, rfl⟩ := hrel
          go_wp2_with fail
          go_round
          case rel => exact ⟨k + 1, by omega, by go_num, by rw [HS.out]; rfl⟩
          case measure => simp [intOf]; omega
      · obtain ⟨b, off, rfl, hbb, hcc⟩ := hb.pos hl0
        go_wp2_with fail
        go_loop [3, 16] (fun s i => ∃ j : Nat, j ≤ l.length ∧ i = .int .i64 j ∧ s = .int .u16 (sumFrom S (l.take j)).toNat) (fun _ i => l.length - (intOf i).toNat)
        case atStart => exact ⟨0, Nat.zero_le _, rfl, rfl⟩
        case round =>
          obtain ⟨j, hj, rfl, rfl⟩ := hrel
          by_cases hjl : j < l.length
          · have hcj := hcc j hjl
            have hgb := hby.getD j
            have hsn := take_snoc l j hjl
            generalize l.getD j 0 = x at *
            generalize hT : sumFrom S (l.take j) = T at *
            have harg := round_arg T x hgb.1 hgb.2
            have hwlt := round_lt T x hgb.1 hgb.2
            have hval := round_val T x hgb.1
            have hnew : sumFrom S (l.take (j + 1)) = byt T x := by rw [hsn, sumFrom_snoc, hT]
            have hTlt := T.isLt
            obtain ⟨hx0, hx1⟩ := hgb
            have HA := Lib.hid harg
            have HV := Lib.hid hval
            have HN := Lib.hid hnew
            clear harg hval hnew hsn hT hcc
            go_wp2_with (go_at_call 75; rw [HA.out]; refine (sumWord_any _ _ hwlt).mono ?_; rintro e w' ⟨rfl, rfl⟩)
            go_round
            case rel => exact ⟨j + 1, by omega, by go_num, by rw [HV.out, HN.out]⟩
            case measure => simp [intOf]; omega
          · obtain rfl : j = l.length := by omega
            rw [List.take_length]
            go_wp2_with fail
            go_round
            case rel => exact ⟨k + 1, by omega, by go_num, by rw [HS.out]⟩
            case measure => simp [intOf]; omega
    · obtain rfl : k = ps.length := by omega
      rw [flat_all ps ps.length (Nat.le_refl _)]
      go_wp2_with fail
      go_ret
      exact ⟨rfl, rfl⟩

def stpN : Nat → BitVec 16 → BitVec 16
  | 0, v => v
  | n + 1, v => stp (stpN n v)
theorem stpN_8 (v : BitVec 16) : stpN 8 v = st8 v := rfl

theorem stp_hi (v : BitVec 16) (h : 32768 ≤ v.toNat) : bits .xor .u16 (IntKind.u16.wrap ((v.toNat : Int) * 2)) 4129 = ((stp v).toNat : Int) := by
  have hv := v.isLt
  have hm : v.msb = true := by rw [BitVec.msb_eq_decide]; simp; omega
  unfold stp
  rw [hm, if_pos rfl, BitVec.toNat_xor, IntKind.wrap_u16]
  have e : ((v.toNat : Int) * 2) % 65536 = ((v.toNat * 2 % 65536 : Nat) : Int) := by omega
  rw [e]
  have := u16_xor_nat (v.toNat * 2 % 65536) 4129 (by omega) (by omega)
  rw [show ((4129 : Nat) : Int) = 4129 from rfl] at this
  rw [this]
  congr 2
  rw [BitVec.toNat_shiftLeft, Nat.shiftLeft_eq]

theorem stp_lo (v : BitVec 16) (h : v.toNat < 32768) : IntKind.u16.wrap ((v.toNat : Int) * 2) = ((stp v).toNat : Int) := by
  have hm : v.msb = false := by rw [BitVec.msb_eq_decide]; simp; omega
  unfold stp
  rw [hm, if_neg (by decide), BitVec.toNat_shiftLeft, Nat.shiftLeft_eq, IntKind.wrap_u16]
  omega

theorem ref_first (t : BitVec 16) (x : Int) (h0 : 0 ≤ x) (h1 : x < 256) : bits .xor .u16 (t.toNat : Int) (x * 256) = ((t ^^^ BitVec.ofNat 16 (x.toNat * 256)).toNat : Int) := by
  have ht := t.isLt
  obtain ⟨d, rfl⟩ := Int.eq_ofNat_of_zero_le h0
  have e : ((d : Int) * 256) = ((d * 256 : Nat) : Int) := by omega
  rw [e, u16_xor_nat _ _ ht (by omega), BitVec.toNat_xor, Int.toNat_natCast, BitVec.toNat_ofNat]
  congr 2
  exact (Nat.mod_eq_of_lt (by omega)).symm

set_option maxHeartbeats 2000000 in
set_option maxRecDepth 100000 in
theorem refSum_any (g cp : Nat) (ps : List Piece) (w : World) (hps : ps.length ≤ 1000)
    (hcell : ∀ i (h : i < ps.length), w.cell? ⟨g, i, none⟩ = some (.slice ps[i].A ps[i].l.length ps[i].c))
    (hr : ∀ i (h : i < ps.length), RB w w.heap.size ps[i].A ps[i].c ps[i].l) (hlen : (flat ps).length ≤ 140737488355328) :
    Calls Try.prog 50 #[.slice (some ⟨g, 0, none⟩) ps.length cp] w fun e w' => e = .returned (.int .u16 (sumL (flat ps)).toNat) ∧ w = w' := by
  go_enter Try.func50, Try.ntmps50
  go_wp2_with fail
  go_loop [3, 4] (fun s i => ∃ k : Nat, k ≤ ps.length ∧ i = .int .i64 k ∧ s = .int .u16 (sumL (flat (ps.take k))).toNat) (fun _ i => ps.length - (intOf i).toNat)
  case atStart => exact ⟨0, Nat.zero_le _, rfl, rfl⟩
  case round =>
    obtain ⟨k, hk, rfl, rfl⟩ := hrel
    by_cases hlt : k < ps.length
    · have hc := hcell k hlt
      have hb := hr k hlt
      have hft := flat_take ps k hlt
      have hl1 := flat_le ps (k + 1)
      rw [hft, List.length_append] at hl1
      have HF := Lib.hid hft
      clear hft
      generalize hS : sumL (flat (ps.take k)) = S at *
      have hfin : sumL (flat (ps.take (k + 1))) = sumFrom S ps[k].l := by rw [HF.out, ← hS]; unfold sumL; rw [sumFrom_append]
      have HS := Lib.hid hfin
      clear hS hfin HF
      clear hcell hr
      generalize ps[k] = P at *
      obtain ⟨A, c, l⟩ := P
      simp only at *
      have hle := hb.le
      have hby := hb.bytes
      go_wp2_with fail
      go_loop [3, 5] (fun s i => ∃ j : Nat, j ≤ l.length ∧ i = .int .i64 j ∧ s = .int .u16 (sumFrom S (l.take j)).toNat) (fun _ i => l.length - (intOf i).toNat)
      case atStart => exact ⟨0, Nat.zero_le _, rfl, rfl⟩
      case round =>
        obtain ⟨j, hj, rfl, rfl⟩ := hrel
        by_cases hjl : j < l.length
        · obtain ⟨b, off, rfl, hbb, hcc⟩ := hb.pos (by omega)
          · have hcj := hcc j hjl
            have hgb := hby.getD j
            have hsn := take_snoc l j hjl
            generalize l.getD j 0 = x at *
            generalize hT : sumFrom S (l.take j) = T at *
            have hnew : sumFrom S (l.take (j + 1)) = byt T x := by rw [hsn, sumFrom_snoc, hT]
            have hTlt := T.isLt
            obtain ⟨hx0, hx1⟩ := hgb
            have hv0 := ref_first T x hx0 hx1
            have hfin8 : byt T x = stpN 8 (T ^^^ BitVec.ofNat 16 (x.toNat * 256)) := rfl
            rw [hfin8] at hnew
            generalize T ^^^ BitVec.ofNat 16 (x.toNat * 256) = V at *
            have HN := Lib.hid hnew
            have HV := Lib.hid hv0
            clear hnew hsn hT hcc hv0 hfin8
            go_wp2_with fail
            go_loop [3, 6] (fun s i => ∃ m : Nat, m ≤ 8 ∧ i = .int .i64 m ∧ s = .int .u16 (stpN m V).toNat) (fun _ i => 8 - (intOf i).toNat)
            case atStart => exact ⟨0, Nat.zero_le _, rfl, by rw [HV.out]; rfl⟩
            case round =>
              obtain ⟨m, hm, rfl, rfl⟩ := hrel
              by_cases hm8 : m < 8
              · have hVlt := (stpN m V).isLt
                have hsucc : stpN (m + 1) V = stp (stpN m V) := rfl
                generalize stpN m V = v at *
                have HU := Lib.hid hsucc
                clear hsucc
                by_cases hhi : 32768 ≤ v.toNat
                · have hst := stp_hi v hhi
                  have HT := Lib.hid hst
                  have hgo : decide ((32768 : Int) ≤ (v.toNat : Int)) = true := by simp; omega
                  clear hst hhi
                  go_wp2_with fail
                  go_round
                  case rel => exact ⟨m + 1, by omega, by go_num, by rw [HT.out, HU.out]⟩
                  case measure => simp [intOf]; omega
                · have hst := stp_lo v (by omega)
                  have HT := Lib.hid hst
                  have hgo : decide ((32768 : Int) ≤ (v.toNat : Int)) = false := by simp; omega
                  clear hst hhi
                  go_wp2_with fail
                  go_round
                  case rel => exact ⟨m + 1, by omega, by go_num, by rw [HT.out, HU.out]⟩
                  case measure => simp [intOf]; omega
              · obtain rfl : m = 8 := by omega
                go_wp2_with fail
                go_round
                case rel => exact ⟨j + 1, by omega, by go_num, by rw [HN.out]⟩
                case measure => simp [intOf]; omega
        · obtain rfl : j = l.length := by omega
          rw [List.take_length]
          go_wp2_with fail
          go_round
          case rel => exact ⟨k + 1, by omega, by go_num, by rw [HS.out]⟩
          case measure => simp [intOf]; omega
    · obtain rfl : k = ps.length := by omega
      rw [flat_all ps ps.length (Nat.le_refl _)]
      go_wp2_with fail
      go_ret
      exact ⟨rfl, rfl⟩
end Go.Proofs.Ytedlfcmlchjjlaa
