
/- Registers: Read of Bytes are they; what is changed is refused: pure. -/
import Derived.Test.YtedlfcmlchjjlaaYS
import Derived.Test.YtedlfcmlchjjlaaE
namespace Go.Proofs.Ytedlfcmlchjjlaa
open Go.RowKit
set_option linter.unusedSimpArgs false
set_option linter.unusedVariables false
set_option maxRecDepth 100000

theorem sw_bits : ∀ a b c d : Bool, bitOf (sw4 a b c d 4) 0 = a ∧ bitOf (sw4 a b c d 4) 1 = b ∧ bitOf (sw4 a b c d 4) 2 = c ∧ bitOf (sw4 a b c d 4) 3 = d := by decide +kernel
theorem tR_bytes (r : Rg) : tR (bytesR r) = r := by
  obtain ⟨A, F, B, C, D, E, H, L, I, R, IX, IY, SP, PC, WZ, AF2, BC2, DE2, HL2, i1, i2, IM, ha, la⟩ := r
  obtain ⟨b0, b1, b2, b3⟩ := sw_bits i1 i2 ha la
  show Rg.mk A F B C D E H L I R (IX / 256 * 256 + IX % 256) (IY / 256 * 256 + IY % 256) (SP / 256 * 256 + SP % 256) (PC / 256 * 256 + PC % 256) (WZ / 256 * 256 + WZ % 256) (AF2 / 256 * 256 + AF2 % 256) (BC2 / 256 * 256 + BC2 % 256) (DE2 / 256 * 256 + DE2 % 256) (HL2 / 256 * 256 + HL2 % 256)
    (bitOf (sw4 i1 i2 ha la 4) 0) (bitOf (sw4 i1 i2 ha la 4) 1) IM (bitOf (sw4 i1 i2 ha la 4) 2) (bitOf (sw4 i1 i2 ha la 4) 3) = _
  rw [b0, b1, b2, b3]
  simp only [word_whole]
theorem readOk_bytes {r : Rg} (hm : r.May) : readOk (bytesR r) := by
  unfold readOk
  rw [tR_bytes]
  exact ⟨hm, rfl⟩
theorem readOk_back {l : List Int} (h : readOk l) : bytesR (tR l) = l := h.2
theorem wordB_0 : wordB 0 = 0#16 := by decide +kernel
theorem byt_own (s : BitVec 16) : byt s ((s.toNat / 256 : Nat) : Int) = BitVec.ofNat 16 (s.toNat % 256 * 256) := by
  rw [byt_word, Nat.xor_self, wordB_0, BitVec.xor_zero]
theorem byt_last : ∀ n : Fin 256, byt (BitVec.ofNat 16 (n.val * 256)) ((n.val : Nat) : Int) = 0#16 := by decide +kernel
theorem residue (q : List Int) : sumL (q ++ [((sumL q).toNat : Int) / 256, ((sumL q).toNat : Int) % 256]) = 0#16 := by
  have e1 : ((sumL q).toNat : Int) / 256 = (((sumL q).toNat / 256 : Nat) : Int) := by omega
  have e2 : ((sumL q).toNat : Int) % 256 = (((sumL q).toNat % 256 : Nat) : Int) := by omega
  rw [e1, e2]
  unfold sumL
  rw [show q ++ [(((sumFrom 0xffff#16 q).toNat / 256 : Nat) : Int), (((sumFrom 0xffff#16 q).toNat % 256 : Nat) : Int)] = (q ++ [(((sumFrom 0xffff#16 q).toNat / 256 : Nat) : Int)]) ++ [(((sumFrom 0xffff#16 q).toNat % 256 : Nat) : Int)] by simp, sumFrom_snoc, sumFrom_snoc, byt_own]
  exact byt_last ⟨(sumFrom 0xffff#16 q).toNat % 256, Nat.mod_lt _ (by decide)⟩
theorem sum_bytes (r : Rg) : sumL (bytesR r) = 0#16 := residue (rgB r)
theorem bytesR_all {r : Rg} (h : r.Ok) (hm : r.May) : AllB (bytesR r) := by
  have h1 := sing_bytes h
  have h2 := wrds_words h
  have h3 := swN_in r
  have hs : ((sumL (rgB r)).toNat : Int) < 65536 := by have := (sumL (rgB r)).isLt; omega
  obtain ⟨m0, m1⟩ := hm
  unfold bytesR rgB
  refine AllB.append (AllB.append (AllB.append h1 ?_) (AllB.cons h3.1 h3.2 (AllB.cons m0 (by omega) AllB.nil))) (AllB.cons (by show 0 ≤ ((sumL (rgB r)).toNat : Int) / 256; omega) (by show ((sumL (rgB r)).toNat : Int) / 256 < 256; omega) (AllB.cons (by show 0 ≤ ((sumL (rgB r)).toNat : Int) % 256; omega) (by show ((sumL (rgB r)).toNat : Int) % 256 < 256; omega) AllB.nil))
  unfold twoB
  refine AllB.flatten fun l hl => ?_
  obtain ⟨v, hv, rfl⟩ := List.mem_map.1 hl
  obtain ⟨v0, v1⟩ := h2 v hv
  exact AllB.cons (by omega) (by omega) (AllB.cons (by omega) (by omega) AllB.nil)
/-- A change of 16 bits side by side is refused. -/
theorem burst_refused {r : Rg} (h : r.Ok) (hm : r.May) (k ch : Nat) (hch : ch < 65536) (h0 : ch ≠ 0) (hk : k + 16 ≤ 256) : ¬ readOk (flips (bytesR r) k ch 16) := by
  intro hq
  have h1 := sum_sees (bytesR r) k ch (bytesR_all h hm) hch h0 (by rw [bytesR_len]; omega)
  have h2 := sum_bytes (tR (flips (bytesR r) k ch 16))
  rw [readOk_back hq] at h2
  exact h1 (h2.trans (sum_bytes r).symm)

end Go.Proofs.Ytedlfcmlchjjlaa
