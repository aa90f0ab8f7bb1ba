/-     -/
import Derived.Test.YtgaihekapakoeaaGreatDoorJ21
import Derived.Lib.ConvBytes
import Derived.Lib.SplitLaws
set_option linter.unusedVariables false
set_option linter.unusedSimpArgs false
namespace Go.Proofs.YtgaihekapakoeaaGreatDoor
open Go.RowKit


set_option maxRecDepth 100000

set_option maxHeartbeats 4000000 in
theorem r_word (w : World) (b : Nat) (r : Rd) (hr : RdW w b r) (p : List UInt8) : Calls Tryz.prog 177 #[.pointer (some ⟨b, 0, none⟩), .string ⟨p.toArray⟩] w (Turns w b (wordF p r)) := by
 have HC := z_ (cut_prefix w r.rest p)
 unfold wordF
 obtain ⟨q, hq⟩ : ∃ q, Lib.hasPrefix r.rest p = q := ⟨_, rfl⟩
 obtain ⟨u, hu⟩ : ∃ u, Lib.trimPrefix r.rest p = u := ⟨_, rfl⟩
 rw [hq, hu] at HC ⊢
 have g0 := hr.g0
 have g2 := hr.g2
 have k2 : (w.setCell ⟨b, 0, none⟩ (.string ⟨u.toArray⟩)).cell? ⟨b, 2, none⟩ = some (.bool r.is) := (hr.p0 u).g2
 have z0 := hr.free 0
 have z2 := (hr.p0 u).free 2
 have Hr := z_ hr
 obtain ⟨s, hs⟩ : ∃ s, r.rest = s := ⟨_, rfl⟩
 rw [hs] at HC g0
 clear hq hu hs hr
 go_enter Tryz.func177, Tryz.ntmps177
 go_wp2_with (go_at_call 58; (with_reducible refine HC.out.mono ?_); rintro e w' ⟨rfl, rfl⟩)
 go_end0
 exact ⟨rfl, (Hr.out.p0 u).p2 q, (save_setCell _ _ _ _).trans (save_setCell _ _ _ _)⟩

theorem cut_one (d : UInt8) (q : List UInt8) (n : Nat) (h : n = q.length + 1) : (⟨(d :: q).toArray⟩ : ByteArray).extract 1 n = ⟨q.toArray⟩ := by
 apply ByteArray.ext
 apply Array.toList_inj.1
 rw [Lib.extract_data]
 subst h
 simp
set_option maxHeartbeats 4000000 in
theorem r_sign (w : World) (b : Nat) (r : Rd) (hr : RdW w b r) (c : UInt8) : Calls Tryz.prog 178 #[.pointer (some ⟨b, 0, none⟩), .int .u8 c.toNat] w (Turns w b (signF c r)) := by
 have g0 := hr.g0
 have g2 := hr.g2
 have z0 := hr.free 0
 have z2 := hr.free 2
 obtain ⟨R, hR⟩ : ∃ R, signF c r = R := ⟨_, rfl⟩
 rw [hR]
 obtain ⟨rest, op, is⟩ := r
 simp only at g0 g2
 cases rest with
 | nil =>
  have hR2 : ⟨[], op, false⟩ = R := hR
  have k2 : (w.setCell ⟨b, 2, none⟩ (.bool false)).cell? ⟨b, 2, none⟩ = some (.bool false) := (hr.p2 false).g2
  have HR := z_ hR2
  have Hr := z_ hr
  obtain ⟨cc, hcc⟩ : ∃ cc : Int, (c.toNat : Int) = cc := ⟨_, rfl⟩
  rw [hcc]
  clear hR hR2 hr hcc
  go_enter Tryz.func178, Tryz.ntmps178
  go_wp2_with fail
  go_end0
  exact ⟨rfl, HR.out ▸ Hr.out.p2 false, save_setCell _ _ _ _⟩
 | cons d q =>
  have hrun : ∀ h : 0 < (⟨(d :: q).toArray⟩ : ByteArray).size, ((⟨(d :: q).toArray⟩ : ByteArray)[0]'h).toNat = d.toNat := fun h => rfl
  have hcut := cut_one d q
  have hz : (⟨(d :: q).toArray⟩ : ByteArray).size = q.length + 1 := by simp [ByteArray.size]
  have hne : ((⟨(d :: q).toArray⟩ : ByteArray).toList == ([] : List UInt8)) = false := by
   rw [ByteArray.toList_eq]; simp
  have hsplit : R = if d = c then ⟨q, op, true⟩ else ⟨d :: q, op, false⟩ := hR.symm
  obtain ⟨S, hS⟩ : ∃ S : ByteArray, (⟨(d :: q).toArray⟩ : ByteArray) = S := ⟨_, rfl⟩
  rw [hS] at g0 hrun hcut hz hne
  obtain ⟨n, hn⟩ : ∃ n, q.length + 1 = n := ⟨_, rfl⟩
  rw [hn] at hz hcut
  have hn1 : 1 ≤ n := by omega
  have HC := z_ (hcut n rfl)
  have Hr := z_ hr
  have hS2 := z_ hS
  obtain ⟨dn, hdn⟩ : ∃ dn, d.toNat = dn := ⟨_, rfl⟩
  rw [hdn] at hrun
  have hlt0 : 0 < S.size := by omega
  have h0 := hrun hlt0
  clear hrun
  have HDN := z_ hdn
  clear hcut hn hS hR hr hdn
  by_cases hdc : d = c
  ·subst hdc
   rw [if_pos rfl] at hsplit
   have HR := z_ hsplit
   have he : (((dn : Nat) : Int) == (dn : Int)) = true := beq_self_eq_true _
   have k0 : (w.setCell ⟨b, 2, none⟩ (.bool true)).cell? ⟨b, 0, none⟩ = some (.string S) := hS2.out ▸ (Hr.out.p2 true).g0
   have k2 : (w.setCell ⟨b, 2, none⟩ (.bool true)).cell? ⟨b, 2, none⟩ = some (.bool true) := (Hr.out.p2 true).g2
   have y0 := (Hr.out.p2 true).free 0
   rw [HDN.out]
   clear he hsplit
   go_enter Tryz.func178, Tryz.ntmps178
   go_wp2_with fail
   go_end0
   rw [HC.out]
   exact ⟨rfl, HR.out ▸ (Hr.out.p2 true).p0 q, (save_setCell _ _ _ _).trans (save_setCell _ _ _ _)⟩
  ·rw [if_neg hdc] at hsplit
   have HR := z_ hsplit
   have he : (((dn : Nat) : Int) == (c.toNat : Int)) = false := HDN.out ▸ byte_ne hdc
   have k2 : (w.setCell ⟨b, 2, none⟩ (.bool false)).cell? ⟨b, 2, none⟩ = some (.bool false) := (Hr.out.p2 false).g2
   obtain ⟨cc, hcc⟩ : ∃ cc : Int, (c.toNat : Int) = cc := ⟨_, rfl⟩
   rw [hcc] at he ⊢
   clear hcc hsplit hdc
   go_enter Tryz.func178, Tryz.ntmps178
   go_wp2_with fail
   go_end0
   exact ⟨rfl, HR.out ▸ Hr.out.p2 false, save_setCell _ _ _ _⟩
end Go.Proofs.YtgaihekapakoeaaGreatDoor
namespace Go.Proofs.YtgaihekapakoeaaGreatDoor
open Go.RowKit


set_option maxRecDepth 100000

set_option maxHeartbeats 8000000 in
theorem r_mark (w : World) (b : Nat) (r : Rd) (hV : VT w w.heap.size) (hr : RdW w b r) (ho : r.op < 256) (c : UInt8) :
  Calls Tryz.prog 133 #[.pointer (some ⟨b, 0, none⟩), .int .u8 c.toNat] w (Turns w b (markF c r)) := by
 obtain ⟨R, hR⟩ : ∃ R, markF c r = R := ⟨_, rfl⟩
 rw [hR]
 unfold markF at hR
 have f6 : w.cell? ⟨5, 6, none⟩ = some (.string ⟨#[40, 72, 76, 41]⟩) := hV.names.2 6 (by decide)
 have f2 : w.cell? ⟨6, 2, none⟩ = some (.string ⟨#[72, 76]⟩) := hV.pairs.2 2 (by decide)
 by_cases h121 : c = 121
 ·have HC := r_byte3 w b r hV hr ho
  rw [if_pos h121] at hR
  rw [hR] at HC
  subst h121
  have hc : ((121 : UInt8).toNat : Int) = 121 := rfl
  rw [hc]
  have HC := z_ HC
  clear hR hc hV hr ho 
  go_enter Tryz.func133, Tryz.ntmps133
  go_wp2_with fail
  refine HC.out.mono ?_
  rintro e w' ⟨rfl, hT, hs⟩
  go_wp2_with fail
  go_end0
  exact ⟨rfl, hT, hs⟩
 by_cases h122 : c = 122
 ·have HC := r_byte0 w b r hV hr ho
  rw [if_neg h121, if_pos h122] at hR
  rw [hR] at HC
  subst h122
  have hc : ((122 : UInt8).toNat : Int) = 122 := rfl
  rw [hc]
  have HC := z_ HC
  clear hR hc hV hr ho h121
  go_enter Tryz.func133, Tryz.ntmps133
  go_wp2_with fail
  refine HC.out.mono ?_
  rintro e w' ⟨rfl, hT, hs⟩
  go_wp2_with fail
  go_end0
  exact ⟨rfl, hT, hs⟩
 by_cases h115 : c = 115
 ·have HC := r_pair w b r hV hr ho
  rw [if_neg h121, if_neg h122, if_pos h115] at hR
  rw [hR] at HC
  subst h115
  have hc : ((115 : UInt8).toNat : Int) = 115 := rfl
  rw [hc]
  have HC := z_ HC
  clear hR hc hV hr ho h121 h122
  go_enter Tryz.func133, Tryz.ntmps133
  go_wp2_with fail
  refine HC.out.mono ?_
  rintro e w' ⟨rfl, hT, hs⟩
  go_wp2_with fail
  go_end0
  exact ⟨rfl, hT, hs⟩
 by_cases h107 : c = 107
 ·have HC := r_stack w b r hV hr ho
  rw [if_neg h121, if_neg h122, if_neg h115, if_pos h107] at hR
  rw [hR] at HC
  subst h107
  have hc : ((107 : UInt8).toNat : Int) = 107 := rfl
  rw [hc]
  have HC := z_ HC
  clear hR hc hV hr ho h121 h122 h115
  go_enter Tryz.func133, Tryz.ntmps133
  go_wp2_with fail
  refine HC.out.mono ?_
  rintro e w' ⟨rfl, hT, hs⟩
  go_wp2_with fail
  go_end0
  exact ⟨rfl, hT, hs⟩
 by_cases h99 : c = 99
 ·have HC := r_cond8 w b r hV hr ho
  rw [if_neg h121, if_neg h122, if_neg h115, if_neg h107, if_pos h99] at hR
  rw [hR] at HC
  subst h99
  have hc : ((99 : UInt8).toNat : Int) = 99 := rfl
  rw [hc]
  have HC := z_ HC
  clear hR hc hV hr ho h121 h122 h115 h107
  go_enter Tryz.func133, Tryz.ntmps133
  go_wp2_with fail
  refine HC.out.mono ?_
  rintro e w' ⟨rfl, hT, hs⟩
  go_wp2_with fail
  go_end0
  exact ⟨rfl, hT, hs⟩
 by_cases h106 : c = 106
 ·have HC := r_cond4 w b r hV hr ho
  rw [if_neg h121, if_neg h122, if_neg h115, if_neg h107, if_neg h99, if_pos h106] at hR
  rw [hR] at HC
  subst h106
  have hc : ((106 : UInt8).toNat : Int) = 106 := rfl
  rw [hc]
  have HC := z_ HC
  clear hR hc hV hr ho h121 h122 h115 h107 h99
  go_enter Tryz.func133, Tryz.ntmps133
  go_wp2_with fail
  refine HC.out.mono ?_
  rintro e w' ⟨rfl, hT, hs⟩
  go_wp2_with fail
  go_end0
  exact ⟨rfl, hT, hs⟩
 by_cases h118 : c = 118
 ·have HC := r_dig w b r hV hr ho
  rw [if_neg h121, if_neg h122, if_neg h115, if_neg h107, if_neg h99, if_neg h106, if_pos h118] at hR
  rw [hR] at HC
  subst h118
  have hc : ((118 : UInt8).toNat : Int) = 118 := rfl
  rw [hc]
  have HC := z_ HC
  clear hR hc hV hr ho h121 h122 h115 h107 h99 h106
  go_enter Tryz.func133, Tryz.ntmps133
  go_wp2_with fail
  refine HC.out.mono ?_
  rintro e w' ⟨rfl, hT, hs⟩
  go_wp2_with fail
  go_end0
  exact ⟨rfl, hT, hs⟩
 by_cases h116 : c = 116
 ·have HC := r_tens w b r hV hr ho
  rw [if_neg h121, if_neg h122, if_neg h115, if_neg h107, if_neg h99, if_neg h106, if_neg h118, if_pos h116] at hR
  rw [hR] at HC
  subst h116
  have hc : ((116 : UInt8).toNat : Int) = 116 := rfl
  rw [hc]
  have HC := z_ HC
  clear hR hc hV hr ho h121 h122 h115 h107 h99 h106 h118
  go_enter Tryz.func133, Tryz.ntmps133
  go_wp2_with fail
  refine HC.out.mono ?_
  rintro e w' ⟨rfl, hT, hs⟩
  go_wp2_with fail
  go_end0
  exact ⟨rfl, hT, hs⟩
 by_cases h114 : c = 114
 ·have HC := r_shift w b r hV hr ho
  rw [if_neg h121, if_neg h122, if_neg h115, if_neg h107, if_neg h99, if_neg h106, if_neg h118, if_neg h116, if_pos h114] at hR
  rw [hR] at HC
  subst h114
  have hc : ((114 : UInt8).toNat : Int) = 114 := rfl
  rw [hc]
  have HC := z_ HC
  clear hR hc hV hr ho h121 h122 h115 h107 h99 h106 h118 h116
  go_enter Tryz.func133, Tryz.ntmps133
  go_wp2_with fail
  refine HC.out.mono ?_
  rintro e w' ⟨rfl, hT, hs⟩
  go_wp2_with fail
  go_end0
  exact ⟨rfl, hT, hs⟩
 by_cases h97 : c = 97
 ·have HC := r_oper w b r hV hr ho
  rw [if_neg h121, if_neg h122, if_neg h115, if_neg h107, if_neg h99, if_neg h106, if_neg h118, if_neg h116, if_neg h114, if_pos h97] at hR
  rw [hR] at HC
  subst h97
  have hc : ((97 : UInt8).toNat : Int) = 97 := rfl
  rw [hc]
  have HC := z_ HC
  clear hR hc hV hr ho h121 h122 h115 h107 h99 h106 h118 h116 h114
  go_enter Tryz.func133, Tryz.ntmps133
  go_wp2_with fail
  refine HC.out.mono ?_
  rintro e w' ⟨rfl, hT, hs⟩
  go_wp2_with fail
  go_end0
  exact ⟨rfl, hT, hs⟩
 by_cases h109 : c = 109
 ·have HC := r_word w b r hr [40, 72, 76, 41]
  rw [if_neg h121, if_neg h122, if_neg h115, if_neg h107, if_neg h99, if_neg h106, if_neg h118, if_neg h116, if_neg h114, if_neg h97, if_pos h109] at hR
  rw [hR] at HC
  subst h109
  have hc : ((109 : UInt8).toNat : Int) = 109 := rfl
  rw [hc]
  have HC := z_ HC
  clear hR hc hV hr ho h121 h122 h115 h107 h99 h106 h118 h116 h114 h97
  go_enter Tryz.func133, Tryz.ntmps133
  go_wp2_with fail
  refine HC.out.mono ?_
  rintro e w' ⟨rfl, hT, hs⟩
  go_wp2_with fail
  go_end0
  exact ⟨rfl, hT, hs⟩
 by_cases h104 : c = 104
 ·have HC := r_word w b r hr [72, 76]
  rw [if_neg h121, if_neg h122, if_neg h115, if_neg h107, if_neg h99, if_neg h106, if_neg h118, if_neg h116, if_neg h114, if_neg h97, if_neg h109, if_pos h104] at hR
  rw [hR] at HC
  subst h104
  have hc : ((104 : UInt8).toNat : Int) = 104 := rfl
  rw [hc]
  have HC := z_ HC
  clear hR hc hV hr ho h121 h122 h115 h107 h99 h106 h118 h116 h114 h97 h109
  go_enter Tryz.func133, Tryz.ntmps133
  go_wp2_with fail
  refine HC.out.mono ?_
  rintro e w' ⟨rfl, hT, hs⟩
  go_wp2_with fail
  go_end0
  exact ⟨rfl, hT, hs⟩
 by_cases h110 : c = 110
 ·rw [if_neg h121, if_neg h122, if_neg h115, if_neg h107, if_neg h99, if_neg h106, if_neg h118, if_neg h116, if_neg h114, if_neg h97, if_neg h109, if_neg h104, if_pos (.inl h110)] at hR
  subst h110
  have hc : ((110 : UInt8).toNat : Int) = 110 := rfl
  rw [hc]
  have HR := z_ hR
  have Hr := z_ hr
  clear hR hc hV hr ho h121 h122 h115 h107 h99 h106 h118 h116 h114 h97 h109 h104
  go_enter Tryz.func133, Tryz.ntmps133
  go_wp2_with fail
  go_end0
  exact ⟨rfl, HR.out ▸ Hr.out, Save.refl _ _⟩
 by_cases h101 : c = 101
 ·rw [if_neg h121, if_neg h122, if_neg h115, if_neg h107, if_neg h99, if_neg h106, if_neg h118, if_neg h116, if_neg h114, if_neg h97, if_neg h109, if_neg h104, if_pos (.inr h101)] at hR
  subst h101
  have hc : ((101 : UInt8).toNat : Int) = 101 := rfl
  rw [hc]
  have HR := z_ hR
  have Hr := z_ hr
  clear hR hc hV hr ho h121 h122 h115 h107 h99 h106 h118 h116 h114 h97 h109 h104 h110
  go_enter Tryz.func133, Tryz.ntmps133
  go_wp2_with fail
  go_end0
  exact ⟨rfl, HR.out ▸ Hr.out, Save.refl _ _⟩
 have HC := r_sign w b r hr c
 rw [if_neg h121, if_neg h122, if_neg h115, if_neg h107, if_neg h99, if_neg h106, if_neg h118, if_neg h116, if_neg h114, if_neg h97, if_neg h109, if_neg h104, if_neg (by rintro (h | h); exact h110 h; exact h101 h)] at hR
 rw [hR] at HC
 have e121 : (((c.toNat : Nat) : Int) == 121) = false := byte_ne h121
 have e122 : (((c.toNat : Nat) : Int) == 122) = false := byte_ne h122
 have e115 : (((c.toNat : Nat) : Int) == 115) = false := byte_ne h115
 have e107 : (((c.toNat : Nat) : Int) == 107) = false := byte_ne h107
 have e99 : (((c.toNat : Nat) : Int) == 99) = false := byte_ne h99
 have e106 : (((c.toNat : Nat) : Int) == 106) = false := byte_ne h106
 have e118 : (((c.toNat : Nat) : Int) == 118) = false := byte_ne h118
 have e116 : (((c.toNat : Nat) : Int) == 116) = false := byte_ne h116
 have e114 : (((c.toNat : Nat) : Int) == 114) = false := byte_ne h114
 have e97 : (((c.toNat : Nat) : Int) == 97) = false := byte_ne h97
 have e109 : (((c.toNat : Nat) : Int) == 109) = false := byte_ne h109
 have e104 : (((c.toNat : Nat) : Int) == 104) = false := byte_ne h104
 have e110 : (((c.toNat : Nat) : Int) == 110) = false := byte_ne h110
 have e101 : (((c.toNat : Nat) : Int) == 101) = false := byte_ne h101
 obtain ⟨n, hn⟩ : ∃ n : Int, (c.toNat : Int) = n := ⟨_, rfl⟩
 rw [hn] at HC e121 e122 e115 e107 e99 e106 e118 e116 e114 e97 e109 e104 e110 e101 ⊢
 have HC := z_ HC
 clear hR hn hV hr ho f6 f2 h121 h122 h115 h107 h99 h106 h118 h116 h114 h97 h109 h104 h110 h101
 go_enter Tryz.func133, Tryz.ntmps133
 go_wp2_with fail
 refine HC.out.mono ?_
 rintro e w' ⟨rfl, hT, hs⟩
 go_wp2_with fail
 go_end0
 exact ⟨rfl, hT, hs⟩
end Go.Proofs.YtgaihekapakoeaaGreatDoor
namespace Go.Proofs.YtgaihekapakoeaaGreatDoor
open Go.RowKit


set_option maxRecDepth 100000

theorem empty_text (l : List UInt8) : (⟨l.toArray⟩ : ByteArray).toList.isEmpty = (l == []) := by
 rw [ByteArray.toList_eq]
 cases l <;> simp
theorem bytes_world {w : World} {e : TypeId} {s : ByteArray} : Below w.heap.size w (Lib.bytesWorld w e s) :=
 ⟨rfl, rfl, rfl, by rw [Lib.bytesWorld_size]; omega, fun k hk => Lib.bytesWorld_at_old w e s k hk⟩
theorem at_list (p : List UInt8) (k : Nat) : ((⟨p.toArray⟩ : ByteArray).data.toList.getD k 0) = p.getD k 0 := by simp

set_option maxHeartbeats 8000000 in
theorem r_along (w : World) (plain : List UInt8) (s : Int) (n : Nat) (hV : VT w w.heap.size) (s0 : 0 ≤ s) (s1 : s < 4) (hn : n < 256) :
  Calls Tryz.prog 97 #[.string ⟨plain.toArray⟩, .int .i64 s, .int .i64 (n : Int)] w fun e w' => e = .returned (.tuple #[.int .i64 ((alongF plain s n).1 : Int), .bool (alongF plain s n).2]) ∧ Below w.heap.size w w' := by
 obtain ⟨T, hT⟩ : ∃ T, alongF plain s n = T := ⟨_, rfl⟩
 rw [hT]
 have hpl := patOf_len s (n : Int) s0 s1 (by omega) (by omega)
 obtain ⟨w1, hw1⟩ : ∃ w1, w.alloc (.cells (rdC ⟨plain, n, true⟩) 152) = w1 := ⟨_, rfl⟩
 have hb1 : Below w.heap.size w w1 := hw1 ▸ (Below.refl _ _).alloc (Nat.le_refl _) _
 have hr1 : RdW w1 w.heap.size ⟨plain, n, true⟩ := hw1 ▸ heap_alloc_new _ _
 have hs1 : w1.heap.size = w.heap.size + 1 := by rw [← hw1]; simp
 have HP := z_ (p_of ⟨s, 0, n, 0, 0, 0⟩ w1 w.heap.size (hV.below hb1) hb1.size s0 s1 (by simp only; omega) (by simp only; omega))
 obtain ⟨p, hp⟩ : ∃ p, patOf s (n : Int) = p := ⟨_, rfl⟩
 simp only at HP
 rw [hp] at HP hpl
 rw [in_val] at HP
 simp only at HP
 obtain ⟨L, hL⟩ : ∃ L, alongL p ⟨plain, n, true⟩ = L := ⟨_, rfl⟩
 have hT2 : T = if L.is = true then (L.op, L.rest == []) else (0, false) := by
  rw [← hT, ← hL, ← hp]; rfl
 have HT := z_ hT2
 have HL := z_ hL
 have HN := z_ hn
 have HB1 := z_ hb1
 have HR1 := z_ hr1
 have HS1 := z_ hs1
 have HV := z_ hV
 obtain ⟨P, hP⟩ : ∃ P : ByteArray, (⟨p.toArray⟩ : ByteArray) = P := ⟨_, rfl⟩
 have hz : P.size = p.length := by rw [← hP]; simp [ByteArray.size]
 rw [hP] at HP
 obtain ⟨m, hm⟩ : ∃ m, p.length = m := ⟨_, rfl⟩
 rw [hm] at hz hpl
 have HPP := z_ hP
 have HM := z_ hm
 unfold rdC at hw1
 simp only at hw1
 clear hT hT2 hL hn hb1 hr1 hs1 hV hp hP hm s0 s1
 go_enter Tryz.func97, Tryz.ntmps97
 go_wp2_with (go_at_call 78; (with_reducible refine HP.out.mono ?_); rintro e w2 ⟨rfl, hb2⟩)
 rw [Lib.run_convert_string_bytes w2 9 27 5 P Tryz.underlying9 Tryz.underlying27 Tryz.underlying5]
 have hb3 : Below w2.heap.size w2 (Lib.bytesWorld w2 5 P) := bytes_world
 have hcell : ∀ k, k < m → (Lib.bytesWorld w2 5 P).cell? ⟨w2.heap.size, k, none⟩ = some (.int .u8 ((p.getD k 0).toNat : Int)) := fun k hk => by
  rw [Lib.bytesWorld_cell w2 _ P k (by omega), ← HPP.out, at_list]
 have hsz3 := Lib.bytesWorld_size w2 5 P
 obtain ⟨w3, hw3⟩ : ∃ w3, Lib.bytesWorld w2 5 P = w3 := ⟨_, rfl⟩
 obtain ⟨g, hg⟩ : ∃ g, w2.heap.size = g := ⟨_, rfl⟩
 obtain ⟨cap, hcap⟩ : ∃ cap, grownCap w2 P.size 0 5 = cap := ⟨_, rfl⟩
 have hgb : w.heap.size < g := by
  have := hb2.size
  rw [HS1.out] at this
  omega
 have hr2 : RdW w2 w.heap.size ⟨plain, n, true⟩ := HR1.out.keep (hb2.block _ HR1.out.lt)
 have hr3 : RdW w3 w.heap.size ⟨plain, n, true⟩ := by rw [← hw3]; exact hr2.keep (hb3.block _ hr2.lt)
 have hB3 : Below w.heap.size w w3 := by
  have h12 : Below w.heap.size w w2 := HB1.out.trans (hb2.mono (by rw [HS1.out]; omega))
  exact h12.trans (hw3 ▸ hb3.mono h12.size)
 rw [hw3] at hcell hsz3 ⊢
 rw [hg] at hcell hsz3 ⊢
 rw [hcap]
 have HC := z_ hcell
 have HR3 := z_ hr3
 have HB3 := z_ hB3
 have HG := z_ hgb
 have HS3 := z_ hsz3
 clear hb3 hcell hsz3 hw3 hg hcap hr2 hr3 hB3 hgb hb2 hw1
 simp only [Result.andThen]
 rw [Oper.upon_value]
 go_wp2_with fail
 have hLs := HL.out
 go_loopw [20] (fun v wr => ∃ (k : Nat) (r : Rd), k ≤ m ∧ v = .int .i64 k ∧ RdW wr w.heap.size r ∧ Save (· = w.heap.size) w3 wr ∧ Hid (r.is = true ∧ r.op < 256 ∧ alongL (p.drop k) r = L)) (fun v _ => m - (intOf v).toNat)
 case atStart => exact ⟨0, ⟨plain, n, true⟩, by omega, rfl, HR3.out, Save.refl _ _, z_ ⟨rfl, HN.out, HL.out⟩⟩
 case round =>
  clear hLs
  obtain ⟨k, r, hk, rfl, hr, hs, hinv⟩ := hrel
  obtain ⟨hri, hro, hal⟩ := hinv.out
  have hBr : Below w.heap.size w wr := HB3.out.trans (hs.below HB3.out.size (fun k hk => Nat.le_of_eq hk.symm))
  have HBr := z_ hBr
  have Hs := z_ hs
  have Hr := z_ hr
  by_cases he : k < m
  ·obtain ⟨c, hc⟩ : ∃ c : UInt8, p.getD k 0 = c := ⟨_, rfl⟩
   have hlt : k < p.length := by rw [HM.out]; exact he
   have hd : p.drop k = c :: p.drop (k + 1) := by
    rw [List.drop_eq_getElem_cons hlt]
    congr 1
    rw [List.getD, List.getElem?_eq_getElem hlt] at hc
    exact hc
   have hcell : wr.cell? ⟨g, k, none⟩ = some (.int .u8 (c.toNat : Int)) := by
    rw [← hc, ← HC.out k he]
    exact World.cell?_of_block (hs.block g (by rw [HS3.out]; omega) (fun e => by have := HG.out; omega))
   have HMk := r_mark wr w.heap.size r ((HV.out.below hBr).mono hBr.size) hr hro c
   obtain ⟨R, hR⟩ : ∃ R, markF c r = R := ⟨_, rfl⟩
   have hRo : R.op < 256 := hR ▸ markF_lt c r hro
   have hal2 : L = if R.is = true then alongL (p.drop (k + 1)) R else R := by rw [← hal, hd, ← hR]; rfl
   rw [hR] at HMk
   obtain ⟨cc, hcc⟩ : ∃ cc : Int, (c.toNat : Int) = cc := ⟨_, rfl⟩
   rw [hcc] at hcell HMk
   have HMk := z_ HMk
   have HA := z_ hal2
   have HRo := z_ hRo
   clear hBr hs hr hc hd hlt hR hal2 hRo hcc hal hri hro hinv
   go_wp2_with fail
   refine HMk.out.mono ?_
   rintro e w4 ⟨rfl, hr4, hs4⟩
   have g2 := hr4.g2
   have Hr4 := z_ hr4
   have Hs4 := z_ (Hs.out.trans hs4)
   clear hr4 hs4 HMk hcell
   obtain ⟨q, hq⟩ : ∃ q, R.is = q := ⟨_, rfl⟩
   rw [hq] at g2
   have HQ := z_ hq
   clear hq
   cases q with
   | true =>
    go_wp2_with fail
    go_roundw
    case rel =>
     have h1 := HA.out
     rw [HQ.out, if_pos rfl] at h1
     exact ⟨k + 1, R, by omega, by go_num, Hr4.out, Hs4.out, z_ ⟨HQ.out, HRo.out, h1.symm⟩⟩
    case measure => simp [intOf]; omega
   | false =>
    go_wp2_with fail
    go_ret2
    have h1 := HA.out
    rw [HQ.out, if_neg (by decide)] at h1
    have h2 := HT.out
    rw [h1, HQ.out, if_neg (by decide)] at h2
    rw [h2]
    exact ⟨rfl, HB3.out.trans (Hs4.out.below HB3.out.size (fun k hk => Nat.le_of_eq hk.symm))⟩
  ·obtain rfl : k = m := by omega
   have hLr : L = r := by
    rw [← hal, ← HM.out, List.drop_length]; rfl
   have hT3 : T = (r.op, r.rest == []) := by
    rw [HT.out, hLr, hri, if_pos rfl]
   have g0 := hr.g0
   have g1 := hr.g1
   have he0 := empty_text r.rest
   obtain ⟨S, hS⟩ : ∃ S : ByteArray, (⟨r.rest.toArray⟩ : ByteArray) = S := ⟨_, rfl⟩
   rw [hS] at g0 he0
   obtain ⟨q, hq⟩ : ∃ q, (r.rest == []) = q := ⟨_, rfl⟩
   rw [hq] at he0 hT3
   obtain ⟨o, ho⟩ : ∃ o, r.op = o := ⟨_, rfl⟩
   rw [ho] at g1 hT3
   have HT3 := z_ hT3
   clear hS hq ho hT3 hLr hal hri hro hinv hr hs hBr
   go_upto_region 9 with fail
   go_region
   go_wp2_with fail
   go_ret2
   rw [HT3.out]
   exact ⟨rfl, HBr.out.drew⟩
end Go.Proofs.YtgaihekapakoeaaGreatDoor
namespace Go.Proofs.YtgaihekapakoeaaGreatDoor
open Go.RowKit


set_option maxRecDepth 100000

structure VP (w : World) (B : Nat) : Prop where
 vt : VT w B
 max : ∃ m, w.cell? ⟨4, 0, none⟩ = some (.int .i64 m) ∧ 4 < B
 utf : ∀ w', Below B w w' → Lib.Utf8Tabs 7 8 w'
 err : ∃ ev, w.cell? ⟨10, 0, none⟩ = some ev ∧ (ev = .nilIface ∨ ∃ te pe, ev = .iface te pe) ∧ 10 < B
theorem VP.below {w w' : World} {B : Nat} (h : VP w B) (hb : Below B w w') : VP w' B := by
 obtain ⟨m, h1, h2⟩ := h.max
 obtain ⟨ev, h3, h4, h5⟩ := h.err
 exact ⟨h.vt.below hb, ⟨m, (hb.cell h2).trans h1, h2⟩, fun w2 h2 => h.utf w2 (hb.trans h2), ⟨ev, (hb.cell h5).trans h3, h4, h5⟩⟩
theorem VP.mono {w : World} {B B' : Nat} (h : VP w B) (hB : B ≤ B') : VP w B' := by
 obtain ⟨m, h1, h2⟩ := h.max
 obtain ⟨ev, h3, h4, h5⟩ := h.err
 exact ⟨h.vt.mono hB, ⟨m, h1, by omega⟩, fun w' hb => h.utf w' (hb.mono hB), ⟨ev, h3, h4, by omega⟩⟩
theorem VP.later {w w' : World} (h : VP w w.heap.size) (hb : Below w.heap.size w w') : VP w' w'.heap.size := (h.below hb).mono hb.size

theorem replaceK_len (old new : List UInt8) : ∀ (k : Nat) (s : List UInt8), (Lib.replaceK old new k s).length ≤ s.length + k * new.length
 | 0, s => by simp [Lib.replaceK]
 | k + 1, s => by
  unfold Lib.replaceK
  split
  ·omega
  ·have h := replaceK_len old new k (s.drop ((Lib.index s old).toNat + old.length))
   simp only [List.length_append, List.length_take, List.length_drop] at h ⊢
   have : (k + 1) * new.length = k * new.length + new.length := Nat.succ_mul ..
   omega
theorem replace_len (s old new : List UInt8) (h1 : 1 ≤ old.length) : (Lib.replaceAll s old new).length ≤ s.length + s.length * new.length := by
 have hc : Lib.count s old ≤ s.length := by
  have := Lib.countB_le ⟨old.toArray⟩ (by simp [ByteArray.size]; omega) s.length ⟨s.toArray⟩ (by simp [ByteArray.size])
  simpa [Lib.countB, ByteArray.size] using this
 unfold Lib.replaceAll Lib.replace
 split
 ·omega
 ·have h := replaceK_len old new (Lib.replaceNum s old (-1)) s
  have hn : Lib.replaceNum s old (-1) ≤ s.length := by
   unfold Lib.replaceNum
   rw [if_pos (.inl (by decide))]; exact hc
  have := Nat.mul_le_mul_right new.length hn
  omega
theorem rep_any (w : World) (B : Nat) (hV : VP w B) (s old new : List UInt8) (h1 : 1 ≤ old.length) (hs : s.length ≤ 1000000) (hn : new.length ≤ 10) :
  Calls Tryz.prog 132 #[.string ⟨s.toArray⟩, .string ⟨old.toArray⟩, .string ⟨new.toArray⟩] w fun e w' => e = .returned (.string ⟨(Lib.replaceAll s old new).toArray⟩) ∧ Below w.heap.size w w' := by
 obtain ⟨m, hm, -⟩ := hV.max
 have hc : Lib.countB ⟨s.toArray⟩ ⟨old.toArray⟩ ≤ s.length := by
  have := Lib.countB_le ⟨old.toArray⟩ (by simp [ByteArray.size]; omega) s.length ⟨s.toArray⟩ (by simp [ByteArray.size])
  exact this
 have h2 := Nat.mul_le_mul hc hn
 refine (Tryz.strings_ReplaceAll ⟨s.toArray⟩ ⟨old.toArray⟩ ⟨new.toArray⟩ m w (by simp [ByteArray.size]; omega) hm (by simp [ByteArray.size]; omega) ?_).mono ?_
 ·have e1 : (⟨s.toArray⟩ : ByteArray).size = s.length := by simp [ByteArray.size]
  have e2 : (⟨new.toArray⟩ : ByteArray).size = new.length := by simp [ByteArray.size]
  rw [e1, e2]
  omega
 ·rintro e w' ⟨rfl, hb⟩
  exact ⟨rfl, hb⟩
theorem con_any (w : World) (B : Nat) (hV : VP w B) (s p : List UInt8) (hs : s.length ≤ 1000000) :
  Calls Tryz.prog 131 #[.string ⟨s.toArray⟩, .string ⟨p.toArray⟩] w fun e w' => e = .returned (.bool (Lib.contains s p)) ∧ w = w' := by
 obtain ⟨m, hm, -⟩ := hV.max
 refine (Tryz.strings_Contains ⟨s.toArray⟩ ⟨p.toArray⟩ m w (by simp [ByteArray.size]; omega) hm).mono ?_
 rintro e w' ⟨rfl, rfl⟩
 exact ⟨rfl, rfl⟩
theorem add_lit (a b : List UInt8) (ha : a.length ≤ 1000) (hb : b.length ≤ 1000) : ∀ w, (Op.stringOp .add (⟨a.toArray⟩ : ByteArray) ⟨b.toArray⟩).run Tryz.prog w = .ok (.string ⟨(a ++ b).toArray⟩) w := fun w => by
 have e1 : (⟨a.toArray⟩ : ByteArray).size = a.length := by simp [ByteArray.size]
 have e2 : (⟨b.toArray⟩ : ByteArray).size = b.length := by simp [ByteArray.size]
 have e : (⟨a.toArray⟩ : ByteArray) ++ ⟨b.toArray⟩ = ⟨(a ++ b).toArray⟩ := by
  apply ByteArray.ext
  simp
 rw [run_string_add_sum w _ _ (by omega), e]

theorem namesF_def (s name : List UInt8) : namesF s name = Lib.replaceAll (Lib.replaceAll (Lib.replaceAll s (name ++ [72]) [72]) (name ++ [76]) [76]) name [72, 76] := rfl
theorem index_name (k : Nat) (h1 : 1 ≤ k) (h2 : k < 3) : (indexL3.getD k []).length = 2 := by
 match k, h1, h2 with
 | 1, _, _ => rfl
 | 2, _, _ => rfl

set_option maxHeartbeats 8000000 in
theorem hl_any (w : World) (hV : VP w w.heap.size) (s : List UInt8) (hs : s.length ≤ 1000) :
  Calls Tryz.prog 95 #[.string ⟨s.toArray⟩] w fun e w' => e = .returned (.tuple #[.string ⟨(hlF s).1.toArray⟩, .int .i64 ((hlF s).2 : Int)]) ∧ Below w.heap.size w w' := by
 obtain ⟨R, hR⟩ : ∃ R, hlF s = R := ⟨_, rfl⟩
 rw [hR]
 unfold hlF at hR
 have HR := z_ hR
 have HV := z_ hV
 have HS := z_ hs
 clear hR hV hs
 go_enter Tryz.func95, Tryz.ntmps95
 go_wp2_with fail
 go_loopw [0, 3] (fun v0 v wr => ∃ k : Nat, k ≤ 2 ∧ v0 = .string ⟨s.toArray⟩ ∧ v = .int .i64 k ∧ wr = w ∧ Hid ((k < 2 → Lib.contains s [73, 89] = false) ∧ (k < 1 → Lib.contains s [73, 88] = false))) (fun _ v _ => (intOf v).toNat)
 case atStart => exact ⟨2, by omega, rfl, rfl, rfl, z_ ⟨by omega, by omega⟩⟩
 case round =>
  obtain ⟨k, hk, rfl, rfl, rfl, hinv⟩ := hrel
  by_cases he : 0 < k
  ·have hf : wr.cell? ⟨0, k, none⟩ = some (.string ⟨(indexL3.getD k []).toArray⟩) := HV.out.vt.index.2 k (by show k < 3; omega)
   have hf0 : wr.cell? ⟨0, 0, none⟩ = some (.string ⟨#[72, 76]⟩) := HV.out.vt.index.2 0 (by decide)
   have hl := index_name k he (by omega)
   have hadd1 := add_lit (indexL3.getD k []) [72] (by omega) (by decide)
   have hadd2 := add_lit (indexL3.getD k []) [76] (by omega) (by decide)
   have hRq : Lib.contains s (indexL3.getD k []) = true → R = (namesF s (indexL3.getD k []), k) := by
    intro h
    have hk12 : k = 1 ∨ k = 2 := by omega
    rcases hk12 with rfl | rfl
    ·rw [← HR.out, if_neg (by rw [hinv.out.1 (by decide)]; decide)]
     exact if_pos h
    ·rw [← HR.out]
     exact if_pos h
   have hno : Lib.contains s (indexL3.getD k []) = false → (k - 1 < 2 → Lib.contains s [73, 89] = false) ∧ (k - 1 < 1 → Lib.contains s [73, 88] = false) := by
    intro h
    have hk12 : k = 1 ∨ k = 2 := by omega
    rcases hk12 with rfl | rfl
    ·exact ⟨fun _ => hinv.out.1 (by decide), fun _ => h⟩
    ·exact ⟨fun _ => h, fun h => absurd h (by decide)⟩
   obtain ⟨nm, hnm⟩ : ∃ nm, indexL3.getD k [] = nm := ⟨_, rfl⟩
   rw [hnm] at hf hl hadd1 hadd2 hRq hno
   have HCo := con_any wr _ HV.out s nm (by have := HS.out; omega)
   obtain ⟨q, hq⟩ : ∃ q, Lib.contains s nm = q := ⟨_, rfl⟩
   rw [hq] at hRq hno HCo
   have HCo := z_ HCo
   have hsl := HS.out
   have r1 := z_ (fun (w1 : World) (hb : Below wr.heap.size wr w1) => rep_any w1 _ (HV.out.later hb) s (nm ++ [72]) [72] (by simp) (by omega) (by decide))
   have l1 := replace_len s (nm ++ [72]) [72] (by simp)
   have hdef := namesF_def s nm
   obtain ⟨a1, ha1⟩ : ∃ a1, Lib.replaceAll s (nm ++ [72]) [72] = a1 := ⟨_, rfl⟩
   rw [ha1] at r1 l1 hdef
   have r2 := z_ (fun (w1 : World) (hb : Below wr.heap.size wr w1) => rep_any w1 _ (HV.out.later hb) a1 (nm ++ [76]) [76] (by simp) (by simp at l1; omega) (by decide))
   have l2 := replace_len a1 (nm ++ [76]) [76] (by simp)
   obtain ⟨a2, ha2⟩ : ∃ a2, Lib.replaceAll a1 (nm ++ [76]) [76] = a2 := ⟨_, rfl⟩
   rw [ha2] at r2 l2 hdef
   have r3 := z_ (fun (w1 : World) (hb : Below wr.heap.size wr w1) => rep_any w1 _ (HV.out.later hb) a2 nm [72, 76] (by omega) (by simp at l1 l2; omega) (by decide))
   obtain ⟨a3, ha3⟩ : ∃ a3, Lib.replaceAll a2 nm [72, 76] = a3 := ⟨_, rfl⟩
   rw [ha3] at r3 hdef
   rw [hdef] at hRq
   obtain ⟨n1, hn1⟩ : ∃ n1, nm ++ [72] = n1 := ⟨_, rfl⟩
   obtain ⟨n2, hn2⟩ : ∃ n2, nm ++ [76] = n2 := ⟨_, rfl⟩
   rw [hn1] at hadd1 r1
   rw [hn2] at hadd2 r2
   have f0 : ∀ w1, Below wr.heap.size wr w1 → w1.cell? ⟨0, 0, none⟩ = some (.string ⟨#[72, 76]⟩) := fun w1 hb => (HV.out.vt.below hb).index.2 0 (by decide)
   have F0 := z_ f0
   have HQ := z_ hRq
   have HNo := z_ hno
   have hk3 : (k : Int) < 3 := by omega
   clear hnm hq ha1 ha2 ha3 hn1 hn2 l1 l2 hdef hl hsl hRq hno f0 hinv
   cases q with
   | true =>
    go_wp2_with (first
     | (go_at_call 131; (with_reducible refine HCo.out.mono ?_); rintro e w' ⟨rfl, hw⟩; obtain rfl := hw.symm))
    refine (r1.out _ (Below.refl _ _)).mono ?_
    rintro e w1 ⟨rfl, hb1⟩
    go_wp2_with fail
    refine (r2.out _ hb1).mono ?_
    rintro e w2 ⟨rfl, hb2⟩
    have hb12 := hb1.trans (hb2.mono hb1.size)
    have hf2 := F0.out w2 hb12
    go_wp2_with fail
    refine (r3.out _ hb12).mono ?_
    rintro e w3 ⟨rfl, hb3⟩
    go_wp2_with fail
    go_ret2
    rw [HQ.out trivial]
    exact ⟨rfl, hb12.trans (hb3.mono hb12.size)⟩
   | false =>
    go_wp2_with (go_at_call 131; (with_reducible refine HCo.out.mono ?_); rintro e w' ⟨rfl, hw⟩; obtain rfl := hw.symm)
    go_roundw
    case rel => exact ⟨k - 1, by omega, rfl, by congr 1; omega, trivial, z_ (HNo.out trivial)⟩
    case measure => simp [intOf]; omega
  ·obtain rfl : k = 0 := by omega
   have hR0 : R = (s, 0) := by
    rw [← HR.out, if_neg (by rw [hinv.out.1 (by decide)]; decide), if_neg (by rw [hinv.out.2 (by decide)]; decide)]
   go_wp2_with fail
   go_ret2
   rw [hR0]
   exact ⟨rfl, Below.refl _ _⟩
end Go.Proofs.YtgaihekapakoeaaGreatDoor
