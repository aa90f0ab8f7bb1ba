/-         -/
import Derived.Test.YtgaihekapakoeaaGreatDoorJ26
import Derived.Test.YtgaihekapakoeaaGreatDoorJ17
import Derived.Deep.RegionLaw
import Derived.Test.YtgaihekapakoeaaGreatDoorJ3
set_option linter.unusedVariables false
set_option linter.unusedSimpArgs false
namespace Go.Proofs.YtgaihekapakoeaaGreatDoor
open Go.RowKit


set_option maxRecDepth 100000

def KN (N B : Nat) (X : In) (w : World) : Prop := InW w N X ∧ N < w.heap.size ∧ B ≤ w.heap.size
theorem KN.step {N B : Nat} {X : In} {w w' : World} (h : KN N B X w) (hs : Save (fun _ => False) w w') : KN N B X w' := by
 have h1 := h.1
 have := hs.size
 exact ⟨(hs.block N h.2.1 (fun h => h)).trans h1, by have := h.2.1; omega, by have := h.2.2; omega⟩
def KR (N B : Nat) (X : In) (b : World) (v : Value) (M : List In) (w : World) : Prop := KN N B X w ∧ w.ownsRow B 23 6 v M.length (rowI M) ∧ Below B b w
theorem KR.step {N B : Nat} {X : In} {b : World} {v : Value} {M : List In} {w w' : World} (h : KR N B X b v M w) (hs : Save (fun _ => False) w w') : KR N B X b v M w' :=
 ⟨h.1.step hs, h.2.1.kept (w' := w') (row := none) ⟨hs.os, hs.tape, hs.output, hs.size, fun i hi _ => hs.block i hi (fun h => h)⟩ (by cases hv : v.ownBlock <;> simp), h.2.2.trans (hs.all.mono h.1.2.2)⟩

theorem RB.rest {w : World} {B b off c : Nat} {l : List Int} (h : RB w B (some ⟨b, off, none⟩) c l) (p : Nat) (hp : p ≤ l.length) (hc : c ≠ p) :
  RB w B (some ⟨b, off + p, none⟩) (c - p) (l.drop p) := by
 have := h.sub p (l.length - p) (by omega)
 rwa [List.take_of_length_le (by rw [List.length_drop]; omega)] at this

end Go.Proofs.YtgaihekapakoeaaGreatDoor
namespace Go.Proofs.YtgaihekapakoeaaGreatDoor
open Go.RowKit


set_option maxRecDepth 100000

end Go.Proofs.YtgaihekapakoeaaGreatDoor
namespace Go.Proofs.YtgaihekapakoeaaGreatDoor
open Go.RowKit


set_option maxRecDepth 100000

set_option maxHeartbeats 4000000 in
theorem light_texts (A : Option Addr) (c n : Nat) (M : List ByteArray) (w : World) (hn : n = M.length) (h : TL w w.heap.size A c M) :
  Calls Tryz.prog 19 #[.slice A n c, .int .i64 12, .int .i64 60] w fun e w' => (∃ b : Bool, e = .returned (.bool b) ∧ (b = true → M.length ≤ 12 ∧ ∀ s ∈ M, s.size ≤ 60)) ∧ w = w' := by
 subst hn
 have hle := h.le
 have hcap := h.cap
 unfold maxLen at hcap
 have H := z_ h
 clear h
 go_enter Tryz.func19, Tryz.ntmps19
 go_wp2_with fail
 go_loopw [7] (fun i wr => wr = w ∧ ∃ k : Nat, i = .int .i64 k ∧ k ≤ M.length ∧ k ≤ 13 ∧ (id (∀ j, j < k → (M.getD j ⟨#[]⟩).size ≤ 60))) (fun i _ => M.length - (intOf i).toNat)
 case atStart => exact ⟨rfl, 0, rfl, by omega, by omega, (fun j hj => absurd hj (by omega) : ∀ j, j < 0 → (M.getD j ⟨#[]⟩).size ≤ 60)⟩
 case round =>
  obtain ⟨rfl, k, rfl, hk, hk13, hs0⟩ := hrel
  have hs1 : ∀ j, j < k → (M.getD j ⟨#[]⟩).size ≤ 60 := hs0
  have hs := z_ hs1
  clear hs0 hs1
  by_cases hlt : k < M.length
  ·by_cases h12 : k ≤ 12
   ·obtain ⟨b1, o1, rfl, hb1, ha1⟩ := H.out.at_ (by omega)
    have u1 := ha1 k hlt
    obtain ⟨y, hy⟩ : ∃ y, M.getD k ⟨#[]⟩ = y := ⟨_, rfl⟩
    rw [hy] at u1
    have HY := z_ hy
    clear hy ha1
    by_cases h60 : (60 : Int) < (y.size : Int)
    ·go_wp2_with fail
     go_ret
     exact ⟨⟨false, rfl, fun h => by cases h⟩, rfl⟩
    ·go_wp2_with fail
     refine ⟨⟨trivial, k + 1, by go_num, by omega, by omega, ?_⟩, by simp [intOf]; omega⟩
     show ∀ j, j < k + 1 → (M.getD j ⟨#[]⟩).size ≤ 60
     intro j hj
     by_cases hjk : j = k
     ·subst hjk; rw [HY.out]; omega
     ·exact hs.out j (by omega)
   ·have hk3 : k = 13 := by omega
    go_wp2_with fail
    go_ret
    exact ⟨⟨_, rfl, fun h => by simp at h; omega⟩, rfl⟩
  ·have hke : k = M.length := by omega
   go_wp2_with fail
   go_ret
   refine ⟨⟨_, rfl, fun h => ⟨by simp at h; omega, fun s hsM => ?_⟩⟩, rfl⟩
   obtain ⟨j, hj, rfl⟩ := List.getElem_of_mem hsM
   have := hs.out j (by omega)
   simpa [List.getD_eq_getElem?_getD, hj] using this
end Go.Proofs.YtgaihekapakoeaaGreatDoor
namespace Go.Proofs.YtgaihekapakoeaaGreatDoor
open Go.RowKit


set_option maxRecDepth 100000

theorem IL.tail {w : World} {B b off c : Nat} {M : List In} (h : IL w B (some ⟨b, off, none⟩) c M) (j : Nat) (hj : j < M.length) : IL w B (some ⟨b, off + j * 6, none⟩) (c - j) (M.drop j) := by
 have h1 := h.le
 have h2 := h.cap
 refine ⟨by rw [List.length_drop]; omega, by omega, fun h0 => ?_⟩
 obtain ⟨b', o', e, hb, hat⟩ := h.at_ (by omega)
 simp only [Option.some.injEq, Addr.mk.injEq, and_true] at e
 obtain ⟨rfl, rfl⟩ := e
 refine ⟨_, _, rfl, hb, fun i hi => ?_⟩
 rw [List.length_drop] at hi
 have := hat (j + i) (by omega)
 rw [show off + j * 6 + i * 6 = off + (j + i) * 6 by omega]
 have e2 : (M.drop j).getD i zeroI = M.getD (j + i) zeroI := by simp [List.getD_eq_getElem?_getD]
 rw [e2]
 exact this

end Go.Proofs.YtgaihekapakoeaaGreatDoor
namespace Go.Proofs.YtgaihekapakoeaaGreatDoor
open Go.RowKit


set_option maxRecDepth 100000

theorem TL.own {w : World} {base c : Nat} {A : Option Addr} {M : List ByteArray} (h : w.ownsRow base 9 1 (.slice A M.length c) M.length (M.map Value.string)) : TL w w.heap.size A c M := by
 rcases h.2 with ⟨h1, h2⟩ | ⟨g, cap, cur, h1, hb, hg, hn, hm, hs⟩
 ·injection h1 with h3 h4 h5
  exact ⟨by omega, by subst h5; unfold maxLen; omega, fun h0 => absurd h0 (by omega)⟩
 ·injection h1 with h3 h4 h5
  subst h3
  have hlt := (h.lt g rfl).2
  refine ⟨by omega, by omega, fun h0 => ⟨g, 0, rfl, hlt, fun i hi => ?_⟩⟩
  rw [h.cellAt _ (by omega), Nat.zero_add]
  simp [List.getD_eq_getElem?_getD, hi]
theorem text_own_shape {w : World} {base n : Nat} {v : Value} {xs : List Value} (h : w.ownsRow base 9 1 v n xs) : ∃ A c, v = .slice A n c := by
 rcases h.2 with ⟨h1, h2⟩ | ⟨g, cap, cur, h1, _⟩
 ·exact ⟨none, 0, by rw [h1, h2]⟩
 ·exact ⟨_, _, h1⟩
end Go.Proofs.YtgaihekapakoeaaGreatDoor
namespace Go.Proofs.YtgaihekapakoeaaGreatDoor
open Go.RowKit


set_option maxRecDepth 100000

theorem run_append_texts (w : World) (ty : TypeId) (base : Nat) (v : Value) (Ms : List ByteArray) (hown : w.ownsRow base 9 1 v Ms.length (Ms.map Value.string))
  (A : Option Addr) (c : Nat) (Ns : List ByteArray) (hN : TL w w.heap.size A c Ns) (hne : 0 < Ns.length) (b1 : Ms.length + Ns.length ≤ 1000000) (hbase : base ≤ w.heap.size) :
  ∃ v' w', (Builtin.append_ #[30, 30] ty #[v, .slice A Ns.length c]).run Tryz.prog w = .ok v' w' ∧ w'.ownsRow base 9 1 v' (Ms ++ Ns).length ((Ms ++ Ns).map Value.string) ∧ w.grownBy w' v.ownBlock := by
 obtain ⟨i0, hi, hz0, hz1, hz2⟩ := info_parts info_text
 obtain ⟨b, o, rfl, hb, hat⟩ := hN.at_ hne
 have hc : ∀ j u, (Ns.map Value.string)[j]? = some u → w.cell? ((⟨b, o, none⟩ : Addr).add j) = some u := by
  intro j u hu
  have hj : j < Ns.length := by
   have := (List.getElem?_eq_some_iff.1 hu).1
   simpa using this
  have hadd : (⟨b, o, none⟩ : Addr).add j = ⟨b, o + j, none⟩ := by unfold Addr.add; split <;> simp_all
  rw [hadd, hat j hj, ← hu]
  simp [List.getD_eq_getElem?_getD, hj]
 obtain ⟨v', w', hrun, r1, r2, _⟩ := run_append_own (P := Tryz.prog) w base 30 ty 9 i0 _ 1 16 Tryz.underlying30 hi hz0 hz1 hz2 rfl (by decide) _ Ms.length (Ms.map Value.string) hown ⟨b, o, none⟩ Ns.length c (Ns.map Value.string) (by simp) hc (fun u hu => by obtain ⟨s, _, rfl⟩ := List.mem_map.1 hu; rfl) (by unfold maxLen; omega) (by omega) hbase
 refine ⟨v', w', hrun, ?_, r2⟩
 rw [List.length_append, List.map_append]
 exact r1
end Go.Proofs.YtgaihekapakoeaaGreatDoor
namespace Go.Proofs.YtgaihekapakoeaaGreatDoor
open Go.RowKit


set_option maxRecDepth 100000

theorem run_append_texts_any (w : World) (ty : TypeId) (base : Nat) (v : Value) (Ms : List ByteArray) (hown : w.ownsRow base 9 1 v Ms.length (Ms.map Value.string))
  (A : Option Addr) (c : Nat) (Ns : List ByteArray) (hN : TL w w.heap.size A c Ns) (hA : (A = none ∧ c = 0 ∧ Ns = []) ∨ ∃ b o, A = some ⟨b, o, none⟩) (b1 : Ms.length + Ns.length ≤ 1000000) (hbase : base ≤ w.heap.size) :
  ∃ v' w', (Builtin.append_ #[30, 30] ty #[v, .slice A Ns.length c]).run Tryz.prog w = .ok v' w' ∧ w'.ownsRow base 9 1 v' (Ms ++ Ns).length ((Ms ++ Ns).map Value.string) ∧ w.grownBy w' v.ownBlock := by
 rcases hA with ⟨rfl, rfl, rfl⟩ | ⟨b, o, rfl⟩
 ·obtain ⟨i0, hi, hz0, hz1, hz2⟩ := info_parts info_text
  refine ⟨v, w, run_append_owned_none (P := Tryz.prog) (w := w) base 30 ty 9 i0 1 Tryz.underlying30 hi v Ms.length _ hown, by simpa using hown, ⟨rfl, rfl, rfl, Nat.le_refl _, fun _ _ _ => rfl⟩⟩
 ·rcases Nat.eq_zero_or_pos Ns.length with h0 | h0
  ·obtain rfl : Ns = [] := List.eq_nil_of_length_eq_zero h0
   obtain ⟨i0, hi, hz0, hz1, hz2⟩ := info_parts info_text
   obtain ⟨v', w', hrun, r1, r2, _⟩ := run_append_own (P := Tryz.prog) w base 30 ty 9 i0 _ 1 16 Tryz.underlying30 hi hz0 hz1 hz2 rfl (by decide) _ Ms.length (Ms.map Value.string) hown ⟨b, o, none⟩ 0 c [] (by simp) (fun j u hu => by simp at hu) (fun u hu => by cases hu) (by unfold maxLen; simp at b1; omega) (by simp at b1; omega) hbase
   exact ⟨v', w', hrun, by simpa using r1, r2⟩
  ·exact run_append_texts w ty base v Ms hown _ c Ns hN h0 b1 hbase
theorem TL.sub {w : World} {B b o c : Nat} {M : List ByteArray} (h : TL w B (some ⟨b, o, none⟩) c M) (p n : Nat) (hn : p + n ≤ M.length) : TL w B (some ⟨b, o + p, none⟩) (c - p) ((M.drop p).take n) := by
 have h1 := h.le
 have h2 := h.cap
 have hlen : ((M.drop p).take n).length = n := by rw [List.length_take, List.length_drop]; omega
 refine ⟨by rw [hlen]; omega, by omega, fun h0 => ?_⟩
 obtain ⟨b', o', e, hb, hat⟩ := h.at_ (by omega)
 simp only [Option.some.injEq, Addr.mk.injEq, and_true] at e
 obtain ⟨rfl, rfl⟩ := e
 refine ⟨_, _, rfl, hb, fun i hi => ?_⟩
 rw [hlen] at hi
 have := hat (p + i) (by omega)
 rw [show o + p + i = o + (p + i) by omega, this]
 simp [List.getD_eq_getElem?_getD, List.getElem?_take, hi]
end Go.Proofs.YtgaihekapakoeaaGreatDoor
namespace Go.Proofs.YtgaihekapakoeaaGreatDoor
open Go.RowKit


set_option maxRecDepth 100000

end Go.Proofs.YtgaihekapakoeaaGreatDoor
