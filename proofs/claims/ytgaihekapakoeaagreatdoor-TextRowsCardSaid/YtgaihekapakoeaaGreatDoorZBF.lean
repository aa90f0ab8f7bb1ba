/-  -/
import Derived.Test.YtgaihekapakoeaaGreatDoorZBE
namespace Go.Proofs.YtgaihekapakoeaaGreatDoor
open Go.RowKit
set_option linter.unusedVariables false
set_option linter.unusedSimpArgs false
set_option maxRecDepth 100000

/-- The texts of instructions. -/
def txs (M : List In) : List ByteArray := M.map fun y => ⟨(ofTx y).toArray⟩
theorem rowT_txs (M : List In) : rowT (M.map ofTx) = (txs M).map Value.string := by simp [rowT, txs]
theorem txs_len (M : List In) : (txs M).length = M.length := by simp [txs]
theorem make_list : ∀ (k : Nat) (l : List Int), l.length ≤ k → AllB l → makeI (txs (allI l).1) = some (l.take (allI l).2) := by
  intro k
  induction k with
  | zero =>
    intro l hl hb
    have : l = [] := List.eq_nil_of_length_eq_zero (by omega)
    subst this
    rw [show allI [] = ([], 0) from by decide +kernel]
    rfl
  | succ k ih =>
    intro l hl hb
    cases h : ofI l with
    | none => rw [allI_none h]; rfl
    | some y =>
      have hg := of_got hb h
      obtain ⟨n, hn, n1, n2, n3, hbY⟩ := hg.nat
      rw [allI_some hb h, hn, Int.toNat_natCast]
      have hr := ih (l.drop n) (by rw [List.length_drop]; omega) (hb.drop _)
      have hy : readI ⟨(ofTx y).toArray⟩ = some y := by
        unfold ofTx
        rw [if_pos hg.may]
        exact readI_text hg.wf hg.may
      show makeI (⟨(ofTx y).toArray⟩ :: txs (allI (l.drop n)).1) = _
      rw [makeI_cons, hy, hr]
      simp only
      rw [hbY, List.take_add]
/-- What a text in the midst does to them. -/
theorem make_with {a b : List ByteArray} {s : ByteArray} {x : In} {p q : List Int} (ha : makeI a = some p) (hb : makeI b = some q) (hs : readI s = some x) : makeI (a ++ s :: b) = some (p ++ (bytesI x ++ q)) := by
  rw [makeI_add, ha, makeI_cons, hs, hb]
theorem make_parts {a b : List ByteArray} {r : List Int} (h : makeI (a ++ b) = some r) : ∃ p q, makeI a = some p ∧ makeI b = some q ∧ r = p ++ q := by
  rw [makeI_add] at h
  cases ha : makeI a with
  | none => rw [ha] at h; cases h
  | some p =>
    cases hb : makeI b with
    | none => rw [ha, hb] at h; cases h
    | some q =>
      rw [ha, hb] at h
      injection h with h
      exact ⟨p, q, rfl, rfl, h.symm⟩
theorem bytesI_pos {x : In} (hm : x.may = true) : 0 < (bytesI x).length := by
  have h1 := bytesI_length hm
  have h2 : x.n = lenI x.s x.x x.o := (may_one hm).2.1
  have h3 := (lenI_in x.s x.x x.o).2.1
  omega

set_option maxHeartbeats 4000000 in
/-- The kit's comparison of two lists of the same texts. -/
theorem texts_same (A1 A2 : Option Addr) (c1 c2 n1 n2 : Nat) (Z : List ByteArray) (w : World) (hn1 : n1 = Z.length) (hn2 : n2 = Z.length) (h1 : TL w w.heap.size A1 c1 Z) (h2 : TL w w.heap.size A2 c2 Z) (hl : Z.length ≤ 1000) :
    Calls Tryz.prog 18 #[.slice A1 n1 c1, .slice A2 n2 c2] w fun e w' => e = .returned (.bool true) ∧ Below w.heap.size w w' := by
  subst hn1 hn2
  have H1 := Lib.hid h1
  have H2 := Lib.hid h2
  clear h1 h2
  go_enter Tryz.func18, Tryz.ntmps18
  go_wp2_with fail
  go_loopw [5] (fun i wr => ∃ k : Nat, k ≤ Z.length ∧ i = .int .i64 k ∧ Below w.heap.size w wr) (fun i _ => Z.length - (intOf i).toNat)
  case atStart => exact ⟨0, Nat.zero_le _, rfl, Below.refl _ _⟩
  case round =>
    obtain ⟨k, hk, rfl, hb⟩ := hrel
    by_cases hlt : k < Z.length
    · obtain ⟨b1, o1, rfl, hb1, ha1⟩ := H1.out.at_ (by omega)
      obtain ⟨b2, o2, rfl, hb2, ha2⟩ := H2.out.at_ (by omega)
      have u1 := (World.cell?_of_block (hb.block b1 hb1)).trans (ha1 k hlt)
      have u2 := (World.cell?_of_block (hb.block b2 hb2)).trans (ha2 k hlt)
      generalize Z.getD k ⟨#[]⟩ = y at *
      have l1 : b1 < wr.heap.size := Nat.lt_of_lt_of_le hb1 hb.size
      have l2 : b2 < wr.heap.size := Nat.lt_of_lt_of_le hb2 hb.size
      have v1 := fun p : M.Of (M.Base wr) => (World.cell?_of_block (p.ok.2.block b1 l1)).trans u1
      have v2 := fun p : M.Of (M.Base wr) => (World.cell?_of_block (p.ok.2.block b2 l2)).trans u2
      clear ha1 ha2 u1 u2 l1 l2
      go_upto_region 6 with fail
      refine M.region_ (by kernel_rfl) ?_
      refine M.seg_ [0, 1, 2, 3, 4, 5, 6, 7, 8] 0 _ _ (M.Base.refl _) (by kernel_rfl) (by kernel_rfl) (by kernel_rfl) (by simp only [pickOps, mask, plain, List.getElem?_toArray, List.getElem?_cons_zero, List.getElem?_cons_succ, if_true, Bool.false_eq_true, if_false]; rfl) ?_
      repeat (go_big_quiet_step (fail))
      refine wpQuiet_nil ?_
      refine M.end_ (by kernel_rfl) ?_
      intro wc sc
      have hbc := hb.trans (sc.2.mono hb.size)
      clear sc
      go_wp2_with fail
      exact ⟨⟨k + 1, by omega, by go_num, hbc⟩, by simp [intOf]; omega⟩
    · have hke : k = Z.length := by omega
      subst hke
      go_wp2_with fail
      go_ret
      exact ⟨rfl, hb⟩
end Go.Proofs.YtgaihekapakoeaaGreatDoor
