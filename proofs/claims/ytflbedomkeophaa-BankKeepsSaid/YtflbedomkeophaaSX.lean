
/- Package bank: numbers, patchBytes, Bytes, walked. -/
import Derived.Test.YtflbedomkeophaaSW
import Derived.Test.YtflbedomkeophaaD
namespace Go.Proofs.Ytflbedomkeophaa
open Go.RowKit
set_option linter.unusedSimpArgs false
set_option linter.unusedVariables false
set_option maxRecDepth 100000

def numsL (ns : List Nat) : List Int := ns.flatMap numB
theorem numsL_all (ns : List Nat) : AllB (numsL ns) := fun n hn => by
  obtain ⟨x, _, hx⟩ := List.mem_flatMap.1 hn
  exact numB_allB x n hx
theorem numsL_len (ns : List Nat) : (numsL ns).length ≤ ns.length * 9 := by
  induction ns with
  | nil => exact Nat.le_refl _
  | cons x t ih =>
    unfold numsL at ih ⊢
    rw [List.flatMap_cons, List.length_append]
    have := (numB_length x).2
    simp only [List.length_cons]
    omega
theorem numsL_take (ns : List Nat) (k : Nat) (h : k < ns.length) : numsL (ns.take (k + 1)) = numsL (ns.take k) ++ numB ns[k] := by
  unfold numsL
  rw [List.take_succ_eq_append_getElem h, List.flatMap_append]
  simp
set_option maxHeartbeats 2000000 in
theorem numbers_any (w : World) (g c n : Nat) (ns : List Nat) (hn : n = ns.length) (h10 : ns.length ≤ 10) (hg : g < w.heap.size) (hc : ∀ i (h : i < ns.length), w.cell? ⟨g, i, none⟩ = some (.int .i64 (ns[i] : Nat))) (hs : ∀ x ∈ ns, x < 1099511627776) :
    Calls Try.prog 32 #[.slice (some ⟨g, 0, none⟩) n c] w (Fresh w.heap.size w (numsL ns)) := by
  subst hn
  have HC := Lib.hid hc
  have HS := Lib.hid hs
  clear hc hs
  go_enter Try.func32, Try.ntmps32
  go_wp2_with fail
  go_loopw [3, 8] (fun v i wr => ∃ (k : Nat) (A : Option Addr) (cc : Nat), i = .int .i64 k ∧ k ≤ ns.length ∧ v = .slice A (numsL (ns.take k)).length cc ∧ Hid (OB wr w.heap.size A cc (numsL (ns.take k))) ∧ Hid (Below w.heap.size w wr)) (fun _ i _ => ns.length - (intOf i).toNat)
  case atStart => exact ⟨0, none, 0, rfl, by omega, rfl, Lib.hid (OB.nil _ _), Lib.hid (Below.refl _ _)⟩
  case round =>
    rename World => wr
    obtain ⟨k, A, cc, rfl, hk, rfl, HO, HB⟩ := hrel
    by_cases hlt : k < ns.length
    · have d1 : wr.cell? ⟨g, k, none⟩ = some (.int .i64 (ns[k] : Nat)) := (HB.out.cell hg).trans (HC.out k hlt)
      have hb := HS.out ns[k] (List.getElem_mem hlt)
      have HT := Lib.hid (numsL_take ns k hlt)
      have hl := numsL_len (ns.take k)
      have htk : (ns.take k).length ≤ 10 := by rw [List.length_take]; omega
      generalize ns[k] = x at *
      generalize numsL (ns.take k) = L at *
      have HN := Lib.hid (number_any A _ cc L x wr wr.heap.size rfl HO.out.rb (Nat.le_refl _) (by omega) (by omega))
      go_wp2_with (go_at_call 43; (with_reducible refine HN.out.mono ?_); rintro e w2 ⟨A2, c2, rfl, ho2, hb2⟩)
      have hws := HB.out.size
      exact ⟨⟨k + 1, A2, c2, by go_num, by omega, by rw [HT.out, List.length_append], by rw [HT.out]; exact Lib.hid (ho2.mono hws), Lib.hid (HB.out.trans (hb2.mono hws))⟩, by simp [intOf]; omega⟩
    · obtain rfl : k = ns.length := by omega
      rw [List.take_length] at HO ⊢
      go_wp2_with fail
      go_ret
      exact ⟨A, cc, rfl, HO.out, HB.out⟩

/-- A patch's bytes. -/
def ppB (x : PP) : List Int := numsL [x.1, x.2.1] ++ (numB x.2.2.length ++ x.2.2)
set_option maxHeartbeats 4000000 in
theorem patchbytes_any (w : World) (x : Pt) (hb : 0 ≤ x.b ∧ x.b < 1000000) (hp : 0 ≤ x.p ∧ x.p < 1000000) (hr : RB w w.heap.size x.A x.c x.l) (hl : x.l.length ≤ 1048576) :
    Calls Try.prog 33 #[x.val] w (Fresh w.heap.size w (ppB x.pp)) := by
  obtain ⟨b, p, A, c, l⟩ := x
  dsimp only at hb hp hr hl
  obtain ⟨b, rfl⟩ : ∃ n : Nat, b = (n : Int) := ⟨b.toNat, by omega⟩
  obtain ⟨p, rfl⟩ : ∃ n : Nat, p = (n : Int) := ⟨p.toNat, by omega⟩
  have hpp : ppB (⟨(b : Int), (p : Int), A, c, l⟩ : Pt).pp = numsL [b, p] ++ (numB l.length ++ l) := by unfold ppB Pt.pp; simp
  rw [hpp]
  have HR := Lib.hid hr
  clear hpp hr
  unfold Pt.val
  obtain ⟨W, hW⟩ : ∃ W, (w.alloc (.cells #[.int .i64 (b : Nat), .int .i64 (p : Nat), .slice A l.length c] 29)).alloc (.cells #[.int .i64 (b : Nat), .int .i64 (p : Nat)] 3) = W := ⟨_, rfl⟩
  have hbW : Below w.heap.size w W := by rw [← hW]; exact ((Below.refl _ _).alloc (Nat.le_refl _) _).alloc (by simp) _
  have hsW : W.heap.size = w.heap.size + 2 := by rw [← hW]; simp
  have hpat : W.heap[w.heap.size]? = some (.cells #[.int .i64 (b : Nat), .int .i64 (p : Nat), .slice A l.length c] 29 (0, 0)) := by rw [← hW, heap_alloc_old _ _ (by simp)]; exact heap_alloc_new _ _
  have hrow : W.heap[w.heap.size + 1]? = some (.cells #[.int .i64 (b : Nat), .int .i64 (p : Nat)] 3 (0, 0)) := by rw [← hW]; exact heap_alloc2_new _ _ _
  have hnum := numbers_any W.drew (w.heap.size + 1) 2 2 [b, p] rfl (show 2 ≤ 10 by decide) (by simp [hsW]) (fun i hi => by
    show W.cell? _ = _
    rw [cell_of_row _ _ _ _ _ _ hrow]
    match i, hi with
    | 0, _ => rfl
    | 1, _ => rfl) (fun x hx => by simp at hx; omega)
  have HN := Lib.hid hnum
  have HBW := Lib.hid hbW
  have HPat := Lib.hid hpat
  clear hbW hpat hrow hnum
  have hnl := numsL_len [b, p]
  have HLn := Lib.hid (show (numsL [b, p]).length ≤ 18 from hnl)
  clear hnl
  generalize numsL [b, p] = N at *
  go_enter Try.func33, Try.ntmps33
  go_upto_region 1 with fail
  have d2 : W.cell? ⟨w.heap.size, 2, none⟩ = some (.slice A l.length c) := by rw [cell_of_row _ _ _ _ _ _ HPat.out]; rfl
  have hN7 : N.length ≤ 70368744177664 := by have := HLn.out; omega
  go_region_law (go_simp; first
    | (go_at_call 32; (with_reducible refine HN.out.mono ?_); rintro e w1 ⟨A1, c1, rfl, ho1, hb1⟩; have hbw1 : Below w.heap.size w w1 := HBW.out.trans (Below.mono (⟨hb1.os, hb1.tape, hb1.output, hb1.size, hb1.block⟩ : Below W.heap.size W w1) (by omega)); have HR1 := Lib.hid ((HR.out.below hbw1).more hbw1.size); have HBL := Lib.hid (block_any A1 A _ c1 _ c N l w1 w1.heap.size rfl rfl ho1.rb HR1.out (Nat.le_refl _) hN7 hl); have y2 : w1.cell? ⟨w.heap.size, 2, none⟩ = some (.slice A l.length c) := (World.cell?_of_block (hb1.block _ (by simp; omega))).trans d2)
    | (go_at_call 44; (with_reducible refine HBL.out.mono ?_); rintro e w2 ⟨A2, c2, rfl, ho2, hb2⟩))
  all_goals
    go_wp2_with fail
    go_ret
    exact ⟨A2, c2, (by simp only [List.length_append]; rfl), ho2.mono hbw1.size, hbw1.trans (hb2.mono hbw1.size)⟩
end Go.Proofs.Ytflbedomkeophaa
