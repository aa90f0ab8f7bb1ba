
/- MergeNames. -/
import Derived.Test.YtcmaehgeifogaaaK16
namespace Go.Proofs.Ytcmaehgeifogaaa
open Go.RowKit
set_option linter.unusedSimpArgs false
set_option linter.unusedVariables false

theorem at_agg (t s : Int) (w : World) : Calls Try.prog 9 #[.int .i64 t, .int .i64 s] w fun e w' => e = .returned (.agg #[.int .i64 t, .int .i64 1, .int .i64 s, .int .i64 1, .int .i64 0, .int .i64 0]) ∧ Below w.heap.size w w' := at_any t s w

abbrev oD : Obj := .cells #[.int .i64 3, .int .i64 1, .int .i64 0, .int .i64 1, .int .i64 0, .int .i64 0, .int .i64 8, .int .i64 1, .int .i64 1, .int .i64 1, .int .i64 0, .int .i64 0] 23
def lD : List Ev := [atE 3 0, atE 8 1]
theorem new_ls (w : World) (l : List Ev) (o : Obj) (ho : o = .cells (rowV l).toArray 23) (hm : l.length ≤ maxLen) : LsAt (w.alloc o) (w.heap.size + 1) (lsOf w.heap.size l) := by
  subst ho
  exact row_ls (heap_alloc_new w _) hm

theorem twice_ls {w : World} {g1 g3 : Nat} (h1 : w.heap[g1]? = some oA) (h3 : w.heap[g3]? = some (.cells #[.slice (some ⟨g1, 0, none⟩) 2 2, .slice (some ⟨g1, 0, none⟩) 2 2] 25)) :
    LL w w.heap.size (some ⟨g3, 0, none⟩) 2 [lsOf g1 lA, lsOf g1 lA] := by
  have b1 := (Array.getElem?_eq_some_iff.1 h1).1
  have b3 := (Array.getElem?_eq_some_iff.1 h3).1
  refine ⟨Nat.le_refl _, by decide, fun _ => ⟨g3, 0, rfl, b3, fun i hi => ?_⟩, fun x hx => ?_⟩
  · rw [cell_of_row w g3 _ _ _ _ h3]
    match i, hi with
    | 0, _ | 1, _ => rfl
  · rcases List.mem_cons.1 hx with rfl | hx
    · exact (row_ls (l := lA) h1 (by decide)).more (by omega)
    · obtain rfl := List.mem_singleton.1 hx
      exact (row_ls (l := lA) h1 (by decide)).more (by omega)
theorem la_later {w w' : World} (h : Below (w.heap.size + 1) (w.alloc oA) w') (hs : w.heap.size < w'.heap.size) : LsAt w' w'.heap.size (lsOf w.heap.size lA) :=
  ((row_ls (l := lA) (heap_alloc_new w oA) (by decide)).keep h.block).more hs

set_option maxRecDepth 100000 in
set_option maxHeartbeats 4000000 in
theorem walk_MergeNames (w : World) : Calls Try.prog 3 #[] w fun e w' => e = .returned (.bool true) ∧ Below w.heap.size w w' := by
  go_enter Try.func3, Try.ntmps3
  go_wp2_with fail
  refine (at_agg 3 0 _).mono ?_
  rintro e w1 ⟨rfl, hb1⟩
  go_wp2_with fail
  refine (at_agg 9 1 _).mono ?_
  rintro e w2 ⟨rfl, hb2⟩
  have hB2 := hb1.trans (hb2.mono hb1.size)
  clear hb1 hb2
  have hLL := twice_ls (w := (w2.alloc oA).alloc (.cells #[.slice (some ⟨w2.heap.size, 0, none⟩) 2 2, .slice (some ⟨w2.heap.size, 0, none⟩) 2 2] 25)) (g1 := w2.heap.size) (g3 := w2.heap.size + 1)
    ((((Below.refl _ (w2.alloc oA)).alloc (B := (w2.alloc oA).heap.size) (Nat.le_refl _) _).block w2.heap.size (by simp)).trans (heap_alloc_new w2 oA))
    (by have := heap_alloc_new (w2.alloc oA) (.cells #[.slice (some ⟨w2.heap.size, 0, none⟩) 2 2, .slice (some ⟨w2.heap.size, 0, none⟩) 2 2] 25); simpa using this)
  have hm := merge_any _ 2 _ _ hLL (by simp)
  have HM1 := Lib.hid hm
  unfold oA at HM1
  clear hLL hm
  go_wp2_with fail
  refine HM1.out.mono ?_
  rintro e w3 hmt
  obtain ⟨hb3, rfl⟩ := merge_twice hmt
  have hC3 : Below (w2.heap.size + 1) (w2.alloc oA) w3 := ((Below.refl _ _).alloc (by simp) _).trans (hb3.mono (by simp))
  have hB3 : Below w.heap.size w w3 := (hB2.alloc hB2.size oA).trans (hC3.mono (by have := hB2.size; omega))
  have hs3 : w2.heap.size + 1 < w3.heap.size := by have := hb3.size; simp at this; omega
  clear HM1 hmt hb3 hB2
  go_wp2_with fail
  refine (merge_any w3 0 none [] (no_ls _ _) (by decide)).mono ?_
  rintro e w4 hmt
  obtain ⟨hb4, g, c, rfl⟩ := merge_none hmt
  have hC4 := hC3.trans (hb4.mono (by omega))
  have hB4 := hB3.trans (hb4.mono hB3.size)
  have hs4 : w2.heap.size + 1 < w4.heap.size := by have := hb4.size; omega
  clear hmt hb4 hC3 hB3 hs3
  go_wp2_with fail
  refine (lives4_any w4).mono ?_
  rintro e w5 ⟨rfl, hb5⟩
  have hC5 := hC4.trans (hb5.mono (by omega))
  have hB5 := hB4.trans (hb5.mono hB4.size)
  have hs5 : w2.heap.size + 1 < w5.heap.size := by have := hb5.size; omega
  clear hb5 hC4 hB4 hs4
  go_wp2_with fail
  refine (at_agg 3 0 _).mono ?_
  rintro e w6 ⟨rfl, hb6⟩
  have hC6 := hC5.trans (hb6.mono (by omega))
  have hB6 := hB5.trans (hb6.mono hB5.size)
  have hs6 : w2.heap.size + 1 < w6.heap.size := by have := hb6.size; omega
  clear hb6 hC5 hB5 hs5
  go_wp2_with fail
  refine (at_agg 8 1 _).mono ?_
  rintro e w7 ⟨rfl, hb7⟩
  have hC7 := hC6.trans (hb7.mono (by omega))
  have hB7 := hB6.trans (hb7.mono hB6.size)
  have hs7 : w2.heap.size + 1 < w7.heap.size := by have := hb7.size; omega
  clear hb7 hC6 hB6 hs6
  have hC8 := hC7.alloc (by omega) oD
  have hB8 := hB7.alloc hB7.size oD
  have hs8 : w2.heap.size + 1 < (w7.alloc oD).heap.size := by simp; omega
  have hx8 := la_later hC8 (by omega)
  have hy8 : LsAt (w7.alloc oD) (w7.alloc oD).heap.size (lsOf w7.heap.size lD) := by
    have := new_ls w7 lD oD rfl (by decide)
    simpa using this
  have hd := differ_any _ _ _ hx8 hy8
  rw [show differL (lsOf w2.heap.size lA).l (lsOf w7.heap.size lD).l 0 = 1 by
    show differL lA lD 0 = 1
    decide +kernel] at hd
  have HD := Lib.hid hd
  have HC8 := Lib.hid hC8
  have HB8 := Lib.hid hB8
  clear hd hx8 hy8 hC7 hB7 hC8 hB8
  unfold lsOf Ls.val oD at HD
  go_wp2_with fail
  refine HD.out.mono ?_
  rintro e w9 ⟨rfl, hb9⟩
  have hC9 := HC8.out.trans (hb9.mono (by simp; omega))
  have hB9 := HB8.out.trans (hb9.mono HB8.out.size)
  have hs9 : w2.heap.size + 1 < w9.heap.size := by have := hb9.size; simp at this; omega
  clear HD hb9
  have h1 := alone_any w9 _ 1 (la_later hC9 (by omega))
  rw [show aloneB (lsOf w2.heap.size lA).l 1 = true by
    show aloneB lA 1 = true
    decide +kernel] at h1
  have H1 := Lib.hid h1
  unfold lsOf Ls.val at H1
  clear h1
  go_wp2_with fail
  refine H1.out.mono ?_
  rintro e w10 ⟨rfl, hb10⟩
  have hC10 := hC9.trans (hb10.mono (by omega))
  have hB10 := hB9.trans (hb10.mono hB9.size)
  have hs10 : w2.heap.size + 1 < w10.heap.size := by have := hb10.size; omega
  clear hb10 hC9 hB9 hs9 H1
  have h1 := alone_any w10 _ 3 (la_later hC10 (by omega))
  rw [show aloneB (lsOf w2.heap.size lA).l 3 = false by
    show aloneB lA 3 = false
    decide +kernel] at h1
  have H1 := Lib.hid h1
  unfold lsOf Ls.val at H1
  clear h1
  go_wp2_with fail
  refine H1.out.mono ?_
  rintro e w11 ⟨rfl, hb11⟩
  have hB11 := hB10.trans (hb11.mono hB10.size)
  go_wp2_with fail
  go_ret
  exact ⟨rfl, hB11⟩
end Go.Proofs.Ytcmaehgeifogaaa
