/-  -/
import Derived.Test.YtgaihekapakoeaaGreatDoorJ27
set_option linter.unusedVariables false
set_option linter.unusedSimpArgs false
namespace Go.Proofs.YtgaihekapakoeaaGreatDoor
open Go.RowKit


set_option maxRecDepth 100000

theorem idx_len (x : Int) : (tk (nth indexL3 x)).length ≤ 2 := by
 have h : ∀ l ∈ indexL3, l.length ≤ 2 := by decide
 unfold nth tk
 rw [List.length_map, List.getD_eq_getElem?_getD]
 cases e : indexL3[x.toNat]? with
 | none => simp
 | some l => exact h l (List.mem_of_getElem? e)
def TB (b : World) (N : Nat) (row : Array Value) : World → Prop := fun w => M.Base b w ∧ N < w.heap.size ∧ w.heap[N]? = some (.cells row 9)
theorem TB.closed {b : World} {N : Nat} {row : Array Value} : M.Closed (TB b N row) := fun w w1 h hs => ⟨M.closed_base b _ _ h.1 hs, Nat.lt_of_lt_of_le h.2.1 hs.size, (hs.block N h.2.1 (fun h => h)).trans h.2.2⟩
theorem TB.new {b w : World} {row : Array Value} (h : M.Base b w) : TB b w.heap.size row (w.alloc (.cells row 9)) :=
 ⟨h.below ((Below.refl _ _).alloc h.1 _), by simp, heap_alloc_new w _⟩
theorem InW.on {b w : World} {n : Nat} {i : In} (h : InW b n i) (hw : M.Base b w) : InW w n i := h.keep (hw.2.block _ h.lt)
theorem TB.cell {b w : World} {N : Nat} {row : Array Value} (h : TB b N row w) (k : Nat) (v : Value) (hv : row[k]? = some v) : w.cell? ⟨N, k, none⟩ = some v := by
 unfold World.cell?
 rw [h.2.2]
 simpa using hv

set_option maxHeartbeats 8000000 in
theorem say_byte0 (i : In) (h0 : 0 ≤ i.x) (h1 : i.x < 3) (hN : Nums i.d i.m) : SayR 80 #[i.val, .int .i64 0] i.d i.m (byteR i.s i.x i.o 0) := by
 intro w
 obtain ⟨s, x, o, d, m, n⟩ := i
 simp only at h0 h1 hN ⊢
 obtain ⟨w1, hw1⟩ : ∃ w1, w.alloc (inO ⟨s, x, o, d, m, n⟩) = w1 := ⟨_, rfl⟩
 have hb1 : Below w.heap.size w w1 := hw1 ▸ (Below.refl _ _).alloc (Nat.le_refl _) _
 have hr : InW w1 w.heap.size ⟨s, x, o, d, m, n⟩ := hw1 ▸ InW.laid w _
 have gs := hr.gs
 have gx := hr.gx
 have go := hr.go
 have gd := hr.gd
 have HR := z_ hr
 have HB := z_ hb1
 have hI := say_index ⟨s, x, o, d, m, n⟩ h0 h1
 simp only at hI
 obtain ⟨X, hX, hI⟩ := hI.named
 obtain ⟨Y, hY, hS⟩ := (say_disp d m hN.1 hN.2.1).named
 have hNd := fun w => r9_needs s x o w
 obtain ⟨D, hD⟩ : ∃ D, needD s x o = D := ⟨_, rfl⟩
 obtain ⟨k, hk⟩ : ∃ k, needN s x o = k := ⟨_, rfl⟩
 simp only [hD, hk] at hNd
 have HNd := z_ hNd
 unfold inO at hw1
 rw [in_val] at hI ⊢
 simp only at hw1 gs gx go gd hI ⊢
 unfold byteR
 rw [hD]
 clear hb1 hr hNd hk
 rw [if_neg (by decide), if_neg (by rintro ⟨h | h, -⟩ <;> cases h), ← rs_tk]
 clear hD
 go_enter Tryz.func80, Tryz.ntmps80
 go_wp2_with (first
  | (refine lr w.heap.size rfl rfl rfl HR.out ?_)
  | (go_at_call 47; (with_reducible refine (HNd.out _).mono ?_); rintro e w2 ⟨rfl, rfl⟩)
  | (go_at_call 123; (with_reducible refine (hI.out _).mono ?_); rintro e w2 ⟨rfl, hb2⟩))
 go_ret
 exact ⟨rfl, HB.out.alloc HB.out.size _⟩

set_option maxHeartbeats 8000000 in
theorem say_byte1 (i : In) (h0 : 0 ≤ i.x) (h1 : i.x < 3) (hN : Nums i.d i.m) : SayR 80 #[i.val, .int .i64 1] i.d i.m (byteR i.s i.x i.o 1) := by
 intro w
 obtain ⟨s, x, o, d, m, n⟩ := i
 simp only at h0 h1 hN ⊢
 obtain ⟨w1, hw1⟩ : ∃ w1, w.alloc (inO ⟨s, x, o, d, m, n⟩) = w1 := ⟨_, rfl⟩
 have hb1 : Below w.heap.size w w1 := hw1 ▸ (Below.refl _ _).alloc (Nat.le_refl _) _
 have hr : InW w1 w.heap.size ⟨s, x, o, d, m, n⟩ := hw1 ▸ InW.laid w _
 have gs := hr.gs
 have gx := hr.gx
 have go := hr.go
 have gd := hr.gd
 have HR := z_ hr
 have HB := z_ hb1
 have hI := say_index ⟨s, x, o, d, m, n⟩ h0 h1
 simp only at hI
 obtain ⟨X, hX, hI⟩ := hI.named
 obtain ⟨Y, hY, hS⟩ := (say_disp d m hN.1 hN.2.1).named
 have hNd := fun w => r9_needs s x o w
 obtain ⟨D, hD⟩ : ∃ D, needD s x o = D := ⟨_, rfl⟩
 obtain ⟨k, hk⟩ : ∃ k, needN s x o = k := ⟨_, rfl⟩
 simp only [hD, hk] at hNd
 have HNd := z_ hNd
 unfold inO at hw1
 rw [in_val] at hI ⊢
 simp only at hw1 gs gx go gd hI ⊢
 unfold byteR
 rw [hD]
 clear hb1 hr hNd hk
 rw [if_neg (by decide), if_neg (by rintro ⟨h | h, -⟩ <;> cases h), ← rs_tk]
 clear hD
 go_enter Tryz.func80, Tryz.ntmps80
 go_wp2_with (first
  | (refine lr w.heap.size rfl rfl rfl HR.out ?_)
  | (go_at_call 47; (with_reducible refine (HNd.out _).mono ?_); rintro e w2 ⟨rfl, rfl⟩)
  | (go_at_call 123; (with_reducible refine (hI.out _).mono ?_); rintro e w2 ⟨rfl, hb2⟩))
 go_ret
 exact ⟨rfl, HB.out.alloc HB.out.size _⟩

set_option maxHeartbeats 8000000 in
theorem say_byte2 (i : In) (h0 : 0 ≤ i.x) (h1 : i.x < 3) (hN : Nums i.d i.m) : SayR 80 #[i.val, .int .i64 2] i.d i.m (byteR i.s i.x i.o 2) := by
 intro w
 obtain ⟨s, x, o, d, m, n⟩ := i
 simp only at h0 h1 hN ⊢
 obtain ⟨w1, hw1⟩ : ∃ w1, w.alloc (inO ⟨s, x, o, d, m, n⟩) = w1 := ⟨_, rfl⟩
 have hb1 : Below w.heap.size w w1 := hw1 ▸ (Below.refl _ _).alloc (Nat.le_refl _) _
 have hr : InW w1 w.heap.size ⟨s, x, o, d, m, n⟩ := hw1 ▸ InW.laid w _
 have gs := hr.gs
 have gx := hr.gx
 have go := hr.go
 have gd := hr.gd
 have HR := z_ hr
 have HB := z_ hb1
 have hI := say_index ⟨s, x, o, d, m, n⟩ h0 h1
 simp only at hI
 obtain ⟨X, hX, hI⟩ := hI.named
 obtain ⟨Y, hY, hS⟩ := (say_disp d m hN.1 hN.2.1).named
 have hNd := fun w => r9_needs s x o w
 obtain ⟨D, hD⟩ : ∃ D, needD s x o = D := ⟨_, rfl⟩
 obtain ⟨k, hk⟩ : ∃ k, needN s x o = k := ⟨_, rfl⟩
 simp only [hD, hk] at hNd
 have HNd := z_ hNd
 unfold inO at hw1
 rw [in_val] at hI ⊢
 simp only at hw1 gs gx go gd hI ⊢
 unfold byteR
 rw [hD]
 clear hb1 hr hNd hk
 rw [if_neg (by decide), if_neg (by rintro ⟨h | h, -⟩ <;> cases h), ← rs_tk]
 clear hD
 go_enter Tryz.func80, Tryz.ntmps80
 go_wp2_with (first
  | (refine lr w.heap.size rfl rfl rfl HR.out ?_)
  | (go_at_call 47; (with_reducible refine (HNd.out _).mono ?_); rintro e w2 ⟨rfl, rfl⟩)
  | (go_at_call 123; (with_reducible refine (hI.out _).mono ?_); rintro e w2 ⟨rfl, hb2⟩))
 go_ret
 exact ⟨rfl, HB.out.alloc HB.out.size _⟩

set_option maxHeartbeats 8000000 in
theorem say_byte3 (i : In) (h0 : 0 ≤ i.x) (h1 : i.x < 3) (hN : Nums i.d i.m) : SayR 80 #[i.val, .int .i64 3] i.d i.m (byteR i.s i.x i.o 3) := by
 intro w
 obtain ⟨s, x, o, d, m, n⟩ := i
 simp only at h0 h1 hN ⊢
 obtain ⟨w1, hw1⟩ : ∃ w1, w.alloc (inO ⟨s, x, o, d, m, n⟩) = w1 := ⟨_, rfl⟩
 have hb1 : Below w.heap.size w w1 := hw1 ▸ (Below.refl _ _).alloc (Nat.le_refl _) _
 have hr : InW w1 w.heap.size ⟨s, x, o, d, m, n⟩ := hw1 ▸ InW.laid w _
 have gs := hr.gs
 have gx := hr.gx
 have go := hr.go
 have gd := hr.gd
 have HR := z_ hr
 have HB := z_ hb1
 have hI := say_index ⟨s, x, o, d, m, n⟩ h0 h1
 simp only at hI
 obtain ⟨X, hX, hI⟩ := hI.named
 obtain ⟨Y, hY, hS⟩ := (say_disp d m hN.1 hN.2.1).named
 have hNd := fun w => r9_needs s x o w
 obtain ⟨D, hD⟩ : ∃ D, needD s x o = D := ⟨_, rfl⟩
 obtain ⟨k, hk⟩ : ∃ k, needN s x o = k := ⟨_, rfl⟩
 simp only [hD, hk] at hNd
 have HNd := z_ hNd
 unfold inO at hw1
 rw [in_val] at hI ⊢
 simp only at hw1 gs gx go gd hI ⊢
 unfold byteR
 rw [hD]
 clear hb1 hr hNd hk
 rw [if_neg (by decide), if_neg (by rintro ⟨h | h, -⟩ <;> cases h), ← rs_tk]
 clear hD
 go_enter Tryz.func80, Tryz.ntmps80
 go_wp2_with (first
  | (refine lr w.heap.size rfl rfl rfl HR.out ?_)
  | (go_at_call 47; (with_reducible refine (HNd.out _).mono ?_); rintro e w2 ⟨rfl, rfl⟩)
  | (go_at_call 123; (with_reducible refine (hI.out _).mono ?_); rintro e w2 ⟨rfl, hb2⟩))
 go_ret
 exact ⟨rfl, HB.out.alloc HB.out.size _⟩

set_option maxHeartbeats 8000000 in
theorem say_byte7 (i : In) (h0 : 0 ≤ i.x) (h1 : i.x < 3) (hN : Nums i.d i.m) : SayR 80 #[i.val, .int .i64 7] i.d i.m (byteR i.s i.x i.o 7) := by
 intro w
 obtain ⟨s, x, o, d, m, n⟩ := i
 simp only at h0 h1 hN ⊢
 obtain ⟨w1, hw1⟩ : ∃ w1, w.alloc (inO ⟨s, x, o, d, m, n⟩) = w1 := ⟨_, rfl⟩
 have hb1 : Below w.heap.size w w1 := hw1 ▸ (Below.refl _ _).alloc (Nat.le_refl _) _
 have hr : InW w1 w.heap.size ⟨s, x, o, d, m, n⟩ := hw1 ▸ InW.laid w _
 have gs := hr.gs
 have gx := hr.gx
 have go := hr.go
 have gd := hr.gd
 have HR := z_ hr
 have HB := z_ hb1
 have hI := say_index ⟨s, x, o, d, m, n⟩ h0 h1
 simp only at hI
 obtain ⟨X, hX, hI⟩ := hI.named
 obtain ⟨Y, hY, hS⟩ := (say_disp d m hN.1 hN.2.1).named
 have hNd := fun w => r9_needs s x o w
 obtain ⟨D, hD⟩ : ∃ D, needD s x o = D := ⟨_, rfl⟩
 obtain ⟨k, hk⟩ : ∃ k, needN s x o = k := ⟨_, rfl⟩
 simp only [hD, hk] at hNd
 have HNd := z_ hNd
 unfold inO at hw1
 rw [in_val] at hI ⊢
 simp only at hw1 gs gx go gd hI ⊢
 unfold byteR
 rw [hD]
 clear hb1 hr hNd hk
 rw [if_neg (by decide), if_neg (by rintro ⟨h | h, -⟩ <;> cases h), ← rs_tk]
 clear hD
 go_enter Tryz.func80, Tryz.ntmps80
 go_wp2_with (first
  | (refine lr w.heap.size rfl rfl rfl HR.out ?_)
  | (go_at_call 47; (with_reducible refine (HNd.out _).mono ?_); rintro e w2 ⟨rfl, rfl⟩)
  | (go_at_call 123; (with_reducible refine (hI.out _).mono ?_); rintro e w2 ⟨rfl, hb2⟩))
 go_ret
 exact ⟨rfl, HB.out.alloc HB.out.size _⟩

set_option maxHeartbeats 8000000 in
theorem say_byte4 (i : In) (h0 : 0 ≤ i.x) (h1 : i.x < 3) (hN : Nums i.d i.m) : SayR 80 #[i.val, .int .i64 4] i.d i.m (byteR i.s i.x i.o 4) := by
 intro w
 obtain ⟨s, x, o, d, m, n⟩ := i
 simp only at h0 h1 hN ⊢
 obtain ⟨w1, hw1⟩ : ∃ w1, w.alloc (inO ⟨s, x, o, d, m, n⟩) = w1 := ⟨_, rfl⟩
 have hb1 : Below w.heap.size w w1 := hw1 ▸ (Below.refl _ _).alloc (Nat.le_refl _) _
 have hr : InW w1 w.heap.size ⟨s, x, o, d, m, n⟩ := hw1 ▸ InW.laid w _
 have gs := hr.gs
 have gx := hr.gx
 have go := hr.go
 have gd := hr.gd
 have HR := z_ hr
 have HB := z_ hb1
 have hI := say_index ⟨s, x, o, d, m, n⟩ h0 h1
 simp only at hI
 obtain ⟨X, hX, hI⟩ := hI.named
 obtain ⟨Y, hY, hS⟩ := (say_disp d m hN.1 hN.2.1).named
 have hNd := fun w => r9_needs s x o w
 obtain ⟨D, hD⟩ : ∃ D, needD s x o = D := ⟨_, rfl⟩
 obtain ⟨k, hk⟩ : ∃ k, needN s x o = k := ⟨_, rfl⟩
 simp only [hD, hk] at hNd
 have HNd := z_ hNd
 unfold inO at hw1
 rw [in_val] at hI ⊢
 simp only at hw1 gs gx go gd hI ⊢
 unfold byteR
 rw [hD]
 clear hb1 hr hNd hk
 rw [if_neg (by decide)]
 by_cases hx : x > 0
 ·cases D with
  | true =>
   rw [if_neg (by rintro ⟨-, -, h⟩; cases h), ← rs_tk]
   clear hD
   go_enter Tryz.func80, Tryz.ntmps80
   go_wp2_with (first
    | (refine lr w.heap.size rfl rfl rfl HR.out ?_)
    | (go_at_call 47; (with_reducible refine (HNd.out _).mono ?_); rintro e w2 ⟨rfl, rfl⟩)
    | (go_at_call 123; (with_reducible refine (hI.out _).mono ?_); rintro e w2 ⟨rfl, hb2⟩))
   go_ret
   exact ⟨rfl, HB.out.alloc HB.out.size _⟩
  | false =>
   rw [if_pos ⟨by decide, hx, rfl⟩]
   obtain ⟨R, hR, k1⟩ := catR hN [72] hX (by have := idx_len x; omega) (by decide)
   have hfin : R = rs d m (tk (nth indexL3 x) ++ tk (nth nameL8 4)) := hR.out
   have HFin := z_ hfin
   clear hD hfin hR
   go_enter Tryz.func80, Tryz.ntmps80
   go_upto_region 7 with (first
    | (refine lr w.heap.size rfl rfl rfl HR.out ?_)
    | (go_at_call 47; (with_reducible refine (HNd.out _).mono ?_); rintro e w2 ⟨rfl, rfl⟩)
    | (go_at_call 123; (with_reducible refine (hI.out _).mono ?_); rintro e w2 ⟨rfl, hb2⟩))
   refine M.rg ?_
   refine M.cm 0 (.agg #[.int .i64 s, .int .i64 x, .int .i64 o, .int .i64 d, .int .i64 m, .int .i64 n]) ?_ ?_
   ·intro wz sz
    exact dl (InW.on HR.out sz)
   go_simp
   refine M.cm 1 (.string X) ?_ ?_
   ·intro wz sz
    unfold Oper.does
    go_simp
    exact (hI.out wz).mono fun e w' ⟨he, hw⟩ => ⟨_, he, rfl, Save.of_below hw⟩
   go_simp
   refine M.sg [3, 4] 5 ?_
   repeat (go_big_quiet_step (fail))
   refine wpQuiet_nil ?_
   refine M.cl 2 ?_
   intro wz sz
   unfold Oper.does
   go_simp
   refine ⟨TB w1 wz.heap.size #[.string { data := #[72] }, .string { data := #[76] }], TB.new sz, TB.closed, fun _ h => h.1, ?_⟩
   clear sz
   generalize wz.heap.size = N
   go_simp
   refine M.sg [5] 3 ?_
   repeat (go_big_quiet_step (fail))
   refine wpQuiet_nil ?_
   refine M.cl 6 ?_
   intro wy sy
   have hcell := sy.cell 0 _ rfl
   unfold Oper.does
   go_simp
   refine ⟨M.Base w1, sy.1, M.closed_base _, fun _ h => h, ?_⟩
   clear hcell sy
   go_simp
   refine M.sg [7, 8] 0 ?_
   repeat (go_big_quiet_step (fail))
   refine wpQuiet_nil ?_
   refine M.en ?_
   intro wc sc
   go_wp2_with fail
   go_ret
   exact ⟨by rw [HFin.out]; rfl, HB.out.trans (sc.2.mono HB.out.size)⟩
 ·rw [if_neg (by rintro ⟨-, h, -⟩; exact hx h), ← rs_tk]
  obtain rfl : x = 0 := by omega
  clear hD
  go_enter Tryz.func80, Tryz.ntmps80
  go_wp2_with (first
   | (refine lr w.heap.size rfl rfl rfl HR.out ?_)
   | (go_at_call 47; (with_reducible refine (HNd.out _).mono ?_); rintro e w2 ⟨rfl, rfl⟩)
   | (go_at_call 123; (with_reducible refine (hI.out _).mono ?_); rintro e w2 ⟨rfl, hb2⟩))
  go_ret
  exact ⟨rfl, HB.out.alloc HB.out.size _⟩

set_option maxHeartbeats 8000000 in
theorem say_byte5 (i : In) (h0 : 0 ≤ i.x) (h1 : i.x < 3) (hN : Nums i.d i.m) : SayR 80 #[i.val, .int .i64 5] i.d i.m (byteR i.s i.x i.o 5) := by
 intro w
 obtain ⟨s, x, o, d, m, n⟩ := i
 simp only at h0 h1 hN ⊢
 obtain ⟨w1, hw1⟩ : ∃ w1, w.alloc (inO ⟨s, x, o, d, m, n⟩) = w1 := ⟨_, rfl⟩
 have hb1 : Below w.heap.size w w1 := hw1 ▸ (Below.refl _ _).alloc (Nat.le_refl _) _
 have hr : InW w1 w.heap.size ⟨s, x, o, d, m, n⟩ := hw1 ▸ InW.laid w _
 have gs := hr.gs
 have gx := hr.gx
 have go := hr.go
 have gd := hr.gd
 have HR := z_ hr
 have HB := z_ hb1
 have hI := say_index ⟨s, x, o, d, m, n⟩ h0 h1
 simp only at hI
 obtain ⟨X, hX, hI⟩ := hI.named
 obtain ⟨Y, hY, hS⟩ := (say_disp d m hN.1 hN.2.1).named
 have hNd := fun w => r9_needs s x o w
 obtain ⟨D, hD⟩ : ∃ D, needD s x o = D := ⟨_, rfl⟩
 obtain ⟨k, hk⟩ : ∃ k, needN s x o = k := ⟨_, rfl⟩
 simp only [hD, hk] at hNd
 have HNd := z_ hNd
 unfold inO at hw1
 rw [in_val] at hI ⊢
 simp only at hw1 gs gx go gd hI ⊢
 unfold byteR
 rw [hD]
 clear hb1 hr hNd hk
 rw [if_neg (by decide)]
 by_cases hx : x > 0
 ·cases D with
  | true =>
   rw [if_neg (by rintro ⟨-, -, h⟩; cases h), ← rs_tk]
   clear hD
   go_enter Tryz.func80, Tryz.ntmps80
   go_wp2_with (first
    | (refine lr w.heap.size rfl rfl rfl HR.out ?_)
    | (go_at_call 47; (with_reducible refine (HNd.out _).mono ?_); rintro e w2 ⟨rfl, rfl⟩)
    | (go_at_call 123; (with_reducible refine (hI.out _).mono ?_); rintro e w2 ⟨rfl, hb2⟩))
   go_ret
   exact ⟨rfl, HB.out.alloc HB.out.size _⟩
  | false =>
   rw [if_pos ⟨by decide, hx, rfl⟩]
   obtain ⟨R, hR, k1⟩ := catR hN [76] hX (by have := idx_len x; omega) (by decide)
   have hfin : R = rs d m (tk (nth indexL3 x) ++ tk (nth nameL8 5)) := hR.out
   have HFin := z_ hfin
   clear hD hfin hR
   go_enter Tryz.func80, Tryz.ntmps80
   go_upto_region 7 with (first
    | (refine lr w.heap.size rfl rfl rfl HR.out ?_)
    | (go_at_call 47; (with_reducible refine (HNd.out _).mono ?_); rintro e w2 ⟨rfl, rfl⟩)
    | (go_at_call 123; (with_reducible refine (hI.out _).mono ?_); rintro e w2 ⟨rfl, hb2⟩))
   refine M.rg ?_
   refine M.cm 0 (.agg #[.int .i64 s, .int .i64 x, .int .i64 o, .int .i64 d, .int .i64 m, .int .i64 n]) ?_ ?_
   ·intro wz sz
    exact dl (InW.on HR.out sz)
   go_simp
   refine M.cm 1 (.string X) ?_ ?_
   ·intro wz sz
    unfold Oper.does
    go_simp
    exact (hI.out wz).mono fun e w' ⟨he, hw⟩ => ⟨_, he, rfl, Save.of_below hw⟩
   go_simp
   refine M.sg [3, 4] 5 ?_
   repeat (go_big_quiet_step (fail))
   refine wpQuiet_nil ?_
   refine M.cl 2 ?_
   intro wz sz
   unfold Oper.does
   go_simp
   refine ⟨TB w1 wz.heap.size #[.string { data := #[72] }, .string { data := #[76] }], TB.new sz, TB.closed, fun _ h => h.1, ?_⟩
   clear sz
   generalize wz.heap.size = N
   go_simp
   refine M.sg [5] 3 ?_
   repeat (go_big_quiet_step (fail))
   refine wpQuiet_nil ?_
   refine M.cl 6 ?_
   intro wy sy
   have hcell := sy.cell 1 _ rfl
   unfold Oper.does
   go_simp
   refine ⟨M.Base w1, sy.1, M.closed_base _, fun _ h => h, ?_⟩
   clear hcell sy
   go_simp
   refine M.sg [7, 8] 0 ?_
   repeat (go_big_quiet_step (fail))
   refine wpQuiet_nil ?_
   refine M.en ?_
   intro wc sc
   go_wp2_with fail
   go_ret
   exact ⟨by rw [HFin.out]; rfl, HB.out.trans (sc.2.mono HB.out.size)⟩
 ·rw [if_neg (by rintro ⟨-, h, -⟩; exact hx h), ← rs_tk]
  obtain rfl : x = 0 := by omega
  clear hD
  go_enter Tryz.func80, Tryz.ntmps80
  go_wp2_with (first
   | (refine lr w.heap.size rfl rfl rfl HR.out ?_)
   | (go_at_call 47; (with_reducible refine (HNd.out _).mono ?_); rintro e w2 ⟨rfl, rfl⟩)
   | (go_at_call 123; (with_reducible refine (hI.out _).mono ?_); rintro e w2 ⟨rfl, hb2⟩))
  go_ret
  exact ⟨rfl, HB.out.alloc HB.out.size _⟩

set_option maxHeartbeats 8000000 in
theorem say_byte6 (i : In) (h0 : 0 ≤ i.x) (h1 : i.x < 3) (hN : Nums i.d i.m) : SayR 80 #[i.val, .int .i64 6] i.d i.m (byteR i.s i.x i.o 6) := by
 intro w
 obtain ⟨s, x, o, d, m, n⟩ := i
 simp only at h0 h1 hN ⊢
 obtain ⟨w1, hw1⟩ : ∃ w1, w.alloc (inO ⟨s, x, o, d, m, n⟩) = w1 := ⟨_, rfl⟩
 have hb1 : Below w.heap.size w w1 := hw1 ▸ (Below.refl _ _).alloc (Nat.le_refl _) _
 have hr : InW w1 w.heap.size ⟨s, x, o, d, m, n⟩ := hw1 ▸ InW.laid w _
 have gs := hr.gs
 have gx := hr.gx
 have go := hr.go
 have gd := hr.gd
 have HR := z_ hr
 have HB := z_ hb1
 have hI := say_index ⟨s, x, o, d, m, n⟩ h0 h1
 simp only at hI
 obtain ⟨X, hX, hI⟩ := hI.named
 obtain ⟨Y, hY, hS⟩ := (say_disp d m hN.1 hN.2.1).named
 have hNd := fun w => r9_needs s x o w
 obtain ⟨D, hD⟩ : ∃ D, needD s x o = D := ⟨_, rfl⟩
 obtain ⟨k, hk⟩ : ∃ k, needN s x o = k := ⟨_, rfl⟩
 simp only [hD, hk] at hNd
 have HNd := z_ hNd
 unfold inO at hw1
 rw [in_val] at hI ⊢
 simp only at hw1 gs gx go gd hI ⊢
 unfold byteR
 rw [hD]
 clear hb1 hr hNd hk
 rw [if_pos rfl]
 by_cases hx : x = 0
 ·subst hx
  rw [if_pos (.inl rfl), ← rs_tk]
  clear hD
  go_enter Tryz.func80, Tryz.ntmps80
  go_wp2_with (first
   | (refine lr w.heap.size rfl rfl rfl HR.out ?_)
   | (go_at_call 47; (with_reducible refine (HNd.out _).mono ?_); rintro e w2 ⟨rfl, rfl⟩)
   | (go_at_call 123; (with_reducible refine (hI.out _).mono ?_); rintro e w2 ⟨rfl, hb2⟩))
  go_ret
  exact ⟨rfl, HB.out⟩
 ·have hx0 : (x == 0) = false := beq_eq_false_iff_ne.2 hx
  cases D with
  | false =>
   rw [if_pos (.inr rfl), ← rs_tk]
   clear hD
   go_enter Tryz.func80, Tryz.ntmps80
   go_wp2_with (first
    | (refine lr w.heap.size rfl rfl rfl HR.out ?_)
    | (go_at_call 47; (with_reducible refine (HNd.out _).mono ?_); rintro e w2 ⟨rfl, rfl⟩)
    | (go_at_call 123; (with_reducible refine (hI.out _).mono ?_); rintro e w2 ⟨rfl, hb2⟩))
   go_ret
   exact ⟨rfl, HB.out⟩
  | true =>
   rw [if_neg (by rintro (h | h); exact hx h; cases h)]
   clear hD
   have hl := idx_len x
   obtain ⟨R1, r1, k1⟩ := catL hN [40] hX (by omega) (by decide)
   obtain ⟨R2, r2, k2⟩ := catX hN r1 hY (by have e : (tk [40]).length = 1 := rfl; have e2 : (tk [41]).length = 1 := rfl; simp only [List.length_append, List.length_cons, List.length_nil]; omega) (by decide)
   obtain ⟨R3, r3, k3⟩ := catR hN [41] r2 (by have e : (tk [40]).length = 1 := rfl; have e2 : (tk [41]).length = 1 := rfl; simp only [List.length_append, List.length_cons, List.length_nil]; omega) (by decide)
   clear r1 r2 hX hY hl
   go_enter Tryz.func80, Tryz.ntmps80
   have gp : ∀ p : M.Of (M.Base w1), p.w.cell? ⟨w.heap.size, 3, none⟩ = some (.int .i64 d) := fun p => (InW.on HR.out p.ok).gd
   go_upto_region 5 with (first
    | (refine lr w.heap.size rfl rfl rfl HR.out ?_)
    | (go_at_call 47; (with_reducible refine (HNd.out _).mono ?_); rintro e w2 ⟨rfl, rfl⟩)
    | (go_at_call 123; (with_reducible refine (hI.out _).mono ?_); rintro e w2 ⟨rfl, hb2⟩))
   refine M.rg ?_
   refine M.cm 0 (.agg #[.int .i64 s, .int .i64 x, .int .i64 o, .int .i64 d, .int .i64 m, .int .i64 n]) ?_ ?_
   ·intro wz sz
    exact dl (InW.on HR.out sz)
   go_simp
   refine M.sg [3, 4] 6 ?_
   repeat (go_big_quiet_step (fail))
   refine wpQuiet_nil ?_
   refine M.cm 1 (.string X) ?_ ?_
   ·intro wz sz
    unfold Oper.does
    go_simp
    exact (hI.out wz).mono fun e w' ⟨he, hw⟩ => ⟨_, he, rfl, Save.of_below hw⟩
   go_simp
   refine M.cm 5 (.string Y) ?_ ?_
   ·intro wz sz
    unfold Oper.does
    go_simp
    exact (hS.out wz).mono fun e w' ⟨he, hw⟩ => ⟨_, he, rfl, Save.of_below hw⟩
   go_simp
   refine M.sg [2, 6, 7, 8] 0 ?_
   repeat (go_big_quiet_step (fail))
   refine wpQuiet_nil ?_
   refine M.en ?_
   intro wc sc
   go_wp2_with fail
   go_ret
   exact ⟨by rw [r3.out]; rfl, HB.out.trans (sc.2.mono HB.out.size)⟩

theorem say_byte (i : In) (c : Int) (h0 : 0 ≤ i.x) (h1 : i.x < 3) (hN : Nums i.d i.m) (c0 : 0 ≤ c) (c1 : c < 8) : SayR 80 #[i.val, .int .i64 c] i.d i.m (byteR i.s i.x i.o c) := by
 have hc : c = 0 ∨ c = 1 ∨ c = 2 ∨ c = 3 ∨ c = 4 ∨ c = 5 ∨ c = 6 ∨ c = 7 := by omega
 rcases hc with rfl | rfl | rfl | rfl | rfl | rfl | rfl | rfl
 ·exact say_byte0 i h0 h1 hN
 ·exact say_byte1 i h0 h1 hN
 ·exact say_byte2 i h0 h1 hN
 ·exact say_byte3 i h0 h1 hN
 ·exact say_byte4 i h0 h1 hN
 ·exact say_byte5 i h0 h1 hN
 ·exact say_byte6 i h0 h1 hN
 ·exact say_byte7 i h0 h1 hN

end Go.Proofs.YtgaihekapakoeaaGreatDoor
