
/- What is put, one behind the other, and read: pure; and rows that came in. -/
import Derived.Test.YthmogabonfkmhaaGreatDoorT
import Derived.Test.YthmogabonfkmhaaGreatDoorW
import Derived.Deep.Matrix
namespace Go.Proofs.YthmogabonfkmhaaGreatDoor
open Go.RowKit Go.ChangeShapes Go.WideShapes Go.ChangeAt Go.Deep
set_option maxRecDepth 100000

/-- Numbers that came in. -/
def IR (w : World) (B : Nat) (A : Option Addr) (k : IntKind) (l : List Int) : Prop := ∀ i, i < l.length → ∃ b off, A = some ⟨b, off, none⟩ ∧ b < B ∧ w.cell? ⟨b, off + i, none⟩ = some (.int k (l.getD i 0))
/-- Rows of bytes that came in. -/
def PR (w : World) (B : Nat) (A : Option Addr) (ps : List Piece) : Prop := ∀ i (h : i < ps.length), ∃ b off, A = some ⟨b, off, none⟩ ∧ b < B ∧ w.cell? ⟨b, off + i, none⟩ = some (.slice ps[i].A ps[i].l.length ps[i].c) ∧ RB w B ps[i].A ps[i].c ps[i].l

theorem open_nums {H : Type} {enc : TypeId × Value → H} {W : World} {t e : TypeId} {k : IntKind} {a : Option Addr} {len cap : Nat} {d : DataW H} {p : List MemPlace}
    (ht : Tryz.prog.underlying t = some (.slice e)) (he : Tryz.prog.underlying e = some (.int k)) (hc : Tryz.prog.cellsOf e = 1)
    (h : DataW.Trod enc Tryz.prog W 0 (fun _ => true) true t (.slice a len cap) d p) : ∃ l : List Int, len = l.length ∧ IR W W.heap.size a k l ∧ len ≤ cap ∧ cap ≤ maxLen ∧ ∀ n ∈ l, (Lit.int k n).wf = true := by
  obtain ⟨fuel, hf⟩ := h
  rcases open_ints ht he hc hf with ⟨hcs, _⟩ | ⟨x, l, c, zs, hcs, _, hl, hm, hz, _, hcell, hwz⟩
  · simp [Value.cells] at hcs
    obtain ⟨rfl, rfl, rfl⟩ := hcs
    exact ⟨[], rfl, fun i hi => absurd hi (Nat.not_lt_zero _), Nat.le_refl _, Nat.zero_le _, fun n hn => by cases hn⟩
  · simp [Value.cells] at hcs
    obtain ⟨rfl, rfl, rfl⟩ := hcs
    have hz' : zs.length = cap := by simpa using hz
    have hlen : (zs.take len).length = len := by rw [List.length_take]; omega
    refine ⟨zs.take len, hlen.symm, fun i hi => ?_, hl, hm, fun n hn => hwz n (List.mem_of_mem_take hn)⟩
    obtain ⟨b, off, rfl, hc⟩ := ints_at hcell (by omega)
    refine ⟨b, off, rfl, World.block_lt_of_cell? _ _ (hc 0 (by omega)), ?_⟩
    rw [hc i (by omega)]
    simp only [List.getD]
    rw [List.getElem?_take, if_pos (by omega)]

theorem open_rows {H : Type} {enc : TypeId × Value → H} {W : World} {a : Option Addr} {len cap : Nat} {d : DataW H} {p : List MemPlace}
    (h : DataW.Trod enc Tryz.prog W 0 (fun _ => true) true 89 (.slice a len cap) d p) : ∃ ps : List Piece, len = ps.length ∧ PR W W.heap.size a ps ∧ len ≤ cap ∧ cap ≤ maxLen := by
  obtain ⟨fuel, hf⟩ := h
  rcases open_int_rows Tryz.underlying89 Tryz.underlying24 Tryz.underlying5 (by kernel_rfl) (by kernel_rfl) hf with ⟨hcs, _⟩ | ⟨x, l, c, A, L, C, Z, hcs, _, hl, hm, _, hrows⟩
  · simp [Value.cells] at hcs
    obtain ⟨rfl, rfl, rfl⟩ := hcs
    exact ⟨[], rfl, fun i hi => absurd hi (Nat.not_lt_zero _), Nat.le_refl _, Nat.zero_le _⟩
  · simp [Value.cells] at hcs
    obtain ⟨rfl, rfl, rfl⟩ := hcs
    refine ⟨(List.range len).map fun r => ⟨A r, C r, (Z r).take (L r)⟩, by simp, fun i hi => ?_, hl, hm⟩
    have hi' : i < len := by simpa using hi
    obtain ⟨hc, hLC, hCm, hZ, hwf, hnone, hsome⟩ := hrows i (by omega)
    have hsp : x.spot = none := by simpa [Addr.add] using World.cell?_spot (hrows 0 (by omega)).1
    obtain ⟨b, off, spot⟩ := x
    simp only at hsp
    subst hsp
    rw [Go.WideShapes.add_plain] at hc
    have hlen : ((Z i).take (L i)).length = L i := by rw [List.length_take]; omega
    have hb : AllB (Z i) := fun n hn => by have := bounds_u8 (hwf n hn); omega
    refine ⟨b, off, rfl, World.block_lt_of_cell? _ _ hc, by simpa [hlen] using hc, ?_⟩
    simp only [List.getElem_map, List.getElem_range]
    refine ⟨by omega, hCm, hb.take _, ?_⟩
    cases hA : A i with
    | none =>
      have h0 := hnone hA
      have h1 : Z i = [] := List.length_eq_zero_iff.1 (by omega)
      exact .inl ⟨rfl, h0⟩
    | some a' =>
      refine .inr ⟨a', rfl, fun h0 => ?_⟩
      have hcs := (hsome a' hA).2
      have hsp : a'.spot = none := by simpa [Addr.add] using World.cell?_spot (hcs 0 (by omega))
      refine ⟨hsp, ?_, fun j hj => ?_⟩
      · have := World.block_lt_of_cell? _ _ (hcs 0 (by omega))
        simpa [Addr.add] using this
      · have h2 := hcs j (by omega)
        obtain ⟨b', off', spot'⟩ := a'
        simp only at hsp
        subst hsp
        rw [Go.WideShapes.add_plain] at h2
        simp only
        rw [h2]
        simp only [List.getD]
        rw [List.getElem?_take, if_pos (by omega)]

/-- A block's bytes. -/
def blk (m : List Int) : List Int := numB m.length ++ m
def sgX (xs : List Int) (i : Nat) : List Int := if i < xs.length then numB (xs.getD i 0).toNat else []
def sgY (ys : List Int) (i : Nat) : List Int := if i < ys.length then numB (foldZ (ys.getD i 0)) else []
def sgP (ps : List Piece) (i : Nat) : List Int := if h : i < ps.length then blk ps[i].l else []
def putB (xs ys : List Int) (ps : List Piece) : Nat → List Int
  | 0 => []
  | n + 1 => putB xs ys ps n ++ sgX xs n ++ sgY ys n ++ sgP ps n

theorem putB_split (xs ys : List Int) (ps : List Piece) : ∀ n k, k ≤ n → ∃ t, putB xs ys ps n = putB xs ys ps k ++ t
  | 0, k, hk => by obtain rfl : k = 0 := by omega
                   exact ⟨[], by simp⟩
  | n + 1, k, hk => by
    by_cases h : k = n + 1
    · subst h; exact ⟨[], by simp⟩
    · obtain ⟨t, ht⟩ := putB_split xs ys ps n k (by omega)
      exact ⟨t ++ sgX xs n ++ sgY ys n ++ sgP ps n, by simp only [putB]; rw [ht]; simp [List.append_assoc]⟩
theorem putB_parts (xs ys : List Int) (ps : List Piece) (k : Nat) (hk : k < 50) : ∃ t, putB xs ys ps 50 = putB xs ys ps k ++ sgX xs k ++ sgY ys k ++ sgP ps k ++ t := by
  obtain ⟨t, ht⟩ := putB_split xs ys ps 50 (k + 1) (by omega)
  exact ⟨t, by rw [ht]; rfl⟩

theorem sgX_le (xs : List Int) (i : Nat) : (sgX xs i).length ≤ 9 := by unfold sgX; split; exact (numB_length _).2; simp
theorem sgY_le (ys : List Int) (i : Nat) : (sgY ys i).length ≤ 9 := by unfold sgY; split; exact (numB_length _).2; simp
theorem sgP_le (ps : List Piece) (i : Nat) (h : ∀ h : i < ps.length, ps[i].l.length ≤ 3000) : (sgP ps i).length ≤ 3009 := by
  unfold sgP blk
  split
  · rename_i h'
    have := h h'
    have := (numB_length (ps[i].l.length)).2
    rw [List.length_append]; omega
  · simp

/-- A number is read where it was put. -/
theorem num_at (L done r : List Int) (x : Nat) (hx : x < 18446744073709551616) (h : L = done ++ numB x ++ r) : numSt L done.length 0 = (x, (done ++ numB x).length, 0) := by
  unfold numSt
  rw [if_pos rfl, h, List.append_assoc, List.drop_left, numRd_numB x hx, List.length_append]
theorem block_at (L done r m : List Int) (hm : m.length ≤ 1048576) (h : L = done ++ blk m ++ r) : blockSt L done.length 0 = (m, (done ++ blk m).length, 0) := by
  have hn := num_at L done (m ++ r) m.length (by omega) (by rw [h]; simp [blk])
  unfold blockSt
  rw [hn]
  simp only
  have hL : L.length = (done ++ numB m.length).length + (m.length + r.length) := by rw [h]; simp [blk]; omega
  have hd : L.drop (done ++ numB m.length).length = m ++ r := by
    rw [show L = (done ++ numB m.length) ++ (m ++ r) by rw [h]; simp [blk]]
    exact List.drop_left
  rw [if_neg (by omega), if_neg (by simp), if_neg (by omega), hd, List.take_left]
  simp [blk, Nat.add_assoc]

/-- Of bytes of which the last is missing: all is read up to it, or there are too few. -/
def CutS (L done : List Int) (p : Nat) (e : Int) : Prop := e = 5 ∨ (e = 0 ∧ p = done.length ∧ ∃ r, r ≠ [] ∧ L = done ++ r)

theorem take_cut (done t r : List Int) (h : r ≠ []) : (done ++ t ++ r).take ((done ++ t ++ r).length - 1) = done ++ t ++ r.dropLast := by
  rw [← List.dropLast_eq_take, List.dropLast_append_of_ne_nil h]

theorem num_cut (L done r : List Int) (x : Nat) (hx : x < 18446744073709551616) (h : L = done ++ numB x ++ r) (p : Nat) (e : Int) (hc : CutS L done p e) :
    CutS L (done ++ numB x) (numSt (L.take (L.length - 1)) p e).2.1 (numSt (L.take (L.length - 1)) p e).2.2 := by
  rcases hc with rfl | ⟨rfl, rfl, r', hr', hL⟩
  · exact .inl (by unfold numSt; rw [if_neg (by decide)])
  · by_cases hr : r = []
    · refine .inl ?_
      subst hr
      have hl := (numB_length x).1
      unfold numSt
      rw [if_pos rfl]
      simp only
      have : (L.take (L.length - 1)).drop done.length = (numB x).take ((numB x).length - 1) := by
        rw [List.drop_take, h]
        simp only [List.append_nil, List.drop_left, List.length_append]
        congr 1
        omega
      rw [this]
      exact numRd_short x hx _ (by omega)
    · have e1 : L.take (L.length - 1) = done ++ numB x ++ r.dropLast := by rw [h]; exact take_cut _ _ _ hr
      have := num_at (L.take (L.length - 1)) done r.dropLast x hx e1
      rw [this]
      exact .inr ⟨rfl, rfl, r, hr, h⟩

theorem block_cut (L done r m : List Int) (hm : m.length ≤ 1048576) (h : L = done ++ blk m ++ r) (p : Nat) (e : Int) (hc : CutS L done p e) :
    CutS L (done ++ blk m) (blockSt (L.take (L.length - 1)) p e).2.1 (blockSt (L.take (L.length - 1)) p e).2.2 := by
  rcases hc with rfl | ⟨rfl, rfl, r', hr', hL⟩
  · refine .inl ?_
    unfold blockSt numSt
    simp
  · by_cases hr : r = []
    · refine .inl ?_
      subst hr
      have hl := (numB_length m.length).1
      have h2 : L = done ++ numB m.length ++ m := by rw [h]; simp [blk]
      have hcut := num_cut L done m m.length (by omega) h2 done.length 0 (.inr ⟨rfl, rfl, r', hr', hL⟩)
      by_cases hm0 : m = []
      · subst hm0
        have h5 : (numSt (L.take (L.length - 1)) done.length 0).2.2 = 5 := by
          rcases hcut with h5 | ⟨_, _, r2, hr2, hL2⟩
          · exact h5
          · rw [h2, List.append_nil] at hL2
            simp at hL2
            exact absurd hL2 hr2
        have hv : (numSt (L.take (L.length - 1)) done.length 0).1 = 0 := by
          unfold numSt
          rw [if_pos rfl]
          simp only
          have : (L.take (L.length - 1)).drop done.length = [] := by
            rw [h2]
            simp [numB]
          rw [this]; rfl
        unfold blockSt
        rw [if_neg (by omega), if_pos (by rw [h5]; decide), h5]
      · have e1 : L.take (L.length - 1) = done ++ numB m.length ++ m.dropLast := by rw [h2]; exact take_cut _ _ _ hm0
        have hn := num_at (L.take (L.length - 1)) done m.dropLast m.length (by omega) e1
        have hpos : 0 < m.length := List.length_pos_iff.2 hm0
        unfold blockSt
        rw [hn]
        simp only
        rw [if_neg (by omega), if_neg (by simp), if_pos (by rw [e1]; simp; omega)]
    · have e1 : L.take (L.length - 1) = done ++ blk m ++ r.dropLast := by rw [h]; exact take_cut _ _ _ hr
      have := block_at (L.take (L.length - 1)) done r.dropLast m hm e1
      rw [this]
      exact .inr ⟨rfl, rfl, r, hr, h⟩
end Go.Proofs.YthmogabonfkmhaaGreatDoor
