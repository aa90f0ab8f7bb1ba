
/- Package port: Of, Written, Read, Is. -/
import Derived.Test.YtmgaibpdpcancaaDoorT1
import Derived.Laws.AppendOwnNone
namespace Go.Proofs.YtmgaibpdpcancaaDoor
open Go.RowKit
set_option linter.unusedSimpArgs false
set_option linter.unusedVariables false
set_option maxRecDepth 100000

/-- A list of numbers in memory. -/
structure LI (w : World) (B : Nat) (A : Option Addr) (l : List Int) : Prop where
  at_ : 0 < l.length → ∃ b o, A = some ⟨b, o, Option.none⟩ ∧ b < B ∧ ∀ i, i < l.length → w.cell? ⟨b, o + i, none⟩ = some (.int .i64 (l.getD i 0))
theorem LI.below {w w' : World} {B : Nat} {A : Option Addr} {l : List Int} (h : LI w B A l) (hb : Below B w w') : LI w' B A l :=
  ⟨fun h0 => by
    obtain ⟨b, o, h1, h2, h3⟩ := h.at_ h0
    exact ⟨b, o, h1, h2, fun i hi => (World.cell?_of_block (hb.block b h2)).trans (h3 i hi)⟩⟩
theorem LI.more {w : World} {B B' : Nat} {A : Option Addr} {l : List Int} (h : LI w B A l) (hB : B ≤ B') : LI w B' A l :=
  ⟨fun h0 => by
    obtain ⟨b, o, h1, h2, h3⟩ := h.at_ h0
    exact ⟨b, o, h1, by omega, h3⟩⟩
theorem LI.own {w : World} {base c : Nat} {A : Option Addr} {e : TypeId} {l : List Int} (h : w.ownsRow base e 1 (.slice A l.length c) l.length (l.map (Value.int .i64))) : LI w w.heap.size A l := by
  rcases h.2 with ⟨h1, h2⟩ | ⟨g, cap, cur, h1, hb, hg, hn, hm, hs⟩
  · injection h1 with h3 h4 h5
    exact ⟨fun h0 => absurd h0 (by omega)⟩
  · injection h1 with h3 h4 h5
    subst h3
    have hlt := (h.lt g rfl).2
    refine ⟨fun h0 => ⟨g, 0, rfl, hlt, fun i hi => ?_⟩⟩
    rw [h.cellAt _ (by omega), Nat.zero_add]
    simp [List.getD_eq_getElem?_getD, hi]
theorem LI.lit {w : World} {g : Nat} {l : List Int} {t : TypeId} {fr : Nat × Nat} (h : w.heap[g]? = some (.cells (l.map (Value.int .i64)).toArray t fr)) (hg : g < w.heap.size) : LI w w.heap.size (some ⟨g, 0, none⟩) l :=
  ⟨fun _ => ⟨g, 0, rfl, hg, fun i hi => by
    rw [cell_of_row _ _ _ _ _ _ h, Nat.zero_add]
    simp [List.getD_eq_getElem?_getD, hi]⟩⟩
theorem own_below {B : Nat} {e : TypeId} {k : Nat} {v : Value} {n : Nat} {xs : List Value} {w w' : World} (h : w.ownsRow B e k v n xs) (hb : Below w.heap.size w w') : w'.ownsRow B e k v n xs :=
  h.kept (row := none) ⟨hb.os, hb.tape, hb.output, hb.size, fun j hj _ => hb.block j hj⟩ (by cases hv : v.ownBlock <;> simp)
theorem int_shape {w : World} {base n : Nat} {v : Value} {xs : List Value} {e : TypeId} (h : w.ownsRow base e 1 v n xs) : ∃ A c, v = .slice A n c := by
  rcases h.2 with ⟨h1, h2⟩ | ⟨g, cap, cur, h1, _⟩
  · exact ⟨none, 0, by rw [h1, h2]⟩
  · exact ⟨_, _, h1⟩
theorem info_int : (Tryd.prog.info? 3).map (fun i => (i.zero, i.size, i.bytes)) = some (some (.int .i64 0), 1, 8) := by kernel_rfl
theorem new_one (w : World) (v : Value) (t : TypeId) : ∀ j u, [v][j]? = some u → (w.alloc (.cells #[v] t)).cell? ((⟨w.heap.size, 0, none⟩ : Addr).add j) = some u := by
  intro j u hu
  cases j with
  | zero =>
    obtain rfl : v = u := by simpa using hu
    show (w.alloc (.cells #[v] t)).cell? ⟨w.heap.size, 0, none⟩ = some v
    rw [World.cell?_alloc_at _ _ _ _ rfl]
    first | done | rfl
  | succ j => simp at hu

/-- The classes below k that f takes. -/
def clsL (f : Nat → Bool) : Nat → List Int
  | 0 => []
  | k + 1 => if f k = true then clsL f k ++ [((k + 1 : Nat) : Int)] else clsL f k
theorem clsL_yes {f : Nat → Bool} {k : Nat} (h : f k = true) : clsL f (k + 1) = clsL f k ++ [((k + 1 : Nat) : Int)] := by simp only [clsL]; rw [if_pos h]
theorem clsL_no {f : Nat → Bool} {k : Nat} (h : f k = false) : clsL f (k + 1) = clsL f k := by simp only [clsL]; rw [if_neg (by rw [h]; decide)]
theorem clsL_len (f : Nat → Bool) : ∀ k, (clsL f k).length ≤ k
  | 0 => Nat.le_refl _
  | k + 1 => by
    have := clsL_len f k
    cases h : f k with
    | true => rw [clsL_yes h, List.length_append]; simp; omega
    | false => rw [clsL_no h]; omega
/-- What is answered of a list of classes. -/
def GivesL (w : World) (l : List Int) : Ending → World → Prop := fun e w' => (∃ A c, e = .returned (.slice A l.length c) ∧ LI w' w'.heap.size A l) ∧ Below w.heap.size w w'

set_option maxHeartbeats 4000000 in
theorem of_any (p : Int) (w : World) (hV : RV w) : Calls Tryd.prog 12 #[.int .u16 p] w (GivesL w (clsL (hasC p) 7)) := by
  obtain ⟨i1, hi, hz0, hz1, hz2⟩ := info_parts info_int
  have HV := Lib.hid hV
  obtain ⟨f, hf⟩ : ∃ f, hasC p = f := ⟨_, rfl⟩
  have HF := Lib.hid (fun k => (congrFun hf k : _))
  rw [hf]
  clear hV hf
  unfold GivesL
  go_enter Tryd.func12, Tryd.ntmps12
  go_wp2_with (refine w_load_flat rfl 42 _ rfl 2 rfl rulesA _ HV.out.rules Tryd.underlying42 rfl (by kernel_rfl) ?_)
  go_loopw [3, 7] (fun v i wr => ∃ (k : Nat), i = .int .i64 k ∧ k ≤ 7 ∧ wr.ownsRow w.heap.size 3 1 v (clsL f k).length ((clsL f k).map (Value.int .i64)) ∧ Below w.heap.size w wr) (fun _ i _ => 7 - (intOf i).toNat)
  case atStart => exact ⟨0, rfl, by omega, World.ownsRow_nil _ _ _ _, Below.refl _ _⟩
  case round =>
    rename World => wr
    obtain ⟨k, rfl, hk, ho, hb⟩ := hrel
    have HO := Lib.hid ho
    have HB := Lib.hid hb
    clear ho hb
    by_cases hlt : k < 7
    · have hrun := rules_index k wr hlt
      have HH := Lib.hid (fun w1 => has_any (k + 1 : Nat) (rMask k) (rVal k) p (rWr k) (rRd k) w1)
      rw [show (bits .and .u16 p (rMask k) == rVal k) = f k from HF.out k] at HH
      have hl := clsL_len f k
      cases hc : f k with
      | true =>
        have HY := Lib.hid (clsL_yes hc)
        rw [hc] at HH
        clear hc
        generalize rMask k = m at *
        generalize rVal k = v at *
        generalize rWr k = wa at *
        generalize rRd k = wb at *
        generalize clsL f k = out at *
        go_wp2_with fail
        refine (HH.out _).mono ?_
        rintro e w2 ⟨rfl, hb2⟩
        have hb3 := Below.trans ((Below.refl wr.heap.size wr).alloc (Nat.le_refl _) _) (hb2.mono (by simp))
        have hcl : w2.cell? ⟨wr.heap.size, 0, none⟩ = some (.int .i64 ((k + 1 : Nat) : Int)) := (hb2.cell (by simp)).trans (by rw [World.cell?_alloc_at _ _ _ _ rfl]; rfl)
        have HB3 := Lib.hid hb3
        clear hb2 hb3
        go_wp2_with (at_builtin; refine wpList_append_own _ rfl (.tmp 13) (.tmp 16) 28 rfl w.heap.size 3 i1 (.int .i64 0) 1 8 Tryd.underlying28 hi hz0 hz1 hz2 rfl (by decide) _ out.length (out.map (Value.int .i64)) rfl ((own_below HO.out HB3.out).alloc _) ⟨w2.heap.size, 0, none⟩ 1 1 [_] rfl rfl (new_one w2 _ _) (fun u hu => by obtain rfl := List.mem_singleton.1 hu; rfl) (by unfold maxLen; omega) (by omega) (by have := HB.out.size; have := HB3.out.size; simp; omega) ?_; intro v' w' hown hg5 _; have HO2 := Lib.hid hown; have HG2 := Lib.hid hg5; clear hown hg5)
        refine ⟨⟨k + 1, by go_num, by omega, ?_, ?_⟩, by simp [intOf]; omega⟩
        · rw [HY.out, List.length_append, List.map_append]; exact HO2.out
        · have hB := HB.out.trans (HB3.out.mono HB.out.size)
          exact (hB.alloc hB.size _).grown HG2.out (by have := hB.size; simp; omega) (fun k hk => (HO.out.lt k hk).1)
      | false =>
        have HY := Lib.hid (clsL_no hc)
        rw [hc] at HH
        clear hc
        generalize rMask k = m at *
        generalize rVal k = v at *
        generalize rWr k = wa at *
        generalize rRd k = wb at *
        go_wp2_with fail
        refine (HH.out _).mono ?_
        rintro e w2 ⟨rfl, hb2⟩
        have hb3 := Below.trans ((Below.refl wr.heap.size wr).alloc (Nat.le_refl _) _) (hb2.mono (by simp))
        have HB3 := Lib.hid hb3
        clear hb2 hb3
        go_wp2_with fail
        exact ⟨⟨k + 1, by go_num, by omega, by rw [HY.out]; exact own_below HO.out HB3.out, HB.out.trans (HB3.out.mono HB.out.size)⟩, by simp [intOf]; omega⟩
    · obtain rfl : k = 7 := by omega
      obtain ⟨A, c, rfl⟩ := int_shape HO.out
      go_wp2_with fail
      go_ret
      exact ⟨⟨A, c, rfl, LI.own HO.out⟩, HB.out⟩

/-- Written's question. -/
def wrC (p : Int) (k : Nat) : Bool := rWr k && hasC p k
set_option maxHeartbeats 4000000 in
theorem written_any (p : Int) (w : World) (hV : RV w) : Calls Tryd.prog 14 #[.int .u16 p] w (GivesL w (clsL (wrC p) 7)) := by
  obtain ⟨i1, hi, hz0, hz1, hz2⟩ := info_parts info_int
  have HV := Lib.hid hV
  obtain ⟨f, hf⟩ : ∃ f, wrC p = f := ⟨_, rfl⟩
  have HF := Lib.hid (fun k => (congrFun hf k : _))
  rw [hf]
  clear hV hf
  unfold GivesL
  go_enter Tryd.func14, Tryd.ntmps14
  go_wp2_with (refine w_load_flat rfl 42 _ rfl 2 rfl rulesA _ HV.out.rules Tryd.underlying42 rfl (by kernel_rfl) ?_)
  go_loopw [3, 7] (fun v i wr => ∃ (k : Nat), i = .int .i64 k ∧ k ≤ 7 ∧ wr.ownsRow w.heap.size 3 1 v (clsL f k).length ((clsL f k).map (Value.int .i64)) ∧ Below w.heap.size w wr) (fun _ i _ => 7 - (intOf i).toNat)
  case atStart => exact ⟨0, rfl, by omega, World.ownsRow_nil _ _ _ _, Below.refl _ _⟩
  case round =>
    rename World => wr
    obtain ⟨k, rfl, hk, ho, hb⟩ := hrel
    have HO := Lib.hid ho
    have HB := Lib.hid hb
    clear ho hb
    by_cases hlt : k < 7
    · have hrun := rules_index k wr hlt
      have HH := Lib.hid (fun w1 => has_any (k + 1 : Nat) (rMask k) (rVal k) p (rWr k) (rRd k) w1)
      have hfk : f k = (rWr k && (bits .and .u16 p (rMask k) == rVal k)) := (HF.out k).symm
      have hl := clsL_len f k
      cases hw : rWr k with
      | false =>
        rw [hw] at hfk hrun
        have HY := Lib.hid (clsL_no (f := f) (k := k) hfk)
        clear hw hfk HH
        generalize rMask k = m at *
        generalize rVal k = v at *
        generalize rRd k = wb at *
        go_wp2_with fail
        have hb3 := Below.alloc (Below.refl wr.heap.size wr) (Nat.le_refl _) (.cells (rowR (k + 1 : Nat) m v false wb) 41)
        exact ⟨⟨k + 1, by go_num, by omega, by rw [HY.out]; exact own_below HO.out hb3, HB.out.trans (hb3.mono HB.out.size)⟩, by simp [intOf]; omega⟩
      | true =>
      rw [hw] at hfk hrun HH
      cases hc : (bits .and .u16 p (rMask k) == rVal k) with
      | true =>
        rw [hc] at hfk HH
        have HY := Lib.hid (clsL_yes (f := f) (k := k) hfk)
        clear hc hw hfk
        generalize rMask k = m at *
        generalize rVal k = v at *
        generalize rRd k = wb at *
        generalize clsL f k = out at *
        go_wp2_with fail
        refine (HH.out _).mono ?_
        rintro e w2 ⟨rfl, hb2⟩
        have hb3 := Below.trans ((Below.refl wr.heap.size wr).alloc (Nat.le_refl _) _) (hb2.mono (by simp))
        have hcl : w2.cell? ⟨wr.heap.size, 0, none⟩ = some (.int .i64 ((k + 1 : Nat) : Int)) := (hb2.cell (by simp)).trans (by rw [World.cell?_alloc_at _ _ _ _ rfl]; rfl)
        have HB3 := Lib.hid hb3
        clear hb2 hb3
        go_wp2_with (at_builtin; refine wpList_append_own _ rfl (.tmp 17) (.tmp 20) 28 rfl w.heap.size 3 i1 (.int .i64 0) 1 8 Tryd.underlying28 hi hz0 hz1 hz2 rfl (by decide) _ out.length (out.map (Value.int .i64)) rfl ((own_below HO.out HB3.out).alloc _) ⟨w2.heap.size, 0, none⟩ 1 1 [_] rfl rfl (new_one w2 _ _) (fun u hu => by obtain rfl := List.mem_singleton.1 hu; rfl) (by unfold maxLen; omega) (by omega) (by have := HB.out.size; have := HB3.out.size; simp; omega) ?_; intro v' w' hown hg5 _; have HO2 := Lib.hid hown; have HG2 := Lib.hid hg5; clear hown hg5)
        refine ⟨⟨k + 1, by go_num, by omega, ?_, ?_⟩, by simp [intOf]; omega⟩
        · rw [HY.out, List.length_append, List.map_append]; exact HO2.out
        · have hB := HB.out.trans (HB3.out.mono HB.out.size)
          exact (hB.alloc hB.size _).grown HG2.out (by have := hB.size; simp; omega) (fun k hk => (HO.out.lt k hk).1)
      | false =>
        rw [hc] at hfk HH
        have HY := Lib.hid (clsL_no (f := f) (k := k) hfk)
        clear hc hw hfk
        generalize rMask k = m at *
        generalize rVal k = v at *
        generalize rRd k = wb at *
        go_wp2_with fail
        refine (HH.out _).mono ?_
        rintro e w2 ⟨rfl, hb2⟩
        have hb3 := Below.trans ((Below.refl wr.heap.size wr).alloc (Nat.le_refl _) _) (hb2.mono (by simp))
        have HB3 := Lib.hid hb3
        clear hb2 hb3
        go_wp2_with fail
        exact ⟨⟨k + 1, by go_num, by omega, by rw [HY.out]; exact own_below HO.out HB3.out, HB.out.trans (HB3.out.mono HB.out.size)⟩, by simp [intOf]; omega⟩
    · obtain rfl : k = 7 := by omega
      obtain ⟨A, c, rfl⟩ := int_shape HO.out
      go_wp2_with fail
      go_ret
      exact ⟨⟨A, c, rfl, LI.own HO.out⟩, HB.out⟩

/-- The least class that is read. -/
def rdN (p : Int) : Nat → Nat → Int
  | _, 0 => 8
  | k, n + 1 => if (rRd k && hasC p k) = true then ((k + 1 : Nat) : Int) else rdN p (k + 1) n
def rdI (p : Int) : Int := rdN p 0 7
theorem rdN_yes {p : Int} {k n : Nat} (h : (rRd k && hasC p k) = true) : rdN p k (n + 1) = ((k + 1 : Nat) : Int) := by simp only [rdN]; rw [if_pos h]
theorem rdN_no {p : Int} {k n : Nat} (h : (rRd k && hasC p k) = false) : rdN p k (n + 1) = rdN p (k + 1) n := by simp only [rdN]; rw [if_neg (by rw [h]; decide)]

theorem p_ret {a b : Int} (h : a = b) : Ending.returned (.int .i64 a) = .returned (.int .i64 b) := by rw [h]

set_option maxHeartbeats 4000000 in
theorem read_any (p : Int) (w : World) (hV : RV w) : Calls Tryd.prog 16 #[.int .u16 p] w fun e w' => e = .returned (.int .i64 (rdI p)) ∧ Below w.heap.size w w' := by
  have HV := Lib.hid hV
  clear hV
  go_enter Tryd.func16, Tryd.ntmps16
  go_wp2_with (refine w_load_flat rfl 42 _ rfl 2 rfl rulesA _ HV.out.rules Tryd.underlying42 rfl (by kernel_rfl) ?_)
  go_loopw [6] (fun i wr => ∃ (k : Nat), i = .int .i64 k ∧ k ≤ 7 ∧ Hid (rdI p = rdN p k (7 - k)) ∧ Below w.heap.size w wr) (fun i _ => 7 - (intOf i).toNat)
  case atStart => exact ⟨0, rfl, by omega, Lib.hid rfl, Below.refl _ _⟩
  case round =>
    rename World => wr
    obtain ⟨k, rfl, hk, HE, hb⟩ := hrel
    have HB := Lib.hid hb
    clear hb
    by_cases hlt : k < 7
    · have hrun := rules_index k wr hlt
      have HH := Lib.hid (fun w1 => has_any (k + 1 : Nat) (rMask k) (rVal k) p (rWr k) (rRd k) w1)
      have hfk : (rRd k && hasC p k) = (rRd k && (bits .and .u16 p (rMask k) == rVal k)) := rfl
      have h7 : 7 - k = (6 - k) + 1 := by omega
      rw [h7] at HE
      have h8 : 6 - k = 7 - (k + 1) := by omega
      cases hw : rRd k with
      | false =>
        rw [hw] at hrun
        have HE2 := Lib.hid ((HE.out.trans (rdN_no (n := 6 - k) (by rw [hw]; rfl))).trans (by rw [h8]))
        clear hw hfk HH h7 h8 HE
        generalize rMask k = m at *
        generalize rVal k = v at *
        generalize rWr k = wa at *
        go_wp2_with fail
        have hb3 := Below.alloc (Below.refl wr.heap.size wr) (Nat.le_refl _) (.cells (rowR (k + 1 : Nat) m v wa false) 41)
        exact ⟨⟨k + 1, by go_num, by omega, HE2, HB.out.trans (hb3.mono HB.out.size)⟩, by simp [intOf]; omega⟩
      | true =>
      rw [hw] at hfk hrun HH
      cases hc : (bits .and .u16 p (rMask k) == rVal k) with
      | true =>
        rw [hc] at hfk HH
        have HE2 := Lib.hid (HE.out.trans (rdN_yes (n := 6 - k) (by rw [hw]; exact hfk)))
        clear hc hw hfk h7 h8 HE
        generalize rMask k = m at *
        generalize rVal k = v at *
        generalize rWr k = wa at *
        go_wp2_with fail
        refine (HH.out _).mono ?_
        rintro e w2 ⟨rfl, hb2⟩
        have hb3 := Below.trans ((Below.refl wr.heap.size wr).alloc (Nat.le_refl _) _) (hb2.mono (by simp))
        have hcl : w2.cell? ⟨wr.heap.size, 0, none⟩ = some (.int .i64 ((k + 1 : Nat) : Int)) := (hb2.cell (by simp)).trans (by rw [World.cell?_alloc_at _ _ _ _ rfl]; rfl)
        have HB3 := Lib.hid hb3
        clear hb2 hb3
        go_wp2_with fail
        go_ret
        exact ⟨p_ret (by rw [HE2.out]; omega), HB.out.trans (HB3.out.mono HB.out.size)⟩
      | false =>
        rw [hc] at hfk HH
        have HE2 := Lib.hid ((HE.out.trans (rdN_no (n := 6 - k) (by rw [hw]; exact hfk))).trans (by rw [h8]))
        clear hc hw hfk h7 h8 HE
        generalize rMask k = m at *
        generalize rVal k = v at *
        generalize rWr k = wa at *
        go_wp2_with fail
        refine (HH.out _).mono ?_
        rintro e w2 ⟨rfl, hb2⟩
        have hb3 := Below.trans ((Below.refl wr.heap.size wr).alloc (Nat.le_refl _) _) (hb2.mono (by simp))
        have HB3 := Lib.hid hb3
        clear hb2 hb3
        go_wp2_with fail
        exact ⟨⟨k + 1, by go_num, by omega, HE2, HB.out.trans (HB3.out.mono HB.out.size)⟩, by simp [intOf]; omega⟩
    · obtain rfl : k = 7 := by omega
      go_wp2_with fail
      go_ret
      exact ⟨p_ret HE.out.symm, HB.out⟩

/-- Is a port of a class? -/
def isI (c p : Int) : Bool := if c = 8 then rdI p == 8 else if 1 ≤ c ∧ c ≤ 7 then hasC p (c.toNat - 1) else false
set_option maxHeartbeats 4000000 in
theorem is_any (c p : Int) (w : World) (hV : RV w) : Calls Tryd.prog 18 #[.int .i64 c, .int .u16 p] w fun e w' => e = .returned (.bool (isI c p)) ∧ Below w.heap.size w w' := by
  have HV := Lib.hid hV
  clear hV
  by_cases h8 : c = 8
  · subst h8
    have hz : isI 8 p = (rdI p == 8) := rfl
    rw [hz]
    clear hz
    have HR := Lib.hid (read_any p w HV.out)
    generalize rdI p = r at *
    go_enter Tryd.func18, Tryd.ntmps18
    go_wp2_with fail
    refine HR.out.mono ?_
    rintro e w1 ⟨rfl, hb⟩
    go_wp2_with fail
    go_ret
    exact ⟨rfl, hb⟩
  · have e8 : (c == 8) = false := by rw [beq_eq_false_iff_ne]; exact h8
    obtain ⟨z, hz⟩ : ∃ z, isI c p = z := ⟨_, rfl⟩
    rw [hz]
    have HZ := Lib.hid hz
    have H8 := Lib.hid h8
    clear hz h8
    go_enter Tryd.func18, Tryd.ntmps18
    go_wp2_with (refine w_load_flat rfl 42 _ rfl 2 rfl rulesA _ HV.out.rules Tryd.underlying42 rfl (by kernel_rfl) ?_)
    go_loopw [13] (fun i wr => ∃ (k : Nat), i = .int .i64 k ∧ k ≤ 7 ∧ Hid (1 ≤ c → (k : Int) < c) ∧ Below w.heap.size w wr) (fun i _ => 7 - (intOf i).toNat)
    case atStart => exact ⟨0, rfl, by omega, Lib.hid (by omega), Below.refl _ _⟩
    case round =>
      rename World => wr
      obtain ⟨k, rfl, hk, HE, hb⟩ := hrel
      have HB := Lib.hid hb
      clear hb
      by_cases hlt : k < 7
      · have hrun := rules_index k wr hlt
        have HH := Lib.hid (fun w1 => has_any (k + 1 : Nat) (rMask k) (rVal k) p (rWr k) (rRd k) w1)
        obtain ⟨d, hd⟩ : ∃ d : Int, ((k + 1 : Nat) : Int) = d := ⟨_, rfl⟩
        rw [hd] at hrun HH
        by_cases hc : d = c
        · subst hc
          have hzk : z = (bits .and .u16 p (rMask k) == rVal k) := by
            rw [← HZ.out]
            unfold isI
            rw [if_neg H8.out, if_pos (by omega), show d.toNat - 1 = k by omega]
            rfl
          rw [← hzk] at HH
          clear hzk hd HE
          generalize rMask k = m at *
          generalize rVal k = v at *
          generalize rWr k = wa at *
          generalize rRd k = wb at *
          go_wp2_with fail
          refine (HH.out _).mono ?_
          rintro e w2 ⟨rfl, hb2⟩
          have hb3 := Below.trans ((Below.refl wr.heap.size wr).alloc (Nat.le_refl _) _) (hb2.mono (by simp))
          have HB3 := Lib.hid hb3
          clear hb2 hb3
          go_wp2_with fail
          go_ret
          exact ⟨rfl, HB.out.trans (HB3.out.mono HB.out.size)⟩
        · have e1 : (d == c) = false := by rw [beq_eq_false_iff_ne]; exact hc
          have HE2 := Lib.hid (show 1 ≤ c → ((k + 1 : Nat) : Int) < c by have := HE.out; omega)
          clear hc hd HE HH
          generalize rMask k = m at *
          generalize rVal k = v at *
          generalize rWr k = wa at *
          generalize rRd k = wb at *
          go_wp2_with fail
          have hb3 := Below.alloc (Below.refl wr.heap.size wr) (Nat.le_refl _) (.cells (rowR d m v wa wb) 41)
          exact ⟨⟨k + 1, by go_num, by omega, HE2, HB.out.trans (hb3.mono HB.out.size)⟩, by simp [intOf]; omega⟩
      · obtain rfl : k = 7 := by omega
        obtain rfl : z = false := by
          rw [← HZ.out]
          unfold isI
          rw [if_neg H8.out, if_neg]
          have h1 := HE.out
          have h2 := H8.out
          omega
        go_wp2_with fail
        go_ret
        exact ⟨rfl, HB.out⟩
end Go.Proofs.YtmgaibpdpcancaaDoor
