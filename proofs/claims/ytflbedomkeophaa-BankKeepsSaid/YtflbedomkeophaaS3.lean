
/- A map of what was put, by bank and place: pure. -/
import Derived.Test.YtflbedomkeophaaS2
import Derived.Maps.OwnOps
import Derived.Maps.Views
import Derived.Maps.RangeWalk
namespace Go.Proofs.Ytflbedomkeophaa
open Go.RowKit Go.Maps
set_option linter.unusedSimpArgs false
set_option linter.unusedVariables false

theorem keyedI : Keyed Try.prog 3 := int_keyed Try.underlying3
theorem zero8 (w : World) : (zeroValue 5).run Try.prog w = .ok (.int .u8 0) w := by kernel_rfl

/-- What stands at a key. -/
def memF (M : Nat → List Int) (x : Int) : Int := if 0 ≤ x ∧ x < 196608 then (M (x / 16384).toNat).getD (x % 16384).toNat 0 else 0
structure MapRel (D : DataW Unit) (F : Int → Int) : Prop where
  isMap : IsMap D
  at_ : ∀ x : Int, D.atKey (.int .i64 x) (.lit (.int .u8 0)) = .lit (.int .u8 (F x))
  out : ∀ x : Int, ¬ (0 ≤ x ∧ x < 196608) → ∀ zd, D.atKey (.int .i64 x) zd = zd
theorem bkL_mem (x : Int) : memF (fun _ => bkL) x = 0 := by
  unfold memF
  split
  · exact bkL_at _
  · rfl
theorem MapRel.start : MapRel (.map []) (memF (fun _ => bkL)) := ⟨isMap_empty, fun x => by rw [bkL_mem]; rfl, fun x _ zd => rfl⟩
theorem MapRel.put {D : DataW Unit} {F G : Int → Int} (h : MapRel D F) (x0 v : Int) (h0 : 0 ≤ x0 ∧ x0 < 196608) (hG : ∀ x, G x = if x = x0 then v else F x) : MapRel (D.put (.int .i64 x0) (.lit (.int .u8 v))) G := by
  refine ⟨h.isMap.put _ _, fun x => ?_, fun x hx zd => ?_⟩
  · rw [hG]
    by_cases e : x0 = x
    · subst e
      rw [if_pos rfl, atKey_put_same h.isMap (by simp [WideAt.IsKeyLit])]
    · rw [if_neg (fun e2 => e e2.symm), atKey_put_other (fun e2 => e (by injection e2 with _ e3; exact e3.symm)), h.at_]
  · rw [atKey_put_other (fun e2 => hx (by injection e2 with _ e3; rw [e3]; exact h0)), h.out x hx]
theorem MapRel.same {D : DataW Unit} {F G : Int → Int} (h : MapRel D F) (hG : ∀ x, G x = F x) : MapRel D G := ⟨h.isMap, fun x => by rw [hG]; exact h.at_ x, h.out⟩
/-- What a key that is there holds. -/
theorem MapRel.found {D : DataW Unit} {M : Nat → List Int} (h : MapRel D (memF M)) {x c : Int} (hat : ∀ zd, D.atKey (.int .i64 x) zd = .lit (.int .u8 c)) : (0 ≤ x ∧ x < 196608) ∧ c = (M (x / 16384).toNat).getD (x % 16384).toNat 0 := by
  have hr : 0 ≤ x ∧ x < 196608 := by
    by_cases hx : 0 ≤ x ∧ x < 196608
    · exact hx
    · have h1 := (hat (.lit (.bool true))).symm.trans (h.out x hx _)
      injection h1 with h1
      cases h1
  refine ⟨hr, ?_⟩
  have h1 := (hat (.lit (.int .u8 0))).symm.trans (h.at_ x)
  injection h1 with h1
  injection h1 with _ h1
  rw [h1]
  unfold memF
  rw [if_pos hr]
theorem key_parts (b p : Nat) (hp : p < 16384) (x : Int) : x = (b : Int) * 16384 + p ↔ (0 ≤ x ∧ (x / 16384).toNat = b ∧ (x % 16384).toNat = p) := by omega
theorem memF_key (M : Nat → List Int) (b p : Nat) (hb : b < 12) (hp : p < 16384) : memF M ((b : Int) * 16384 + p) = (M b).getD p 0 := by
  unfold memF
  rw [if_pos (by omega)]
  congr 2 <;> omega
theorem splice_none (L : List Int) (p : Nat) : splice L p [] = L := by unfold splice; simp
theorem patch_none (M : Nat → List Int) (b p : Nat) (x : Int) : memF (patchP M (b, p, [])) x = memF M x := by
  unfold memF patchP
  dsimp only
  split
  · split
    · rw [splice_none]
    · rfl
  · rfl
theorem patch_one (M : Nat → List Int) (hM : ∀ i, (M i).length = 16384) (b p j : Nat) (l : List Int) (hb : b < 12) (hp : p + l.length ≤ 16384) (hj : j < l.length) (x : Int) :
    memF (patchP M (b, p, l.take (j + 1))) x = if x = (b : Int) * 16384 + ((p + j : Nat) : Int) then l.getD j 0 else memF (patchP M (b, p, l.take j)) x := by
  have hk := key_parts b (p + j) (by omega) x
  have l1 : (l.take (j + 1)).length = j + 1 := by rw [List.length_take]; omega
  have l2 : (l.take j).length = j := by rw [List.length_take]; omega
  by_cases hx : 0 ≤ x ∧ x < 196608
  · unfold memF patchP
    dsimp only
    rw [if_pos hx, if_pos hx]
    generalize hq : (x % 16384).toNat = q at *
    generalize hi : (x / 16384).toNat = i at *
    by_cases h1 : i = b
    · subst h1
      rw [if_pos rfl, if_pos rfl, splice_get _ _ _ _ (by rw [hM, l1]; omega), splice_get _ _ _ _ (by rw [hM, l2]; omega), l1, l2]
      by_cases h2 : q = p + j
      · subst h2
        rw [if_pos (by omega), if_pos (hk.2 ⟨hx.1, rfl, rfl⟩)]
        simp only [List.getD_eq_getElem?_getD]
        rw [show p + j - p = j by omega, List.getElem?_take, if_pos (by omega)]
      · rw [if_neg (c := x = _) (fun e => h2 (hk.1 e).2.2)]
        by_cases h3 : p ≤ q ∧ q < p + j
        · rw [if_pos (by omega), if_pos h3]
          simp only [List.getD_eq_getElem?_getD]
          rw [List.getElem?_take, if_pos (by omega), List.getElem?_take, if_pos (by omega)]
        · rw [if_neg (by omega), if_neg h3]
    · rw [if_neg h1, if_neg h1, if_neg (fun e => h1 (hk.1 e).2.1)]
  · unfold memF
    rw [if_neg hx, if_neg hx, if_neg (fun e => hx (by omega))]
theorem put_one (X : Mo) (b p : Nat) (v : Int) (hb : b < 12) (hp : p < 16384) (hl : (X.L b).length = 16384) (x : Int) :
    memF (X.put b p v).L x = if x = (b : Int) * 16384 + ((p : Nat) : Int) then v else memF X.L x := by
  have hk := key_parts b p hp x
  by_cases hx : 0 ≤ x ∧ x < 196608
  · unfold memF Mo.put
    dsimp only
    rw [if_pos hx, if_pos hx]
    generalize hq : (x % 16384).toNat = q at *
    generalize hi : (x / 16384).toNat = i at *
    by_cases h1 : i = b
    · subst h1
      rw [if_pos rfl]
      simp only [List.getD_eq_getElem?_getD]
      by_cases h2 : q = p
      · subst h2
        rw [if_pos (hk.2 ⟨hx.1, rfl, rfl⟩), List.getElem?_set_self (by omega)]
        rfl
      · rw [if_neg (fun e => h2 (hk.1 e).2.2), List.getElem?_set_ne (fun e => h2 e.symm)]
    · rw [if_neg h1, if_neg (fun e => h1 (hk.1 e).2.1)]
  · unfold memF
    rw [if_neg hx, if_neg hx, if_neg (fun e => hx (by omega))]
theorem patchL_pp (M : Nat → List Int) (y : Pt) : patchL M y = patchP M y.pp := rfl
theorem newL_len (ps : List Pt) (h : ∀ x ∈ ps, x.may) : ∀ k, k ≤ ps.length → ∀ i, (newL (ps.take k) i).length = 16384
  | 0, _ => fun i => bkL_len
  | k + 1, hk => fun i => by
    have hm : ps.getD k ptZ ∈ ps := by rw [getD_pt ps k (by omega)]; exact List.getElem_mem _
    obtain ⟨h1, h2, h3, h4⟩ := h _ hm
    rw [newL_take ps k (by omega)]
    have ih := newL_len ps h k (by omega)
    unfold patchL
    split
    · rw [length_splice _ _ _ (by rw [ih]; omega), ih]
    · exact ih i

/-- Calls of a memory. -/
structure Ac where
  k : Int
  a : Int
  v : Int
  m : Bool
def acZ : Ac := ⟨0, 0, 0, false⟩
abbrev Ac.cells (x : Ac) : List Value := [.int .i64 x.k, .int .u16 x.a, .int .u8 x.v, .bool x.m]
structure Ac.wf (x : Ac) : Prop where
  k : -9223372036854775808 ≤ x.k ∧ x.k ≤ 9223372036854775807
  a : 0 ≤ x.a ∧ x.a < 65536
  v : 0 ≤ x.v ∧ x.v < 256
structure AcsAt (w : World) (B : Nat) (A : Option Addr) (c : Nat) (xs : List Ac) : Prop where
  le : xs.length ≤ c
  cap : c ≤ maxLen
  at_ : 0 < xs.length → ∃ b o, A = some ⟨b, o, none⟩ ∧ b < B ∧ ∀ i, i < xs.length → ∀ j, j < 4 → w.cell? ⟨b, o + i * 4 + j, none⟩ = (xs.getD i acZ).cells[j]?
theorem AcsAt.below {w w' : World} {B c : Nat} {A : Option Addr} {xs : List Ac} (h : AcsAt w B A c xs) (hb : Below B w w') : AcsAt w' B A c xs :=
  ⟨h.le, h.cap, fun h0 => by
    obtain ⟨b, o, h1, h2, h3⟩ := h.at_ h0
    exact ⟨b, o, h1, h2, fun i hi j hj => (World.cell?_of_block (hb.block _ h2)).trans (h3 i hi j hj)⟩⟩
theorem AcsAt.one {w : World} {B c b o : Nat} {xs : List Ac} (h : AcsAt w B (some ⟨b, o, none⟩) c xs) (i : Nat) (hi : i < xs.length) (y : Ac) (hy : xs.getD i acZ = y) :
    w.cell? ⟨b, o + i * 4, none⟩ = some (.int .i64 y.k) ∧ w.cell? ⟨b, o + i * 4 + 1, none⟩ = some (.int .u16 y.a) ∧ w.cell? ⟨b, o + i * 4 + 2, none⟩ = some (.int .u8 y.v) ∧ w.cell? ⟨b, o + i * 4 + 3, none⟩ = some (.bool y.m) := by
  obtain ⟨b', o', h1, h2, h3⟩ := h.at_ (by omega)
  injection h1 with h1
  injection h1 with h1 h4
  subst h1 h4
  have h5 := h3 i hi
  rw [hy] at h5
  exact ⟨h5 0 (by decide), h5 1 (by decide), h5 2 (by decide), h5 3 (by decide)⟩
/-- Pick of five. -/
def pk5 (n : Int) : Int := if n.tmod 5 < 0 then n.tmod 5 + 5 else n.tmod 5
theorem pk5_in (n : Int) : 0 ≤ pk5 n ∧ pk5 n < 5 := by
  have h0 := Int.tmod_lt_of_pos n (show (0 : Int) < 5 by decide)
  have h1 : -5 < n.tmod 5 := by
    have := Int.tmod_lt_of_pos (-n) (show (0 : Int) < 5 by decide)
    rw [Int.neg_tmod] at this; omega
  unfold pk5
  split <;> omega
theorem pick5 (n : Int) (w : World) (h0 : -9223372036854775808 ≤ n) (h1 : n ≤ 9223372036854775807) : Calls Try.prog 20 #[.int .i64 n, .int .i64 5] w fun e w' => e = .returned (.int .i64 (pk5 n)) ∧ w = w' := by
  have hr0 := Int.tmod_lt_of_pos n (show (0 : Int) < 5 by decide)
  have hr1 : -5 < n.tmod 5 := by
    have := Int.tmod_lt_of_pos (-n) (show (0 : Int) < 5 by decide)
    rw [Int.neg_tmod] at this; omega
  unfold pk5
  by_cases hneg : n.tmod 5 < 0
  · rw [if_pos hneg]
    go_enter Try.func20, Try.ntmps20
    go_wp2
    go_ret
    exact ⟨rfl, rfl⟩
  · rw [if_neg hneg]
    go_enter Try.func20, Try.ntmps20
    go_wp2
    go_ret
    exact ⟨rfl, rfl⟩
end Go.Proofs.Ytflbedomkeophaa
