/-      -/
import Derived.Test.YtgaihekapakoeaaGreatDoorJ6
import Derived.Lib.ItoaNum
import Derived.Test.YtgaihekapakoeaaGreatDoorZB
import Derived.Shelf.RegionOpenPlain
import Derived.Lib.Strings
import Derived.Lib.Slices
import Derived.Lib.Walk
import Derived.Lib.Builder
import Derived.Lib.AppendStr
import Derived.Lib.UnsafeStr
import Derived.Laws.Externs
import Derived.Laws.IdiomCopy
import Derived.Laws.BitsLemmas
import Derived.Test.YtgaihekapakoeaaGreatDoorZQ4
import Derived.Test.YtgaihekapakoeaaGreatDoorShelf
import Derived.Lib.AppendIntMem
import Derived.Lib.SmallJoins
import Derived.Lib.Hide
import Derived.Lib.ItoaLen
set_option linter.unusedVariables false
set_option linter.unusedSimpArgs false
namespace Go.Proofs.YtgaihekapakoeaaGreatDoor
open Go.RowKit


def nameL8 : List (List UInt8) := [[66], [67], [68], [69], [72], [76], [40, 72, 76, 41], [65]]
def pairL4 : List (List UInt8) := [[66, 67], [68, 69], [72, 76], [83, 80]]
def indexL3 : List (List UInt8) := [[72, 76], [73, 88], [73, 89]]
def condL8 : List (List UInt8) := [[78, 90], [90], [78, 67], [67], [80, 79], [80, 69], [80], [77]]
def shiftL8 : List (List UInt8) := [[82, 76, 67, 32], [82, 82, 67, 32], [82, 76, 32], [82, 82, 32], [83, 76, 65, 32], [83, 82, 65, 32], [83, 76, 76, 32], [83, 82, 76, 32]]
def operL8 : List (List UInt8) := [[65, 68, 68, 32, 65, 44], [65, 68, 67, 32, 65, 44], [83, 85, 66, 32], [83, 66, 67, 32, 65, 44], [65, 78, 68, 32], [88, 79, 82, 32], [79, 82, 32], [67, 80, 32]]
def nth (l : List (List UInt8)) (k : Int) : List UInt8 := l.getD k.toNat []

def bits1 : List (List UInt8) := [[114, 122], [66, 73, 84, 32, 118, 44, 122], [82, 69, 83, 32, 118, 44, 122], [83, 69, 84, 32, 118, 44, 122]]
def bitsM : List (List UInt8) := [[114, 109], [66, 73, 84, 32, 118, 44, 109], [82, 69, 83, 32, 118, 44, 109], [83, 69, 84, 32, 118, 44, 109]]
def bitsX : List (List UInt8) := [[114, 109, 44, 122], [], [82, 69, 83, 32, 118, 44, 109, 44, 122], [83, 69, 84, 32, 118, 44, 109, 44, 122]]
def low0 : List (List UInt8) := [[78, 79, 80], [69, 88, 32, 65, 70, 44, 65, 70, 39], [68, 74, 78, 90, 32, 101], [74, 82, 32, 101], [74, 82, 32, 106, 44, 101], [74, 82, 32, 106, 44, 101], [74, 82, 32, 106, 44, 101], [74, 82, 32, 106, 44, 101]]
def low1 : List (List UInt8) := [[76, 68, 32, 115, 44, 110], [65, 68, 68, 32, 104, 44, 115]]
def low2 : List (List UInt8) := [[76, 68, 32, 40, 66, 67, 41, 44, 65], [76, 68, 32, 65, 44, 40, 66, 67, 41], [76, 68, 32, 40, 68, 69, 41, 44, 65], [76, 68, 32, 65, 44, 40, 68, 69, 41], [76, 68, 32, 40, 110, 41, 44, 104], [76, 68, 32, 104, 44, 40, 110, 41], [76, 68, 32, 40, 110, 41, 44, 65], [76, 68, 32, 65, 44, 40, 110, 41]]
def low3 : List (List UInt8) := [[73, 78, 67, 32, 115], [68, 69, 67, 32, 115]]
def low7 : List (List UInt8) := [[82, 76, 67, 65], [82, 82, 67, 65], [82, 76, 65], [82, 82, 65], [68, 65, 65], [67, 80, 76], [83, 67, 70], [67, 67, 70]]
def patLow (o : Int) : List UInt8 :=
 if o % 8 = 0 then nth low0 (o / 8 % 8) else if o % 8 = 1 then nth low1 (o / 8 % 2) else if o % 8 = 2 then nth low2 (o / 8 % 8)
 else if o % 8 = 3 then nth low3 (o / 8 % 2) else if o % 8 = 4 then [73, 78, 67, 32, 121] else if o % 8 = 5 then [68, 69, 67, 32, 121] else if o % 8 = 6 then [76, 68, 32, 121, 44, 110] else nth low7 (o / 8 % 8)
def high1 : List (List UInt8) := [[80, 79, 80, 32, 107], [82, 69, 84], [80, 79, 80, 32, 107], [69, 88, 88], [80, 79, 80, 32, 107], [74, 80, 32, 40, 104, 41], [80, 79, 80, 32, 107], [76, 68, 32, 83, 80, 44, 104]]
def high3 : List (List UInt8) := [[74, 80, 32, 110], [], [79, 85, 84, 32, 40, 110, 41, 44, 65], [73, 78, 32, 65, 44, 40, 110, 41], [69, 88, 32, 40, 83, 80, 41, 44, 104], [69, 88, 32, 68, 69, 44, 72, 76], [68, 73], [69, 73]]
def high5 : List (List UInt8) := [[80, 85, 83, 72, 32, 107], [67, 65, 76, 76, 32, 110]]
def patHigh (o : Int) : List UInt8 :=
 if o % 8 = 0 then [82, 69, 84, 32, 99] else if o % 8 = 1 then nth high1 (o / 8 % 8) else if o % 8 = 2 then [74, 80, 32, 99, 44, 110] else if o % 8 = 3 then nth high3 (o / 8 % 8)
 else if o % 8 = 4 then [67, 65, 76, 76, 32, 99, 44, 110] else if o % 8 = 5 then nth high5 (o / 8 % 2) else if o % 8 = 6 then [97, 110] else [82, 83, 84, 32, 116]
def patMain (o : Int) : List UInt8 :=
 if o / 64 = 0 then patLow o else if o = 118 then [72, 65, 76, 84] else if o / 64 = 1 then [76, 68, 32, 121, 44, 122] else if o / 64 = 2 then [97, 122] else patHigh o
def blk0 : List (List UInt8) := [[76, 68, 73], [76, 68, 68], [76, 68, 73, 82], [76, 68, 68, 82]]
def blk1 : List (List UInt8) := [[67, 80, 73], [67, 80, 68], [67, 80, 73, 82], [67, 80, 68, 82]]
def blk2 : List (List UInt8) := [[73, 78, 73], [73, 78, 68], [73, 78, 73, 82], [73, 78, 68, 82]]
def blk3 : List (List UInt8) := [[79, 85, 84, 73], [79, 85, 84, 68], [79, 84, 73, 82], [79, 84, 68, 82]]
def blkL (k : Int) : List (List UInt8) := if k = 0 then blk0 else if k = 1 then blk1 else if k = 2 then blk2 else blk3
def patBlock (o : Int) : List UInt8 := nth (blkL (o % 8 % 4)) (o / 8 % 8 % 4)
def more2 : List (List UInt8) := [[83, 66, 67, 32, 104, 44, 115], [65, 68, 67, 32, 104, 44, 115]]
def more3 : List (List UInt8) := [[76, 68, 32, 40, 110, 41, 44, 115], [76, 68, 32, 115, 44, 40, 110, 41]]
def more5 : List (List UInt8) := [[82, 69, 84, 78], [82, 69, 84, 73]]
def more6 : List (List UInt8) := [[73, 77, 32, 48], [], [73, 77, 32, 49], [73, 77, 32, 50]]
def more7 : List (List UInt8) := [[76, 68, 32, 73, 44, 65], [76, 68, 32, 82, 44, 65], [76, 68, 32, 65, 44, 73], [76, 68, 32, 65, 44, 82], [82, 82, 68], [82, 76, 68], [], []]
def patMore (o : Int) : List UInt8 :=
 if o / 64 = 2 then patBlock o else if o % 8 = 0 then (if o / 8 % 8 = 6 then [73, 78, 32, 70, 44, 40, 67, 41] else [73, 78, 32, 121, 44, 40, 67, 41]) else if o % 8 = 1 then (if o / 8 % 8 = 6 then [79, 85, 84, 32, 40, 67, 41, 44, 48] else [79, 85, 84, 32, 40, 67, 41, 44, 121])
 else if o % 8 = 2 then nth more2 (o / 8 % 2) else if o % 8 = 3 then nth more3 (o / 8 % 2) else if o % 8 = 4 then [78, 69, 71] else if o % 8 = 5 then nth more5 (o / 8 % 2) else if o % 8 = 6 then nth more6 (o / 8 % 8 % 4) else nth more7 (o / 8 % 8)
def patOf (s o : Int) : List UInt8 :=
 if s = 1 then nth bits1 (o / 64) else if s = 3 then (if o % 8 = 6 then nth bitsM (o / 64) else nth bitsX (o / 64)) else if s = 2 then patMore o else patMain o

def tk (l : List UInt8) : List Nat := l.map UInt8.toNat
def memK (x : Int) : List Nat := [40] ++ (tk (nth indexL3 x) ++ ([258] ++ [41]))
def byteK (s x o c : Int) : List Nat :=
 if c = 6 ∧ needD s x o = true then memK x else if (c = 4 ∨ c = 5) ∧ needD s x o = false ∧ x ≠ 0 then tk (nth indexL3 x) ++ tk (nth nameL8 c) else tk (nth nameL8 c)
def pairK (x c : Int) : List Nat := if c = 2 then tk (nth indexL3 x) else tk (nth pairL4 c)
def stackK (x c : Int) : List Nat := if c = 3 then [65, 70] else pairK x c
def tensL : List (List Nat) := [[48], [56], [49, 54], [50, 52], [51, 50], [52, 48], [52, 56], [53, 54]]
def markK (s x o : Int) (c : UInt8) : List Nat :=
 if c = 121 then byteK s x o (o / 8 % 8) else if c = 122 then byteK s x o (o % 8) else if c = 109 then memK x else if c = 115 then pairK x (o / 8 % 8 / 2) else if c = 107 then stackK x (o / 8 % 8 / 2)
 else if c = 104 then tk (nth indexL3 x) else if c = 99 then tk (nth condL8 (o / 8 % 8)) else if c = 106 then tk (nth condL8 (o / 8 % 8 % 4)) else if c = 110 then [256] else if c = 101 then [257]
 else if c = 118 then [48 + (o / 8 % 8).toNat] else if c = 116 then tensL.getD (o / 8 % 8).toNat [] else if c = 114 then tk (nth shiftL8 (o / 8 % 8)) else if c = 97 then tk (nth operL8 (o / 8 % 8)) else [c.toNat]
def toksK (s x o : Int) : List Nat := (patOf s o).flatMap (markK s x o)

def signT (bare : Bool) (v : Int) : List UInt8 := if bare = true then [] else if 0 ≤ v then [43] ++ Lib.itoa v else Lib.itoa v
def rendT (bare : Bool) (d m : Int) (t : Nat) : List UInt8 := if t = 256 then (if bare = true then [] else Lib.itoa m) else if t = 257 then signT bare m else if t = 258 then signT bare d else [UInt8.ofNat t]
def rend (bare : Bool) (d m : Int) (K : List Nat) : List UInt8 := K.flatMap (rendT bare d m)
def toldT (bare : Bool) (i : In) : List UInt8 := rend bare i.d i.m (toksK i.s i.x i.o)
theorem rend_add (bare : Bool) (d m : Int) (a b : List Nat) : rend bare d m (a ++ b) = rend bare d m a ++ rend bare d m b := List.flatMap_append ..
theorem rend_tk (bare : Bool) (d m : Int) (l : List UInt8) : rend bare d m (tk l) = l := by
 unfold rend tk
 induction l with
 | nil => rfl
 | cons c r ih =>
  have hc : c.toNat < 256 := c.toNat_lt
  have : rendT bare d m c.toNat = [c] := by
   unfold rendT
   rw [if_neg (by omega), if_neg (by omega), if_neg (by omega), UInt8.ofNat_toNat]
  rw [List.map_cons, List.flatMap_cons, ih, this]; rfl
theorem rend_flat (bare : Bool) (d m : Int) (s x o : Int) (l : List UInt8) : rend bare d m (l.flatMap (markK s x o)) = l.flatMap fun c => rend bare d m (markK s x o c) := by
 unfold rend; rw [List.flatMap_assoc]
end Go.Proofs.YtgaihekapakoeaaGreatDoor
namespace Go.Proofs.YtgaihekapakoeaaGreatDoor
open Go.RowKit


structure WP (w : World) (B b : Nat) (T : TypeId) (rest : List Value) (p : Value) (bs : List UInt8) : Prop where
 le : B ≤ b
 ne : T ≠ 5
 row : ∃ v, w.heap[b]? = some (.cells (p :: v :: rest).toArray T (0, 0)) ∧ w.ownsRow B 5 1 v bs.length (Lib.byteCells bs) ∧ v.ownBlock ≠ some b
def WB (w : World) (B b : Nat) (T : TypeId) (rest : List Value) (bs : List UInt8) : Prop := WP w B b T rest (.pointer none) bs ∨ WP w B b T rest (.pointer (some ⟨b, 0, none⟩)) bs

section
variable {w w' : World} {B b : Nat} {T : TypeId} {rest : List Value} {p : Value} {bs : List UInt8}
theorem WP.lt (h : WP w B b T rest p bs) : b < w.heap.size := by
 obtain ⟨v, hb, _⟩ := h.row
 exact (Array.getElem?_eq_some_iff.1 hb).1
theorem WP.cell0 (h : WP w B b T rest p bs) : w.cell? ⟨b, 0, none⟩ = some p := by
 obtain ⟨v, hb, _⟩ := h.row
 rw [Lib.cell_of_heap hb]; rfl
theorem WP.shape (h : WP w B b T rest p bs) : w.shape? b = some (T, rest.length + 2) := by
 obtain ⟨v, hb, _⟩ := h.row
 simp [World.shape?, hb]
theorem WP.frozen (h : WP w B b T rest p bs) (j : Nat) : w.frozen? ⟨b, j, none⟩ = false := by
 obtain ⟨v, hb, _⟩ := h.row
 exact Lib.frozen_of_heap hb j
theorem WP.more (h : WP w B b T rest p bs) (j : Nat) : w.cell? ⟨b, j + 2, none⟩ = rest[j]? := by
 obtain ⟨v, hb, _⟩ := h.row
 rw [Lib.cell_of_heap hb]; simp
theorem grown_setCellW (w : World) (b k : Nat) (u : Value) : w.grownBy (w.setCell ⟨b, k, none⟩ u) (some b) :=
 ⟨rfl, rfl, rfl, by simp [World.setCell], fun k _ hk => Below.heap_setCell _ _ _ _ (fun e => hk (by simp [e]))⟩
theorem WP.used (h : WP w B b T rest p bs) (q : Value) : WP (w.setCell ⟨b, 0, none⟩ q) B b T rest q bs := by
 obtain ⟨v, hb, hown, hne⟩ := h.row
 refine ⟨h.le, h.ne, v, ?_, hown.kept (row := some b) (grown_setCellW _ _ _ _) (Or.inr hne), hne⟩
 simp [World.setCell, Array.getElem?_modify, hb]
theorem WP.put {v v' : Value} {bs' : List UInt8} (hB : B ≤ b) (hT : T ≠ 5) (hb : w.heap[b]? = some (.cells (p :: v :: rest).toArray T (0, 0))) (hown : w.ownsRow B 5 1 v' bs'.length (Lib.byteCells bs')) :
  WP (w.setCell ⟨b, 1, none⟩ v') B b T rest p bs' := by
 have hne := Lib.ownBlock_ne hown hb hT
 refine ⟨hB, hT, v', ?_, hown.kept (row := some b) (grown_setCellW _ _ _ _) (Or.inr hne), hne⟩
 simp [World.setCell, Array.getElem?_modify, hb]
theorem WP.on (h : WP w B b T rest p bs) (hb : Below w.heap.size w w') : WP w' B b T rest p bs := by
 obtain ⟨v, hr, hown, hne⟩ := h.row
 refine ⟨h.le, h.ne, v, (hb.block _ h.lt).trans hr, hown.kept (row := none) ⟨hb.os, hb.tape, hb.output, hb.size, fun k hk _ => hb.block k hk⟩ ?_, hne⟩
 cases v.ownBlock <;> simp
theorem WB.lt (h : WB w B b T rest bs) : b < w.heap.size := h.elim WP.lt WP.lt
theorem WB.le (h : WB w B b T rest bs) : B ≤ b := h.elim WP.le WP.le
theorem WB.on (h : WB w B b T rest bs) (hb : Below w.heap.size w w') : WB w' B b T rest bs := h.imp (fun k => k.on hb) fun k => k.on hb
theorem WB.more (h : WB w B b T rest bs) (j : Nat) : w.cell? ⟨b, j + 2, none⟩ = rest[j]? := h.elim (fun k => k.more j) fun k => k.more j
end

def Begins (T : TypeId) (n : Nat) : Prop := liesAt Tryz.prog Tryz.prog.depth T (n / Tryz.prog.cellsOf T) 0 90 1 = true

theorem sizeBuilder : (Tryz.prog.info? 90).map (·.size) = some 2 := by kernel_rfl

set_option maxHeartbeats 1000000 in
set_option maxRecDepth 100000 in
theorem check_used (b : Nat) (w : World) (h0 : w.cell? ⟨b, 0, none⟩ = some (.pointer (some ⟨b, 0, none⟩))) :
  Calls Tryz.prog 118 #[.pointer (some ⟨b, 0, none⟩)] w fun e w' => e = .returned (.tuple #[]) ∧ w' = w := by
 obtain ⟨j, hj, _⟩ := Option.map_eq_some_iff.1 sizeBuilder
 go_enter Tryz.func118, Tryz.ntmps118
 go_wp2
 rw [Lib.run_neq_ptr_same w _ Tryz.underlying88 hj]
 go_wp2
 go_end0
 exact ⟨rfl, rfl⟩

set_option maxHeartbeats 1000000 in
set_option maxRecDepth 100000 in
theorem check_fresh (b n : Nat) (T : TypeId) (w : World) (h0 : w.cell? ⟨b, 0, none⟩ = some (.pointer none)) (hsh : w.shape? b = some (T, n + 2)) (hfz : w.frozen? ⟨b, 0, none⟩ = false) (hl : Begins T (n + 2)) :
  Calls Tryz.prog 118 #[.pointer (some ⟨b, 0, none⟩)] w fun e w' => e = .returned (.tuple #[]) ∧ w' = w.setCell ⟨b, 0, none⟩ (.pointer (some ⟨b, 0, none⟩)) := by
 obtain ⟨j, hj, hjs⟩ := Option.map_eq_some_iff.1 sizeBuilder
 have hc1 := Lib.run_to_unsafe (P := Tryz.prog) w ⟨b, 0, none⟩ Tryz.underlying88 Tryz.underlying163 hj (by rw [hjs]; decide) hsh (Nat.zero_lt_succ _)
 have hc2 := Lib.run_from_unsafe (P := Tryz.prog) w ⟨b, 0, none⟩ Tryz.underlying163 Tryz.underlying88 hj hsh hl
 clear hl
 go_enter Tryz.func118, Tryz.ntmps118
 go_wp2
 rw [run_callFunc_extern Tryz.func151 (by kernel_rfl) (by kernel_rfl) (by kernel_rfl) (e := Extern.AbiNoEscape.same) (by kernel_rfl)]
 rw [Lib.run_noEscape]
 simp only [Result.andThen]
 rw [Oper.upon_value]
 go_wp2
 go_end0
 exact ⟨rfl, rfl⟩

theorem check_any (w : World) (B b : Nat) (T : TypeId) (rest : List Value) (bs : List UInt8) (h : WB w B b T rest bs) (hl : Begins T (rest.length + 2)) :
  Calls Tryz.prog 118 #[.pointer (some ⟨b, 0, none⟩)] w fun e w' => e = .returned (.tuple #[]) ∧ (WP w' B b T rest (.pointer (some ⟨b, 0, none⟩)) bs ∧ Below B w w') := by
 rcases h with h | h
 ·refine (check_fresh b rest.length T w h.cell0 h.shape (h.frozen 0) hl).mono ?_
  rintro e w' ⟨rfl, rfl⟩
  exact ⟨rfl, h.used _, (Below.refl B w).setCell (p := ⟨b, 0, none⟩) h.le _⟩
 ·refine (check_used b w h.cell0).mono ?_
  rintro e w' ⟨rfl, rfl⟩
  exact ⟨rfl, h, Below.refl B _⟩

theorem check_kept (w : World) (B b : Nat) (T : TypeId) (rest : List Value) (bs : List UInt8) (h : WB w B b T rest bs) (hl : Begins T (rest.length + 2)) :
  Calls Tryz.prog 118 #[.pointer (some ⟨b, 0, none⟩)] w fun e w' => e = .returned (.tuple #[]) ∧ (WP w' B b T rest (.pointer (some ⟨b, 0, none⟩)) bs ∧ Below B w w' ∧ ∀ k, k ≠ b → w'.heap[k]? = w.heap[k]?) := by
 rcases h with h | h
 ·refine (check_fresh b rest.length T w h.cell0 h.shape (h.frozen 0) hl).mono ?_
  rintro e w' ⟨rfl, rfl⟩
  exact ⟨rfl, h.used _, (Below.refl B w).setCell (p := ⟨b, 0, none⟩) h.le _, fun k hk => Below.heap_setCell _ _ _ _ hk⟩
 ·refine (check_used b w h.cell0).mono ?_
  rintro e w' ⟨rfl, rfl⟩
  exact ⟨rfl, h, Below.refl B _, fun k _ => rfl⟩
end Go.Proofs.YtgaihekapakoeaaGreatDoor
namespace Go.Proofs.YtgaihekapakoeaaGreatDoor
open Go.RowKit


theorem strCells_bytes (s : ByteArray) : Lib.strCells s = Lib.byteCells s.data.toList := by simp [Lib.strCells, Lib.byteCells]
theorem byteCells_add (a b : List UInt8) : Lib.byteCells a ++ Lib.byteCells b = Lib.byteCells (a ++ b) := by simp [Lib.byteCells]
theorem slice_of {w : World} {B : Nat} {e : TypeId} {v : Value} {n : Nat} {xs : List Value} (h : w.ownsRow B e 1 v n xs) : ∃ ao cap, v = .slice ao n cap := by
 rcases h.2 with ⟨hv, h0⟩ | ⟨g, cap, cur, hv, _⟩
 ·exact ⟨none, 0, by rw [hv, h0]⟩
 ·exact ⟨_, _, hv⟩

set_option maxHeartbeats 2000000 in
set_option maxRecDepth 100000 in
theorem wb_string (w : World) (B b : Nat) (T : TypeId) (rest : List Value) (bs : List UInt8) (h : WB w B b T rest bs) (hl : Begins T (rest.length + 2)) (s : ByteArray) (hlen : bs.length + s.size ≤ 140737488355328) (hBw : B ≤ w.heap.size) :
  Calls Tryz.prog 72 #[.pointer (some ⟨b, 0, none⟩), .string s] w fun e w' => e = .returned (.tuple #[.int .i64 s.size, .nilIface]) ∧ (WB w' B b T rest (bs ++ s.data.toList) ∧ Below B w w') := by
 obtain ⟨i0, hi, hz0, hz1, hz2⟩ := info_parts infoB
 go_enter Tryz.func72, Tryz.ntmps72
 go_wp2_with (go_at_call 118; refine (check_any _ B b T rest bs h hl).mono ?_)
 rintro e w1 ⟨rfl, h1, hb1⟩
 have hlt := h1.lt
 have hB := h1.le
 have hT := h1.ne
 obtain ⟨v, hbk, hown, hne⟩ := h1.row
 have c0 : w1.cell? ⟨b, 0, none⟩ = some (.pointer (some ⟨b, 0, none⟩)) := by rw [Lib.cell_of_heap hbk]; rfl
 have c1 : w1.cell? ⟨b, 1, none⟩ = some v := by rw [Lib.cell_of_heap hbk]; rfl
 clear h h1 hl
 go_wp2_with (at_builtin; refine Lib.wpList_append_own_string _ rfl _ _ 27 9 rfl B 5 i0 Tryz.underlying27 Tryz.underlying9 hi hz0 hz1 hz2 _ _ _ rfl hown s rfl ?c3 ?c4 ?c5 ?_)
 case c3 => unfold maxLen; omega
 case c4 => omega
 case c5 => have := hb1.size; omega
 intro v' w2 hown' hgrow _
 have hb2 : w2.heap[b]? = some (.cells (.pointer (some ⟨b, 0, none⟩) :: v :: rest).toArray T (0, 0)) := by
  rw [hgrow.block b hlt (fun e => hne e.symm)]
  exact hbk
 have d0 : w2.cell? ⟨b, 0, none⟩ = some (.pointer (some ⟨b, 0, none⟩)) := by rw [Lib.cell_of_heap hb2]; rfl
 have d1 : w2.cell? ⟨b, 1, none⟩ = some v := by rw [Lib.cell_of_heap hb2]; rfl
 have f1 : w2.frozen? ⟨b, 1, none⟩ = false := Lib.frozen_of_heap hb2 1
 obtain ⟨ao, cap, rfl⟩ := slice_of hown'
 go_wp2
 go_ret2
 rw [strCells_bytes, byteCells_add] at hown'
 refine ⟨rfl, .inr (WP.put hB hT hb2 (by rw [List.length_append]; exact hown')), ?_⟩
 exact (hb1.grown hgrow (by have := hb1.size; omega) (fun k hk => (hown.lt k hk).1)).setCell (p := ⟨b, 1, none⟩) hB _

set_option maxHeartbeats 2000000 in
set_option maxRecDepth 100000 in
theorem wb_byte (w : World) (B b : Nat) (T : TypeId) (rest : List Value) (bs : List UInt8) (h : WB w B b T rest bs) (hl : Begins T (rest.length + 2)) (c : UInt8) (hlen : bs.length + 1 ≤ 140737488355328) (hBw : B ≤ w.heap.size) :
  Calls Tryz.prog 73 #[.pointer (some ⟨b, 0, none⟩), .int .u8 c.toNat] w fun e w' => e = .returned .nilIface ∧ (WB w' B b T rest (bs ++ [c]) ∧ Below B w w') := by
 obtain ⟨i0, hi, hz0, hz1, hz2⟩ := info_parts infoB
 go_enter Tryz.func73, Tryz.ntmps73
 go_wp2_with (go_at_call 118; refine (check_any _ B b T rest bs h hl).mono ?_)
 rintro e w1 ⟨rfl, h1, hb1⟩
 have hlt := h1.lt
 have hB := h1.le
 have hT := h1.ne
 obtain ⟨v, hbk, hown, hne⟩ := h1.row
 have c0 : w1.cell? ⟨b, 0, none⟩ = some (.pointer (some ⟨b, 0, none⟩)) := by rw [Lib.cell_of_heap hbk]; rfl
 have c1 : w1.cell? ⟨b, 1, none⟩ = some v := by rw [Lib.cell_of_heap hbk]; rfl
 clear h h1 hl
 go_wp2_with (at_builtin; refine wpList_append_own _ rfl _ _ 27 rfl B 5 i0 (.int .u8 0) 1 1 Tryz.underlying27 hi hz0 hz1 hz2 rfl (by decide) _ _ _ rfl (hown.alloc _) ⟨w1.heap.size, 0, none⟩ 1 1 [.int .u8 c.toNat] rfl rfl ?c1 ?c2 ?c3 ?c4 ?c5 ?_)
 case c1 =>
  intro j u hj
  match j, hj with
  | 0, hj => simp at hj; subst hj; simp [Addr.add]
 case c2 => intro u hu; simp at hu; subst hu; rfl
 case c3 => unfold maxLen; omega
 case c4 => omega
 case c5 => have := hb1.size; simp; omega
 intro v' w2 hown' hgrow _
 have hb2 : w2.heap[b]? = some (.cells (.pointer (some ⟨b, 0, none⟩) :: v :: rest).toArray T (0, 0)) := by
  rw [hgrow.block b (by simp; omega) (fun e => hne e.symm), Lib.alloc_old w1 _ b hlt]
  exact hbk
 have d0 : w2.cell? ⟨b, 0, none⟩ = some (.pointer (some ⟨b, 0, none⟩)) := by rw [Lib.cell_of_heap hb2]; rfl
 have d1 : w2.cell? ⟨b, 1, none⟩ = some v := by rw [Lib.cell_of_heap hb2]; rfl
 have f1 : w2.frozen? ⟨b, 1, none⟩ = false := Lib.frozen_of_heap hb2 1
 obtain ⟨ao, cap, rfl⟩ := slice_of hown'
 go_wp2
 go_ret
 refine ⟨rfl, .inr (WP.put hB hT hb2 (by rw [List.length_append]; rw [← byteCells_add]; exact hown')), ?_⟩
 exact ((hb1.alloc (by have := hb1.size; omega) _).grown hgrow (by have := hb1.size; simp; omega) (fun k hk => (hown.lt k hk).1)).setCell (p := ⟨b, 1, none⟩) hB _

set_option maxHeartbeats 2000000 in
set_option maxRecDepth 100000 in
theorem wb_write (w : World) (B b : Nat) (T : TypeId) (rest : List Value) (bs : List UInt8) (h : WB w B b T rest bs) (hl : Begins T (rest.length + 2)) (g c : Nat) (xs : List UInt8) (hg : g < w.heap.size) (hgb : g ≠ b)
  (hx : ∀ j u, (Lib.byteCells xs)[j]? = some u → w.cell? (Addr.add ⟨g, 0, none⟩ j) = some u) (hlen : bs.length + xs.length ≤ 140737488355328) (hBw : B ≤ w.heap.size) :
  Calls Tryz.prog 74 #[.pointer (some ⟨b, 0, none⟩), .slice (some ⟨g, 0, none⟩) xs.length c] w fun e w' => e = .returned (.tuple #[.int .i64 xs.length, .nilIface]) ∧ (WB w' B b T rest (bs ++ xs) ∧ Below B w w') := by
 obtain ⟨i0, hi, hz0, hz1, hz2⟩ := info_parts infoB
 obtain ⟨n, hn⟩ : ∃ n, xs.length = n := ⟨_, rfl⟩
 rw [hn] at hlen ⊢
 have hx1 : ∀ w1 : World, (∀ k, k ≠ b → w1.heap[k]? = w.heap[k]?) → ∀ j u, (Lib.byteCells xs)[j]? = some u → w1.cell? (Addr.add ⟨g, 0, none⟩ j) = some u := fun w1 h1 j u hj => by
  rw [← hx j u hj]
  rw [Addr.add_lit]
  exact World.cell?_of_block (h1 g hgb)
 go_enter Tryz.func74, Tryz.ntmps74
 go_wp2_with (go_at_call 118; refine (check_kept _ B b T rest bs h hl).mono ?_)
 rintro e w1 ⟨rfl, h1, hb1, hk1⟩
 have hx2 := hx1 w1 hk1
 have hlt := h1.lt
 have hB := h1.le
 have hT := h1.ne
 obtain ⟨v, hbk, hown, hne⟩ := h1.row
 have c0 : w1.cell? ⟨b, 0, none⟩ = some (.pointer (some ⟨b, 0, none⟩)) := by rw [Lib.cell_of_heap hbk]; rfl
 have c1 : w1.cell? ⟨b, 1, none⟩ = some v := by rw [Lib.cell_of_heap hbk]; rfl
 clear h h1 hl hx hx1
 go_wp2_with (at_builtin; refine wpList_append_own _ rfl _ _ 27 rfl B 5 i0 (.int .u8 0) 1 1 Tryz.underlying27 hi hz0 hz1 hz2 rfl (by decide) _ _ _ rfl hown ⟨g, 0, none⟩ n c (Lib.byteCells xs) rfl (by rw [Lib.byteCells_length, hn, Nat.mul_one]) hx2 ?c2 ?c3 ?c4 ?c5 ?_)
 case c2 => exact fun u hu => by obtain ⟨x, _, rfl⟩ := List.mem_map.1 hu; rfl
 case c3 => unfold maxLen; omega
 case c4 => omega
 case c5 => have := hb1.size; omega
 intro v' w2 hown' hgrow _
 have hb2 : w2.heap[b]? = some (.cells (.pointer (some ⟨b, 0, none⟩) :: v :: rest).toArray T (0, 0)) := by
  rw [hgrow.block b hlt (fun e => hne e.symm)]
  exact hbk
 have d0 : w2.cell? ⟨b, 0, none⟩ = some (.pointer (some ⟨b, 0, none⟩)) := by rw [Lib.cell_of_heap hb2]; rfl
 have d1 : w2.cell? ⟨b, 1, none⟩ = some v := by rw [Lib.cell_of_heap hb2]; rfl
 have f1 : w2.frozen? ⟨b, 1, none⟩ = false := Lib.frozen_of_heap hb2 1
 obtain ⟨ao, cap, rfl⟩ := slice_of hown'
 go_wp2
 go_ret2
 rw [byteCells_add] at hown'
 refine ⟨rfl, .inr (WP.put hB hT hb2 (by rw [List.length_append, hn]; exact hown')), ?_⟩
 exact (hb1.grown hgrow (by have := hb1.size; omega) (fun k hk => (hown.lt k hk).1)).setCell (p := ⟨b, 1, none⟩) hB _

set_option maxHeartbeats 1000000 in
set_option maxRecDepth 100000 in
theorem wb_text (w : World) (B b : Nat) (T : TypeId) (rest : List Value) (l : List UInt8) (h : WB w B b T rest l) (h0 : l ≠ []) :
  Calls Tryz.prog 76 #[.pointer (some ⟨b, 0, none⟩)] w fun e w' => e = .returned (.string ⟨l.toArray⟩) ∧ Below B w w' := by
 obtain ⟨p, hp⟩ : ∃ p, WP w B b T rest p l := h.elim (fun k => ⟨_, k⟩) fun k => ⟨_, k⟩
 obtain ⟨v, hbk, hown, hne⟩ := hp.row
 have hl0 : l.length ≠ 0 := by simpa using h0
 obtain ⟨g, cap, cur, rfl, hbg, hg, hnc, hcm, hcs, htake⟩ : ∃ g cap cur, v = .slice (some ⟨g, 0, none⟩) l.length cap ∧ B ≤ g ∧ w.heap[g]? = some (.cells cur 5 (0, 0)) ∧ l.length ≤ cap ∧ cap ≤ maxLen ∧ cur.size = cap * 1 ∧ cur.toList.take (l.length * 1) = Lib.byteCells l := by
  rcases hown.2 with ⟨_, hz⟩ | ⟨g, cap, cur, hv, r⟩
  ·exact absurd hz hl0
  ·exact ⟨g, cap, cur, hv, r⟩
 have c1 : w.drew.cell? ⟨b, 1, none⟩ = some (.slice (some ⟨g, 0, none⟩) l.length cap) := by
  have : w.drew.heap[b]? = some (.cells (p :: .slice (some ⟨g, 0, none⟩) l.length cap :: rest).toArray T (0, 0)) := hbk
  rw [Lib.cell_of_heap this]; rfl
 have hSD : (Builtin.unsafeSliceData_ #[27] 142 #[.slice (some ⟨g, 0, none⟩) l.length cap]).run Tryz.prog w.drew = .ok (.pointer (some ⟨g, 0, none⟩)) w.drew :=
  Lib.run_unsafeSliceData_row _ _ _ _ _ _ (by omega)
 have hUS : (Builtin.unsafeString_ #[142, 3] 9 #[.pointer (some ⟨g, 0, none⟩), .int .i64 l.length]).run Tryz.prog w.drew = .ok (.string ⟨l.toArray⟩) (w.drew.freeze ⟨g, 0, none⟩ l.length) := by
  refine Lib.run_unsafeString_row w.drew 142 3 9 5 Tryz.underlying142 (by kernel_rfl) g cur.size (by have hg' : w.drew.heap[g]? = some (.cells cur 5 (0, 0)) := hg; simp [World.shape?, hg']) l h0 (by omega) (by unfold maxLen at hcm; omega) ?_
  intro j x hx
  have := hown.cells (g := g) rfl j (.int .u8 x.toNat) (by simp [Lib.byteCells, hx])
  exact this
 clear hown htake hg hbk h hp
 have mixed : Tryz.prog.follows Departure.mixedOrders = true := by kernel_rfl
 go_enter Tryz.func76, Tryz.ntmps76
 go_wp2
 go_region_o
 all_goals (go_wp2; go_ret; exact ⟨rfl, Lib.below_freeze (Below.drew (Below.refl B w)) (p := ⟨g, 0, none⟩) hbg _⟩)
end Go.Proofs.YtgaihekapakoeaaGreatDoor
namespace Go.Proofs.YtgaihekapakoeaaGreatDoor
open Go.RowKit


set_option maxRecDepth 100000

theorem M.regionE_ {P : Program} {ops : Array Oper} {id : Nat} {Q : Exit → Act → World → Prop} {a : Act} {w : World} (C0 C : World → Prop) (hc : M.Closed C) (hsub : ∀ w, C w → C0 w) (h0 : ∀ n, C { w with drawn := n }) (hm : P.follows .mixedOrders = true)
  (H : M.wpAnyM P .any ops C0 (fun a' C => ∀ w', C w' → Q .normal a' w') ops.size (Array.replicate ops.size false) a C) : (Code.region id ops true).wp P Q a w :=
 wp_region_any hm (M.wpAny_of_m (C0 := C0) (fun _ _ w' hw' hF => hF w' hw') _ _ _ _ _ (h0 _) hc hsub H)

def TabS (w : World) (B g : Nat) (L : List (List UInt8)) : Prop := g < B ∧ ∀ k : Nat, k < L.length → w.cell? ⟨g, k, none⟩ = some (.string ⟨(L.getD k []).toArray⟩)
theorem TabS.below {w w' : World} {B g : Nat} {L : List (List UInt8)} (h : TabS w B g L) (hb : Below B w w') : TabS w' B g L := ⟨h.1, fun k hk => (hb.cell h.1).trans (h.2 k hk)⟩
theorem TabS.mono {w : World} {B B' g : Nat} {L : List (List UInt8)} (h : TabS w B g L) (hB : B ≤ B') : TabS w B' g L := ⟨Nat.lt_of_lt_of_le h.1 hB, h.2⟩
structure VT (w : World) (B : Nat) : Prop where
 names : TabS w B 5 nameL8
 pairs : TabS w B 6 pairL4
 index : TabS w B 0 indexL3
 conds : TabS w B 1 condL8
 shifts : TabS w B 2 shiftL8
 opers : TabS w B 3 operL8
 ten : Lib.TabBelow Tryz.prog B w "internal/strconv.uint64pow10" .u64 Lib.pow10Tab
theorem VT.below {w w' : World} {B : Nat} (h : VT w B) (hb : Below B w w') : VT w' B :=
 ⟨h.names.below hb, h.pairs.below hb, h.index.below hb, h.conds.below hb, h.shifts.below hb, h.opers.below hb, h.ten.on hb⟩
theorem VT.mono {w : World} {B B' : Nat} (h : VT w B) (hB : B ≤ B') : VT w B' :=
 ⟨h.names.mono hB, h.pairs.mono hB, h.index.mono hB, h.conds.mono hB, h.shifts.mono hB, h.opers.mono hB, fun w' hb => h.ten w' (hb.mono hB)⟩

def WC (b0 : World) (B b : Nat) (T : TypeId) (rest : List Value) : World → Prop := fun w =>
 b0.heap.size ≤ w.heap.size ∧ Below B b0 w ∧ b < b0.heap.size ∧ ∃ p v, w.heap[b]? = some (.cells (p :: v :: rest).toArray T (0, 0))
def WE (b0 : World) (B b : Nat) (T : TypeId) (rest : List Value) (bs : List UInt8) : World → Prop := fun w => WC b0 B b T rest w ∧ WB w B b T rest bs ∧ B ≤ b0.heap.size
theorem closed_we (b0 : World) (B b : Nat) (T : TypeId) (rest : List Value) (bs : List UInt8) : M.Closed (WE b0 B b T rest bs) := by
 rintro w w1 ⟨⟨h1, h2, h3, p, v, h4⟩, h5, h6⟩ hs
 have hb := hs.all
 exact ⟨⟨Nat.le_trans h1 hb.size, h2.trans (hb.mono (Nat.le_trans h6 h1)), h3, p, v, (hb.block _ h5.lt).trans h4⟩, h5.on hb, h6⟩
theorem WB.we {w : World} {B b : Nat} {T : TypeId} {rest : List Value} {bs : List UInt8} (h : WB w B b T rest bs) : WE w B b T rest bs w := by
 have hle := h.le
 have hlt := h.lt
 refine ⟨⟨Nat.le_refl _, Below.refl _ _, hlt, ?_⟩, h, by omega⟩
 rcases h with h | h
 ·obtain ⟨v, hv, _⟩ := h.row; exact ⟨_, v, hv⟩
 ·obtain ⟨v, hv, _⟩ := h.row; exact ⟨_, v, hv⟩
theorem WE.start {w : World} {B b : Nat} {T : TypeId} {rest : List Value} {bs : List UInt8} (h : WB w B b T rest bs) (n : Nat) : WE w B b T rest bs { w with drawn := n } := closed_we _ _ _ _ _ _ _ _ h.we (Save.drawn _ w n)
theorem WE.write {b0 w w' : World} {B b : Nat} {T : TypeId} {rest : List Value} {bs bs' : List UInt8} (h : WE b0 B b T rest bs w) (hW : WB w' B b T rest bs') (hb : Below B w w') : WE b0 B b T rest bs' w' := by
 obtain ⟨⟨h1, h2, h3, _⟩, _, h6⟩ := h
 refine ⟨⟨Nat.le_trans h1 hb.size, h2.trans hb, h3, ?_⟩, hW, h6⟩
 exact hW.we.1.2.2.2
theorem WC.at_ {b0 w : World} {B b : Nat} {T : TypeId} {rest : List Value} (h : WC b0 B b T rest w) (j : Nat) : w.cell? ⟨b, j + 2, none⟩ = rest[j]? := by
 obtain ⟨_, _, _, p, v, hv⟩ := h
 rw [Lib.cell_of_heap hv]; simp

def restW (i : In) (bare : Bool) : List Value := [.int .i64 i.s, .int .i64 i.x, .int .i64 i.o, .int .i64 i.d, .int .i64 i.m, .int .i64 i.n, .bool bare]
def WT (w : World) (B b : Nat) (i : In) (bare : Bool) (bs : List UInt8) : Prop := WB w B b 101 (restW i bare) bs
theorem begins_w : Begins 101 9 := by unfold Begins; kernel_rfl
theorem begins_b : Begins 90 2 := by unfold Begins; kernel_rfl
def Writes (w : World) (B b : Nat) (i : In) (bare : Bool) (bs out : List UInt8) (e : Ending) (w' : World) : Prop := e = .returned (.tuple #[]) ∧ WT w' B b i bare (bs ++ out) ∧ Below B w w'

theorem itoa_ne (v : Int) : (Lib.itoa v).length ≠ 0 := by
 unfold Lib.itoa
 split
 ·simp
 ·have := Lib.decDigits_length v.toNat
  have h2 : 0 < Lib.nDigits v.toNat := by
   by_cases h : v.toNat < 10
   ·rw [Lib.nDigits_small h]; decide
   ·rw [Lib.nDigits_big h]; omega
  omega

set_option maxHeartbeats 1000000 in
theorem w_number (w : World) (B b : Nat) (i : In) (bare : Bool) (bs : List UInt8) (hV : VT w B) (h : WT w B b i bare bs) (v : Int) (h0 : -9223372036854775808 ≤ v) (h1 : v ≤ 9223372036854775807) (hl : bs.length ≤ 1000000) :
  Calls Tryz.prog 162 #[.pointer (some ⟨b, 0, none⟩), .int .i64 v] w (Writes w B b i bare bs (Lib.itoa v)) := by
 unfold WT at h
 obtain ⟨T, hT⟩ : ∃ T, 101 = T := ⟨_, rfl⟩
 have hbeg : Begins T (restW i bare).length.succ.succ := hT ▸ begins_w
 obtain ⟨rest, hr⟩ : ∃ rest, restW i bare = rest := ⟨_, rfl⟩
 unfold Writes WT
 rw [hr] at h hbeg ⊢
 rw [hT] at h ⊢
 have HB := z_ hbeg
 clear hr hT hbeg
 haveI : Nonempty (M.Of (WC w B b T rest)) := ⟨⟨w, h.we.1⟩⟩
 have hit := Lib.itoa_length_le v h0 h1
 have hne := itoa_ne v
 obtain ⟨d, hd⟩ : ∃ d, Lib.itoa v = d := ⟨_, rfl⟩
 go_enter Tryz.func162, Tryz.ntmps162
 go_upto_region 0 with fail
 refine M.regionE_ (WC w B b T rest) (WE w B b T rest bs) (closed_we _ _ _ _ _ _) (fun _ h => h.1) (WE.start h) (by kernel_rfl) ?_
 refine M.sx [0, 1, 2, 3] 2 (h.we.1) ?_
 repeat (go_big_quiet_step (fail))
 refine wpQuiet_nil ?_
 refine M.cl 4 ?_
 intro wz sz
 have hsz := sz.1.1
 have hBz : B ≤ wz.heap.size := Nat.le_trans sz.2.2 sz.1.1
 unfold Oper.does
 go_simp
 refine (Tryz.strconv_AppendInt_10 wz.heap.size 0 v h0 h1 (.slice none 0 0) [] wz (World.ownsRow_nil _ _ _ _) (Nat.le_refl _) (by omega) (fun w' hb => (hV.ten.on sz.1.2.1) w' (hb.mono hBz))).mono ?_
 rintro e w1 ⟨v', rfl, hown, hb1, -⟩
 rw [hd] at hown hit hne
 obtain ⟨g, cap, cur, rfl, hg0, hg, -⟩ : ∃ g cap cur, v' = .slice (some ⟨g, 0, none⟩) d.length cap ∧ wz.heap.size ≤ g ∧ w1.heap[g]? = some (.cells cur 5 (0, 0)) ∧ True := by
  rcases hown.2 with ⟨_, hz⟩ | ⟨g, cap, cur, hv, hg, hr, _⟩
  ·omega
  ·exact ⟨g, cap, cur, by rw [hv, Nat.zero_add], hg, hr, trivial⟩
 have hlt := (Array.getElem?_eq_some_iff.1 hg).1
 have hc := hown.cells (g := g) rfl
 rw [List.nil_append] at hc
 have hs1 : Save (fun _ => False) wz w1 := Save.of_below hb1
 refine ⟨_, rfl, fun w2 => WE w B b T rest bs w2 ∧ w1.heap.size ≤ w2.heap.size ∧ ∀ j u, (Lib.byteCells d)[j]? = some u → w2.cell? (Addr.add ⟨g, 0, none⟩ j) = some u, ⟨closed_we _ _ _ _ _ _ _ _ sz hs1, Nat.le_refl _, hc⟩, ?_, fun _ h => h.1.1, ?_⟩
 ·rintro wa wb ⟨k1, k2, k3⟩ hs
  refine ⟨closed_we _ _ _ _ _ _ _ _ k1 hs, Nat.le_trans k2 hs.size, fun j u hj => ?_⟩
  rw [← k3 j u hj, Addr.add_lit]
  exact World.cell?_of_block (hs.all.block _ (Nat.lt_of_lt_of_le hlt k2))
 have hgb : g ≠ b := by have := h.lt; omega
 clear hc hown hg hs1 hb1 sz
 refine M.cl 5 ?_
 rintro wy ⟨sy, k2, k3⟩
 unfold Oper.does
 go_simp
 refine (wb_write wy B b T rest bs sy.2.1 HB.out g cap d (Nat.lt_of_lt_of_le hlt k2) hgb k3 (by omega) (Nat.le_trans sy.2.2 sy.1.1)).mono ?_
 rintro e w3 ⟨rfl, hW, hb3⟩
 refine ⟨_, rfl, WE w B b T rest (bs ++ d), sy.write hW hb3, closed_we _ _ _ _ _ _, fun _ h => h.1, ?_⟩
 clear k3 sy hW hb3
 refine M.en ?_
 intro wc sc
 go_wp2
 go_end0
 exact ⟨rfl, hd ▸ sc.2.1, sc.1.2.1⟩
end Go.Proofs.YtgaihekapakoeaaGreatDoor
namespace Go.Proofs.YtgaihekapakoeaaGreatDoor
open Go.RowKit


set_option maxRecDepth 100000

theorem WT.g {w : World} {B b : Nat} {i : In} {bare : Bool} {bs : List UInt8} (h : WT w B b i bare bs) (j : Nat) (v : Value) (hv : (restW i bare)[j]? = some v) : w.cell? ⟨b, j + 2, none⟩ = some v := (WB.more h j).trans hv
theorem WT.on {w w' : World} {B b : Nat} {i : In} {bare : Bool} {bs : List UInt8} (h : WT w B b i bare bs) (hb : Below w.heap.size w w') : WT w' B b i bare bs := WB.on h hb
theorem WT.up {w : World} {B b : Nat} {i : In} {bare : Bool} {bs : List UInt8} (h : WT w B b i bare bs) : B ≤ w.heap.size := by have := WB.le h; have := WB.lt h; omega
theorem Writes.nil {w : World} {B b : Nat} {i : In} {bare : Bool} {bs : List UInt8} (h : WT w B b i bare bs) : Writes w B b i bare bs [] (.returned (.tuple #[])) w := ⟨rfl, by rw [List.append_nil]; exact h, Below.refl _ _⟩
theorem Writes.then {w w1 w2 : World} {B b : Nat} {i : In} {bare : Bool} {bs a c : List UInt8} {e e1 : Ending} (h : Writes w B b i bare bs a e1 w1) (h2 : Writes w1 B b i bare (bs ++ a) c e w2) : Writes w B b i bare bs (a ++ c) e w2 :=
 ⟨h2.1, by rw [← List.append_assoc]; exact h2.2.1, h.2.2.trans h2.2.2⟩
theorem wt_byte (w : World) (B b : Nat) (i : In) (bare : Bool) (bs : List UInt8) (h : WT w B b i bare bs) (n : Int) (c : UInt8) (hn : n = c.toNat) (hl : bs.length ≤ 10000000) :
  Calls Tryz.prog 73 #[.pointer (some ⟨b, 0, none⟩), .int .u8 n] w fun e w' => e = .returned .nilIface ∧ WT w' B b i bare (bs ++ [c]) ∧ Below B w w' := by
 subst hn
 exact wb_byte w B b _ _ bs h begins_w c (by omega) h.up
theorem wt_string (w : World) (B b : Nat) (i : In) (bare : Bool) (bs : List UInt8) (h : WT w B b i bare bs) (s : ByteArray) (l : List UInt8) (hs : s = ⟨l.toArray⟩) (hs1 : l.length ≤ 1000000) (hl : bs.length ≤ 10000000) :
  Calls Tryz.prog 72 #[.pointer (some ⟨b, 0, none⟩), .string s] w fun e w' => e = .returned (.tuple #[.int .i64 s.size, .nilIface]) ∧ WT w' B b i bare (bs ++ l) ∧ Below B w w' := by
 have hz : s.size = l.length := by subst hs; simp [ByteArray.size]
 have := wb_string w B b _ _ bs h begins_w s (by omega) h.up
 have hd : s.data.toList = l := by subst hs; simp
 rw [hd] at this
 exact this

theorem w_operand (w : World) (B b : Nat) (i : In) (bare : Bool) (bs : List UInt8) (hV : VT w B) (h : WT w B b i bare bs) (v : Int) (h0 : -9223372036854775808 ≤ v) (h1 : v ≤ 9223372036854775807) (hl : bs.length ≤ 1000000) :
  Calls Tryz.prog 160 #[.pointer (some ⟨b, 0, none⟩), .int .i64 v] w (Writes w B b i bare bs (if bare = true then [] else Lib.itoa v)) := by
 have c8 := h.g 6 _ rfl
 cases bare with
 | true =>
  rw [if_pos rfl]
  go_enter Tryz.func160, Tryz.ntmps160
  go_wp2
  go_end0
  exact Writes.nil h
 | false =>
  rw [if_neg (by decide)]
  have HC := z_ (w_number w B b i false bs hV h v h0 h1 hl)
  go_enter Tryz.func160, Tryz.ntmps160
  go_wp2_with fail
  refine HC.out.mono ?_
  rintro e w' ⟨rfl, hW, hb⟩
  go_wp2_with fail
  go_end0
  exact ⟨rfl, hW, hb⟩

theorem w_signed (w : World) (B b : Nat) (i : In) (bare : Bool) (bs : List UInt8) (hV : VT w B) (h : WT w B b i bare bs) (v : Int) (h0 : -9223372036854775808 ≤ v) (h1 : v ≤ 9223372036854775807) (hl : bs.length ≤ 100000) :
  Calls Tryz.prog 161 #[.pointer (some ⟨b, 0, none⟩), .int .i64 v] w (Writes w B b i bare bs (signT bare v)) := by
 have c8 := h.g 6 _ rfl
 cases bare with
 | true =>
  have HC := z_ (w_operand w B b i true bs hV h v h0 h1 (by omega))
  have hs : signT true v = [] := rfl
  rw [hs]
  by_cases hv : 0 ≤ v
  all_goals
   go_enter Tryz.func161, Tryz.ntmps161
   go_wp2_with fail
   refine HC.out.mono ?_
   rintro e w' ⟨rfl, hW, hb⟩
   go_wp2_with fail
   go_end0
   exact ⟨rfl, hW, hb⟩
 | false =>
  by_cases hv : 0 ≤ v
  ·have hs : signT false v = [43] ++ Lib.itoa v := by unfold signT; rw [if_neg (by decide), if_pos hv]
   rw [hs]
   have HC := z_ (fun (w' : World) hV hW => w_operand w' B b i false (bs ++ [43]) hV hW v h0 h1 (by simp; omega))
   have HD := z_ (wt_byte w B b i false bs h 43 43 rfl (by omega))
   go_enter Tryz.func161, Tryz.ntmps161
   go_wp2_with fail
   refine HD.out.mono ?_
   rintro e w1 ⟨rfl, hW, hb⟩
   have HE := z_ (HC.out w1 (hV.below hb) hW)
   clear c8
   go_wp2_with fail
   refine HE.out.mono ?_
   rintro e w2 ⟨rfl, hW2, hb2⟩
   go_wp2_with fail
   go_end0
   exact Writes.then (e1 := .returned (.tuple #[])) ⟨rfl, hW, hb⟩ ⟨rfl, hW2, hb2⟩
  ·have hs : signT false v = Lib.itoa v := by unfold signT; rw [if_neg (by decide), if_neg hv]
   rw [hs]
   have HC := z_ (w_operand w B b i false bs hV h v h0 h1 (by omega))
   go_enter Tryz.func161, Tryz.ntmps161
   go_wp2_with fail
   refine HC.out.mono ?_
   rintro e w' ⟨rfl, hW, hb⟩
   go_wp2_with fail
   go_end0
   exact ⟨rfl, hW, hb⟩

theorem nth_nat (L : List (List UInt8)) (k : Nat) : nth L (k : Int) = L.getD k [] := rfl
theorem nth_short {L : List (List UInt8)} (hL : ∀ l ∈ L, l.length ≤ 20) (k : Int) : (nth L k).length ≤ 20 := by
 unfold nth
 rcases Nat.lt_or_ge k.toNat L.length with h | h
 ·rw [List.getD, List.getElem?_eq_getElem h]; exact hL _ (List.getElem_mem h)
 ·rw [List.getD, List.getElem?_eq_none h]; simp

set_option maxHeartbeats 1000000 in
theorem w_pair (w : World) (B b : Nat) (i : In) (bare : Bool) (bs : List UInt8) (hV : VT w B) (h : WT w B b i bare bs) (x0 : 0 ≤ i.x) (x1 : i.x < 3) (c : Int) (c0 : 0 ≤ c) (c1 : c < 4) (hl : bs.length ≤ 100000) :
  Calls Tryz.prog 158 #[.pointer (some ⟨b, 0, none⟩), .int .i64 c] w (Writes w B b i bare bs (if c = 2 then nth indexL3 i.x else nth pairL4 c)) := by
 obtain ⟨T, hT⟩ : ∃ T, 101 = T := ⟨_, rfl⟩
 obtain ⟨rest, hr⟩ : ∃ rest, restW i bare = rest := ⟨_, rfl⟩
 have hw : WE w B b T rest bs w := hT ▸ hr ▸ WB.we h
 have hst : ∀ n, WE w B b T rest bs { w with drawn := n } := hT ▸ hr ▸ WE.start h
 haveI : Nonempty (M.Of (WC w B b T rest)) := ⟨⟨w, hw.1⟩⟩
 have hrun : ∀ (wz : World) (s : ByteArray) (l : List UInt8), s = ⟨l.toArray⟩ → l.length ≤ 20 → WE w B b T rest bs wz → Calls Tryz.prog 72 #[.pointer (some ⟨b, 0, none⟩), .string s] wz fun e w' => e = .returned (.tuple #[.int .i64 s.size, .nilIface]) ∧ WE w B b T rest (bs ++ l) w' := by
  intro wz s l hs h20 hz
  refine (wt_string wz B b i bare bs (by unfold WT; rw [hT, hr]; exact hz.2.1) s l hs (by omega) (by omega)).mono ?_
  rintro e w' ⟨he, hW, hb⟩
  refine ⟨he, hz.write (by rw [← hT, ← hr]; exact hW) hb⟩
 have HR := z_ hrun
 have hout : ∀ (wc : World) (l : List UInt8), WE w B b T rest (bs ++ l) wc → Writes w B b i bare bs l (.returned (.tuple #[])) wc := fun wc l hc => ⟨rfl, by unfold WT; rw [hT, hr]; exact hc.2.1, hc.1.2.1⟩
 have HO := z_ hout
 clear hrun hout
 have hx : rest[1]? = some (.int .i64 i.x) := by rw [← hr]; rfl
 have hV2 : ∀ p : M.Of (WC w B b T rest), VT p.w B := fun p => hV.below p.ok.2.1
 clear hT hr
 by_cases hc : c = 2
 ·subst hc
  rw [if_pos rfl]
  obtain ⟨k, hk⟩ : ∃ k : Nat, i.x = k := ⟨i.x.toNat, by omega⟩
  rw [hk] at hx ⊢
  rw [nth_nat]
  have f1 : ∀ p : M.Of (WC w B b T rest), p.w.cell? ⟨b, 3, none⟩ = some (.int .i64 k) := fun p => (p.ok.at_ 1).trans hx
  have f2 : ∀ p : M.Of (WC w B b T rest), p.w.cell? ⟨0, k, none⟩ = some (.string ⟨(indexL3.getD k []).toArray⟩) := fun p => (hV2 p).index.2 k (by show k < 3; omega)
  have hk3 : (k : Int) < 3 := by omega
  have hsh := nth_short (L := indexL3) (by decide) k
  rw [nth_nat] at hsh
  generalize indexL3.getD k [] = l at *
  clear hx hV hk hV2 h
  go_enter Tryz.func158, Tryz.ntmps158
  go_upto_region 1 with fail
  refine M.regionE_ (WC w B b T rest) (WE w B b T rest bs) (closed_we _ _ _ _ _ _) (fun _ h => h.1) hst (by kernel_rfl) ?_
  refine M.sx [0, 1, 2, 3, 4, 5, 6, 7, 8, 9] 1 (hw.1) ?_
  repeat (go_big_quiet_step (fail))
  refine wpQuiet_nil ?_
  refine M.cl 10 ?_
  intro wz sz
  unfold Oper.does
  go_simp
  refine (HR.out wz _ l rfl hsh sz).mono ?_
  rintro e w3 ⟨rfl, hW⟩
  refine ⟨_, rfl, WE w B b T rest (bs ++ l), hW, closed_we _ _ _ _ _ _, fun _ h => h.1, ?_⟩
  clear sz hW f1 f2
  refine M.en ?_
  intro wc sc
  go_wp2
  go_end0
  exact HO.out _ _ sc
 ·rw [if_neg hc]
  obtain ⟨k, hk⟩ : ∃ k : Nat, c = k := ⟨c.toNat, by omega⟩
  subst hk
  rw [nth_nat]
  have f2 : ∀ p : M.Of (WC w B b T rest), p.w.cell? ⟨6, k, none⟩ = some (.string ⟨(pairL4.getD k []).toArray⟩) := fun p => (hV2 p).pairs.2 k (by show k < 4; omega)
  have hsh := nth_short (L := pairL4) (by decide) k
  rw [nth_nat] at hsh
  generalize pairL4.getD k [] = l at *
  clear hx hV hV2 h
  go_enter Tryz.func158, Tryz.ntmps158
  go_upto_region 2 with fail
  refine M.regionE_ (WC w B b T rest) (WE w B b T rest bs) (closed_we _ _ _ _ _ _) (fun _ h => h.1) hst (by kernel_rfl) ?_
  refine M.sx [0, 1, 2, 3, 4, 5] 1 (hw.1) ?_
  repeat (go_big_quiet_step (fail))
  refine wpQuiet_nil ?_
  refine M.cl 6 ?_
  intro wz sz
  unfold Oper.does
  go_simp
  refine (HR.out wz _ l rfl hsh sz).mono ?_
  rintro e w3 ⟨rfl, hW⟩
  refine ⟨_, rfl, WE w B b T rest (bs ++ l), hW, closed_we _ _ _ _ _ _, fun _ h => h.1, ?_⟩
  clear sz hW f2
  refine M.en ?_
  intro wc sc
  go_wp2
  go_end0
  exact HO.out _ _ sc
end Go.Proofs.YtgaihekapakoeaaGreatDoor
