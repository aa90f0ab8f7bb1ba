/-    -/
import Derived.Test.YthnbpdcjooifbaaProg
import Derived.WalkKit
import Derived.WalkSpells
import Derived.WalkLawsBesides
import Derived.Laws.AppendOwnNone
import Derived.Lib.AppendZeros
import Derived.Lib.Hide
namespace Go.Proofs.Ythnbpdcjooifbaa
open Go.RowKit

theorem getD_lt {l : List Int} {i : Nat} (h : i < l.length) : l.getD i 0 = l[i] := by simp [List.getD, h]
theorem getD_ge {l : List Int} {i : Nat} (h : l.length ≤ i) : l.getD i 0 = 0 := by simp [List.getD, h]

/-- Bytes. -/
def AllB (l : List Int) : Prop := ∀ n ∈ l, 0 ≤ n ∧ n < 256

theorem AllB.nil : AllB [] := fun _ h => by cases h
theorem AllB.append {l m : List Int} (h : AllB l) (k : AllB m) : AllB (l ++ m) := fun n hn => by
  rcases List.mem_append.1 hn with h1 | h1
  · exact h n h1
  · exact k n h1
theorem AllB.cons {x : Int} {l : List Int} (h0 : 0 ≤ x) (h1 : x < 256) (h : AllB l) : AllB (x :: l) := fun n hn => by
  rcases List.mem_cons.1 hn with rfl | h2
  · exact ⟨h0, h1⟩
  · exact h n h2
theorem AllB.one {x : Int} (h0 : 0 ≤ x) (h1 : x < 256) : AllB [x] := AllB.cons h0 h1 AllB.nil
theorem AllB.take {l : List Int} (h : AllB l) (k : Nat) : AllB (l.take k) := fun n hn => h n (List.mem_of_mem_take hn)
theorem AllB.drop {l : List Int} (h : AllB l) (k : Nat) : AllB (l.drop k) := fun n hn => h n (List.mem_of_mem_drop hn)
theorem AllB.flatten {ls : List (List Int)} (h : ∀ l ∈ ls, AllB l) : AllB ls.flatten := fun n hn => by
  obtain ⟨l, h1, h2⟩ := List.mem_flatten.1 hn
  exact h l h1 n h2
theorem AllB.getD {l : List Int} (h : AllB l) (i : Nat) : 0 ≤ l.getD i 0 ∧ l.getD i 0 < 256 := by
  rcases Nat.lt_or_ge i l.length with hi | hi
  · rw [getD_lt hi]; exact h _ (List.getElem_mem hi)
  · rw [getD_ge hi]; omega

/-- In the world w the slice (A, length, c) has the elements l, bytes; it lies below block B. -/
structure RB (w : World) (B : Nat) (A : Option Addr) (c : Nat) (l : List Int) : Prop where
  le : l.length ≤ c
  cap : c ≤ maxLen
  bytes : AllB l
  at_ : (A = none ∧ c = 0) ∨ ∃ a : Addr, A = some a ∧ (0 < l.length → a.spot = none ∧ a.block < B ∧ ∀ i, i < l.length → w.cell? ⟨a.block, a.off + i, none⟩ = some (.int .u8 (l.getD i 0)))

section
variable {w w' : World} {B B' : Nat} {A : Option Addr} {c : Nat} {l : List Int}

theorem RB.nil (w : World) (B : Nat) : RB w B none 0 [] := ⟨Nat.le_refl _, Nat.zero_le _, AllB.nil, .inl ⟨rfl, rfl⟩⟩

theorem RB.keep (h : RB w B A c l) (hk : ∀ p : Addr, p.block < B → w'.cell? p = w.cell? p) : RB w' B A c l := by
  refine ⟨h.le, h.cap, h.bytes, ?_⟩
  rcases h.at_ with h1 | ⟨a, rfl, hc⟩
  · exact .inl h1
  · refine .inr ⟨a, rfl, fun h0 => ?_⟩
    obtain ⟨hs, hb, hc⟩ := hc h0
    exact ⟨hs, hb, fun i hi => by rw [hk ⟨a.block, a.off + i, none⟩ hb]; exact hc i hi⟩

theorem RB.more (h : RB w B A c l) (hB : B ≤ B') : RB w B' A c l := by
  refine ⟨h.le, h.cap, h.bytes, ?_⟩
  rcases h.at_ with h1 | ⟨a, rfl, hc⟩
  · exact .inl h1
  · refine .inr ⟨a, rfl, fun h0 => ?_⟩
    obtain ⟨hs, hb, hc⟩ := hc h0
    exact ⟨hs, by omega, hc⟩

theorem RB.below (h : RB w B A c l) (hb : Below B w w') : RB w' B A c l := h.keep fun _ hp => hb.cell hp
theorem RB.belowH (h : RB w w.heap.size A c l) (hb : Below w.heap.size w w') : RB w' w'.heap.size A c l := (h.below hb).more hb.size
theorem RB.drew (h : RB w B A c l) : RB w.drew B A c l := ⟨h.le, h.cap, h.bytes, h.at_⟩
theorem RB.alloc (h : RB w B A c l) (hB : B ≤ w.heap.size) (o : Obj) : RB (w.alloc o) B A c l := h.below ((Below.refl _ _).alloc hB o)
theorem RB.grown (h : RB w B A c l) {row : Option Nat} (hg : w.grownBy w' row) (hB : B ≤ w.heap.size) (hr : ∀ k, row = some k → B ≤ k) : RB w' B A c l :=
  h.below ((Below.refl _ _).grown hg hB hr)

theorem RB.cells {a : Addr} (h : RB w B (some a) c l) : ∀ j u, (l.map (Value.int .u8))[j]? = some u → w.cell? (a.add j) = some u := by
  intro j u hu
  have hj : j < l.length := by have := (List.getElem?_eq_some_iff.1 hu).1; simpa using this
  rcases h.at_ with ⟨h1, _⟩ | ⟨a', h1, hc⟩
  · cases h1
  · obtain rfl := Option.some.inj h1
    obtain ⟨hs, _, hc⟩ := hc (by omega)
    have ha : a = ⟨a.block, a.off, none⟩ := by cases a; simp_all
    rw [ha, Addr.add_lit, hc j hj]
    simp [List.getElem?_eq_getElem hj] at hu
    subst hu
    rw [getD_lt hj]

theorem RB.none_nil (h : RB w B none c l) : c = 0 ∧ l = [] := by
  rcases h.at_ with ⟨_, h2⟩ | ⟨a, h1, _⟩
  · exact ⟨h2, List.eq_nil_of_length_eq_zero (by have := h.le; omega)⟩
  · cases h1
end

theorem RB.pos {w : World} {B c : Nat} {A : Option Addr} {l : List Int} (h : RB w B A c l) (hl : 0 < l.length) : ∃ b off, A = some ⟨b, off, none⟩ ∧ b < B ∧ ∀ i, i < l.length → w.cell? ⟨b, off + i, none⟩ = some (.int .u8 (l.getD i 0)) := by
  rcases h.at_ with ⟨_, h2⟩ | ⟨a, rfl, hc⟩
  · have := h.le; omega
  · obtain ⟨hs, hb, hc⟩ := hc hl
    exact ⟨a.block, a.off, by cases a; simp_all, hb, hc⟩

/-- A slice with plain cells. -/
theorem RB.mk_ {w : World} {B b off c : Nat} {l : List Int} (h1 : l.length ≤ c) (h2 : c ≤ maxLen) (h3 : AllB l) (hb : b < B) (hc : ∀ i, i < l.length → w.cell? ⟨b, off + i, none⟩ = some (.int .u8 (l.getD i 0))) : RB w B (some ⟨b, off, none⟩) c l :=
  ⟨h1, h2, h3, .inr ⟨_, rfl, fun _ => ⟨rfl, hb, hc⟩⟩⟩

/-- No elements: whatever the address. -/
theorem RB.empty (w : World) (B : Nat) (a : Addr) (c : Nat) (h2 : c ≤ maxLen) : RB w B (some a) c [] := ⟨Nat.zero_le _, h2, AllB.nil, .inr ⟨_, rfl, fun h => absurd h (by simp)⟩⟩

/-- A piece of a slice. -/
theorem RB.sub {w : World} {B b off c : Nat} {l : List Int} (h : RB w B (some ⟨b, off, none⟩) c l) (p n : Nat) (hn : p + n ≤ l.length) : RB w B (some ⟨b, off + p, none⟩) (c - p) ((l.drop p).take n) := by
  have hlen : ((l.drop p).take n).length = n := by rw [List.length_take, List.length_drop]; omega
  refine ⟨by rw [hlen]; have := h.le; omega, by have := h.cap; omega, (h.bytes.drop p).take n, .inr ⟨_, rfl, fun h0 => ?_⟩⟩
  obtain ⟨b', off', h1, hb, hc⟩ := h.pos (by omega)
  simp only [Option.some.injEq, Addr.mk.injEq, and_true] at h1
  obtain ⟨rfl, rfl⟩ := h1
  refine ⟨rfl, hb, fun i hi => ?_⟩
  show w.cell? ⟨b, off + p + i, none⟩ = _
  rw [Nat.add_assoc, hc (p + i) (by omega)]
  simp only [List.getD]
  rw [List.getElem?_take, if_pos (by omega), List.getElem?_drop]

/-- Bytes that the call owns, from block B on. -/
structure OB (w : World) (B : Nat) (A : Option Addr) (c : Nat) (l : List Int) : Prop where
  own : w.ownsRow B 5 1 (.slice A l.length c) l.length (l.map (Value.int .u8))
  bytes : AllB l

section
variable {w w' : World} {B : Nat} {A : Option Addr} {c : Nat} {l : List Int}

theorem OB.nil (w : World) (B : Nat) : OB w B none 0 [] := ⟨World.ownsRow_nil w B _ 1, AllB.nil⟩

theorem OB.rb (h : OB w B A c l) : RB w w.heap.size A c l := by
  have hlt := h.own.lt
  rcases h.own.2 with ⟨h1, h2⟩ | ⟨g, cap, cur, h1, hb, hg, hn, hm, hs, ht⟩
  · injection h1 with h3 h4 h5
    subst h3 h5
    have : l = [] := List.eq_nil_of_length_eq_zero h2
    subst this
    exact RB.nil _ _
  · injection h1 with h3 h4 h5
    subst h3 h5
    refine RB.mk_ hn hm h.bytes (hlt g rfl).2 fun i hi => ?_
    have hc := h.own.cells (g := g) rfl i (.int .u8 (l.getD i 0)) (by simp [List.getElem?_eq_getElem hi])
    rw [Addr.add_lit] at hc
    exact hc

/-- A row that was just made holds nothing yet. -/
theorem OB.made (w : World) (cs : Array Value) (hm : cs.size ≤ maxLen) : OB (w.alloc (.cells cs 5)) w.heap.size (some ⟨w.heap.size, 0, none⟩) cs.size [] :=
  ⟨World.ownsRow_made w cs cs.size (Nat.le_refl _) hm (by simp), AllB.nil⟩

/-- A row that was just made with these elements. -/
theorem OB.lit (w : World) (l : List Int) (hb : AllB l) (hm : l.length ≤ maxLen) : OB (w.alloc (.cells (l.map (Value.int .u8)).toArray 5)) w.heap.size (some ⟨w.heap.size, 0, none⟩) l.length l := by
  have h := World.ownsRow_lit (base := w.heap.size) (e := 5) (size := 1) w (l.map (Value.int .u8)).toArray l.length (Nat.le_refl _) hm (by simp)
  exact ⟨by simpa using h, hb⟩
theorem OB.lit1 (w : World) (v : Int) (h0 : 0 ≤ v) (h1 : v < 256) : OB (w.alloc (.cells #[.int .u8 v] 5)) w.heap.size (some ⟨w.heap.size, 0, none⟩) 1 [v] :=
  OB.lit w [v] (AllB.one h0 h1) (by unfold maxLen; simp)
theorem RB.lit1 (w : World) (v : Int) (h0 : 0 ≤ v) (h1 : v < 256) : RB (w.alloc (.cells #[.int .u8 v] 5)) (w.heap.size + 1) (some ⟨w.heap.size, 0, none⟩) 1 [v] :=
  (OB.lit1 w v h0 h1).rb.more (by simp)

theorem OB.plain (h : OB w B A c l) : ∀ a, A = some a → a.spot = none := by
  intro a ha
  rcases h.own.2 with ⟨h1, _⟩ | ⟨g, cap, cur, h1, _⟩
  · injection h1 with h3; rw [h3] at ha; cases ha
  · injection h1 with h3; rw [h3] at ha; obtain rfl := Option.some.inj ha; rfl

theorem OB.mono {B' : Nat} (h : OB w B A c l) (hB : B' ≤ B) : OB w B' A c l := by
  refine ⟨⟨h.own.1, ?_⟩, h.bytes⟩
  rcases h.own.2 with h1 | ⟨g, cap, cur, h1, hb, h2⟩
  · exact .inl h1
  · exact .inr ⟨g, cap, cur, h1, by omega, h2⟩

theorem OB.alloc (h : OB w B A c l) (o : Obj) : OB (w.alloc o) B A c l := ⟨h.own.alloc o, h.bytes⟩
theorem OB.below (h : OB w B A c l) {k : Nat} (hb : Below k w w') (hk : w.heap.size ≤ k) : OB w' B A c l :=
  ⟨h.own.kept (row := none) ⟨hb.os, hb.tape, hb.output, hb.size, fun i hi _ => hb.block i (by omega)⟩ (by cases hv : (Value.slice A l.length c).ownBlock <;> simp), h.bytes⟩

end

theorem OB.grown {w w' : World} {B : Nat} {A : Option Addr} {c : Nat} {l : List Int} (h : OB w B A c l) {row : Option Nat} (hg : w.grownBy w' row) (hr : ∀ k, row = some k → k < B) : OB w' B A c l := by
  refine ⟨h.own.kept hg ?_, h.bytes⟩
  cases hv : (Value.slice A l.length c).ownBlock with
  | none => exact .inl rfl
  | some k =>
    have h1 := (h.own.lt k hv).1
    exact .inr fun e => by have := hr k e.symm; omega

/-- The element type's row. -/
theorem infoB : (Try.prog.info? 5).map (fun i => (i.zero, i.size, i.bytes)) = some (some (.int .u8 0), 1, 1) := by kernel_rfl

/-- append(v, x...): v the call's own, x whatever bytes. -/
theorem run_append_rb (w : World) (ty : TypeId) (base B : Nat) (A : Option Addr) (c : Nat) (l : List Int) (ho : OB w base A c l) (X : Option Addr) (cx : Nat) (m : List Int) (hx : RB w B X cx m)
    (hlen : l.length + m.length ≤ 140737488355328) (hbase : base ≤ w.heap.size) :
    ∃ A' c' w', (Builtin.append_ #[33, 33] ty #[.slice A l.length c, .slice X m.length cx]).run Try.prog w = .ok (.slice A' (l ++ m).length c') w' ∧ OB w' base A' c' (l ++ m) ∧ Below base w w' ∧ (A ≠ none → A' ≠ none) ∧ w.grownBy w' (Value.slice A l.length c).ownBlock := by
  obtain ⟨i, hi, hz0, hz1, hz2⟩ := info_parts infoB
  cases X with
  | none =>
    obtain ⟨rfl, rfl⟩ := hx.none_nil
    refine ⟨A, c, w, ?_, by simpa using ho, Below.refl _ _, fun h => h, World.grownBy.refl _ _⟩
    have := run_append_owned_none (P := Try.prog) w base 33 ty 5 i 1 Try.underlying33 hi _ _ _ ho.own
    simpa using this
  | some a =>
    obtain ⟨v', w', hr, h1, h2, h3⟩ := run_append_own (P := Try.prog) w base 33 ty 5 i (.int .u8 0) 1 1 Try.underlying33 hi hz0 hz1 hz2 rfl (by decide) _ _ _ ho.own a m.length cx (m.map (Value.int .u8)) (by simp) hx.cells (ints_oneCell _ _) (by unfold maxLen; omega) (by omega) hbase
    have hbel : Below base w w' := (Below.refl _ _).grown h2 hbase fun k hk => (ho.own.lt k hk).1
    rw [← List.map_append] at h1
    have hll : l.length + m.length = (l ++ m).length := by simp
    rw [hll] at h1
    have hv : ∃ A' c', v' = .slice A' (l ++ m).length c' ∧ (A ≠ none → A' ≠ none) := by
      rcases h1.2 with ⟨e1, e2⟩ | ⟨g, cap, cur, e1, _⟩
      · refine ⟨none, 0, by rw [e1, e2], fun hA => ?_⟩
        have := h3.1 e1
        injection this.1 with e3
        exact absurd e3 hA
      · exact ⟨_, _, e1, fun _ => by simp⟩
    obtain ⟨A', c', rfl, hne⟩ := hv
    exact ⟨A', c', w', hr, ⟨h1, ho.bytes.append hx.bytes⟩, hbel, hne, h2⟩

/-- The same for the walk. -/
theorem wpList_append_rb (w : World) {ops : Array Oper} {rest : List Oper} {o : Oper} {a : Act} {Q : Exit → Act → World → Prop} (hgd : o.guard = none) (s x : Operand)
    (hop : o.op = .call { callee := .builtin .append, args := #[s, x], argTypes := #[33, 33] })
    (base B : Nat) (A : Option Addr) (n c : Nat) (l : List Int) (hs : a.eval s = .slice A n c) (hn : n = l.length) (ho : OB w base A c l) (X : Option Addr) (k cx : Nat) (m : List Int) (hv : a.eval x = .slice X k cx) (hk : k = m.length) (hx : RB w B X cx m)
    (hlen : l.length + m.length ≤ 140737488355328) (hbase : base ≤ w.heap.size)
    (h : ∀ A' c' w', OB w' base A' c' (l ++ m) → Below base w w' → (A ≠ none → A' ≠ none) → wpList Try.prog ops Q rest (a.put o.dst (.slice A' (l ++ m).length c')) w') : wpList Try.prog ops Q (o :: rest) a w := by
  subst hn hk
  obtain ⟨A', c', w', hr, h1, h2, h3, _⟩ := run_append_rb w o.type base B A c l ho X cx m hx hlen hbase
  refine wpList_plain hgd fun K hK => ?_
  unfold Oper.wp execOp
  simp only [hop, resolve, invoke, builtin, Sem.run_bind, Sem.run_pure, Result.andThen_ok, List.map_toArray, List.map_cons, List.map_nil, hs, hv, hr]
  exact hK _ _ (h A' c' w' h1 h2 h3)

/-- The same, with what may have been written. -/
theorem wpList_append_rbg (w : World) {ops : Array Oper} {rest : List Oper} {o : Oper} {a : Act} {Q : Exit → Act → World → Prop} (hgd : o.guard = none) (s x : Operand)
    (hop : o.op = .call { callee := .builtin .append, args := #[s, x], argTypes := #[33, 33] })
    (base B : Nat) (A : Option Addr) (n c : Nat) (l : List Int) (hs : a.eval s = .slice A n c) (hn : n = l.length) (ho : OB w base A c l) (X : Option Addr) (k cx : Nat) (m : List Int) (hv : a.eval x = .slice X k cx) (hk : k = m.length) (hx : RB w B X cx m)
    (hlen : l.length + m.length ≤ 140737488355328) (hbase : base ≤ w.heap.size)
    (h : ∀ A' c' w', OB w' base A' c' (l ++ m) → Below base w w' → w.grownBy w' (Value.slice A n c).ownBlock → wpList Try.prog ops Q rest (a.put o.dst (.slice A' (l ++ m).length c')) w') : wpList Try.prog ops Q (o :: rest) a w := by
  subst hn hk
  obtain ⟨A', c', w', hr, h1, h2, _, h3⟩ := run_append_rb w o.type base B A c l ho X cx m hx hlen hbase
  refine wpList_plain hgd fun K hK => ?_
  unfold Oper.wp execOp
  simp only [hop, resolve, invoke, builtin, Sem.run_bind, Sem.run_pure, Result.andThen_ok, List.map_toArray, List.map_cons, List.map_nil, hs, hv, hr]
  exact hK _ _ (h A' c' w' h1 h2 h3)

/-- string(b). -/
theorem run_string_rb (w : World) (B : Nat) (A : Option Addr) (c : Nat) (l : List Int) (h : RB w B A c l) :
    (convert 33 9 (.slice A l.length c)).run Try.prog w = .ok (.string (strOfNums l)) w := by
  rcases Nat.eq_zero_or_pos l.length with h0 | h0
  · obtain rfl : l = [] := List.eq_nil_of_length_eq_zero h0
    rw [run_convert_bytes_string w 33 9 5 _ _ _ Try.underlying33 Try.underlying5 Try.underlying9]
    cases A with
    | none => simp [Conv.bytesToString]; rfl
    | some a => rw [List.length_nil, run_bytesToString (P := Try.prog) w a 0 c [] (by simp [loadCells, loadCellsFrom])]; rfl
  · obtain ⟨b, off, rfl, _, hc⟩ := h.pos h0
    exact run_convert_bytes_arg w 33 5 Try.underlying33 Try.underlying5 b off l.length c l rfl hc 9 Try.underlying9

end Go.Proofs.Ythnbpdcjooifbaa
namespace Go.Proofs.Ythnbpdcjooifbaa
open Go.RowKit
set_option maxRecDepth 100000

/-- The answer is a slice of the call's own with the elements l; nothing below B has turned. -/
def Fresh (B : Nat) (w : World) (l : List Int) (e : Ending) (w' : World) : Prop :=
  ∃ A c, e = .returned (.slice A l.length c) ∧ OB w' B A c l ∧ Below B w w'

/-- What is fresh behind more is fresh. -/
theorem Fresh.of {B : Nat} {w w1 : World} {l : List Int} {e : Ending} {w' : World} (h : Fresh w1.heap.size w1 l e w') (hb : Below B w w1) (hB : B ≤ w1.heap.size) : Fresh B w l e w' := by
  obtain ⟨A, c, he, ho, hbl⟩ := h
  exact ⟨A, c, he, ho.mono hB, hb.trans (hbl.mono hB)⟩

set_option maxHeartbeats 400000 in
theorem own_any (A : Option Addr) (c n : Nat) (l : List Int) (w : World) (B : Nat) (hn : n = l.length) (h : RB w B A c l) (hB : B ≤ w.heap.size) (hlen : l.length ≤ 140737488355328) :
    Calls Try.prog 18 #[.slice A n c] w (Fresh w.heap.size w l) := by
  subst hn
  go_enter Try.func18, Try.ntmps18
  go_wp2_with (at_builtin; refine wpList_append_rb _ rfl _ _ rfl w.heap.size B _ _ _ [] rfl rfl (OB.made w #[] (Nat.zero_le _)) _ _ _ l rfl rfl (h.alloc hB _) (by simpa using hlen) (by simp) ?_; intro A' c' w1 hob hbel hne)
  go_ret
  exact ⟨A', c', rfl, hob, ((Below.refl _ _).alloc (Nat.le_refl _) _).trans hbel⟩

set_option maxHeartbeats 400000 in
theorem clone_any (A : Option Addr) (c n : Nat) (l : List Int) (w : World) (B : Nat) (hn : n = l.length) (h : RB w B A c l) (hB : B ≤ w.heap.size) (hlen : l.length ≤ 140737488355328) :
    Calls Try.prog 69 #[.slice A n c] w (Fresh w.heap.size w l) := by
  subst hn
  have heq := fun (w : World) (a : Option Addr) (n c : Nat) => Go.Lib.run_eql_slice_nil (P := Try.prog) w 33 5 a n c 0 0 Try.underlying33
  cases A with
  | none =>
    obtain ⟨rfl, rfl⟩ := h.none_nil
    go_enter Try.func69, Try.ntmps69
    go_wp2_with fail
    go_ret
    exact ⟨none, 0, rfl, OB.nil _ _, Below.refl _ _⟩
  | some a =>
    go_enter Try.func69, Try.ntmps69
    go_wp2_with (at_builtin; refine wpList_append_rb _ rfl _ _ rfl w.heap.size B _ _ _ [] rfl rfl (OB.made w #[] (Nat.zero_le _)) _ _ _ l rfl rfl (h.alloc hB _) (by simpa using hlen) (by simp) ?_; intro A' c' w1 hob hbel hne)
    go_ret
    exact ⟨A', c', rfl, hob, ((Below.refl _ _).alloc (Nat.le_refl _) _).trans hbel⟩

/-- Grow(nil, n): an empty slice with room of the call's own, or nil. -/
def Room (B : Nat) (w : World) (e : Ending) (w' : World) : Prop :=
  ∃ A c, e = .returned (.slice A 0 c) ∧ OB w' B A c [] ∧ Below B w w'

set_option maxHeartbeats 400000 in
theorem grow_zero (w : World) :
    Calls Try.prog 89 #[.slice none 0 0, .int .i64 0] w (Room w.heap.size w) := by
  go_enter Try.func89, Try.ntmps89
  go_wp2_with fail
  go_ret
  exact ⟨none, 0, rfl, OB.nil _ _, Below.refl _ _⟩

set_option maxHeartbeats 400000 in
set_option maxRecDepth 100000 in
theorem grow_pos (n : Nat) (w : World) (h0 : 0 < n) (hn : n ≤ 140737488355328) :
    Calls Try.prog 89 #[.slice none 0 0, .int .i64 n] w (Room w.heap.size w) := by
  obtain ⟨i, hi, hz0, hz1, hz2⟩ := info_parts infoB
  have hrun := fun ty => Go.Lib.run_append_nil_zeros (P := Try.prog) w 33 3 ty 5 i (.int .u8 0) .i64 .i64 Try.underlying33 Try.underlying3 hi hz0 n h0 (by omega) (by omega) (by rw [hz2]; omega)
  go_enter Try.func89, Try.ntmps89
  go_wp2_with (at_builtin; refine Go.Lib.wpList_append_run _ rfl _ _ _ _ rfl _ _ rfl rfl _ _ (hrun _) ?_)
  go_ret
  refine ⟨_, _, rfl, ?_, ((Below.refl _ _).alloc (Nat.le_refl _) _).drew⟩
  have hge := grownCap_ge w n 0 5
  have hcm := grownCap_le_maxLen w n 0 5 (by unfold maxLen; omega)
  exact ⟨World.ownsRow_made w _ (grownCap w n 0 5) (Nat.le_refl _) hcm (by simp [size_zeroCells]; omega), AllB.nil⟩

theorem grow_any (n : Nat) (w : World) (hn : n ≤ 140737488355328) :
    Calls Try.prog 89 #[.slice none 0 0, .int .i64 n] w (Room w.heap.size w) := by
  rcases Nat.eq_zero_or_pos n with rfl | h
  · exact grow_zero w
  · exact grow_pos n w h hn

/-- The pieces of a slice of slices. -/
structure Piece where
  A : Option Addr
  c : Nat
  l : List Int

def flat (ps : List Piece) : List Int := (ps.map (·.l)).flatten
theorem flat_nil : flat [] = [] := rfl
theorem flat_take (ps : List Piece) (k : Nat) (h : k < ps.length) : flat (ps.take (k + 1)) = flat (ps.take k) ++ ps[k].l := by
  unfold flat; rw [List.take_succ_eq_append_getElem h, List.map_append, List.flatten_append]; simp only [List.map_cons, List.map_nil, List.flatten_cons, List.flatten_nil, List.append_nil]
theorem flat_le (ps : List Piece) (k : Nat) : (flat (ps.take k)).length ≤ (flat ps).length := by
  have h : flat ps = flat (ps.take k) ++ flat (ps.drop k) := by
    conv => lhs; rw [← List.take_append_drop k ps]
    unfold flat; rw [List.map_append, List.flatten_append]
  rw [h, List.length_append]; omega
theorem flat_all (ps : List Piece) (k : Nat) (h : ps.length ≤ k) : flat (ps.take k) = flat ps := by rw [List.take_of_length_le h]

set_option maxHeartbeats 1000000 in
theorem concat_any (g cp : Nat) (ps : List Piece) (w : World) (hg : g < w.heap.size) (hps : ps.length ≤ 1000)
    (hcell : ∀ i (h : i < ps.length), w.cell? ⟨g, i, none⟩ = some (.slice ps[i].A ps[i].l.length ps[i].c))
    (hr : ∀ i (h : i < ps.length), RB w w.heap.size ps[i].A ps[i].c ps[i].l) (hlen : (flat ps).length ≤ 140737488355328) :
    Calls Try.prog 78 #[.slice (some ⟨g, 0, none⟩) ps.length cp] w (Fresh w.heap.size w (flat ps)) := by
  go_enter Try.func78, Try.ntmps78
  go_wp2
  go_loop [3, 11] (fun s i => ∃ k : Nat, k ≤ ps.length ∧ i = .int .i64 k ∧ s = .int .i64 (flat (ps.take k)).length) (fun _ i => ps.length - (intOf i).toNat)
  case atStart => exact ⟨0, Nat.zero_le _, rfl, rfl⟩
  case round =>
    obtain ⟨k, hk, rfl, rfl⟩ := hrel
    by_cases hlt : k < ps.length
    · have hc := hcell k hlt
      have hl := flat_le ps k
      have hl1 := flat_le ps (k + 1)
      have hft := flat_take ps k hlt
      have hs : (flat (ps.take (k + 1))).length = (flat (ps.take k)).length + ps[k].l.length := by rw [hft]; simp
      rw [hs] at hl1
      have HS := Lib.hid hs
      clear hs hft
      go_wp2
      go_round
      case rel => exact ⟨k + 1, by omega, by go_num, by rw [HS.out]; go_num⟩
      case measure => simp [intOf]; omega
    · obtain rfl : k = ps.length := by omega
      have hall := flat_all ps ps.length (Nat.le_refl _)
      rw [hall]
      clear hall hlt hk
      go_wp2_with (go_at_call 89; refine (grow_any _ _ hlen).mono ?_; rintro e w1 ⟨A1, c1, rfl, hob1, hbel1⟩)
      obtain ⟨hc, hf⟩ : (∀ p : Addr, p.block < w.heap.size → w1.cell? p = w.cell? p) ∧ True := ⟨fun p hp => hbel1.cell hp, trivial⟩
      clear hf
      go_loopw [6, 27] (fun v i wr => ∃ (k : Nat) (A : Option Addr) (c : Nat), k ≤ ps.length ∧ i = .int .i64 k ∧ v = .slice A (flat (ps.take k)).length c ∧ OB wr w.heap.size A c (flat (ps.take k)) ∧ Below w.heap.size w wr) (fun _ i _ => ps.length - (intOf i).toNat)
      case atStart => exact ⟨0, A1, c1, Nat.zero_le _, rfl, rfl, hob1, hbel1⟩
      case round =>
        obtain ⟨k, A, c, hk, rfl, rfl, hob, hbel⟩ := hrel
        by_cases hlt : k < ps.length
        · have hck : wr.cell? ⟨g, k, none⟩ = some (.slice ps[k].A ps[k].l.length ps[k].c) := (hbel.cell hg).trans (hcell k hlt)
          have hrk : RB wr w.heap.size ps[k].A ps[k].c ps[k].l := (hr k hlt).below hbel
          have hl1 := flat_le ps (k + 1)
          have hft := flat_take ps k hlt
          rw [hft, List.length_append] at hl1
          have HF := Lib.hid hft
          clear hft hc
          go_wp2_with (at_builtin; refine wpList_append_rb _ rfl _ _ rfl w.heap.size w.heap.size _ _ _ _ rfl rfl hob _ _ _ ps[k].l rfl rfl hrk (by omega) hbel.size ?_; intro A' c' w2 hob' hbel' hne)
          go_roundw
          case rel =>
            rw [← HF.out] at hob'
            exact ⟨k + 1, A', c', by omega, by go_num, by rw [HF.out, List.length_append], hob', hbel.trans hbel'⟩
          case measure => simp [intOf]; omega
        · obtain rfl : k = ps.length := by omega
          rw [flat_all ps ps.length (Nat.le_refl _)] at hob ⊢
          go_wp2
          go_ret
          exact ⟨A, c, rfl, hob, hbel⟩

/-- Concat of one, two, three pieces, in a row that was just laid. -/
theorem concat1 (A1 : Option Addr) (c1 : Nat) (l1 : List Int) (w : World) (h1 : RB w w.heap.size A1 c1 l1) (hlen : l1.length ≤ 140737488355328) :
    Calls Try.prog 78 #[.slice (some ⟨w.heap.size, 0, none⟩) 1 1] (w.alloc (.cells #[.slice A1 l1.length c1] 33)) (Fresh w.heap.size w l1) := by
  refine (concat_any w.heap.size 1 [⟨A1, c1, l1⟩] _ (by simp) (by simp) ?_ ?_ (by simp [flat]; omega)).mono fun e w' h => ?_
  · intro i hi
    have : i = 0 := by simp at hi; omega
    subst this
    rw [World.cell?_alloc_at _ _ _ _ rfl]; rfl
  · intro i hi
    have : i = 0 := by simp at hi; omega
    subst this
    exact (h1.alloc (Nat.le_refl _) _).more (by simp)
  · have := Fresh.of h ((Below.refl w.heap.size w).alloc (Nat.le_refl _) _) (by simp)
    simpa [flat] using this

theorem concat2 (A1 A2 : Option Addr) (c1 c2 : Nat) (l1 l2 : List Int) (w : World) (h1 : RB w w.heap.size A1 c1 l1) (h2 : RB w w.heap.size A2 c2 l2) (hlen : l1.length + l2.length ≤ 140737488355328) :
    Calls Try.prog 78 #[.slice (some ⟨w.heap.size, 0, none⟩) 2 2] (w.alloc (.cells #[.slice A1 l1.length c1, .slice A2 l2.length c2] 33)) (Fresh w.heap.size w (l1 ++ l2)) := by
  refine (concat_any w.heap.size 2 [⟨A1, c1, l1⟩, ⟨A2, c2, l2⟩] _ (by simp) (by simp) ?_ ?_ (by simp [flat]; omega)).mono fun e w' h => ?_
  · intro i hi
    match i, hi with
    | 0, _ => rw [World.cell?_alloc_at _ _ _ _ rfl]; rfl
    | 1, _ => rw [World.cell?_alloc_at _ _ _ _ rfl]; rfl
  · intro i hi
    match i, hi with
    | 0, _ => exact (h1.alloc (Nat.le_refl _) _).more (by simp)
    | 1, _ => exact (h2.alloc (Nat.le_refl _) _).more (by simp)
  · have := Fresh.of h ((Below.refl w.heap.size w).alloc (Nat.le_refl _) _) (by simp)
    simpa [flat] using this

theorem concat3 (A1 A2 A3 : Option Addr) (c1 c2 c3 : Nat) (l1 l2 l3 : List Int) (w : World) (h1 : RB w w.heap.size A1 c1 l1) (h2 : RB w w.heap.size A2 c2 l2) (h3 : RB w w.heap.size A3 c3 l3) (hlen : l1.length + l2.length + l3.length ≤ 140737488355328) :
    Calls Try.prog 78 #[.slice (some ⟨w.heap.size, 0, none⟩) 3 3] (w.alloc (.cells #[.slice A1 l1.length c1, .slice A2 l2.length c2, .slice A3 l3.length c3] 33)) (Fresh w.heap.size w (l1 ++ (l2 ++ l3))) := by
  refine (concat_any w.heap.size 3 [⟨A1, c1, l1⟩, ⟨A2, c2, l2⟩, ⟨A3, c3, l3⟩] _ (by simp) (by simp) ?_ ?_ (by simp [flat]; omega)).mono fun e w' h => ?_
  · intro i hi
    match i, hi with
    | 0, _ => rw [World.cell?_alloc_at _ _ _ _ rfl]; rfl
    | 1, _ => rw [World.cell?_alloc_at _ _ _ _ rfl]; rfl
    | 2, _ => rw [World.cell?_alloc_at _ _ _ _ rfl]; rfl
  · intro i hi
    match i, hi with
    | 0, _ => exact (h1.alloc (Nat.le_refl _) _).more (by simp)
    | 1, _ => exact (h2.alloc (Nat.le_refl _) _).more (by simp)
    | 2, _ => exact (h3.alloc (Nat.le_refl _) _).more (by simp)
  · have := Fresh.of h ((Below.refl w.heap.size w).alloc (Nat.le_refl _) _) (by simp)
    simpa [flat] using this

end Go.Proofs.Ythnbpdcjooifbaa
namespace Go.Proofs.Ythnbpdcjooifbaa
open Go.RowKit

/-- One doubling. -/
def stp (v : BitVec 16) : BitVec 16 := if v.msb then (v <<< 1) ^^^ 0x1021#16 else v <<< 1
def st8 (v : BitVec 16) : BitVec 16 := stp (stp (stp (stp (stp (stp (stp (stp v)))))))
/-- A byte more. -/
def byt (s : BitVec 16) (c : Int) : BitVec 16 := st8 (s ^^^ BitVec.ofNat 16 (c.toNat * 256))
def sumFrom (s : BitVec 16) (l : List Int) : BitVec 16 := l.foldl byt s
def sumL (l : List Int) : BitVec 16 := sumFrom 0xffff#16 l

theorem sumFrom_append (s : BitVec 16) (l m : List Int) : sumFrom s (l ++ m) = sumFrom (sumFrom s l) m := by simp [sumFrom]
theorem sumFrom_snoc (s : BitVec 16) (l : List Int) (c : Int) : sumFrom s (l ++ [c]) = byt (sumFrom s l) c := by simp [sumFrom]
theorem take_snoc (l : List Int) (k : Nat) (h : k < l.length) : l.take (k + 1) = l.take k ++ [l.getD k 0] := by
  rw [List.take_succ_eq_append_getElem h, getD_lt h]

theorem stp_xor (a b : BitVec 16) : stp (a ^^^ b) = stp a ^^^ stp b := by
  unfold stp
  rw [BitVec.msb_xor, BitVec.shiftLeft_xor_distrib]
  cases a.msb <;> cases b.msb <;> simp [BitVec.xor_assoc]
  · rw [BitVec.xor_comm (b <<< 1), BitVec.xor_comm (4129#16)]
  · rw [BitVec.xor_comm (b <<< 1), ← BitVec.xor_assoc, BitVec.xor_self, BitVec.zero_xor]

theorem st8_xor (a b : BitVec 16) : st8 (a ^^^ b) = st8 a ^^^ st8 b := by unfold st8; simp only [stp_xor]

/-- What eight doublings make of a high byte. -/
def wordB (h : Nat) : BitVec 16 := st8 (BitVec.ofNat 16 (h * 256))

theorem st8_low : ∀ n : Fin 256, st8 (BitVec.ofNat 16 n.val) = BitVec.ofNat 16 (n.val * 256) := by decide +kernel

theorem nat_split (s c : Nat) : s ^^^ (c * 256) = (((s / 256) ^^^ c) * 256) ^^^ (s % 256) := by
  have e : ∀ x : Nat, x * 256 = x <<< 8 := fun x => by rw [Nat.shiftLeft_eq]
  rw [e, e]
  apply Nat.eq_of_testBit_eq
  intro i
  have h256 : s % 256 = s % 2 ^ 8 := rfl
  have hd : s / 256 = s / 2 ^ 8 := rfl
  rw [h256, hd]
  simp only [Nat.testBit_xor, Nat.testBit_shiftLeft, Nat.testBit_mod_two_pow, Nat.testBit_div_two_pow]
  by_cases h : i < 8
  · simp [h, show ¬ 8 ≤ i by omega]
  · simp [h, show 8 ≤ i by omega]

theorem byt_word (s : BitVec 16) (c : Nat) : byt s c = BitVec.ofNat 16 (s.toNat % 256 * 256) ^^^ wordB ((s.toNat / 256) ^^^ c) := by
  have hs := s.isLt
  have hx : s ^^^ BitVec.ofNat 16 (c * 256) = BitVec.ofNat 16 (((s.toNat / 256) ^^^ c) * 256) ^^^ BitVec.ofNat 16 (s.toNat % 256) := by
    have h1 : s = BitVec.ofNat 16 s.toNat := by simp
    conv => lhs; rw [h1]
    rw [← BitVec.ofNat_xor, ← BitVec.ofNat_xor, nat_split]
  unfold byt
  rw [Int.toNat_natCast, hx, st8_xor, BitVec.xor_comm]
  congr 1
  exact st8_low ⟨s.toNat % 256, Nat.mod_lt _ (by omega)⟩

def wordI (n : Int) : Int := bits .xor .u16 (bits .xor .u16 (IntKind.u16.wrap (IntKind.u16.wrap (bits .xor .u8 n (n / 16)) * 4096)) (IntKind.u16.wrap (IntKind.u16.wrap (bits .xor .u8 n (n / 16)) * 32))) (IntKind.u16.wrap (bits .xor .u8 n (n / 16)))

theorem wordI_eq : ∀ n : Fin 256, wordI (n.val : Int) = ((wordB n.val).toNat : Int) := by decide +kernel

/-- The argument and the answer of a round, as the walk spells them. -/
theorem round_arg (s : BitVec 16) (c : Int) (h0 : 0 ≤ c) (h1 : c < 256) : bits .xor .u8 ((s.toNat : Int) / 256) c = (((s.toNat / 256) ^^^ c.toNat : Nat) : Int) := by
  have hs := s.isLt
  rw [u8_xor _ _ (by omega) (by omega) h0 h1]
  congr 2

theorem round_lt (s : BitVec 16) (c : Int) (h0 : 0 ≤ c) (h1 : c < 256) : (s.toNat / 256) ^^^ c.toNat < 256 := by
  have hs := s.isLt
  exact Nat.xor_lt_two_pow (n := 8) (by omega) (by omega)

theorem round_val (s : BitVec 16) (c : Int) (h0 : 0 ≤ c) : bits .xor .u16 (IntKind.u16.wrap ((s.toNat : Int) * 256)) ((wordB ((s.toNat / 256) ^^^ c.toNat)).toNat : Int) = ((byt s c).toNat : Int) := by
  have hs := s.isLt
  obtain ⟨d, rfl⟩ := Int.eq_ofNat_of_zero_le h0
  rw [Int.toNat_natCast, byt_word s d, BitVec.toNat_xor, IntKind.wrap_u16]
  have e : ((s.toNat : Int) * 256) % 65536 = ((s.toNat % 256 * 256 : Nat) : Int) := by omega
  rw [e, u16_xor_nat _ _ (by omega) (BitVec.isLt _)]
  congr 2
  rw [BitVec.toNat_ofNat]; exact (Nat.mod_eq_of_lt (by omega)).symm

def stpN : Nat → BitVec 16 → BitVec 16
  | 0, v => v
  | n + 1, v => stp (stpN n v)
theorem stpN_8 (v : BitVec 16) : stpN 8 v = st8 v := rfl

theorem stp_hi (v : BitVec 16) (h : 32768 ≤ v.toNat) : bits .xor .u16 (IntKind.u16.wrap ((v.toNat : Int) * 2)) 4129 = ((stp v).toNat : Int) := by
  have hv := v.isLt
  have hm : v.msb = true := by rw [BitVec.msb_eq_decide]; simp; omega
  unfold stp
  rw [hm, if_pos rfl, BitVec.toNat_xor, IntKind.wrap_u16]
  have e : ((v.toNat : Int) * 2) % 65536 = ((v.toNat * 2 % 65536 : Nat) : Int) := by omega
  rw [e]
  have := u16_xor_nat (v.toNat * 2 % 65536) 4129 (by omega) (by omega)
  rw [show ((4129 : Nat) : Int) = 4129 from rfl] at this
  rw [this]
  congr 2
  rw [BitVec.toNat_shiftLeft, Nat.shiftLeft_eq]

theorem stp_lo (v : BitVec 16) (h : v.toNat < 32768) : IntKind.u16.wrap ((v.toNat : Int) * 2) = ((stp v).toNat : Int) := by
  have hm : v.msb = false := by rw [BitVec.msb_eq_decide]; simp; omega
  unfold stp
  rw [hm, if_neg (by decide), BitVec.toNat_shiftLeft, Nat.shiftLeft_eq, IntKind.wrap_u16]
  omega

theorem ref_first (t : BitVec 16) (x : Int) (h0 : 0 ≤ x) (h1 : x < 256) : bits .xor .u16 (t.toNat : Int) (x * 256) = ((t ^^^ BitVec.ofNat 16 (x.toNat * 256)).toNat : Int) := by
  have ht := t.isLt
  obtain ⟨d, rfl⟩ := Int.eq_ofNat_of_zero_le h0
  have e : ((d : Int) * 256) = ((d * 256 : Nat) : Int) := by omega
  rw [e, u16_xor_nat _ _ ht (by omega), BitVec.toNat_xor, Int.toNat_natCast, BitVec.toNat_ofNat]
  congr 2
  exact (Nat.mod_eq_of_lt (by omega)).symm

end Go.Proofs.Ythnbpdcjooifbaa
