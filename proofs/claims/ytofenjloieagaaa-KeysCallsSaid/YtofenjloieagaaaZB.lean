/-  -/
import Derived.Test.YtofenjloieagaaaProg
import Derived.WalkKit
import Derived.WalkSpells
import Derived.WalkLawsBesides
import Derived.Laws.AppendOwnNone
namespace Go.Proofs.Ytofenjloieagaaa
open Go.RowKit

theorem getD_lt {l : List Int} {i : Nat} (h : i < l.length) : l.getD i 0 = l[i] := by simp [List.getD, h]
theorem getD_ge {l : List Int} {i : Nat} (h : l.length ≤ i) : l.getD i 0 = 0 := by simp [List.getD, h]

/-- Bytes. -/
def AllB (l : List Int) : Prop := ∀ n ∈ l, 0 ≤ n ∧ n < 256

theorem AllB.nil : AllB [] := fun _ h => by cases h
theorem AllB.append {l m : List Int} (h : AllB l) (k : AllB m) : AllB (l ++ m) := fun n hn => by
  rcases List.mem_append.1 hn with h1 | h1
  · exact h n h1
  · exact k n h1
theorem AllB.cons {x : Int} {l : List Int} (h0 : 0 ≤ x) (h1 : x < 256) (h : AllB l) : AllB (x :: l) := fun n hn => by
  rcases List.mem_cons.1 hn with rfl | h2
  · exact ⟨h0, h1⟩
  · exact h n h2
theorem AllB.one {x : Int} (h0 : 0 ≤ x) (h1 : x < 256) : AllB [x] := AllB.cons h0 h1 AllB.nil
theorem AllB.take {l : List Int} (h : AllB l) (k : Nat) : AllB (l.take k) := fun n hn => h n (List.mem_of_mem_take hn)
theorem AllB.drop {l : List Int} (h : AllB l) (k : Nat) : AllB (l.drop k) := fun n hn => h n (List.mem_of_mem_drop hn)
theorem AllB.flatten {ls : List (List Int)} (h : ∀ l ∈ ls, AllB l) : AllB ls.flatten := fun n hn => by
  obtain ⟨l, h1, h2⟩ := List.mem_flatten.1 hn
  exact h l h1 n h2
theorem AllB.getD {l : List Int} (h : AllB l) (i : Nat) : 0 ≤ l.getD i 0 ∧ l.getD i 0 < 256 := by
  rcases Nat.lt_or_ge i l.length with hi | hi
  · rw [getD_lt hi]; exact h _ (List.getElem_mem hi)
  · rw [getD_ge hi]; omega

/-- In the world w the slice (A, length, c) has the elements l, bytes; it lies below block B. -/
structure RB (w : World) (B : Nat) (A : Option Addr) (c : Nat) (l : List Int) : Prop where
  le : l.length ≤ c
  cap : c ≤ maxLen
  bytes : AllB l
  at_ : (A = none ∧ c = 0) ∨ ∃ a : Addr, A = some a ∧ (0 < l.length → a.spot = none ∧ a.block < B ∧ ∀ i, i < l.length → w.cell? ⟨a.block, a.off + i, none⟩ = some (.int .u8 (l.getD i 0)))

section
variable {w w' : World} {B B' : Nat} {A : Option Addr} {c : Nat} {l : List Int}

theorem RB.nil (w : World) (B : Nat) : RB w B none 0 [] := ⟨Nat.le_refl _, Nat.zero_le _, AllB.nil, .inl ⟨rfl, rfl⟩⟩

theorem RB.keep (h : RB w B A c l) (hk : ∀ p : Addr, p.block < B → w'.cell? p = w.cell? p) : RB w' B A c l := by
  refine ⟨h.le, h.cap, h.bytes, ?_⟩
  rcases h.at_ with h1 | ⟨a, rfl, hc⟩
  · exact .inl h1
  · refine .inr ⟨a, rfl, fun h0 => ?_⟩
    obtain ⟨hs, hb, hc⟩ := hc h0
    exact ⟨hs, hb, fun i hi => by rw [hk ⟨a.block, a.off + i, none⟩ hb]; exact hc i hi⟩

theorem RB.more (h : RB w B A c l) (hB : B ≤ B') : RB w B' A c l := by
  refine ⟨h.le, h.cap, h.bytes, ?_⟩
  rcases h.at_ with h1 | ⟨a, rfl, hc⟩
  · exact .inl h1
  · refine .inr ⟨a, rfl, fun h0 => ?_⟩
    obtain ⟨hs, hb, hc⟩ := hc h0
    exact ⟨hs, by omega, hc⟩

theorem RB.below (h : RB w B A c l) (hb : Below B w w') : RB w' B A c l := h.keep fun _ hp => hb.cell hp
theorem RB.belowH (h : RB w w.heap.size A c l) (hb : Below w.heap.size w w') : RB w' w'.heap.size A c l := (h.below hb).more hb.size
theorem RB.drew (h : RB w B A c l) : RB w.drew B A c l := ⟨h.le, h.cap, h.bytes, h.at_⟩
theorem RB.alloc (h : RB w B A c l) (hB : B ≤ w.heap.size) (o : Obj) : RB (w.alloc o) B A c l := h.below ((Below.refl _ _).alloc hB o)
theorem RB.grown (h : RB w B A c l) {row : Option Nat} (hg : w.grownBy w' row) (hB : B ≤ w.heap.size) (hr : ∀ k, row = some k → B ≤ k) : RB w' B A c l :=
  h.below ((Below.refl _ _).grown hg hB hr)

theorem RB.cells {a : Addr} (h : RB w B (some a) c l) : ∀ j u, (l.map (Value.int .u8))[j]? = some u → w.cell? (a.add j) = some u := by
  intro j u hu
  have hj : j < l.length := by have := (List.getElem?_eq_some_iff.1 hu).1; simpa using this
  rcases h.at_ with ⟨h1, _⟩ | ⟨a', h1, hc⟩
  · cases h1
  · obtain rfl := Option.some.inj h1
    obtain ⟨hs, _, hc⟩ := hc (by omega)
    have ha : a = ⟨a.block, a.off, none⟩ := by cases a; simp_all
    rw [ha, Addr.add_lit, hc j hj]
    simp [List.getElem?_eq_getElem hj] at hu
    subst hu
    rw [getD_lt hj]

theorem RB.none_nil (h : RB w B none c l) : c = 0 ∧ l = [] := by
  rcases h.at_ with ⟨_, h2⟩ | ⟨a, h1, _⟩
  · exact ⟨h2, List.eq_nil_of_length_eq_zero (by have := h.le; omega)⟩
  · cases h1
end

theorem RB.pos {w : World} {B c : Nat} {A : Option Addr} {l : List Int} (h : RB w B A c l) (hl : 0 < l.length) : ∃ b off, A = some ⟨b, off, none⟩ ∧ b < B ∧ ∀ i, i < l.length → w.cell? ⟨b, off + i, none⟩ = some (.int .u8 (l.getD i 0)) := by
  rcases h.at_ with ⟨_, h2⟩ | ⟨a, rfl, hc⟩
  · have := h.le; omega
  · obtain ⟨hs, hb, hc⟩ := hc hl
    exact ⟨a.block, a.off, by cases a; simp_all, hb, hc⟩

/-- A slice with plain cells. -/
theorem RB.mk_ {w : World} {B b off c : Nat} {l : List Int} (h1 : l.length ≤ c) (h2 : c ≤ maxLen) (h3 : AllB l) (hb : b < B) (hc : ∀ i, i < l.length → w.cell? ⟨b, off + i, none⟩ = some (.int .u8 (l.getD i 0))) : RB w B (some ⟨b, off, none⟩) c l :=
  ⟨h1, h2, h3, .inr ⟨_, rfl, fun _ => ⟨rfl, hb, hc⟩⟩⟩

/-- No elements: whatever the address. -/
theorem RB.empty (w : World) (B : Nat) (a : Addr) (c : Nat) (h2 : c ≤ maxLen) : RB w B (some a) c [] := ⟨Nat.zero_le _, h2, AllB.nil, .inr ⟨_, rfl, fun h => absurd h (by simp)⟩⟩

/-- A piece of a slice. -/
theorem RB.sub {w : World} {B b off c : Nat} {l : List Int} (h : RB w B (some ⟨b, off, none⟩) c l) (p n : Nat) (hn : p + n ≤ l.length) : RB w B (some ⟨b, off + p, none⟩) (c - p) ((l.drop p).take n) := by
  have hlen : ((l.drop p).take n).length = n := by rw [List.length_take, List.length_drop]; omega
  refine ⟨by rw [hlen]; have := h.le; omega, by have := h.cap; omega, (h.bytes.drop p).take n, .inr ⟨_, rfl, fun h0 => ?_⟩⟩
  obtain ⟨b', off', h1, hb, hc⟩ := h.pos (by omega)
  simp only [Option.some.injEq, Addr.mk.injEq, and_true] at h1
  obtain ⟨rfl, rfl⟩ := h1
  refine ⟨rfl, hb, fun i hi => ?_⟩
  show w.cell? ⟨b, off + p + i, none⟩ = _
  rw [Nat.add_assoc, hc (p + i) (by omega)]
  simp only [List.getD]
  rw [List.getElem?_take, if_pos (by omega), List.getElem?_drop]

/-- Bytes that the call owns, from block B on. -/
structure OB (w : World) (B : Nat) (A : Option Addr) (c : Nat) (l : List Int) : Prop where
  own : w.ownsRow B 5 1 (.slice A l.length c) l.length (l.map (Value.int .u8))
  bytes : AllB l

section
variable {w w' : World} {B : Nat} {A : Option Addr} {c : Nat} {l : List Int}

theorem OB.nil (w : World) (B : Nat) : OB w B none 0 [] := ⟨World.ownsRow_nil w B _ 1, AllB.nil⟩

theorem OB.rb (h : OB w B A c l) : RB w w.heap.size A c l := by
  have hlt := h.own.lt
  rcases h.own.2 with ⟨h1, h2⟩ | ⟨g, cap, cur, h1, hb, hg, hn, hm, hs, ht⟩
  · injection h1 with h3 h4 h5
    subst h3 h5
    have : l = [] := List.eq_nil_of_length_eq_zero h2
    subst this
    exact RB.nil _ _
  · injection h1 with h3 h4 h5
    subst h3 h5
    refine RB.mk_ hn hm h.bytes (hlt g rfl).2 fun i hi => ?_
    have hc := h.own.cells (g := g) rfl i (.int .u8 (l.getD i 0)) (by simp [List.getElem?_eq_getElem hi])
    rw [Addr.add_lit] at hc
    exact hc

/-- A row that was just made holds nothing yet. -/
theorem OB.made (w : World) (cs : Array Value) (hm : cs.size ≤ maxLen) : OB (w.alloc (.cells cs 5)) w.heap.size (some ⟨w.heap.size, 0, none⟩) cs.size [] :=
  ⟨World.ownsRow_made w cs cs.size (Nat.le_refl _) hm (by simp), AllB.nil⟩

/-- A row that was just made with these elements. -/
theorem OB.lit (w : World) (l : List Int) (hb : AllB l) (hm : l.length ≤ maxLen) : OB (w.alloc (.cells (l.map (Value.int .u8)).toArray 5)) w.heap.size (some ⟨w.heap.size, 0, none⟩) l.length l := by
  have h := World.ownsRow_lit (base := w.heap.size) (e := 5) (size := 1) w (l.map (Value.int .u8)).toArray l.length (Nat.le_refl _) hm (by simp)
  exact ⟨by simpa using h, hb⟩
theorem OB.lit1 (w : World) (v : Int) (h0 : 0 ≤ v) (h1 : v < 256) : OB (w.alloc (.cells #[.int .u8 v] 5)) w.heap.size (some ⟨w.heap.size, 0, none⟩) 1 [v] :=
  OB.lit w [v] (AllB.one h0 h1) (by unfold maxLen; simp)
theorem RB.lit1 (w : World) (v : Int) (h0 : 0 ≤ v) (h1 : v < 256) : RB (w.alloc (.cells #[.int .u8 v] 5)) (w.heap.size + 1) (some ⟨w.heap.size, 0, none⟩) 1 [v] :=
  (OB.lit1 w v h0 h1).rb.more (by simp)

theorem OB.plain (h : OB w B A c l) : ∀ a, A = some a → a.spot = none := by
  intro a ha
  rcases h.own.2 with ⟨h1, _⟩ | ⟨g, cap, cur, h1, _⟩
  · injection h1 with h3; rw [h3] at ha; cases ha
  · injection h1 with h3; rw [h3] at ha; obtain rfl := Option.some.inj ha; rfl

theorem OB.mono {B' : Nat} (h : OB w B A c l) (hB : B' ≤ B) : OB w B' A c l := by
  refine ⟨⟨h.own.1, ?_⟩, h.bytes⟩
  rcases h.own.2 with h1 | ⟨g, cap, cur, h1, hb, h2⟩
  · exact .inl h1
  · exact .inr ⟨g, cap, cur, h1, by omega, h2⟩

theorem OB.alloc (h : OB w B A c l) (o : Obj) : OB (w.alloc o) B A c l := ⟨h.own.alloc o, h.bytes⟩
theorem OB.below (h : OB w B A c l) {k : Nat} (hb : Below k w w') (hk : w.heap.size ≤ k) : OB w' B A c l :=
  ⟨h.own.kept (row := none) ⟨hb.os, hb.tape, hb.output, hb.size, fun i hi _ => hb.block i (by omega)⟩ (by cases hv : (Value.slice A l.length c).ownBlock <;> simp), h.bytes⟩

end

theorem OB.grown {w w' : World} {B : Nat} {A : Option Addr} {c : Nat} {l : List Int} (h : OB w B A c l) {row : Option Nat} (hg : w.grownBy w' row) (hr : ∀ k, row = some k → k < B) : OB w' B A c l := by
  refine ⟨h.own.kept hg ?_, h.bytes⟩
  cases hv : (Value.slice A l.length c).ownBlock with
  | none => exact .inl rfl
  | some k =>
    have h1 := (h.own.lt k hv).1
    exact .inr fun e => by have := hr k e.symm; omega

/-- The element type's row. -/
theorem infoB : (Try.prog.info? 5).map (fun i => (i.zero, i.size, i.bytes)) = some (some (.int .u8 0), 1, 1) := by kernel_rfl

/-- append(v, x...): v the call's own, x whatever bytes. -/
theorem run_append_rb (w : World) (ty : TypeId) (base B : Nat) (A : Option Addr) (c : Nat) (l : List Int) (ho : OB w base A c l) (X : Option Addr) (cx : Nat) (m : List Int) (hx : RB w B X cx m)
    (hlen : l.length + m.length ≤ 140737488355328) (hbase : base ≤ w.heap.size) :
    ∃ A' c' w', (Builtin.append_ #[23, 23] ty #[.slice A l.length c, .slice X m.length cx]).run Try.prog w = .ok (.slice A' (l ++ m).length c') w' ∧ OB w' base A' c' (l ++ m) ∧ Below base w w' ∧ (A ≠ none → A' ≠ none) ∧ w.grownBy w' (Value.slice A l.length c).ownBlock := by
  obtain ⟨i, hi, hz0, hz1, hz2⟩ := info_parts infoB
  cases X with
  | none =>
    obtain ⟨rfl, rfl⟩ := hx.none_nil
    refine ⟨A, c, w, ?_, by simpa using ho, Below.refl _ _, fun h => h, World.grownBy.refl _ _⟩
    have := run_append_owned_none (P := Try.prog) w base 23 ty 5 i 1 Try.underlying23 hi _ _ _ ho.own
    simpa using this
  | some a =>
    obtain ⟨v', w', hr, h1, h2, h3⟩ := run_append_own (P := Try.prog) w base 23 ty 5 i (.int .u8 0) 1 1 Try.underlying23 hi hz0 hz1 hz2 rfl (by decide) _ _ _ ho.own a m.length cx (m.map (Value.int .u8)) (by simp) hx.cells (ints_oneCell _ _) (by unfold maxLen; omega) (by omega) hbase
    have hbel : Below base w w' := (Below.refl _ _).grown h2 hbase fun k hk => (ho.own.lt k hk).1
    rw [← List.map_append] at h1
    have hll : l.length + m.length = (l ++ m).length := by simp
    rw [hll] at h1
    have hv : ∃ A' c', v' = .slice A' (l ++ m).length c' ∧ (A ≠ none → A' ≠ none) := by
      rcases h1.2 with ⟨e1, e2⟩ | ⟨g, cap, cur, e1, _⟩
      · refine ⟨none, 0, by rw [e1, e2], fun hA => ?_⟩
        have := h3.1 e1
        injection this.1 with e3
        exact absurd e3 hA
      · exact ⟨_, _, e1, fun _ => by simp⟩
    obtain ⟨A', c', rfl, hne⟩ := hv
    exact ⟨A', c', w', hr, ⟨h1, ho.bytes.append hx.bytes⟩, hbel, hne, h2⟩

/-- The same for the walk. -/
theorem wpList_append_rb (w : World) {ops : Array Oper} {rest : List Oper} {o : Oper} {a : Act} {Q : Exit → Act → World → Prop} (hgd : o.guard = none) (s x : Operand)
    (hop : o.op = .call { callee := .builtin .append, args := #[s, x], argTypes := #[23, 23] })
    (base B : Nat) (A : Option Addr) (n c : Nat) (l : List Int) (hs : a.eval s = .slice A n c) (hn : n = l.length) (ho : OB w base A c l) (X : Option Addr) (k cx : Nat) (m : List Int) (hv : a.eval x = .slice X k cx) (hk : k = m.length) (hx : RB w B X cx m)
    (hlen : l.length + m.length ≤ 140737488355328) (hbase : base ≤ w.heap.size)
    (h : ∀ A' c' w', OB w' base A' c' (l ++ m) → Below base w w' → (A ≠ none → A' ≠ none) → wpList Try.prog ops Q rest (a.put o.dst (.slice A' (l ++ m).length c')) w') : wpList Try.prog ops Q (o :: rest) a w := by
  subst hn hk
  obtain ⟨A', c', w', hr, h1, h2, h3, _⟩ := run_append_rb w o.type base B A c l ho X cx m hx hlen hbase
  refine wpList_plain hgd fun K hK => ?_
  unfold Oper.wp execOp
  simp only [hop, resolve, invoke, builtin, Sem.run_bind, Sem.run_pure, Result.andThen_ok, List.map_toArray, List.map_cons, List.map_nil, hs, hv, hr]
  exact hK _ _ (h A' c' w' h1 h2 h3)

/-- The same, with what may have been written. -/
theorem wpList_append_rbg (w : World) {ops : Array Oper} {rest : List Oper} {o : Oper} {a : Act} {Q : Exit → Act → World → Prop} (hgd : o.guard = none) (s x : Operand)
    (hop : o.op = .call { callee := .builtin .append, args := #[s, x], argTypes := #[23, 23] })
    (base B : Nat) (A : Option Addr) (n c : Nat) (l : List Int) (hs : a.eval s = .slice A n c) (hn : n = l.length) (ho : OB w base A c l) (X : Option Addr) (k cx : Nat) (m : List Int) (hv : a.eval x = .slice X k cx) (hk : k = m.length) (hx : RB w B X cx m)
    (hlen : l.length + m.length ≤ 140737488355328) (hbase : base ≤ w.heap.size)
    (h : ∀ A' c' w', OB w' base A' c' (l ++ m) → Below base w w' → w.grownBy w' (Value.slice A n c).ownBlock → wpList Try.prog ops Q rest (a.put o.dst (.slice A' (l ++ m).length c')) w') : wpList Try.prog ops Q (o :: rest) a w := by
  subst hn hk
  obtain ⟨A', c', w', hr, h1, h2, _, h3⟩ := run_append_rb w o.type base B A c l ho X cx m hx hlen hbase
  refine wpList_plain hgd fun K hK => ?_
  unfold Oper.wp execOp
  simp only [hop, resolve, invoke, builtin, Sem.run_bind, Sem.run_pure, Result.andThen_ok, List.map_toArray, List.map_cons, List.map_nil, hs, hv, hr]
  exact hK _ _ (h A' c' w' h1 h2 h3)

/-- string(b). -/
theorem run_string_rb (w : World) (B : Nat) (A : Option Addr) (c : Nat) (l : List Int) (h : RB w B A c l) :
    (convert 23 9 (.slice A l.length c)).run Try.prog w = .ok (.string (strOfNums l)) w := by
  rcases Nat.eq_zero_or_pos l.length with h0 | h0
  · obtain rfl : l = [] := List.eq_nil_of_length_eq_zero h0
    rw [run_convert_bytes_string w 23 9 5 _ _ _ Try.underlying23 Try.underlying5 Try.underlying9]
    cases A with
    | none => simp [Conv.bytesToString]; rfl
    | some a => rw [List.length_nil, run_bytesToString (P := Try.prog) w a 0 c [] (by simp [loadCells, loadCellsFrom])]; rfl
  · obtain ⟨b, off, rfl, _, hc⟩ := h.pos h0
    exact run_convert_bytes_arg w 23 5 Try.underlying23 Try.underlying5 b off l.length c l rfl hc 9 Try.underlying9

end Go.Proofs.Ytofenjloieagaaa
