
/- Patches in memory; what New lays; the laws of append and copy that it needs. -/
import Derived.Test.YtflbedomkeophaaSI
import Derived.Test.YtflbedomkeophaaSA
import Derived.Laws.CopyOwn
namespace Go.Proofs.Ytflbedomkeophaa
open Go.RowKit
set_option linter.unusedSimpArgs false
set_option linter.unusedVariables false
set_option maxRecDepth 100000

/-- A patch: its bank, its place, its bytes and where these lie. -/
structure Pt where
  b : Int
  p : Int
  A : Option Addr
  c : Nat
  l : List Int
def ptZ : Pt := ⟨0, 0, none, 0, []⟩
abbrev Pt.cells (x : Pt) : List Value := [.int .i64 x.b, .int .i64 x.p, .slice x.A x.l.length x.c]
abbrev Pt.val (x : Pt) : Value := .agg #[.int .i64 x.b, .int .i64 x.p, .slice x.A x.l.length x.c]
abbrev Pt.obj (x : Pt) : Obj := .cells #[.int .i64 x.b, .int .i64 x.p, .slice x.A x.l.length x.c] 29
structure Pt.wf (x : Pt) : Prop where
  b : (Lit.int .i64 x.b).wf = true
  p : (Lit.int .i64 x.p).wf = true
  l : x.l.length ≤ 140737488355328
  n : x.A = none → x.c = 0
/-- A list of patches in memory. -/
structure PtsAt (w : World) (B : Nat) (A : Option Addr) (c : Nat) (ps : List Pt) : Prop where
  le : ps.length ≤ c
  cap : c ≤ maxLen
  at_ : 0 < ps.length → ∃ b o, A = some ⟨b, o, none⟩ ∧ b < B ∧ ∀ i, i < ps.length → ∀ j, j < 3 → w.cell? ⟨b, o + i * 3 + j, none⟩ = (ps.getD i ptZ).cells[j]?
  bytes : ∀ x ∈ ps, RB w B x.A x.c x.l
theorem PtsAt.keep {w w' : World} {B c : Nat} {A : Option Addr} {ps : List Pt} (h : PtsAt w B A c ps) (hk : ∀ k, k < B → w'.heap[k]? = w.heap[k]?) : PtsAt w' B A c ps :=
  ⟨h.le, h.cap, fun h0 => by
    obtain ⟨b, o, h1, h2, h3⟩ := h.at_ h0
    exact ⟨b, o, h1, h2, fun i hi j hj => (World.cell?_of_block (hk _ h2)).trans (h3 i hi j hj)⟩, fun x hx => (h.bytes x hx).keep fun p hp => World.cell?_of_block (hk _ hp)⟩
theorem PtsAt.more {w : World} {B B' c : Nat} {A : Option Addr} {ps : List Pt} (h : PtsAt w B A c ps) (hB : B ≤ B') : PtsAt w B' A c ps :=
  ⟨h.le, h.cap, fun h0 => by
    obtain ⟨b, o, h1, h2, h3⟩ := h.at_ h0
    exact ⟨b, o, h1, by omega, h3⟩, fun x hx => (h.bytes x hx).more hB⟩
theorem PtsAt.below {w w' : World} {B c : Nat} {A : Option Addr} {ps : List Pt} (h : PtsAt w B A c ps) (hb : Below B w w') : PtsAt w' B A c ps := h.keep fun k hk => hb.block k hk
theorem getD_pt (ps : List Pt) (i : Nat) (h : i < ps.length) : ps.getD i ptZ = ps[i] := by simp [List.getD, h]
theorem PtsAt.one {w : World} {B c : Nat} {b o : Nat} {ps : List Pt} (h : PtsAt w B (some ⟨b, o, none⟩) c ps) (i : Nat) (hi : i < ps.length) (y : Pt) (hy : ps.getD i ptZ = y) :
    w.cell? ⟨b, o + i * 3, none⟩ = some (.int .i64 y.b) ∧ w.cell? ⟨b, o + i * 3 + 1, none⟩ = some (.int .i64 y.p) ∧ w.cell? ⟨b, o + i * 3 + 2, none⟩ = some (.slice y.A y.l.length y.c) := by
  obtain ⟨b', o', h1, h2, h3⟩ := h.at_ (by omega)
  injection h1 with h1
  injection h1 with h1 h4
  subst h1 h4
  have h5 := h3 i hi
  rw [hy] at h5
  exact ⟨h5 0 (by decide), h5 1 (by decide), h5 2 (by decide)⟩

theorem w_append {P : Program} {ops : Array Oper} {rest : List Oper} {o : Oper} {a : Act} {w : World} {Q : Exit → Act → World → Prop}
    (hg : o.guard = none) (s x : Operand) (t : TypeId) (hop : o.op = Op.call { callee := Callee.builtin Builtin.append, args := #[s, x], argTypes := #[t, t] })
    (base : Nat) (e : TypeId) (i : TypeInfo) (z : Value) (size bytes : Nat) (h1 : P.underlying t = some (.slice e)) (h2 : P.info? e = some i) (h3 : i.zero = some z) (h4 : i.size = size) (h5 : i.bytes = bytes) (h6 : z.cells.size = size) (h7 : 0 < size)
    (v : Value) (n : Nat) (xs : List Value) (hs : a.eval s = v) (hown : w.ownsRow base e size v n xs)
    (ad : Addr) (m c : Nat) (news : List Value) (hx : a.eval x = .slice (some ad) m c) (hn : news.length = m * size) (hc : ∀ j u, news[j]? = some u → w.cell? (ad.add j) = some u) (h1c : ∀ u ∈ news, u.oneCell' = true)
    (b1 : n + m ≤ maxLen) (b2 : (n + m) * bytes ≤ 140737488355328) (hbase : base ≤ w.heap.size)
    (hK : ∀ v' w', w'.ownsRow base e size v' (n + m) (xs ++ news) → w.grownBy w' v.ownBlock → wpList P ops Q rest (a.put o.dst v') w') :
    wpList P ops Q (o :: rest) a w := by
  subst hs
  obtain ⟨v', w', hrun, r1, r2, _⟩ := run_append_own (P := P) w base t o.type e i z size bytes h1 h2 h3 h4 h5 h6 h7 _ n xs hown ad m c news hn hc h1c b1 b2 hbase
  refine wpList_plain hg fun K hK2 => ?_
  unfold Oper.wp
  simp [execOp, hop, resolve, invoke, builtin, hx, hrun, Result.andThen]
  exact hK2 _ _ (hK v' w' r1 r2)

theorem b_copy {P : Program} {ops : Array Oper} {o : Oper} {a : Act} {w : World} {K : Act → World → Prop} {Q : Exit → Act → World → Prop} {E : Prop} (hgd : o.guard = none) (d s : Operand) (dT sT : TypeId)
    (ho : o.op = .call { callee := .builtin .copy, args := #[d, s], argTypes := #[dT, sT] }) (elem : TypeId) (hu : P.underlying dT = some (.slice elem)) (hsz : (P.info? elem).map (·.size) = some 1)
    (dp sp : Option Addr) (dLen dCap sLen sCap : Nat) (hd : a.eval d = .slice dp dLen dCap) (hs : a.eval s = .slice sp sLen sCap)
    (g off : Nat) (cur : List Value) (t : TypeId) (hg : w.heap[g]? = some (.cells cur.toArray t (0, 0))) (cs : List Value) (hn : cs.length = Nat.min sLen dLen)
    (hpos : 0 < cs.length → dp = some ⟨g, off, none⟩ ∧ ∃ ad, sp = some ad ∧ ∀ j v, cs[j]? = some v → w.cell? (ad.add j) = some v)
    (hfit : off + cs.length ≤ cur.length) (h1 : ∀ v ∈ cs, v.oneCell' = true)
    (h : ∀ w', w'.heap[g]? = some (.cells (splice cur off cs).toArray t (0, 0)) → w.grownBy w' (some g) → K (a.put o.dst (goInt cs.length)) w') :
    if Region.wanted o (yielded ops a.tmps) = true then Oper.wp P o a w K Q else E := by
  have hw : Region.wanted o (yielded ops a.tmps) = true := by simp [Region.wanted, hgd]
  rw [if_pos hw]
  by_cases h0 : cs.length = 0
  · obtain rfl : cs = [] := List.eq_nil_of_length_eq_zero h0
    have hrun := run_copy_none (P := P) w dT sT o.type elem dp sp dLen dCap sLen sCap hu hsz (by simpa using hn.symm)
    unfold Oper.wp
    simp [execOp, ho, resolve, invoke, builtin, hd, hs, hrun, Result.andThen]
    exact h w (by simpa [splice] using hg) (World.grownBy.refl _ _)
  · obtain ⟨rfl, ad, rfl, hsrc⟩ := hpos (by omega)
    have hrun := run_copy_row (P := P) w dT sT o.type elem g off dLen dCap ad sLen sCap cur.toArray t cs hu hsz hg hn hsrc (by simpa using hfit) h1
    unfold Oper.wp
    simp [execOp, ho, resolve, invoke, builtin, hd, hs, hrun, Result.andThen]
    exact h _ (by simpa [splice] using setRow_heap w g _ _ t _ hg) (grown_row _ _ _)

/-- A bank of zeros, as a list. -/
def bkL : List Int := List.replicate 16384 0
theorem bkL_len : bkL.length = 16384 := List.length_replicate
theorem bkL_all : AllB bkL := fun n hn => by rw [List.eq_of_mem_replicate hn]; decide
theorem bk0_eq : bk0 = (bkL.map (Value.int .u8)).toArray := by
  unfold bk0 bkL
  apply Array.ext'
  rw [Array.toList_replicate, List.map_replicate]
theorem bkL_at (i : Nat) : bkL.getD i 0 = 0 := by
  unfold bkL
  rw [List.getD_eq_getElem?_getD, List.getElem?_replicate]
  split <;> rfl
end Go.Proofs.Ytflbedomkeophaa
