/-       -/
import Derived.Test.YtgaihekapakoeaaGreatDoorJ9
import Derived.Laws.AppendOwn
import Derived.OwnWalk
import Derived.Laws.OwnMore
import Derived.Test.YtgaihekapakoeaaGreatDoorJ19
import Derived.Lib.SmallJoins
set_option linter.unusedVariables false
set_option linter.unusedSimpArgs false
namespace Go.Proofs.YtgaihekapakoeaaGreatDoor
open Go.RowKit


set_option maxRecDepth 100000

def inC (i : In) : List Value := [.int .i64 i.s, .int .i64 i.x, .int .i64 i.o, .int .i64 i.d, .int .i64 i.m, .int .i64 i.n]
def rowI (M : List In) : List Value := M.flatMap inC
theorem rowI_get : ∀ (l : List In) (i j : Nat), i < l.length → j < 6 → (rowI l)[i * 6 + j]? = (inC (l.getD i zeroI))[j]? := by
 intro l
 induction l with
 | nil => intro i j h _; simp at h
 | cons x t ih =>
  intro i j h hj
  have hc : (inC x).length = 6 := rfl
  unfold rowI at ih ⊢
  rw [List.flatMap_cons]
  cases i with
  | zero => rw [List.getElem?_append_left (by rw [hc]; omega)]; simp
  | succ i =>
   rw [List.getElem?_append_right (by rw [hc]; omega), hc, show (i + 1) * 6 + j - 6 = i * 6 + j by omega, ih i j (by simpa using h) hj]
   simp
structure InAt (w : World) (b o : Nat) (i : In) : Prop where
 c0 : w.cell? ⟨b, o, none⟩ = some (.int .i64 i.s)
 c1 : w.cell? ⟨b, o + 1, none⟩ = some (.int .i64 i.x)
 c2 : w.cell? ⟨b, o + 2, none⟩ = some (.int .i64 i.o)
 c3 : w.cell? ⟨b, o + 3, none⟩ = some (.int .i64 i.d)
 c4 : w.cell? ⟨b, o + 4, none⟩ = some (.int .i64 i.m)
 c5 : w.cell? ⟨b, o + 5, none⟩ = some (.int .i64 i.n)
theorem InAt.keep {w w' : World} {b o : Nat} {x : In} (h : InAt w b o x) (hk : w'.heap[b]? = w.heap[b]?) : InAt w' b o x := by
 have e : ∀ i, w'.cell? ⟨b, i, none⟩ = w.cell? ⟨b, i, none⟩ := fun i => World.cell?_of_block hk
 exact ⟨(e _).trans h.c0, (e _).trans h.c1, (e _).trans h.c2, (e _).trans h.c3, (e _).trans h.c4, (e _).trans h.c5⟩
structure IL (w : World) (B : Nat) (A : Option Addr) (c : Nat) (M : List In) : Prop where
 le : M.length ≤ c
 cap : c ≤ maxLen
 at_ : 0 < M.length → ∃ b o, A = some ⟨b, o, Option.none⟩ ∧ b < B ∧ ∀ i, i < M.length → InAt w b (o + i * 6) (M.getD i zeroI)
theorem IL.keep {w w' : World} {B : Nat} {A : Option Addr} {c : Nat} {M : List In} (h : IL w B A c M) (hk : ∀ k, k < B → w'.heap[k]? = w.heap[k]?) : IL w' B A c M :=
 ⟨h.le, h.cap, fun h0 => by
  obtain ⟨b, o, h1, h2, h3⟩ := h.at_ h0
  exact ⟨b, o, h1, h2, fun i hi => (h3 i hi).keep (hk _ h2)⟩⟩
theorem IL.below {w w' : World} {B : Nat} {A : Option Addr} {c : Nat} {M : List In} (h : IL w B A c M) (hb : Below B w w') : IL w' B A c M := h.keep fun k hk => hb.block k hk
theorem IL.more {w : World} {B B' : Nat} {A : Option Addr} {c : Nat} {M : List In} (h : IL w B A c M) (hB : B ≤ B') : IL w B' A c M :=
 ⟨h.le, h.cap, fun h0 => by
  obtain ⟨b, o, h1, h2, h3⟩ := h.at_ h0
  exact ⟨b, o, h1, by omega, h3⟩⟩
theorem IL.own {w : World} {base c : Nat} {A : Option Addr} {M : List In} (h : w.ownsRow base 23 6 (.slice A M.length c) M.length (rowI M)) : IL w w.heap.size A c M := by
 rcases h.2 with ⟨h1, h2⟩ | ⟨g, cap, cur, h1, hb, hg, hn, hm, hs⟩
 ·injection h1 with h3 h4 h5
  exact ⟨by omega, by subst h5; unfold maxLen; omega, fun h0 => absurd h0 (by omega)⟩
 ·injection h1 with h3 h4 h5
  subst h3
  have hlt := (h.lt g rfl).2
  refine ⟨by omega, by omega, fun h0 => ⟨g, 0, rfl, hlt, fun i hi => ?_⟩⟩
  have e : ∀ j, j < 6 → w.cell? ⟨g, 0 + i * 6 + j, none⟩ = (inC (M.getD i zeroI))[j]? := fun j hj => by
   rw [h.cellAt _ (by omega), Nat.zero_add, rowI_get M i j hi hj]
  exact ⟨e 0 (by decide), e 1 (by decide), e 2 (by decide), e 3 (by decide), e 4 (by decide), e 5 (by decide)⟩
end Go.Proofs.YtgaihekapakoeaaGreatDoor
namespace Go.Proofs.YtgaihekapakoeaaGreatDoor
open Go.RowKit


set_option maxRecDepth 100000

theorem RB.tail {w : World} {B b off c : Nat} {l : List Int} (h : RB w B (some ⟨b, off, none⟩) c l) (p : Nat) (hp : p ≤ l.length) :
  RB w B (if l.length = p then some ⟨b, off, none⟩ else some ⟨b, off + p, none⟩) (l.length - p) (l.drop p) := by
 have hcap := h.cap
 have hle := h.le
 have hlen : (l.drop p).length = l.length - p := List.length_drop
 by_cases he : l.length = p
 ·rw [if_pos he]
  have : l.drop p = [] := List.eq_nil_of_length_eq_zero (by omega)
  rw [this]
  exact RB.empty w B ⟨b, off, none⟩ _ (by omega)
 ·rw [if_neg he]
  have := h.sub p (l.length - p) (by omega)
  rw [List.take_of_length_le (by omega)] at this
  refine ⟨by omega, by omega, this.bytes, ?_⟩
  rcases this.at_ with ⟨h1, _⟩ | h1
  ·cases h1
  ·exact .inr h1
end Go.Proofs.YtgaihekapakoeaaGreatDoor
namespace Go.Proofs.YtgaihekapakoeaaGreatDoor
open Go.RowKit


set_option maxRecDepth 100000

theorem info_text : (Tryz.prog.info? 9).map (fun i => (i.zero, i.size, i.bytes)) = some (some (.string ⟨#[]⟩), 1, 16) := by kernel_rfl
theorem new_text (w : World) (v : Value) (t : TypeId) : ∀ j u, [v][j]? = some u → (w.alloc (.cells #[v] t)).cell? ((⟨w.heap.size, 0, none⟩ : Addr).add j) = some u := by
 intro j u hu
 cases j with
 | zero =>
  obtain rfl : v = u := by simpa using hu
  show (w.alloc (.cells #[v] t)).cell? ⟨w.heap.size, 0, none⟩ = some v
  rw [World.cell?_alloc_at _ _ _ _ rfl]
  first | done | rfl
 | succ j => simp at hu
end Go.Proofs.YtgaihekapakoeaaGreatDoor
namespace Go.Proofs.YtgaihekapakoeaaGreatDoor
open Go.RowKit


set_option maxRecDepth 100000

structure IsT (s : ByteArray) (x : In) : Prop where
 wf : x.Wf
 may : x.may = true
 tx : (⟨(textI x).toArray⟩ : ByteArray) = s
theorem IsT.same {s : ByteArray} {x y : In} (hx : IsT s x) (hy : IsT s y) : x = y := text_inj hx.may hy.may (arr_inj (hx.tx.trans hy.tx.symm))
open Classical in
noncomputable def readI (s : ByteArray) : Option In := if h : ∃ x, IsT s x then some h.choose else none
theorem readI_some {s : ByteArray} {x : In} (h : IsT s x) : readI s = some x := by
 have hx : ∃ x, IsT s x := ⟨x, h⟩
 unfold readI
 rw [dif_pos hx]
 exact congrArg some (hx.choose_spec.same h)
theorem readI_is {s : ByteArray} {x : In} (h : readI s = some x) : IsT s x := by
 by_cases hx : ∃ x, IsT s x
 ·unfold readI at h
  rw [dif_pos hx] at h
  injection h with h
  exact h ▸ hx.choose_spec
 ·unfold readI at h
  rw [dif_neg hx] at h
  cases h
theorem readI_none {s : ByteArray} (h : ∀ j : In, j.may = true → (⟨(textI j).toArray⟩ : ByteArray) ≠ s) : readI s = none := by
 cases hx : readI s with
 | none => rfl
 | some x => exact absurd (readI_is hx).tx (h x (readI_is hx).may)
def ParseTx (w : World) : Prop := ∀ s : ByteArray, s.size ≤ 100000 → ∀ w', Below w.heap.size w w' →
 (∃ x, readI s = some x ∧ Calls Tryz.prog 9 #[.string s] w' (fun e w2 => e = .returned (.tuple #[x.val, .int .i64 0]) ∧ Below w'.heap.size w' w2)) ∨
 (readI s = none ∧ Calls Tryz.prog 9 #[.string s] w' (fun e w2 => e = .returned (.tuple #[zeroI.val, .int .i64 11]) ∧ Below w'.heap.size w' w2))
theorem ParseTo.tx {w : World} (h : ParseTo w) : ParseTx w := by
 intro s hs w' hb
 obtain ⟨x, e, hc, hx, h3⟩ := h s hs w' hb
 rcases h3 with ⟨rfl, h4, h5⟩ | ⟨rfl, rfl, h5⟩
 ·exact .inl ⟨x, readI_some ⟨hx, h4, h5⟩, hc⟩
 ·exact .inr ⟨readI_none h5, hc⟩
theorem ParseTx.on {w w' : World} (h : ParseTx w) (hb : Below w.heap.size w w') : ParseTx w' := fun s hs w2 h2 => h s hs w2 (hb.trans (h2.mono hb.size))

noncomputable def makeI : List ByteArray → Option (List Int)
 | [] => some []
 | s :: t => match readI s, makeI t with
  | some x, some b => some (bytesI x ++ b)
  | _, _ => none
theorem makeI_cons (s : ByteArray) (t : List ByteArray) : makeI (s :: t) = match readI s, makeI t with | some x, some b => some (bytesI x ++ b) | _, _ => none := rfl
theorem makeI_add : ∀ (a b : List ByteArray), makeI (a ++ b) = match makeI a, makeI b with | some x, some y => some (x ++ y) | _, _ => none
 | [], b => by cases h : makeI b <;> simp [makeI, h]
 | s :: t, b => by
  have ih := makeI_add t b
  rw [List.cons_append, makeI_cons, makeI_cons, ih]
  cases readI s <;> cases makeI t <;> cases makeI b <;> simp
theorem makeI_snoc {a : List ByteArray} {s : ByteArray} {bs : List Int} {x : In} (ha : makeI a = some bs) (hs : readI s = some x) : makeI (a ++ [s]) = some (bs ++ bytesI x) := by
 rw [makeI_add, ha]
 simp [makeI, hs]
theorem makeI_odd {a b : List ByteArray} {s : ByteArray} (hs : readI s = none) : makeI (a ++ s :: b) = none := by
 rw [makeI_add]
 have : makeI (s :: b) = none := by unfold makeI; rw [hs]
 rw [this]
 cases makeI a <;> rfl
theorem makeI_len : ∀ (a : List ByteArray) (bs : List Int), makeI a = some bs → bs.length ≤ 6 * a.length
 | [], bs, h => by unfold makeI at h; injection h with h; subst h; simp
 | s :: t, bs, h => by
  unfold makeI at h
  cases hs : readI s with
  | none => rw [hs] at h; cases h
  | some x =>
   cases ht : makeI t with
   | none => rw [hs, ht] at h; cases h
   | some b =>
    rw [hs, ht] at h
    injection h with h
    have := makeI_len t b ht
    have h6 := bytesI_short x
    rw [← h, List.length_append, List.length_cons]
    omega

structure TL (w : World) (B : Nat) (A : Option Addr) (c : Nat) (M : List ByteArray) : Prop where
 le : M.length ≤ c
 cap : c ≤ maxLen
 at_ : 0 < M.length → ∃ b o, A = some ⟨b, o, Option.none⟩ ∧ b < B ∧ ∀ i, i < M.length → w.cell? ⟨b, o + i, none⟩ = some (.string (M.getD i ⟨#[]⟩))
theorem TL.keep {w w' : World} {B : Nat} {A : Option Addr} {c : Nat} {M : List ByteArray} (h : TL w B A c M) (hk : ∀ k, k < B → w'.heap[k]? = w.heap[k]?) : TL w' B A c M :=
 ⟨h.le, h.cap, fun h0 => by
  obtain ⟨b, o, h1, h2, h3⟩ := h.at_ h0
  exact ⟨b, o, h1, h2, fun i hi => (World.cell?_of_block (hk _ h2)).trans (h3 i hi)⟩⟩
theorem TL.below {w w' : World} {B : Nat} {A : Option Addr} {c : Nat} {M : List ByteArray} (h : TL w B A c M) (hb : Below B w w') : TL w' B A c M := h.keep fun k hk => hb.block k hk
theorem TL.more {w : World} {B B' : Nat} {A : Option Addr} {c : Nat} {M : List ByteArray} (h : TL w B A c M) (hB : B ≤ B') : TL w B' A c M :=
 ⟨h.le, h.cap, fun h0 => by
  obtain ⟨b, o, h1, h2, h3⟩ := h.at_ h0
  exact ⟨b, o, h1, by omega, h3⟩⟩
theorem take_nextS {Z : List ByteArray} {j : Nat} (hj : j < Z.length) : Z.take (j + 1) = Z.take j ++ [Z.getD j ⟨#[]⟩] := by
 rw [List.take_succ_eq_append_getElem hj]
 simp [List.getD_eq_getElem?_getD, hj]
theorem odd_at {Z : List ByteArray} {j : Nat} (hj : j < Z.length) (h : readI (Z.getD j ⟨#[]⟩) = none) : makeI Z = none := by
 have e : Z = Z.take j ++ Z.getD j ⟨#[]⟩ :: Z.drop (j + 1) := by
  conv => lhs; rw [← List.take_append_drop j Z, List.drop_eq_getElem_cons hj]
  simp [List.getD_eq_getElem?_getD, hj]
 rw [e]
 exact makeI_odd h

def MakeT (w : World) (M : List ByteArray) (e : Ending) (w' : World) : Prop :=
 ((∃ bs, makeI M = some bs ∧ ∃ A c, e = .returned (.tuple #[.slice A bs.length c, .int .i64 0]) ∧ OB w' w.heap.size A c bs) ∨ (makeI M = none ∧ e = .returned (.tuple #[.slice none 0 0, .int .i64 11]))) ∧ Below w.heap.size w w'

set_option maxHeartbeats 8000000 in
theorem make_any (M : List ByteArray) (A : Option Addr) (c n : Nat) (hn : n = M.length) (w : World) (hM : TL w w.heap.size A c M) (hl : M.length ≤ 500) (hs : ∀ s ∈ M, s.size ≤ 100000) (hP : ParseTx w) :
  Calls Tryz.prog 10 #[.slice A n c] w (MakeT w M) := by
 subst hn
 unfold MakeT
 have HM := z_ hM
 have HP := z_ hP
 have HS := z_ hs
 clear hM hP hs
 go_enter Tryz.func10, Tryz.ntmps10
 go_wp2_with fail
 go_loopw [4, 13] (fun v i wr => ∃ (j : Nat) (bs : List Int) (B : Option Addr) (d : Nat), i = .int .i64 j ∧ j ≤ M.length ∧ makeI (M.take j) = some bs ∧ v = .slice B bs.length d ∧ OB wr w.heap.size B d bs ∧ Below w.heap.size w wr) (fun _ i _ => M.length - (intOf i).toNat)
 case atStart => exact ⟨0, [], none, 0, rfl, by omega, rfl, rfl, OB.nil _ _, Below.refl _ _⟩
 case round =>
  obtain ⟨j, bs, B, d, rfl, hjl, hmk, rfl, ho, hb⟩ := hrel
  by_cases hj : j < M.length
  ·obtain ⟨s, hsj⟩ : ∃ s, M.getD j ⟨#[]⟩ = s := ⟨_, rfl⟩
   have hlen := makeI_len _ _ hmk
   rw [List.length_take] at hlen
   have hn := take_nextS hj
   rw [hsj] at hn
   have hsz := HS.out s (by rw [← hsj, List.getD_eq_getElem?_getD, List.getElem?_eq_getElem hj]; exact List.getElem_mem hj)
   obtain ⟨b3, o3, rfl, hb3, hat⟩ := HM.out.at_ (by omega)
   have d0 := (World.cell?_of_block (hb.block b3 hb3)).trans (hat j hj)
   rw [hsj] at d0
   have HN := z_ hn
   have HO := z_ ho
   have HB := z_ hb
   have HK := z_ hmk
   have HJ := z_ hsj
   have hp := HP.out s hsz wr hb
   clear hn hsj hat ho hb hmk
   rcases hp with ⟨x, hx, hc⟩ | ⟨hx, hc⟩
   ·have HC := z_ hc
    have HX := z_ hx
    clear hx hc
    go_wp2_with fail
    refine (HC.out).mono ?_
    rintro e w5 ⟨rfl, hb5⟩
    have hB5 := HB.out.trans (hb5.mono HB.out.size)
    have ho5 := HO.out.below hb5 (Nat.le_refl _)
    have hI := readI_is HX.out
    clear hb5
    have hby := fun w => c9_bytes_may x hI.wf hI.may w
    rw [in_val] at hby ⊢
    have h6 := bytesI_short x
    have HY := z_ hby
    have HO5 := z_ ho5
    have HB5 := z_ hB5
    clear hby ho5 hB5 hI HC HO HB
    go_wp2_with fail
    obtain ⟨wa, hwa⟩ : ∃ wa, w5.alloc (.cells #[.int .i64 x.s, .int .i64 x.x, .int .i64 x.o, .int .i64 x.d, .int .i64 x.m, .int .i64 x.n] 23) = wa := ⟨_, rfl⟩
    have hoa : OB wa w.heap.size B d bs := hwa ▸ HO5.out.alloc _
    have hBa : Below w.heap.size w wa := hwa ▸ HB5.out.alloc HB5.out.size _
    rw [hwa]
    refine (HY.out wa).mono ?_
    rintro e w6 ⟨⟨A6, c6, rfl, ho6⟩, hb6⟩
    have ho7 := hoa.below hb6 (Nat.le_refl _)
    have hB7 := hBa.trans (hb6.mono hBa.size)
    have hS7 := hB7.size
    have HO6 := z_ ho6.rb
    have HO7 := z_ ho7
    have HB7 := z_ hB7
    clear hwa hoa hBa hb6 ho6 ho7 hB7 d0 HY
    obtain ⟨T, hT⟩ : ∃ T, bytesI x = T := ⟨_, rfl⟩
    rw [hT] at HO6 h6 ⊢
    have HT := z_ hT
    clear hT
    go_wp2_with (at_builtin; refine wpList_append_rb _ rfl (.tmp 30) (.tmp 31) rfl w.heap.size w6.heap.size _ _ _ bs rfl rfl HO7.out _ _ _ T rfl rfl HO6.out (by omega) hS7 ?_; intro A' c' w7 hob hbel hne; have HO8 := z_ hob; have HB8 := z_ hbel; clear hob hbel hne)
    refine ⟨⟨j + 1, bs ++ T, A', c', by go_num, by omega, ?_, by rw [List.length_append], HO8.out, HB7.out.trans HB8.out⟩, by simp [intOf]; omega⟩
    rw [HN.out, ← HT.out]
    exact makeI_snoc HK.out HX.out
   ·have HX := z_ hx
    have HC := z_ hc
    clear hx hc
    go_wp2_with fail
    refine (HC.out).mono ?_
    rintro e w5 ⟨rfl, hb5⟩
    have hB5 := HB.out.trans (hb5.mono HB.out.size)
    clear hb5
    rw [in_val]
    go_wp2_with fail
    go_ret2
    exact ⟨.inr ⟨odd_at hj (by rw [HJ.out]; exact HX.out), rfl⟩, hB5.alloc hB5.size _⟩
  ·have hje : j = M.length := by omega
   subst hje
   have HO := z_ ho
   have HB := z_ hb
   have HK := z_ hmk
   clear ho hb hmk
   go_wp2_with fail
   go_ret2
   have hr := HK.out
   rw [List.take_length] at hr
   exact ⟨.inl ⟨bs, hr, B, d, rfl, HO.out⟩, HB.out⟩
end Go.Proofs.YtgaihekapakoeaaGreatDoor
namespace Go.Proofs.YtgaihekapakoeaaGreatDoor
open Go.RowKit


set_option maxRecDepth 100000

end Go.Proofs.YtgaihekapakoeaaGreatDoor
namespace Go.Proofs.YtgaihekapakoeaaGreatDoor
open Go.RowKit


set_option maxRecDepth 100000

theorem TL.two (w : World) (a b : ByteArray) (t : TypeId) : TL (w.alloc (.cells #[.string a, .string b] t)) (w.alloc (.cells #[.string a, .string b] t)).heap.size (some ⟨w.heap.size, 0, none⟩) 2 [a, b] := by
 refine ⟨Nat.le_refl _, by unfold maxLen; omega, fun _ => ⟨w.heap.size, 0, rfl, by simp, fun i hi => ?_⟩⟩
 rw [World.cell?_alloc_at _ _ _ _ rfl]
 match i, hi with
 | 0, _ => rfl
 | 1, _ => rfl

end Go.Proofs.YtgaihekapakoeaaGreatDoor
