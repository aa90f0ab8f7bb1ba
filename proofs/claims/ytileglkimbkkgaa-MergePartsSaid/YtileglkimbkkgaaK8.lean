
/- Lists of lists of events that came in; headsOf. -/
import Derived.Test.YtileglkimbkkgaaK7
namespace Go.Proofs.Ytileglkimbkkgaa
open Go.RowKit
set_option linter.unusedSimpArgs false
set_option linter.unusedVariables false

/-- A slice of events: where it stands, its capacity, its events. -/
structure Ls where
  A : Option Addr
  c : Nat
  l : List Ev
def Ls.val (x : Ls) : Value := .slice x.A x.l.length x.c
def Ls.none : Ls := ⟨Option.none, 0, []⟩
structure LsAt (w : World) (B : Nat) (x : Ls) : Prop where
  le : x.l.length ≤ x.c
  cap : x.c ≤ maxLen
  at_ : 0 < x.l.length → ∃ b o, x.A = some ⟨b, o, Option.none⟩ ∧ b < B ∧ ∀ i, i < x.l.length → EvAt w b (o + i * 6) (x.l.getD i ⟨0, 0, 0, 0, 0, 0⟩)
/-- A slice of such slices. -/
structure LL (w : World) (B : Nat) (O : Option Addr) (c : Nat) (L : List Ls) : Prop where
  le : L.length ≤ c
  cap : c ≤ maxLen
  at_ : 0 < L.length → ∃ b o, O = some ⟨b, o, Option.none⟩ ∧ b < B ∧ ∀ i, i < L.length → w.cell? ⟨b, o + i, Option.none⟩ = some (L.getD i Ls.none).val
  rows : ∀ x ∈ L, LsAt w B x

theorem LsAt.keep {w w' : World} {B : Nat} {x : Ls} (h : LsAt w B x) (hk : ∀ k, k < B → w'.heap[k]? = w.heap[k]?) : LsAt w' B x :=
  ⟨h.le, h.cap, fun h0 => by
    obtain ⟨b, o, h1, h2, h3⟩ := h.at_ h0
    exact ⟨b, o, h1, h2, fun i hi => (h3 i hi).keep (hk _ h2)⟩⟩
theorem LL.keep {w w' : World} {B c : Nat} {O : Option Addr} {L : List Ls} (h : LL w B O c L) (hk : ∀ k, k < B → w'.heap[k]? = w.heap[k]?) : LL w' B O c L :=
  ⟨h.le, h.cap, fun h0 => by
    obtain ⟨b, o, h1, h2, h3⟩ := h.at_ h0
    exact ⟨b, o, h1, h2, fun i hi => (World.cell?_of_block (hk _ h2)).trans (h3 i hi)⟩, fun x hx => (h.rows x hx).keep hk⟩
theorem LsAt.more {w : World} {B B' : Nat} {x : Ls} (h : LsAt w B x) (hB : B ≤ B') : LsAt w B' x :=
  ⟨h.le, h.cap, fun h0 => by
    obtain ⟨b, o, h1, h2, h3⟩ := h.at_ h0
    exact ⟨b, o, h1, by omega, h3⟩⟩
theorem LL.more {w : World} {B B' c : Nat} {O : Option Addr} {L : List Ls} (h : LL w B O c L) (hB : B ≤ B') : LL w B' O c L :=
  ⟨h.le, h.cap, fun h0 => by
    obtain ⟨b, o, h1, h2, h3⟩ := h.at_ h0
    exact ⟨b, o, h1, by omega, h3⟩, fun x hx => (h.rows x hx).more hB⟩
theorem HdAt.more {w : World} {B B' : Nat} {x : Hd} (h : HdAt w B x) (hB : B ≤ B') : HdAt w B' x := ⟨Nat.lt_of_lt_of_le h.lt hB, h.pos, h.le, h.cap, h.at_⟩
/-- A list that is not empty is a head. -/
theorem LsAt.head {w : World} {B : Nat} {x : Ls} (h : LsAt w B x) (h0 : 0 < x.l.length) : ∃ y : Hd, HdAt w B y ∧ y.val = x.val ∧ y.l = x.l := by
  obtain ⟨b, o, h1, h2, h3⟩ := h.at_ h0
  exact ⟨⟨b, o, x.c, x.l⟩, ⟨h2, h0, h.le, h.cap, h3⟩, by unfold Hd.val Ls.val; rw [h1], rfl⟩

def HeadsRel (w : World) (B p R : Nat) (L : List Ls) (k : Nat) (wr : World) : Prop :=
  ∃ (A : Option Addr) (c : Nat) (H : List Hd), HM wr B p A c H ∧ Hp.Heap Hd.none hle H H.length ∧ ((H.map Hd.l).flatten).Perm (((L.take k).map Ls.l).flatten) ∧ (∀ x ∈ H, x.blk < R ∧ ∃ y ∈ L, x.l = y.l) ∧ H.length ≤ k ∧ Below B w wr
def HeadsTo (w : World) (R : Nat) (L : List Ls) (e : Ending) (wr : World) : Prop :=
  ∃ p, e = .returned (.pointer (some ⟨p, 0, Option.none⟩)) ∧ HeadsRel w w.heap.size p R L L.length wr

theorem HM.empty {w : World} {B p g : Nat} (h1 : w.heap[p]? = some (.cells #[.slice (some ⟨g, 0, Option.none⟩) 0 0] 81 (0, 0))) (h2 : w.heap[g]? = some (.cells #[] 25 (0, 0))) (hp : B ≤ p) (hg : B ≤ g) (hne : g ≠ p) :
    HM w B p (some ⟨g, 0, Option.none⟩) 0 [] :=
  ⟨h1, ⟨rfl, .inr ⟨g, 0, #[], rfl, hg, h2, Nat.le_refl _, Nat.zero_le _, rfl, rfl⟩⟩, fun e => hne (Option.some.inj e), hp, fun _ h => by cases h⟩

set_option maxRecDepth 100000 in
set_option maxHeartbeats 1000000 in
theorem headsOf_any (w : World) (c : Nat) (O : Option Addr) (L : List Ls) (R : Nat) (hR : LL w R O c L) (hRw : R ≤ w.heap.size) (hn : L.length ≤ 1099511627776) :
    Calls Try.prog 38 #[.slice O L.length c] w (HeadsTo w R L) := by
  have h := hR.more hRw
  go_enter Try.func38, Try.ntmps38
  go_wp2_with fail
  have hL := h.keep (w' := (w.alloc (.cells #[] 25)).alloc (.cells #[.slice (some ⟨w.heap.size, 0, Option.none⟩) 0 0] 81)) fun k hk => (((Below.refl w.heap.size w).alloc (Nat.le_refl _) _).alloc (by simp) _).block k hk
  have hB0 : Below w.heap.size w ((w.alloc (.cells #[] 25)).alloc (.cells #[.slice (some ⟨w.heap.size, 0, Option.none⟩) 0 0] 81)) := ((Below.refl w.heap.size w).alloc (Nat.le_refl _) _).alloc (by simp) _
  have hE : HM ((w.alloc (.cells #[] 25)).alloc (.cells #[.slice (some ⟨w.heap.size, 0, Option.none⟩) 0 0] 81)) w.heap.size (w.heap.size + 1) (some ⟨w.heap.size, 0, Option.none⟩) 0 [] := by
    refine HM.empty ?_ ?_ (by omega) (Nat.le_refl _) (by omega)
    · have := heap_alloc_new (w.alloc (.cells #[] 25)) (.cells #[.slice (some ⟨w.heap.size, 0, Option.none⟩) 0 0] 81)
      simpa using this
    · have h1 := heap_alloc_new w (.cells #[] 25)
      have h2 := ((Below.refl _ (w.alloc (.cells #[] 25))).alloc (B := (w.alloc (.cells #[] 25)).heap.size) (Nat.le_refl _) (.cells #[.slice (some ⟨w.heap.size, 0, Option.none⟩) 0 0] 81)).block w.heap.size (by simp)
      exact h2.trans h1
  have HE := Lib.hid hE
  have HB := Lib.hid hB0
  have HL := Lib.hid h
  have HLR := Lib.hid hR
  clear hL hE hB0 h hR
  go_loopw [10] (fun i wr => ∃ k : Nat, k ≤ L.length ∧ i = .int .i64 k ∧ HeadsRel w w.heap.size (w.heap.size + 1) R L k wr) (fun i _ => L.length - (intOf i).toNat)
  case atStart => exact ⟨0, Nat.zero_le _, rfl, _, _, [], HE.out, fun i _ hi => absurd hi (by simp), .refl _, (fun _ h => by cases h), Nat.le_refl _, HB.out⟩
  case round =>
    obtain ⟨k, hk, rfl, A, c', H, hm, hh, hp, hx, hlen, hb⟩ := hrel
    by_cases hlt : k < L.length
    · obtain ⟨b, o, rfl, hb1, hc1⟩ := HL.out.at_ (by omega)
      have hcell : wr.cell? ⟨b, o + k, Option.none⟩ = some (L.getD k Ls.none).val := (World.cell?_of_block (hb.block b hb1)).trans (hc1 k hlt)
      have hmem : L.getD k Ls.none ∈ L := by rw [List.getD_eq_getElem?_getD, List.getElem?_eq_getElem hlt]; exact List.getElem_mem hlt
      have htake : L.take (k + 1) = L.take k ++ [L.getD k Ls.none] := by
        rw [List.take_succ_eq_append_getElem hlt, List.getD_eq_getElem?_getD, List.getElem?_eq_getElem hlt]; rfl
      have hrow := (HLR.out.rows _ hmem).keep (w' := wr) (fun k hk => hb.block k (by omega))
      generalize L.getD k Ls.none = x at *
      have HT := Lib.hid htake
      have HM1 := Lib.hid hmem
      have HP := Lib.hid hp
      have HX := Lib.hid hx
      have HH := Lib.hid hh
      unfold Ls.val at hcell
      clear htake hmem hc1 hp hx hh
      have hkk : k ≤ 1099511627776 := by omega
      by_cases h0 : x.l.length = 0
      · have hl0 : x.l = [] := List.eq_nil_of_length_eq_zero h0
        have H0 := Lib.hid hl0
        rw [h0] at hcell
        clear h0 hl0
        go_wp2_with fail
        go_roundw
        case rel => exact ⟨k + 1, by omega, by go_num, A, c', H, hm, HH.out, by rw [HT.out, List.map_append, List.flatten_append]; simpa [H0.out] using HP.out, HX.out, by omega, hb⟩
        case measure => simp [intOf]; omega
      · obtain ⟨y, hy1, hy2, hy3⟩ := hrow.head (by omega)
        have hpos : 0 < x.l.length := by omega
        have hle := hrow.le
        have hcap := hrow.cap
        unfold maxLen at hcap
        have HPU := Lib.hid (hpush_any wr w.heap.size (w.heap.size + 1) c' A H y hm (hy1.more hRw) (by omega) HH.out)
        rw [hy2] at HPU
        unfold hpV Ls.val at HPU
        have H3 := Lib.hid hy3
        have HBL := Lib.hid hy1.lt
        clear h0 hy2 hy3
        go_wp2_with fail
        refine HPU.out.mono ?_
        rintro e w1 ⟨rfl, A1, c1, H1, hm1, hp1, hh1, hb1'⟩
        have HP1 := Lib.hid hp1
        have HH1 := Lib.hid hh1
        clear hp1 hh1
        go_wp2_with fail
        go_roundw
        case rel =>
          refine ⟨k + 1, by omega, by go_num, A1, c1, H1, hm1, HH1.out, ?_, ?_, ?_, hb.trans hb1'⟩
          · rw [HT.out, List.map_append, List.flatten_append]
            refine ((HP1.out.map Hd.l).flatten).trans ?_
            rw [List.map_append, List.flatten_append]
            refine (HP.out.append_right _).trans ?_
            simp [H3.out]
          · intro z hz
            have := HP1.out.mem_iff.1 hz
            rcases List.mem_append.1 this with h1 | h1
            · exact HX.out z h1
            · obtain rfl := List.mem_singleton.1 h1
              exact ⟨HBL.out, x, HM1.out, H3.out⟩
          · rw [HP1.out.length_eq]; simp; omega
        case measure => simp [intOf]; omega
    · obtain rfl : k = L.length := by omega
      have HP := Lib.hid hp
      have HX := Lib.hid hx
      have HH := Lib.hid hh
      clear hp hx hh
      go_wp2_with fail
      go_ret
      exact ⟨_, rfl, A, c', H, hm, HH.out, HP.out, HX.out, hlen, hb⟩
end Go.Proofs.Ytileglkimbkkgaa
