/-   -/
import Derived.Test.YthnbpdcjooifbaaJ8
import Derived.Test.YthnbpdcjooifbaaJ5
namespace Go.Proofs.Ythnbpdcjooifbaa
open Go.RowKit
set_option linter.unusedSimpArgs false
set_option linter.unusedVariables false

/-- A slice of events: where it stands, its capacity, its events. -/
structure Ls where
  A : Option Addr
  c : Nat
  l : List Ev
def Ls.val (x : Ls) : Value := .slice x.A x.l.length x.c
def Ls.none : Ls := ⟨Option.none, 0, []⟩
structure LsAt (w : World) (B : Nat) (x : Ls) : Prop where
  le : x.l.length ≤ x.c
  cap : x.c ≤ maxLen
  at_ : 0 < x.l.length → ∃ b o, x.A = some ⟨b, o, Option.none⟩ ∧ b < B ∧ ∀ i, i < x.l.length → EvAt w b (o + i * 6) (x.l.getD i ⟨0, 0, 0, 0, 0, 0⟩)
/-- A slice of such slices. -/
structure LL (w : World) (B : Nat) (O : Option Addr) (c : Nat) (L : List Ls) : Prop where
  le : L.length ≤ c
  cap : c ≤ maxLen
  at_ : 0 < L.length → ∃ b o, O = some ⟨b, o, Option.none⟩ ∧ b < B ∧ ∀ i, i < L.length → w.cell? ⟨b, o + i, Option.none⟩ = some (L.getD i Ls.none).val
  rows : ∀ x ∈ L, LsAt w B x

theorem LsAt.keep {w w' : World} {B : Nat} {x : Ls} (h : LsAt w B x) (hk : ∀ k, k < B → w'.heap[k]? = w.heap[k]?) : LsAt w' B x :=
  ⟨h.le, h.cap, fun h0 => by
    obtain ⟨b, o, h1, h2, h3⟩ := h.at_ h0
    exact ⟨b, o, h1, h2, fun i hi => (h3 i hi).keep (hk _ h2)⟩⟩
theorem LL.keep {w w' : World} {B c : Nat} {O : Option Addr} {L : List Ls} (h : LL w B O c L) (hk : ∀ k, k < B → w'.heap[k]? = w.heap[k]?) : LL w' B O c L :=
  ⟨h.le, h.cap, fun h0 => by
    obtain ⟨b, o, h1, h2, h3⟩ := h.at_ h0
    exact ⟨b, o, h1, h2, fun i hi => (World.cell?_of_block (hk _ h2)).trans (h3 i hi)⟩, fun x hx => (h.rows x hx).keep hk⟩
theorem LsAt.more {w : World} {B B' : Nat} {x : Ls} (h : LsAt w B x) (hB : B ≤ B') : LsAt w B' x :=
  ⟨h.le, h.cap, fun h0 => by
    obtain ⟨b, o, h1, h2, h3⟩ := h.at_ h0
    exact ⟨b, o, h1, by omega, h3⟩⟩
theorem LL.more {w : World} {B B' c : Nat} {O : Option Addr} {L : List Ls} (h : LL w B O c L) (hB : B ≤ B') : LL w B' O c L :=
  ⟨h.le, h.cap, fun h0 => by
    obtain ⟨b, o, h1, h2, h3⟩ := h.at_ h0
    exact ⟨b, o, h1, by omega, h3⟩, fun x hx => (h.rows x hx).more hB⟩
theorem HdAt.more {w : World} {B B' : Nat} {x : Hd} (h : HdAt w B x) (hB : B ≤ B') : HdAt w B' x := ⟨Nat.lt_of_lt_of_le h.lt hB, h.pos, h.le, h.cap, h.at_⟩
/-- A list that is not empty is a head. -/
theorem LsAt.head {w : World} {B : Nat} {x : Ls} (h : LsAt w B x) (h0 : 0 < x.l.length) : ∃ y : Hd, HdAt w B y ∧ y.val = x.val ∧ y.l = x.l := by
  obtain ⟨b, o, h1, h2, h3⟩ := h.at_ h0
  exact ⟨⟨b, o, x.c, x.l⟩, ⟨h2, h0, h.le, h.cap, h3⟩, by unfold Hd.val Ls.val; rw [h1], rfl⟩

def HeadsRel (w : World) (B p R : Nat) (L : List Ls) (k : Nat) (wr : World) : Prop :=
  ∃ (A : Option Addr) (c : Nat) (H : List Hd), HM wr B p A c H ∧ Hp.Heap Hd.none hle H H.length ∧ ((H.map Hd.l).flatten).Perm (((L.take k).map Ls.l).flatten) ∧ (∀ x ∈ H, x.blk < R ∧ ∃ y ∈ L, x.l = y.l) ∧ H.length ≤ k ∧ Below B w wr
def HeadsTo (w : World) (R : Nat) (L : List Ls) (e : Ending) (wr : World) : Prop :=
  ∃ p, e = .returned (.pointer (some ⟨p, 0, Option.none⟩)) ∧ HeadsRel w w.heap.size p R L L.length wr

theorem HM.empty {w : World} {B p g : Nat} (h1 : w.heap[p]? = some (.cells #[.slice (some ⟨g, 0, Option.none⟩) 0 0] 81 (0, 0))) (h2 : w.heap[g]? = some (.cells #[] 25 (0, 0))) (hp : B ≤ p) (hg : B ≤ g) (hne : g ≠ p) :
    HM w B p (some ⟨g, 0, Option.none⟩) 0 [] :=
  ⟨h1, ⟨rfl, .inr ⟨g, 0, #[], rfl, hg, h2, Nat.le_refl _, Nat.zero_le _, rfl, rfl⟩⟩, fun e => hne (Option.some.inj e), hp, fun _ h => by cases h⟩

set_option maxRecDepth 100000 in
set_option maxHeartbeats 1000000 in
theorem headsOf_any (w : World) (c : Nat) (O : Option Addr) (L : List Ls) (R : Nat) (hR : LL w R O c L) (hRw : R ≤ w.heap.size) (hn : L.length ≤ 1099511627776) :
    Calls Try.prog 38 #[.slice O L.length c] w (HeadsTo w R L) := by
  have h := hR.more hRw
  go_enter Try.func38, Try.ntmps38
  go_wp2_with fail
  have hL := h.keep (w' := (w.alloc (.cells #[] 25)).alloc (.cells #[.slice (some ⟨w.heap.size, 0, Option.none⟩) 0 0] 81)) fun k hk => (((Below.refl w.heap.size w).alloc (Nat.le_refl _) _).alloc (by simp) _).block k hk
  have hB0 : Below w.heap.size w ((w.alloc (.cells #[] 25)).alloc (.cells #[.slice (some ⟨w.heap.size, 0, Option.none⟩) 0 0] 81)) := ((Below.refl w.heap.size w).alloc (Nat.le_refl _) _).alloc (by simp) _
  have hE : HM ((w.alloc (.cells #[] 25)).alloc (.cells #[.slice (some ⟨w.heap.size, 0, Option.none⟩) 0 0] 81)) w.heap.size (w.heap.size + 1) (some ⟨w.heap.size, 0, Option.none⟩) 0 [] := by
    refine HM.empty ?_ ?_ (by omega) (Nat.le_refl _) (by omega)
    · have := heap_alloc_new (w.alloc (.cells #[] 25)) (.cells #[.slice (some ⟨w.heap.size, 0, Option.none⟩) 0 0] 81)
      simpa using this
    · have h1 := heap_alloc_new w (.cells #[] 25)
      have h2 := ((Below.refl _ (w.alloc (.cells #[] 25))).alloc (B := (w.alloc (.cells #[] 25)).heap.size) (Nat.le_refl _) (.cells #[.slice (some ⟨w.heap.size, 0, Option.none⟩) 0 0] 81)).block w.heap.size (by simp)
      exact h2.trans h1
  have HE := Lib.hid hE
  have HB := Lib.hid hB0
  have HL := Lib.hid h
  have HLR := Lib.hid hR
  clear hL hE hB0 h hR
  go_loopw [10] (fun i wr => ∃ k : Nat, k ≤ L.length ∧ i = .int .i64 k ∧ HeadsRel w w.heap.size (w.heap.size + 1) R L k wr) (fun i _ => L.length - (intOf i).toNat)
  case atStart => exact ⟨0, Nat.zero_le _, rfl, _, _, [], HE.out, fun i _ hi => absurd hi (by simp), .refl _, (fun _ h => by cases h), Nat.le_refl _, HB.out⟩
  case round =>
    obtain ⟨k, hk, rfl, A, c', H, hm, hh, hp, hx, hlen, hb⟩ := hrel
    by_cases hlt : k < L.length
    · obtain ⟨b, o, rfl, hb1, hc1⟩ := HL.out.at_ (by omega)
      have hcell : wr.cell? ⟨b, o + k, Option.none⟩ = some (L.getD k Ls.none).val := (World.cell?_of_block (hb.block b hb1)).trans (hc1 k hlt)
      have hmem : L.getD k Ls.none ∈ L := by rw [List.getD_eq_getElem?_getD, List.getElem?_eq_getElem hlt]; exact List.getElem_mem hlt
      have htake : L.take (k + 1) = L.take k ++ [L.getD k Ls.none] := by
        rw [List.take_succ_eq_append_getElem hlt, List.getD_eq_getElem?_getD, List.getElem?_eq_getElem hlt]; rfl
      have hrow := (HLR.out.rows _ hmem).keep (w' := wr) (fun k hk => hb.block k (by omega))
      generalize L.getD k Ls.none = x at *
      have HT := Lib.hid htake
      have HM1 := Lib.hid hmem
      have HP := Lib.hid hp
      have HX := Lib.hid hx
      have HH := Lib.hid hh
      unfold Ls.val at hcell
      clear htake hmem hc1 hp hx hh
      have hkk : k ≤ 1099511627776 := by omega
      by_cases h0 : x.l.length = 0
      · have hl0 : x.l = [] := List.eq_nil_of_length_eq_zero h0
        have H0 := Lib.hid hl0
        rw [h0] at hcell
        clear h0 hl0
        go_wp2_with fail
        go_roundw
        case rel => exact ⟨k + 1, by omega, by go_num, A, c', H, hm, HH.out, by rw [HT.out, List.map_append, List.flatten_append]; simpa [H0.out] using HP.out, HX.out, by omega, hb⟩
        case measure => simp [intOf]; omega
      · obtain ⟨y, hy1, hy2, hy3⟩ := hrow.head (by omega)
        have hpos : 0 < x.l.length := by omega
        have hle := hrow.le
        have hcap := hrow.cap
        unfold maxLen at hcap
        have HPU := Lib.hid (hpush_any wr w.heap.size (w.heap.size + 1) c' A H y hm (hy1.more hRw) (by omega) HH.out)
        rw [hy2] at HPU
        unfold hpV Ls.val at HPU
        have H3 := Lib.hid hy3
        have HBL := Lib.hid hy1.lt
        clear h0 hy2 hy3
        go_wp2_with fail
        refine HPU.out.mono ?_
        rintro e w1 ⟨rfl, A1, c1, H1, hm1, hp1, hh1, hb1'⟩
        have HP1 := Lib.hid hp1
        have HH1 := Lib.hid hh1
        clear hp1 hh1
        go_wp2_with fail
        go_roundw
        case rel =>
          refine ⟨k + 1, by omega, by go_num, A1, c1, H1, hm1, HH1.out, ?_, ?_, ?_, hb.trans hb1'⟩
          · rw [HT.out, List.map_append, List.flatten_append]
            refine ((HP1.out.map Hd.l).flatten).trans ?_
            rw [List.map_append, List.flatten_append]
            refine (HP.out.append_right _).trans ?_
            simp [H3.out]
          · intro z hz
            have := HP1.out.mem_iff.1 hz
            rcases List.mem_append.1 this with h1 | h1
            · exact HX.out z h1
            · obtain rfl := List.mem_singleton.1 h1
              exact ⟨HBL.out, x, HM1.out, H3.out⟩
          · rw [HP1.out.length_eq]; simp; omega
        case measure => simp [intOf]; omega
    · obtain rfl : k = L.length := by omega
      have HP := Lib.hid hp
      have HX := Lib.hid hx
      have HH := Lib.hid hh
      clear hp hx hh
      go_wp2_with fail
      go_ret
      exact ⟨_, rfl, A, c', H, hm, HH.out, HP.out, HX.out, hlen, hb⟩
end Go.Proofs.Ythnbpdcjooifbaa
namespace Go.Proofs.Ythnbpdcjooifbaa
open Go.RowKit
set_option linter.unusedSimpArgs false
set_option linter.unusedVariables false

theorem results_cell1 {fn : Func} {p : Tmp} {ty : TypeId} (h : fn.results = #[.cell p ty]) (tmps : Array Value) (P : Program) (w : World) :
    (results fn tmps).run P w = ((asAddr (tmps.getD p undef)).run P w).andThen fun a w₁ => (loadVar ty a).run P w₁ := by
  simp only [results, h]
  simp [Sem.run_bind, Result.andThen]

theorem results_ev1 {fn : Func} {p : Tmp} (h : fn.results = #[.cell p 23]) (tmps : Array Value) (w : World) (b : Nat) (x : Ev) (hp : tmps.getD p undef = .pointer (some ⟨b, 0, none⟩)) (hS : EW w b x) :
    (results fn tmps).run Try.prog w = .ok x.val w := by
  obtain ⟨c0, c1, c2, c3, c4, c5⟩ := hS.ev
  rw [results_cell1 h, hp]
  unfold Ev.val
  go_simp

/-- The row behind its first. -/
def Hd.rest (x : Hd) : Hd := ⟨x.blk, x.off + 6, x.cap - 1, x.l.tail⟩
theorem HdAt.rest {w : World} {B : Nat} {x : Hd} (h : HdAt w B x) (h2 : 2 ≤ x.l.length) : HdAt w B x.rest := by
  have := h.le
  have := h.cap
  refine ⟨h.lt, by simp [Hd.rest]; omega, by simp [Hd.rest]; omega, by simp [Hd.rest]; omega, fun i hi => ?_⟩
  have hi' : i + 1 < x.l.length := by simp [Hd.rest] at hi; omega
  have h3 := h.at_ (i + 1) hi'
  have e1 : x.off + (i + 1) * 6 = x.off + 6 + i * 6 := by omega
  have e2 : x.l.getD (i + 1) ⟨0, 0, 0, 0, 0, 0⟩ = x.l.tail.getD i ⟨0, 0, 0, 0, 0, 0⟩ := by simp [List.getD_eq_getElem?_getD, List.getElem?_tail]
  rw [e1, e2] at h3
  exact h3

def TakeTo (w : World) (B p c : Nat) (A : Option Addr) (H : List Hd) (e : Ending) (wr : World) : Prop :=
  ∃ H' : List Hd, e = .returned (H.getD 0 Hd.none).hd.val ∧ HM wr B p A c H' ∧ Hp.Heap Hd.none hle H' H'.length ∧ ((H.getD 0 Hd.none).hd :: (H'.map Hd.l).flatten).Perm (H.map Hd.l).flatten ∧
    (∀ y ∈ H', ∃ z ∈ H, y.blk = z.blk ∧ (y.l = z.l ∨ y.l = z.l.tail)) ∧ Save (fun k => k = p ∨ OB2 A k) w wr

/-- Behind a pop or a fix: what the end of take needs. -/
theorem take_frame {w w1 : World} {B p : Nat} {A : Option Addr} {x : Hd} (hpB : B ≤ p) (hA : ∀ a, A = some a → B ≤ a.block ∧ a.block < w.heap.size) (hp : p < w.heap.size) (hx : HdAt w B x)
    (hs : Save (fun k => k = p ∨ OB2 A k) (w.alloc (evO zeroE)) w1) : EW w1 w.heap.size zeroE ∧ EvAt w1 x.blk x.off x.hd ∧ w.heap.size < w1.heap.size ∧ Save (fun k => k = p ∨ OB2 A k) w w1 := by
  have hz := hs.size
  simp at hz
  have hlow : ∀ k, k < (w.alloc (evO zeroE)).heap.size → k ≠ p → (∀ a, A = some a → a.block ≠ k) → w1.heap[k]? = (w.alloc (evO zeroE)).heap[k]? := fun k hk hkp hka => hs.block k hk (by
    rintro (h | ⟨a, ha, rfl⟩)
    · exact hkp h
    · exact hka a ha rfl)
  refine ⟨?_, ?_, by omega, ⟨hs.os, hs.tape, hs.output, by omega, fun k hk hS => (hs.block k (by simp; omega) hS).trans (((Below.refl w.heap.size w).alloc (Nat.le_refl _) _).block k hk)⟩⟩
  · exact (EW.laid w zeroE).keep (hlow _ (by simp) (by omega) fun a ha => by have := hA a ha; omega)
  · have h1 : EvAt w x.blk x.off x.hd := by have := hx.at_ 0 hx.pos; rw [Nat.zero_mul] at this; exact this
    have hl := hx.lt
    refine h1.keep ((hlow x.blk (by simp; omega) (by omega) fun a ha => by have := hA a ha; omega).trans (((Below.refl w.heap.size w).alloc (Nat.le_refl _) _).block _ (by omega)))

theorem take_end {w w1 : World} {B p c : Nat} {A : Option Addr} {H' : List Hd} (x : Ev) (hm : HM w1 B p A c H') (he : EW w1 w.heap.size zeroE) (hB : B ≤ w.heap.size) (hp : p < w.heap.size) (hA : ∀ a, A = some a → a.block < w.heap.size) (hs : Save (fun k => k = p ∨ OB2 A k) w w1) :
    HM (putEv w1 w.heap.size x) B p A c H' ∧ Save (fun k => k = p ∨ OB2 A k) w (putEv w1 w.heap.size x) ∧ EW (putEv w1 w.heap.size x) w.heap.size x := by
  have hb := putEv_below w1 w.heap.size x (Nat.le_refl w.heap.size)
  refine ⟨?_, ?_, putEv_ew he x⟩
  · obtain ⟨h1, h2, h3, h4, h5⟩ := hm
    refine ⟨(hb.block p hp).trans h1, ?_, h3, h4, fun y hy => (h5 y hy).keep fun k hk => hb.block k (by omega)⟩
    refine ⟨h2.1, ?_⟩
    rcases h2.2 with h6 | ⟨g, cap, cur, e1, e2, e3, e4⟩
    · exact .inl h6
    · refine .inr ⟨g, cap, cur, e1, e2, (hb.block g ?_).trans e3, e4⟩
      injection e1 with k1
      exact hA _ k1
  · exact ⟨hb.os.trans hs.os, hb.tape.trans hs.tape, hb.output.trans hs.output, Nat.le_trans hs.size hb.size, fun k hk hS => (hb.block k hk).trans (hs.block k hk hS)⟩

set_option maxRecDepth 100000 in
set_option maxHeartbeats 1000000 in
theorem take1_any (w : World) (B p c : Nat) (A : Option Addr) (H : List Hd) (h : HM w B p A c H) (hn : H.length ≤ 4611686018427387902) (h0 : 0 < H.length) (hh : Hp.Heap Hd.none hle H H.length) (h1 : (H.getD 0 Hd.none).l.length = 1) :
    Calls Try.prog 40 #[.pointer (some ⟨p, 0, none⟩)] w (TakeTo w B p c A H) := by
  obtain ⟨g, rfl, hgB, hgp, hgs⟩ := h.row h0
  have hc0 := h.c0
  have hp := (Array.getElem?_eq_some_iff.1 h.cell).1
  have hpB := h.ge
  have hx := h.at_ h0
  have hxd := h.hd h0
  obtain ⟨n, hl⟩ : ∃ n, H.length = n + 1 := ⟨H.length - 1, by omega⟩
  have hpo := pop_any (w.alloc (evO zeroE)) B p c n _ H (h.kept ((Below.refl _ _).alloc (Nat.le_refl _) _)) hl (by omega) hh
  unfold PopTo at hpo
  obtain ⟨x, hx0⟩ : ∃ x, H.getD 0 Hd.none = x := ⟨_, rfl⟩
  rw [hx0] at hx hxd h1 hpo
  have HX := Lib.hid hx0
  have HPO := Lib.hid hpo
  have HD := Lib.hid hxd
  have H1 := Lib.hid h1
  unfold Hd.val at hx
  rw [h1] at hx
  rw [hl] at hc0
  unfold hpV evO zeroE at HPO
  clear hl hh h1 hxd hpo hx0
  go_enter Try.func40, Try.ntmps40
  go_wp2_with fail
  refine HPO.out.mono ?_
  rintro e w1 ⟨H', rfl, hm, hpm, hh', hs⟩
  obtain ⟨hew, hev, hsz, hs'⟩ := take_frame (x := x) hpB (fun a ha => by obtain rfl := Option.some.inj ha; exact ⟨hgB, hgs⟩) hp HD.out hs
  obtain ⟨q1, q2, q3⟩ := take_end (w := w) x.hd hm hew (by omega) hp (fun a ha => by obtain rfl := Option.some.inj ha; exact hgs) hs'
  obtain ⟨a0, a1, a2, a3, a4, a5⟩ := hev
  obtain ⟨d0, d1, d2, d3, d4, d5⟩ := hew.ev
  have g0 := hew.free 0
  have g1 := hew.free 1
  have g2 := hew.free 2
  have g3 := hew.free 3
  have g4 := hew.free 4
  have g5 := hew.free 5
  have hv : x.val = .slice (some ⟨x.blk, x.off, none⟩) x.l.length x.cap := rfl
  have HV := Lib.hid hv
  have HPM := Lib.hid hpm
  have HH' := Lib.hid hh'
  have Q1 := Lib.hid q1
  have Q2 := Lib.hid q2
  have Q3 := Lib.hid q3
  clear hs hs' hm hv hpm hh' q1 q2 q3 hew
  simp only [zeroE] at d0 d1 d2 d3 d4 d5
  go_wp2_with fail
  (try simp only [Exit.inBlock, Exit.then])
  refine bodyPost_ret (v := x.hd.val) (results_ev1 rfl _ _ _ x.hd rfl Q3.out) rfl ⟨H', by rw [HX.out], Q1.out, HH'.out, ?_, fun y hy => ⟨y, HPM.out.mem_iff.1 (List.mem_cons_of_mem _ hy), rfl, .inl rfl⟩, Q2.out⟩
  rw [HX.out]
  have h1 := ((HPM.out.map Hd.l).flatten)
  have h2 : x.l = [x.hd] := by
    have := H1.out
    unfold Hd.hd
    match x.l, this with
    | [e], _ => rfl
  rw [List.map_cons, List.flatten_cons, h2] at h1
  exact h1

/-- The first list's first event is taken, the list stays. -/
theorem rest_perm {H : List Hd} (h0 : 0 < H.length) (h2 : 2 ≤ (H.getD 0 Hd.none).l.length) : ((H.getD 0 Hd.none).hd :: ((H.set 0 (H.getD 0 Hd.none).rest).map Hd.l).flatten).Perm (H.map Hd.l).flatten := by
  cases H with
  | nil => simp at h0
  | cons x t =>
    simp only [List.getD_eq_getElem?_getD, List.getElem?_cons_zero, Option.getD_some] at h2 ⊢
    simp only [List.set_cons_zero, List.map_cons, List.flatten_cons]
    have : x.hd :: x.rest.l = x.l := by
      unfold Hd.hd Hd.rest
      match x.l, h2 with
      | a :: b :: t, _ => rfl
    rw [← List.cons_append, this]

set_option maxRecDepth 100000 in
set_option maxHeartbeats 1000000 in
theorem take2_any (w : World) (B p c : Nat) (A : Option Addr) (H : List Hd) (h : HM w B p A c H) (hn : H.length ≤ 4611686018427387902) (h0 : 0 < H.length) (hh : Hp.Heap Hd.none hle H H.length) (h2 : 2 ≤ (H.getD 0 Hd.none).l.length) :
    Calls Try.prog 40 #[.pointer (some ⟨p, 0, none⟩)] w (TakeTo w B p c A H) := by
  obtain ⟨g, rfl, hgB, hgp, hgs⟩ := h.row h0
  have hc0 := h.c0
  have hp := (Array.getElem?_eq_some_iff.1 h.cell).1
  have hpB := h.ge
  have hx := h.at_ h0
  have hf0 := h.own.frozenAt 0
  have hxd := h.hd h0
  have hrp := rest_perm h0 h2
  have hr := hxd.rest h2
  have hdn := Hp.fix_dni (l := (H.getD 0 Hd.none).rest) hh
  obtain ⟨k1, k2⟩ := h.store 0 _ hr
  have hsz0 : (w.setCell ⟨g, 0, none⟩ (H.getD 0 Hd.none).rest.val).heap.size = w.heap.size := by simp
  have k3 := k1.kept ((Below.refl _ _).alloc (Nat.le_refl _) (evO zeroE))
  have hfx := fun (W : World) (ht : Twin W ((w.setCell ⟨g, 0, none⟩ (H.getD 0 Hd.none).rest.val).alloc (evO zeroE))) => fix_any W B p c _ _ (k3.twin ht) (by rw [List.length_set]; omega) (by rw [List.length_set]; omega) hdn
  have hxk : HdAt (w.setCell ⟨g, 0, none⟩ (H.getD 0 Hd.none).rest.val) B (H.getD 0 Hd.none) := hxd.keep fun k hk => heap_setCell_other w _ k _ (by simp; omega)
  have hend := fun (w1 : World) (hs : Save (fun k => k = p ∨ OB2 (some ⟨g, 0, none⟩) k) ((w.setCell ⟨g, 0, none⟩ (H.getD 0 Hd.none).rest.val).alloc (evO zeroE)) w1) =>
    take_frame (w := w.setCell ⟨g, 0, none⟩ (H.getD 0 Hd.none).rest.val) (A := some ⟨g, 0, none⟩) hpB (fun a ha => by obtain rfl := Option.some.inj ha; exact ⟨hgB, by rw [hsz0]; exact hgs⟩) (by rw [hsz0]; exact hp) hxk hs
  rw [hsz0] at hend
  obtain ⟨x, hx0⟩ : ∃ x, H.getD 0 Hd.none = x := ⟨_, rfl⟩
  rw [hx0] at hx hxd h2 hrp k2
  simp only [hx0] at hfx hend
  have hcap := hxd.le
  have hcm := hxd.cap
  unfold maxLen at hcm
  have HX := Lib.hid hx0
  have HF := Lib.hid hfx
  have HD := Lib.hid hxd
  have HR := Lib.hid hrp
  have K2 := Lib.hid k2
  have HE := Lib.hid hend
  unfold Hd.val at hx
  unfold hpV at HF
  clear hh hxd hfx hx0 hr hdn hrp k1 k2 k3 hxk hend hsz0
  have hcb := h.bound
  unfold maxLen at hcb
  go_enter Try.func40, Try.ntmps40
  go_wp2_with fail
  go_region
  go_wp2_with fail
  have ht : Twin (((w.setCell ⟨g, 0, none⟩ (.slice (some ⟨x.blk, x.off + 6, none⟩) (x.l.length - 1) (x.cap - 1))).alloc (.cells #[.int .i64 0, .int .i64 0, .int .i64 0, .int .i64 0, .int .i64 0, .int .i64 0] 23)).drew) ((w.setCell ⟨g, 0, none⟩ x.rest.val).alloc (evO zeroE)) := by
    have e : x.rest.val = .slice (some ⟨x.blk, x.off + 6, none⟩) (x.l.length - 1) (x.cap - 1) := by simp [Hd.rest, Hd.val]
    rw [e]
    exact ⟨rfl, rfl, rfl, rfl⟩
  have HT := Lib.hid ht
  clear ht
  refine (HF.out _ HT.out).mono ?_
  rintro e w1 ⟨rfl, H', hm, hpm, hh', hs⟩
  have hs1 : Save (fun k => k = p ∨ OB2 (some ⟨g, 0, none⟩) k) ((w.setCell ⟨g, 0, none⟩ x.rest.val).alloc (evO zeroE)) w1 := by
    have ht := HT.out
    have h3 := hs.wide (S' := fun k => k = p ∨ OB2 (some ⟨g, 0, none⟩) k) fun k hk => .inr hk
    exact ⟨h3.os.trans ht.os, h3.tape.trans ht.tape, h3.output.trans ht.output, by have := h3.size; rw [ht.heap] at this; exact this, fun k hk hS => by rw [h3.block k (by rw [ht.heap]; exact hk) hS, ht.heap]⟩
  obtain ⟨hew, hev, hsz, hs'⟩ := HE.out w1 hs1
  have hs2 : Save (fun k => k = p ∨ OB2 (some ⟨g, 0, none⟩) k) w w1 := (K2.out.wide fun k hk => .inr hk).trans hs'
  obtain ⟨q1, q2, q3⟩ := take_end (w := w) x.hd hm hew (by omega) hp (fun a ha => by obtain rfl := Option.some.inj ha; exact hgs) hs2
  obtain ⟨a0, a1, a2, a3, a4, a5⟩ := hev
  obtain ⟨d0, d1, d2, d3, d4, d5⟩ := hew.ev
  have g0 := hew.free 0
  have g1 := hew.free 1
  have g2 := hew.free 2
  have g3 := hew.free 3
  have g4 := hew.free 4
  have g5 := hew.free 5
  have HPM := Lib.hid hpm
  have HH' := Lib.hid hh'
  have Q1 := Lib.hid q1
  have Q2 := Lib.hid q2
  have Q3 := Lib.hid q3
  clear hs hs' hs1 hs2 hm hpm hh' q1 q2 q3 hew
  simp only [zeroE] at d0 d1 d2 d3 d4 d5
  go_wp2_with fail
  (try simp only [Exit.inBlock, Exit.then])
  refine bodyPost_ret (v := x.hd.val) (results_ev1 rfl _ _ _ x.hd rfl Q3.out) rfl ⟨H', by rw [HX.out], Q1.out, HH'.out, ?_, fun y hy => ?_, Q2.out⟩
  · rw [HX.out]
    exact (((HPM.out.map Hd.l).flatten).cons _).trans HR.out
  · have h1 := HPM.out.mem_iff.1 hy
    rcases List.mem_or_eq_of_mem_set h1 with h3 | rfl
    · exact ⟨y, h3, rfl, .inl rfl⟩
    · refine ⟨x, ?_, rfl, .inr rfl⟩
      rw [← HX.out, List.getD_eq_getElem?_getD, List.getElem?_eq_getElem h0]
      exact List.getElem_mem h0
end Go.Proofs.Ythnbpdcjooifbaa
