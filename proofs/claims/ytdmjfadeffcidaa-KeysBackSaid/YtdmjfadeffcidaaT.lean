
/- A reader's calls in any state: Number, Signed, Block, Count, End; New. -/
import Derived.Test.YtdmjfadeffcidaaR
namespace Go.Proofs.Ytdmjfadeffcidaa
open Go.RowKit
set_option maxRecDepth 100000

/-- What Number does in a state: the number, the place, the error. -/
def numSt (l : List Int) (p : Nat) (e : Int) : Nat × Nat × Int :=
  if e = 0 then ((numRd (l.drop p)).1, p + (numRd (l.drop p)).2.1, (numRd (l.drop p)).2.2) else (0, p, e)

theorem numSt_lt (l : List Int) (p : Nat) (e : Int) (h : AllB l) : (numSt l p e).1 < 18446744073709551616 := by
  unfold numSt; split
  · exact numRd_le _ (h.drop p)
  · simp

theorem rnumber_any (g : Nat) (A : Option Addr) (c : Nat) (l : List Int) (p : Nat) (e : Int) (w : World) (h : Rdr w g A c l p e) :
    Calls Try.prog 62 #[.pointer (some ⟨g, 0, none⟩)] w (Read w g A c l (numSt l p e).2.1 (numSt l p e).2.2 (.int .u64 (numSt l p e).1)) := by
  unfold numSt
  by_cases he : e = 0
  · subst he
    simp only [if_true]
    cases hp : l.drop p with
    | nil => exact rnumber_end g A c l p w h hp
    | cons f t =>
      have hf := h.rb.bytes f (List.mem_of_mem_drop (i := p) (by rw [hp]; simp))
      by_cases h1 : f ≤ 247
      · have hx : numRd (f :: t) = (f.toNat, 1, 0) := by simp [numRd, h1]
        rw [hx]
        have := rnumber_small g A c l p f t w h hp h1
        rw [show ((f.toNat : Nat) : Int) = f from Int.toNat_of_nonneg hf.1]
        exact this
      · by_cases h2 : t.length < (f - 247).toNat
        · have hx : numRd (f :: t) = (0, 1, 5) := by simp [numRd, h1, h2]
          rw [hx]
          exact rnumber_more g A c l p f t w h hp (by omega) h2
        · have h3 := rnumber_taken g A c l p f t (f - 247).toNat w h hp (by omega) (by omega) (by omega)
          by_cases h4 : (t.take (f - 247).toNat).getLastD 0 = 0 ∨ leV (t.take (f - 247).toNat) ≤ 247
          · rw [if_pos h4] at h3
            have hx : numRd (f :: t) = (0, 1 + (f - 247).toNat, 4) := by
              simp only [numRd]
              rw [if_neg h1, if_neg h2, if_pos h4]
            rw [hx, ← Nat.add_assoc]
            exact h3
          · rw [if_neg h4] at h3
            have hx : numRd (f :: t) = (leV (t.take (f - 247).toNat), 1 + (f - 247).toNat, 0) := by
              simp only [numRd]
              rw [if_neg h1, if_neg h2, if_neg h4]
            rw [hx, ← Nat.add_assoc]
            exact h3
  · simp only [he, if_false]
    exact rnumber_err g A c l p e w h (by rw [bne_iff_ne]; exact he)

/-- What Count does in a state. -/
def countSt (l : List Int) (p : Nat) (e : Int) (most : Int) : Nat × Nat × Int :=
  if ((numSt l p e).1 : Int) > max most 0 then (0, (numSt l p e).2.1, 3) else numSt l p e

set_option maxHeartbeats 400000 in
theorem rcount_nil (most : Int) (w : World) (hm : most < 9223372036854775808) : Calls Try.prog 35 #[.pointer none, .int .i64 most] w fun e w' => e = .returned (.int .i64 0) ∧ w = w' := by
  have h0 : 0 ≤ max most 0 := by omega
  have h1 : max most 0 < 9223372036854775808 := by omega
  go_enter Try.func35, Try.ntmps35
  go_wp2_with (go_at_call 62; refine (rnumber_nil _).mono ?_; rintro e w' ⟨rfl, rfl⟩)
  go_ret
  exact ⟨rfl, rfl⟩

set_option maxHeartbeats 400000 in
theorem rcount_any (g : Nat) (A : Option Addr) (c : Nat) (l : List Int) (p : Nat) (e most : Int) (w : World) (h : Rdr w g A c l p e) (hm : most < 9223372036854775808) :
    Calls Try.prog 35 #[.pointer (some ⟨g, 0, none⟩), .int .i64 most] w (Read w g A c l (countSt l p e most).2.1 (countSt l p e most).2.2 (.int .i64 (countSt l p e most).1)) := by
  have h0 : 0 ≤ max most 0 := by omega
  have h1 : max most 0 < 9223372036854775808 := by omega
  have hlt := numSt_lt l p e h.rb.bytes
  have hn := rnumber_any g A c l p e w h
  unfold countSt
  generalize numSt l p e = r at *
  obtain ⟨v, q, x⟩ := r
  simp only at *
  have HN := Lib.hid hn
  clear hn
  by_cases hv : (v : Int) > max most 0
  · rw [if_pos hv]
    go_enter Try.func35, Try.ntmps35
    go_wp2_with (first
      | (go_at_call 62; refine HN.out.mono ?_; rintro e w' ⟨rfl, h', hg⟩)
      | (go_at_call 63; refine (fail_any g 3 x _ h'.c3 (h'.frozen 3)).mono ?_; rintro e w'' ⟨rfl, rfl⟩))
    go_ret
    exact ⟨rfl, h'.fail 3, grown_trans hg (grown_setCell _ _ _ _)⟩
  · rw [if_neg hv]
    have hv63 : v < 9223372036854775808 := by omega
    go_enter Try.func35, Try.ntmps35
    go_wp2_with (go_at_call 62; refine HN.out.mono ?_; rintro e w' ⟨rfl, h', hg⟩)
    go_ret
    exact ⟨rfl, h', hg⟩

/-- What Block does in a state: the bytes, the place, the error. -/
def blockSt (l : List Int) (p : Nat) (e : Int) : List Int × Nat × Int :=
  if 1048576 < (numSt l p e).1 then ([], (numSt l p e).2.1, 3)
  else if (numSt l p e).2.2 ≠ 0 then ([], (numSt l p e).2.1, (numSt l p e).2.2)
  else if l.length - (numSt l p e).2.1 < (numSt l p e).1 then ([], (numSt l p e).2.1, 5)
  else ((l.drop (numSt l p e).2.1).take (numSt l p e).1, (numSt l p e).2.1 + (numSt l p e).1, 0)

/-- The answer is a slice of the call's own; the reader has gone on. -/
def ReadB (w : World) (g : Nat) (A : Option Addr) (c : Nat) (l : List Int) (p : Nat) (x : Int) (m : List Int) (e : Ending) (w' : World) : Prop :=
  ∃ A' c', e = .returned (.slice A' m.length c') ∧ OB w' w.heap.size A' c' m ∧ Rdr w' g A c l p x ∧ w.grownBy w' (some g)

theorem grown_below {w w' : World} (h : Below w.heap.size w w') (row : Option Nat) : w.grownBy w' row := ⟨h.os, h.tape, h.output, h.size, fun k hk _ => h.block k hk⟩
theorem Rdr.below {w w' : World} {g : Nat} {A : Option Addr} {c : Nat} {l : List Int} {p : Nat} {e : Int} {B : Nat} (h : Rdr w g A c l p e) (hb : Below B w w') (hg : g < B) : Rdr w' g A c l p e :=
  ⟨by rw [hb.block g hg]; exact h.blk, h.rb.below (hb.mono (by omega)), h.plain, h.le, h.len⟩
theorem Rdr.kept {w w' : World} {g : Nat} {A : Option Addr} {c : Nat} {l : List Int} {p : Nat} {e : Int} {row : Option Nat} (h : Rdr w g A c l p e) (hb : w.grownBy w' row) (hg : ∀ k, row = some k → g < k) : Rdr w' g A c l p e := by
  have hlt := h.lt
  refine ⟨?_, h.rb.keep (fun q hq => World.cell?_of_block (hb.block q.block (by omega) (fun e => by have := hg _ e.symm; omega))), h.plain, h.le, h.len⟩
  rw [hb.block g hlt (fun e => by have := hg _ e.symm; omega)]; exact h.blk

/-- What End does in a state. -/
def endSt (l : List Int) (p : Nat) (e : Int) : Int := if e = 0 ∧ p < l.length then 4 else e

set_option maxHeartbeats 1000000 in
theorem rend_any (g : Nat) (A : Option Addr) (c : Nat) (l : List Int) (p : Nat) (e : Int) (w : World) (h : Rdr w g A c l p e) :
    Calls Try.prog 38 #[.pointer (some ⟨g, 0, none⟩)] w (Read w g A c l p (endSt l p e) (.int .i64 (endSt l p e))) := by
  have h0 := h.c0
  have h1 := h.c1
  have h2 := h.c2
  have h3 := h.c3
  have hf := h.frozen 3
  have hle := h.le
  have hlen := h.len
  unfold endSt
  by_cases he : e = 0
  · subst he
    by_cases hp : p < l.length
    · rw [if_pos ⟨rfl, hp⟩]
      have hd : (0 : Int) < (l.length : Int) - (p : Int) := by omega
      go_enter Try.func38, Try.ntmps38
      go_wp2_with fail
      refine (err_any g 0 _ h0 h3).mono ?_
      rintro e w' ⟨rfl, rfl⟩
      go_wp2_with fail
      refine (left_any g A c l.length p _ h1 h2 hle hlen).mono ?_
      rintro e w' ⟨rfl, k, rfl⟩
      go_wp2_with fail
      refine (fail_any g 4 0 _ (by simpa using h3) (by simpa using hf)).mono ?_
      rintro e w' ⟨rfl, rfl⟩
      have h4 := (h.drewN k).fail 4
      go_wp2_with fail
      refine (err_any g 4 _ h4.c0 h4.c3).mono ?_
      rintro e w' ⟨rfl, rfl⟩
      go_wp2_with fail
      go_ret
      exact ⟨rfl, h4, grown_trans (grown_drewN w k _) (grown_setCell _ _ _ _)⟩
    · rw [if_neg (fun hc => hp hc.2)]
      have hd : ¬ (0 : Int) < (l.length : Int) - (p : Int) := by omega
      go_enter Try.func38, Try.ntmps38
      go_wp2_with fail
      refine (err_any g 0 _ h0 h3).mono ?_
      rintro e w' ⟨rfl, rfl⟩
      go_wp2_with fail
      refine (left_any g A c l.length p _ h1 h2 hle hlen).mono ?_
      rintro e w' ⟨rfl, k, rfl⟩
      go_wp2_with fail
      refine (err_any g 0 _ (by simpa using h0) (by simpa using h3)).mono ?_
      rintro e w' ⟨rfl, rfl⟩
      go_wp2_with fail
      go_ret
      exact ⟨rfl, h.drewN k, grown_drewN w k _⟩
  · rw [if_neg (fun hc => he hc.1)]
    have hd : (e == 0) = false := by rw [beq_eq_false_iff_ne]; exact he
    go_enter Try.func38, Try.ntmps38
    go_wp2_with fail
    refine (err_any g e _ h0 h3).mono ?_
    rintro r w' ⟨rfl, rfl⟩
    go_wp2_with fail
    refine (err_any g e _ h0 h3).mono ?_
    rintro r w' ⟨rfl, rfl⟩
    go_wp2_with fail
    go_ret
    exact ⟨rfl, h, World.grownBy.refl _ _⟩

theorem OB.from_ {w : World} {B : Nat} {A : Option Addr} {c : Nat} {l : List Int} (h : OB w B A c l) : ∀ a, A = some a → B ≤ a.block := by
  intro a ha
  rcases h.own.2 with ⟨h1, _⟩ | ⟨g, cap, cur, h1, hb, _⟩
  · injection h1 with h3; rw [h3] at ha; cases ha
  · injection h1 with h3; rw [h3] at ha; obtain rfl := Option.some.inj ha; exact hb

/-- Another reader goes on. -/
theorem Rdr.other {w w' : World} {g g' : Nat} {A : Option Addr} {c : Nat} {l : List Int} {p : Nat} {e : Int} (h : Rdr w g A c l p e) (hb : w.grownBy w' (some g')) (hg : g ≠ g') (ha : ∀ a, A = some a → a.block ≠ g') : Rdr w' g A c l p e := by
  have hlt := h.lt
  refine ⟨by rw [hb.block g hlt (fun e => hg (Option.some.inj e))]; exact h.blk, ⟨h.rb.le, h.rb.cap, h.rb.bytes, ?_⟩, h.plain, h.le, h.len⟩
  rcases h.rb.at_ with h1 | ⟨a, rfl, hc⟩
  · exact .inl h1
  · refine .inr ⟨a, rfl, fun h0 => ?_⟩
    obtain ⟨hs, hb', hc⟩ := hc h0
    exact ⟨hs, hb', fun i hi => by rw [World.cell?_of_block (w := w) (a := ⟨a.block, a.off + i, none⟩) (hb.block a.block (by omega) (fun e => ha a rfl (Option.some.inj e)))]; exact hc i hi⟩

/-- A reader whose blocks lie from lo on, up to its own. -/
structure RdrZ (w : World) (lo g : Nat) (A : Option Addr) (c : Nat) (l : List Int) (p : Nat) (e : Int) : Prop where
  rdr : Rdr w g A c l p e
  lo_le : lo ≤ g
  from_ : ∀ a, A = some a → lo ≤ a.block

section
variable {w w' : World} {lo g g' : Nat} {A : Option Addr} {c : Nat} {l : List Int} {p : Nat} {e : Int}
theorem RdrZ.other (h : RdrZ w lo g A c l p e) (hb : w.grownBy w' (some g')) (hg : g' < lo ∨ g < g') : RdrZ w' lo g A c l p e := by
  have hl := h.lo_le
  rcases hg with hg | hg
  · exact ⟨h.rdr.other hb (by omega) (fun a ha => by have := h.from_ a ha; omega), h.lo_le, h.from_⟩
  · exact ⟨h.rdr.kept hb (fun k hk => by cases hk; exact hg), h.lo_le, h.from_⟩
theorem RdrZ.below (h : RdrZ w lo g A c l p e) {B : Nat} (hb : Below B w w') (hg : g < B) : RdrZ w' lo g A c l p e := ⟨h.rdr.below hb hg, h.lo_le, h.from_⟩
theorem RdrZ.belowH (h : RdrZ w lo g A c l p e) (hb : Below w.heap.size w w') : RdrZ w' lo g A c l p e := h.below hb h.rdr.lt
theorem RdrZ.same (h : RdrZ w lo g A c l p e) (hh : w'.heap = w.heap) : RdrZ w' lo g A c l p e := ⟨h.rdr.same hh, h.lo_le, h.from_⟩
theorem RdrZ.to {p' : Nat} {e' : Int} (h : RdrZ w lo g A c l p e) (hr : Rdr w' g A c l p' e') : RdrZ w' lo g A c l p' e' := ⟨hr, h.lo_le, h.from_⟩
end

/-- New: a reader at the beginning of a copy. -/
def Newly (w : World) (l : List Int) (e : Ending) (w' : World) : Prop :=
  ∃ g A c, e = .returned (.pointer (some ⟨g, 0, none⟩)) ∧ Rdr w' g A c l 0 0 ∧ Below w.heap.size w w' ∧ w.heap.size ≤ g ∧ ∀ a, A = some a → w.heap.size ≤ a.block

set_option maxHeartbeats 1000000 in
theorem new_any (A : Option Addr) (c n : Nat) (l : List Int) (w : World) (B : Nat) (hn : n = l.length) (h : RB w B A c l) (hB : B ≤ w.heap.size) (hlen : l.length ≤ 1099511627776) :
    Calls Try.prog 34 #[.slice A n c] w (Newly w l) := by
  subst hn
  go_enter Try.func34, Try.ntmps34
  go_wp2_with (go_at_call 61; refine (clone_any A c _ l _ B rfl h hB (by omega)).mono ?_; rintro e w1 ⟨A1, c1, rfl, ho, hb⟩)
  go_ret
  refine ⟨w1.heap.size, A1, c1, rfl, ⟨?_, ?_, ho.plain, Nat.zero_le _, hlen⟩, hb.alloc hb.size _, hb.size, ho.from_⟩
  · rw [heap_alloc_new]; rfl
  · exact ho.rb.alloc (Nat.le_refl _) _

set_option maxHeartbeats 400000 in
theorem rend_nil (w : World) : Calls Try.prog 38 #[.pointer none] w fun e w' => e = .returned (.int .i64 1) ∧ w = w' := by
  go_enter Try.func38, Try.ntmps38
  go_wp2_with (first
    | (go_at_call 37; refine (err_nil _).mono ?_; rintro e w' ⟨rfl, rfl⟩))
  go_ret
  exact ⟨rfl, rfl⟩
end Go.Proofs.Ytdmjfadeffcidaa
