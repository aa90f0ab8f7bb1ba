/-   -/
import Derived.Test.YtofenjloieagaaaJ2
namespace Go.Proofs.Ytofenjloieagaaa
open Go.RowKit
set_option linter.unusedSimpArgs false
set_option linter.unusedVariables false
set_option maxRecDepth 100000

/-- Block g is the reference's reader: r is left, e its error. -/
structure QR (w : World) (g : Nat) (A : Option Addr) (c : Nat) (r : List Int) (e : Int) : Prop where
  blk : w.heap[g]? = some (.cells #[.slice A r.length c, .int .i64 e] 61 (0, 0))
  rb : RB w g A c r
  len : r.length ≤ 1099511627776

section
variable {w w' : World} {g : Nat} {A : Option Addr} {c : Nat} {r : List Int} {e : Int}
theorem QR.lt (h : QR w g A c r e) : g < w.heap.size := (Array.getElem?_eq_some_iff.1 h.blk).1
theorem QR.c0 (h : QR w g A c r e) : w.cell? ⟨g, 0, none⟩ = some (.slice A r.length c) := cell_of_row w g 0 _ _ _ h.blk
theorem QR.c1 (h : QR w g A c r e) : w.cell? ⟨g, 1, none⟩ = some (.int .i64 e) := cell_of_row w g 1 _ _ _ h.blk
theorem QR.frozen (h : QR w g A c r e) (i : Nat) : w.frozen? ⟨g, i, none⟩ = false := frozen_of_row w g i _ _ h.blk
theorem QR.below {B : Nat} (h : QR w g A c r e) (hb : Below B w w') (hg : g < B) : QR w' g A c r e :=
  ⟨(hb.block _ hg).trans h.blk, h.rb.below (hb.mono (Nat.le_of_lt hg)), h.len⟩
theorem QR.fail (h : QR w g A c r e) (x : Int) : QR (w.setCell ⟨g, 1, none⟩ (.int .i64 x)) g A c r x :=
  ⟨by rw [heap_setCell_same w g 1 _ _ _ h.blk]; rfl, h.rb.below ((Below.refl g w).setCell (p := ⟨g, 1, none⟩) (Nat.le_refl g) _), h.len⟩
theorem QR.move (h : QR w g A c r e) (A' : Option Addr) (c' : Nat) (r' : List Int) (hr : RB w g A' c' r') (hl : r'.length ≤ r.length) : QR (w.setCell ⟨g, 0, none⟩ (.slice A' r'.length c')) g A' c' r' e :=
  ⟨by rw [heap_setCell_same w g 0 _ _ _ h.blk]; rfl, hr.below ((Below.refl g w).setCell (p := ⟨g, 0, none⟩) (Nat.le_refl g) _), Nat.le_trans hl h.len⟩
end

def QNew (w : World) (l : List Int) (e : Ending) (w' : World) : Prop :=
  ∃ g A c, e = .returned (.pointer (some ⟨g, 0, none⟩)) ∧ QR w' g A c l 0 ∧ Below w.heap.size w w' ∧ w.heap.size ≤ g

set_option maxHeartbeats 400000 in
theorem qnew_any (A : Option Addr) (c n : Nat) (l : List Int) (w : World) (B : Nat) (hn : n = l.length) (h : RB w B A c l) (hB : B ≤ w.heap.size) (hlen : l.length ≤ 1099511627776) :
    Calls Try.prog 38 #[.slice A n c] w (QNew w l) := by
  subst hn
  unfold QNew
  go_enter Try.func38, Try.ntmps38
  go_wp2_with (at_builtin; refine wpList_append_rb _ rfl _ _ rfl w.heap.size B _ _ _ [] rfl rfl (OB.made w #[] (Nat.zero_le _)) _ _ _ l rfl rfl (h.alloc hB _) (by simp; omega) (by simp) ?_; intro A' c' w1 hob hbel hne)
  go_ret
  have hz : w.heap.size ≤ w1.heap.size := by have := hbel.size; simp at this; omega
  refine ⟨w1.heap.size, A', c', rfl, ⟨heap_alloc_new _ _, ?_, hlen⟩, ?_, hz⟩
  · have := hob.rb
    rw [List.nil_append] at this
    exact this.alloc (Nat.le_refl _) _
  · exact ((((Below.refl _ _).alloc (Nat.le_refl _) _).trans hbel).alloc hz _)

/-- What Number gives: the number, what is left, the error. -/
def numQ (r : List Int) (e : Int) : Nat × List Int × Int :=
  if e = 0 then (if (numRd r).2.2 = 0 then ((numRd r).1, r.drop (numRd r).2.1, 0) else (0, r, (numRd r).2.2)) else (0, r, e)

def QRead (w : World) (g : Nat) (r : List Int) (x : Int) (v : Value) (e : Ending) (w' : World) : Prop :=
  e = .returned v ∧ (∃ A c, QR w' g A c r x) ∧ w.grownBy w' (some g)

set_option maxHeartbeats 800000 in
theorem qnum_err (g : Nat) (A : Option Addr) (c : Nat) (r : List Int) (e : Int) (w : World) (h : QR w g A c r e) (he : e ≠ 0) :
    Calls Try.prog 40 #[.pointer (some ⟨g, 0, none⟩)] w (QRead w g r e (.int .u64 0)) := by
  have c1 := h.c1
  have hb : (e != 0) = true := by simpa using he
  clear he
  go_enter Try.func40, Try.ntmps40
  go_wp2
  go_ret
  exact ⟨rfl, ⟨A, c, h⟩, World.grownBy.refl _ _⟩

set_option maxHeartbeats 800000 in
theorem qnum_end (g : Nat) (A : Option Addr) (c : Nat) (w : World) (h : QR w g A c [] 0) :
    Calls Try.prog 40 #[.pointer (some ⟨g, 0, none⟩)] w (QRead w g [] 5 (.int .u64 0)) := by
  have c0 := h.c0
  have c1 := h.c1
  have f1 := h.frozen 1
  simp only [List.length_nil] at c0
  go_enter Try.func40, Try.ntmps40
  go_wp2
  go_ret
  exact ⟨rfl, ⟨A, c, h.fail 5⟩, grown_setCell _ _ _ _⟩

theorem tail_rb {w : World} {B b off c : Nat} {l : List Int} (h : RB w B (some ⟨b, off, none⟩) c l) (p : Nat) (hp : p ≤ l.length) : RB w B (if c = p then some ⟨b, off, none⟩ else some ⟨b, off + p, none⟩) (c - p) (l.drop p) := by
  have hle := h.le
  by_cases hc : c = p
  · rw [if_pos hc]
    have h0 : l.drop p = [] := List.drop_of_length_le (by omega)
    rw [h0, hc, Nat.sub_self]
    exact RB.empty w B ⟨b, off, none⟩ 0 (Nat.zero_le _)
  · rw [if_neg hc]
    have := h.sub p (l.length - p) (by omega)
    rw [List.take_of_length_le (by rw [List.length_drop]; omega)] at this
    exact this

set_option maxHeartbeats 1600000 in
theorem qnum_small (g : Nat) (A : Option Addr) (c : Nat) (f : Int) (t : List Int) (w : World) (h : QR w g A c (f :: t) 0) (hf : f ≤ 247) :
    Calls Try.prog 40 #[.pointer (some ⟨g, 0, none⟩)] w (QRead w g t 0 (.int .u64 f.toNat)) := by
  obtain ⟨b, off, rfl, hbb, hc⟩ := h.rb.pos (by simp)
  have hx := hc 0 (by simp)
  have hb0 := h.rb.bytes f (by simp)
  have ht := tail_rb h.rb 1 (by simp)
  have hle := h.rb.le
  have hcap := h.rb.cap
  unfold maxLen at hcap
  simp only [List.length_cons] at hle
  have hlen := h.len
  simp only [List.length_cons] at hlen
  simp only [List.drop_succ_cons, List.drop_zero] at ht
  obtain ⟨fn, rfl⟩ : ∃ n : Nat, f = n := ⟨f.toNat, by omega⟩
  simp only [List.getD_cons_zero, Nat.add_zero] at hx
  have c0 := h.c0
  have c1 := h.c1
  have f0 := h.frozen 0
  simp only [List.length_cons] at c0
  have hm := h.move _ _ t ht (by simp)
  have HM := Lib.hid hm
  have hcn : (((t.length + 1 : Nat) : Int) == 0) = false := by rw [beq_eq_false_iff_ne]; omega
  clear hm ht hb0
  by_cases h1 : c = 1
  · rw [if_pos h1] at HM
    subst h1
    have ht0 : t.length = 0 := by omega
    obtain rfl := List.length_eq_zero_iff.1 ht0
    go_enter Try.func40, Try.ntmps40
    go_wp2
    go_ret
    exact ⟨by simp, ⟨_, _, HM.out⟩, grown_setCell _ _ _ _⟩
  · rw [if_neg h1] at HM
    go_enter Try.func40, Try.ntmps40
    go_wp2
    go_ret
    exact ⟨by simp, ⟨_, _, HM.out⟩, grown_setCell _ _ _ _⟩

set_option maxHeartbeats 1600000 in
theorem qnum_more (g : Nat) (A : Option Addr) (c : Nat) (f : Int) (t : List Int) (w : World) (h : QR w g A c (f :: t) 0) (k : Nat) (hf : f = (k : Int) + 247) (hk : 1 ≤ k) (hk8 : k ≤ 8) (ht : t.length < k) :
    Calls Try.prog 40 #[.pointer (some ⟨g, 0, none⟩)] w (QRead w g (f :: t) 5 (.int .u64 0)) := by
  obtain ⟨b, off, rfl, hbb, hc⟩ := h.rb.pos (by simp)
  have hx := hc 0 (by simp)
  have hle := h.rb.le
  have hcap := h.rb.cap
  unfold maxLen at hcap
  simp only [List.length_cons] at hle
  simp only [List.getD_cons_zero, Nat.add_zero] at hx
  rw [hf] at hx
  have c0 := h.c0
  have c1 := h.c1
  have f1 := h.frozen 1
  simp only [List.length_cons] at c0
  have HF := Lib.hid (h.fail 5)
  have hcn : (((t.length + 1 : Nat) : Int) == 0) = false := by rw [beq_eq_false_iff_ne]; omega
  have hfk : (k : Int) + 247 - 247 = (k : Int) := by omega
  clear hf hc
  go_enter Try.func40, Try.ntmps40
  go_wp2
  go_ret
  exact ⟨rfl, ⟨_, _, HF.out⟩, grown_setCell _ _ _ _⟩

theorem leV_drop (m : List Int) (j : Nat) (hj : j < m.length) : leV (m.drop j) = (m.getD j 0).toNat + 256 * leV (m.drop (j + 1)) := by
  rw [List.drop_eq_getElem_cons hj, leV, List.getD_eq_getElem?_getD, List.getElem?_eq_getElem hj]
  rfl

def QLong (la : Int) (x : Nat) (w : World) (g : Nat) (r rest : List Int) (e : Ending) (w' : World) : Prop :=
  ((la = 0 ∨ x ≤ 247) → QRead w g r 4 (.int .u64 0) e w') ∧ (¬ (la = 0 ∨ x ≤ 247) → QRead w g rest 0 (.int .u64 x) e w')

set_option maxHeartbeats 3200000 in
theorem qnum_long (g : Nat) (A : Option Addr) (c : Nat) (f : Int) (t : List Int) (w : World) (h : QR w g A c (f :: t) 0) (k : Nat) (hf : f = (k : Int) + 247) (hk : 1 ≤ k) (hk8 : k ≤ 8) (ht : k ≤ t.length) :
    Calls Try.prog 40 #[.pointer (some ⟨g, 0, none⟩)] w (QLong ((t.take k).getLastD 0) (leV (t.take k)) w g (f :: t) (t.drop k)) := by
  obtain ⟨b, off, rfl, hbb, hc⟩ := h.rb.pos (by simp)
  have hx := hc 0 (by simp)
  have hle := h.rb.le
  have hcap := h.rb.cap
  unfold maxLen at hcap
  simp only [List.length_cons] at hle
  simp only [List.getD_cons_zero, Nat.add_zero] at hx
  rw [hf] at hx
  have hlen := h.len
  simp only [List.length_cons] at hlen
  have c0 := h.c0
  have c1 := h.c1
  have f1 := h.frozen 1
  have f0 := h.frozen 0
  simp only [List.length_cons] at c0
  have HF := Lib.hid (h.fail 4)
  have hbt : AllB t := fun n hn => h.rb.bytes n (by simp [hn])
  have htail := tail_rb h.rb (k + 1) (by simp only [List.length_cons]; omega)
  rw [List.drop_succ_cons] at htail
  have HM := Lib.hid (h.move _ _ (t.drop k) htail (by simp only [List.length_cons, List.length_drop]; omega))
  have hcn : (((t.length + 1 : Nat) : Int) == 0) = false := by rw [beq_eq_false_iff_ne]; omega
  have hfk : (k : Int) + 247 - 247 = (k : Int) := by omega
  have HC : Hid (∀ i, i < t.length → w.cell? ⟨b, off + (i + 1), none⟩ = some (.int .u8 (t.getD i 0))) := Lib.hid (fun i hi => by
    have := hc (i + 1) (by simp only [List.length_cons]; omega)
    simpa using this)
  clear hf hc htail
  obtain ⟨m, hm⟩ : ∃ m, t.take k = m := ⟨_, rfl⟩
  have hml : m.length = k := by rw [← hm, List.length_take]; omega
  have hmb : AllB m := by rw [← hm]; exact hbt.take k
  have hmg : ∀ i, i < k → t.getD i 0 = m.getD i 0 := fun i hi => by
    rw [← hm]
    simp only [List.getD_eq_getElem?_getD]
    rw [List.getElem?_take, if_pos hi]
  have hlast : m.getLastD 0 = m.getD (k - 1) 0 := by
    rw [List.getLastD_eq_getLast?, List.getLast?_eq_getElem?, hml, List.getD_eq_getElem?_getD]
  rw [hm]
  have HG := Lib.hid hmg
  have HL := Lib.hid hlast
  have HML := Lib.hid hml
  obtain ⟨x, hxx⟩ : ∃ x, leV m = x := ⟨_, rfl⟩
  obtain ⟨la, hla⟩ : ∃ x, m.getLastD 0 = x := ⟨_, rfl⟩
  rw [hxx, hla]
  have HXX := Lib.hid hxx
  have HLA := Lib.hid hla
  clear hm hmg hlast hml hxx hla
  go_enter Try.func40, Try.ntmps40
  go_wp2_with fail
  go_loop [4, 5] (fun x i => ∃ j : Nat, j ≤ k ∧ i = .int .i64 j ∧ x = .int .u64 (leV (m.drop j))) (fun _ i => (intOf i).toNat)
  case atStart => exact ⟨k, Nat.le_refl _, rfl, by rw [List.drop_of_length_le (by rw [HML.out]; exact Nat.le_refl _)]; rfl⟩
  case round =>
    obtain ⟨j, hj, rfl, rfl⟩ := hrel
    by_cases h1 : 1 ≤ j
    · obtain ⟨i, rfl⟩ : ∃ i, j = i + 1 := ⟨j - 1, by omega⟩
      have hci := HC.out i (by omega)
      rw [HG.out i (by omega)] at hci
      have hgb := hmb.getD i
      have hlv := leV_lt _ (hmb.drop (i + 1))
      have hst := leV_drop m i (by rw [HML.out]; omega)
      rw [List.length_drop, HML.out] at hlv
      have hpw : 256 ^ (k - (i + 1)) ≤ 256 ^ 7 := Nat.pow_le_pow_right (by decide) (by omega)
      have hlv2 : leV (m.drop (i + 1)) < 72057594037927936 := by omega
      obtain ⟨y, hy⟩ : ∃ y : Nat, m.getD i 0 = y := ⟨(m.getD i 0).toNat, by omega⟩
      rw [hy] at hci hgb hst
      rw [Int.toNat_natCast] at hst
      obtain ⟨z, hz⟩ : ∃ z, leV (m.drop (i + 1)) = z := ⟨_, rfl⟩
      rw [hz] at hlv2 hst ⊢
      have HST := Lib.hid hst
      have hy2 : y < 256 := by omega
      clear hlv hpw hst hy hz hgb
      go_wp2_with fail
      go_round
      case rel => exact ⟨i, by omega, by go_num, by rw [HST.out]; go_num⟩
      case measure => simp [intOf]
    · obtain rfl : j = 0 := by omega
      have hcl := HC.out (k - 1) (by omega)
      rw [HG.out (k - 1) (by omega), ← HL.out, show k - 1 + 1 = k by omega, HLA.out] at hcl
      rw [List.drop_zero, HXX.out]
      have hgb : 0 ≤ la ∧ la < 256 := by rw [← HLA.out, HL.out]; exact hmb.getD _
      have hlv := leV_lt _ hmb
      rw [HML.out, HXX.out] at hlv
      have hpw : 256 ^ k ≤ 256 ^ 8 := Nat.pow_le_pow_right (by decide) (by omega)
      have hlv2 : x < 18446744073709551616 := by omega
      obtain ⟨hg0, hg1⟩ := hgb
      clear hlv hpw
      by_cases h0 : la = 0
      · subst h0
        go_wp2_with fail
        go_ret
        exact ⟨fun _ => ⟨rfl, ⟨_, _, HF.out⟩, grown_setCell _ _ _ _⟩, fun hh => absurd (Or.inl rfl) hh⟩
      · have h0b : (la == 0) = false := by simpa using h0
        by_cases h2 : x ≤ 247
        · have HN := Lib.hid h0
          have h2i : ((x : Nat) : Int) ≤ 247 := by omega
          clear h0
          go_wp2_with fail
          go_ret
          exact ⟨fun _ => ⟨rfl, ⟨_, _, HF.out⟩, grown_setCell _ _ _ _⟩, fun hh => absurd (Or.inr h2) hh⟩
        · have h2i : 247 < ((x : Nat) : Int) := by omega
          have HN : Hid (¬ (la = 0 ∨ x ≤ 247)) := Lib.hid (fun hh => hh.elim h0 h2)
          clear h0 h2
          by_cases hck : c = k + 1
          · rw [if_pos hck] at HM
            have H2 := HM.out
            clear HM
            subst hck
            have HM := Lib.hid H2
            clear H2
            go_wp2_with fail
            go_ret
            rw [show t.length + 1 - (1 + k) = (t.drop k).length by rw [List.length_drop]; omega, show k + 1 - (1 + k) = k + 1 - (k + 1) by omega]
            exact ⟨fun hh => absurd hh HN.out, fun _ => ⟨rfl, ⟨_, _, HM.out⟩, grown_setCell _ _ _ _⟩⟩
          · rw [if_neg hck] at HM
            go_wp2_with fail
            go_ret
            rw [show t.length + 1 - (1 + k) = (t.drop k).length by rw [List.length_drop]; omega, show c - (1 + k) = c - (k + 1) by omega, show off + (1 + k) = off + (k + 1) by omega]
            exact ⟨fun hh => absurd hh HN.out, fun _ => ⟨rfl, ⟨_, _, HM.out⟩, grown_setCell _ _ _ _⟩⟩

/-- NUMBER, whatever is left. -/
theorem qnum_any (g : Nat) (A : Option Addr) (c : Nat) (r : List Int) (e : Int) (w : World) (h : QR w g A c r e) :
    Calls Try.prog 40 #[.pointer (some ⟨g, 0, none⟩)] w (QRead w g (numQ r e).2.1 (numQ r e).2.2 (.int .u64 (numQ r e).1)) := by
  by_cases he : e = 0
  · subst he
    unfold numQ
    rw [if_pos rfl]
    cases r with
    | nil => exact qnum_end g A c w h
    | cons f t =>
      have hb := h.rb.bytes f (by simp)
      unfold numRd
      by_cases hf : f ≤ 247
      · simp only [if_pos hf, List.drop_succ_cons, List.drop_zero, if_true]
        exact qnum_small g A c f t w h hf
      · obtain ⟨k, hk⟩ : ∃ k : Nat, f = (k : Int) + 247 := ⟨(f - 247).toNat, by omega⟩
        have hkn : (f - 247).toNat = k := by omega
        simp only [if_neg hf, hkn]
        by_cases ht : t.length < k
        · simp only [if_pos ht]
          exact qnum_more g A c f t w h k hk (by omega) (by omega) ht
        · simp only [if_neg ht]
          refine (qnum_long g A c f t w h k hk (by omega) (by omega) (by omega)).mono ?_
          rintro e w' ⟨h1, h2⟩
          by_cases hbad : (t.take k).getLastD 0 = 0 ∨ leV (t.take k) ≤ 247
          · simp only [if_pos hbad]
            exact h1 hbad
          · simp only [if_neg hbad, if_true]
            rw [Nat.add_comm 1 k, List.drop_succ_cons]
            exact h2 hbad
  · unfold numQ
    rw [if_neg he]
    exact qnum_err g A c r e w h he

def endQ (r : List Int) (e : Int) : Int := if e = 0 ∧ 0 < r.length then 4 else e

set_option maxHeartbeats 800000 in
theorem qend_any (g : Nat) (A : Option Addr) (c : Nat) (r : List Int) (e : Int) (w : World) (h : QR w g A c r e) :
    Calls Try.prog 41 #[.pointer (some ⟨g, 0, none⟩)] w (QRead w g r (endQ r e) (.int .i64 (endQ r e))) := by
  have c0 := h.c0
  have c1 := h.c1
  have f1 := h.frozen 1
  by_cases he : e = 0
  · subst he
    by_cases hr : 0 < r.length
    · have hq : endQ r 0 = 4 := by unfold endQ; rw [if_pos ⟨rfl, hr⟩]
      rw [hq]
      clear hq
      go_enter Try.func41, Try.ntmps41
      go_wp2
      go_ret
      exact ⟨rfl, ⟨A, c, h.fail 4⟩, grown_setCell _ _ _ _⟩
    · have hq : endQ r 0 = 0 := by unfold endQ; rw [if_neg (by omega)]
      have hr0 : r.length = 0 := by omega
      rw [hr0] at c0
      rw [hq]
      clear hq hr hr0
      go_enter Try.func41, Try.ntmps41
      go_wp2
      go_ret
      exact ⟨rfl, ⟨A, c, h⟩, World.grownBy.refl _ _⟩
  · have hq : endQ r e = e := by unfold endQ; rw [if_neg (fun hh => he hh.1)]
    have hb : (e == 0) = false := by simpa using he
    rw [hq]
    clear hq he
    go_enter Try.func41, Try.ntmps41
    go_wp2
    go_ret
    exact ⟨rfl, ⟨A, c, h⟩, World.grownBy.refl _ _⟩
end Go.Proofs.Ytofenjloieagaaa
namespace Go.Proofs.Ytofenjloieagaaa
open Go.RowKit
set_option linter.unusedSimpArgs false
set_option linter.unusedVariables false
set_option maxRecDepth 100000

theorem numQ_err (r : List Int) (e : Int) (h : (numQ r e).2.2 ≠ 0) : (numQ r e).1 = 0 := by
  unfold numQ at *
  repeat' split at h
  all_goals first | exact absurd rfl h | simp_all
theorem numQ_le (r : List Int) (e : Int) : (numQ r e).2.1.length ≤ r.length := by
  unfold numQ
  repeat' split
  all_goals simp
/-- What Count gives. -/
def countQ (r : List Int) (e : Int) (most : Nat) : Nat × List Int × Int :=
  if (numQ r e).2.2 = 0 ∧ most < (numQ r e).1 then (0, (numQ r e).2.1, 3) else ((numQ r e).1, (numQ r e).2.1, (numQ r e).2.2)
/-- What Block gives. -/
def blockQ (r : List Int) (e : Int) : List Int × List Int × Int :=
  if (numQ r e).2.2 ≠ 0 then ([], (numQ r e).2.1, (numQ r e).2.2)
  else if 1048576 < (numQ r e).1 then ([], (numQ r e).2.1, 3)
  else if (numQ r e).2.1.length < (numQ r e).1 then ([], (numQ r e).2.1, 5)
  else ((numQ r e).2.1.take (numQ r e).1, (numQ r e).2.1.drop (numQ r e).1, 0)

set_option maxHeartbeats 1600000 in
theorem qcount_any (g : Nat) (A : Option Addr) (c : Nat) (r : List Int) (e : Int) (most : Nat) (w : World) (h : QR w g A c r e) (hm : (most : Int) < 9223372036854775808) :
    Calls Try.prog 39 #[.pointer (some ⟨g, 0, none⟩), .int .i64 most] w (QRead w g (countQ r e most).2.1 (countQ r e most).2.2 (.int .i64 ((countQ r e most).1 : Nat))) := by
  have hn := qnum_any g A c r e w h
  have herr := numQ_err r e
  unfold countQ
  generalize numQ r e = q at *
  obtain ⟨v, r2, x⟩ := q
  simp only at *
  obtain ⟨T, hT⟩ : ∃ T : Nat × List Int × Int, (if x = 0 ∧ most < v then (0, r2, 3) else (v, r2, x)) = T := ⟨_, rfl⟩
  rw [hT]
  have HT := Lib.hid hT
  have HN := Lib.hid hn
  have HE := Lib.hid herr
  clear hn h herr hT
  have hmx : max (0 : Int) (most : Int) = (most : Int) := by omega
  go_enter Try.func39, Try.ntmps39
  go_wp2_with fail
  refine HN.out.mono ?_
  rintro e' w1 ⟨rfl, ⟨A1, c1, hq⟩, hg⟩
  have k1 := hq.c1
  have f1 := hq.frozen 1
  have HG := Lib.hid hg
  have HQ := Lib.hid hq
  clear hq hg
  by_cases hx : x = 0
  · subst hx
    by_cases hv : most < v
    · have hT := HT.out
      rw [if_pos ⟨rfl, hv⟩] at hT
      subst hT
      have HF := Lib.hid (HQ.out.fail 3)
      have hvi : (most : Int) < (v : Int) := by omega
      go_wp2_with fail
      go_ret
      exact ⟨rfl, ⟨_, _, HF.out⟩, grown_trans HG.out (grown_setCell _ _ _ _)⟩
    · have hT := HT.out
      rw [if_neg (fun h => hv h.2)] at hT
      subst hT
      have hvi : (v : Int) ≤ (most : Int) := by omega
      go_wp2_with fail
      go_ret
      exact ⟨rfl, ⟨_, _, HQ.out⟩, HG.out⟩
  · have hxb : (x != 0) = true := by simpa using hx
    have hxe : (x == 0) = false := by simpa using hx
    have hT := HT.out
    rw [if_neg (fun h => hx h.1)] at hT
    subst hT
    have hv0 := HE.out hx
    subst hv0
    have HX := Lib.hid hx
    clear hx
    go_wp2_with fail
    go_ret
    exact ⟨rfl, ⟨_, _, HQ.out⟩, HG.out⟩

def QReadB (w : World) (g : Nat) (r : List Int) (x : Int) (m : List Int) (e : Ending) (w' : World) : Prop :=
  ∃ A' c', e = .returned (.slice A' m.length c') ∧ RB w' w'.heap.size A' c' m ∧ (∃ A c, QR w' g A c r x) ∧ w.grownBy w' (some g)

theorem qblock_end {w w1 w2 : World} {g c m' n' cc c' : Nat} {A A' A3 : Option Addr} {r2 M D : List Int} (HG : w.grownBy w1 (some g)) (hgl : g < w1.heap.size) (hob : OB w2 w1.heap.size A' c' M) (hq2 : QR w2 g A c r2 0) (hb : Below w1.heap.size w1 w2) (hr : RB w2 g A3 cc D) (hl : D.length ≤ r2.length) (hn : n' = D.length) (hm : m' = M.length) :
    QReadB w g D 0 M (.returned (.slice A' m' c')) (w2.setCell ⟨g, 0, none⟩ (.slice A3 n' cc)) := by
  subst hn hm
  refine ⟨A', c', rfl, (hob.grown (grown_setCell _ g 0 _) (fun k e => by obtain rfl := Option.some.inj e; exact hgl)).rb, ⟨_, _, hq2.move A3 cc _ hr hl⟩, ?_⟩
  exact grown_trans (grown_trans HG (grown_below hb _)) (grown_setCell _ _ _ _)

end Go.Proofs.Ytofenjloieagaaa
