
/- container/heap over the heads: Fix, Pop. -/
import Derived.Test.YtileglkimbkkgaaK5
namespace Go.Proofs.Ytileglkimbkkgaa
open Go.RowKit
set_option linter.unusedSimpArgs false
set_option linter.unusedVariables false

theorem len_heads (A : Option Addr) (n c : Nat) (w : World) : Calls Try.prog 39 #[.slice A n c] w fun e w' => e = .returned (.int .i64 n) ∧ w = w' := by
  go_enter Try.func39, Try.ntmps39
  go_wp2
  go_ret
  exact ⟨rfl, rfl⟩

theorem heap_upi {H : List Hd} {n : Nat} (h : Hp.Heap Hd.none hle H n) : Hp.UpI Hd.none hle H n 0 := ⟨fun i i0 hi _ => h i i0 hi, fun i _ _ _ h0 => absurd h0 (by omega)⟩

set_option maxRecDepth 100000 in
theorem fix_any (w : World) (B p c : Nat) (A : Option Addr) (H : List Hd) (h : HM w B p A c H) (hn : H.length ≤ 4611686018427387903) (h0 : 0 < H.length) (hu : Hp.DnI Hd.none hle H H.length 0) :
    Calls Try.prog 68 #[hpV p, .int .i64 0] w fun e w' => e = .returned (.tuple #[]) ∧ HeapTo w B p c A H w' := by
  have hnat : H.length ≤ 9223372036854775807 := by omega
  have c1 := meth_len h.c0
  have HN := Lib.hid hn
  clear hn
  unfold hpV
  go_enter Try.func68, Try.ntmps68
  go_wp2_with fail
  refine (len_heads _ _ _ _).mono ?_
  rintro e w' ⟨rfl, rfl⟩
  clear c1
  go_wp2_with fail
  refine (down_any w B p c H.length _ rfl A H h HN.out (Nat.le_refl _) hu).mono ?_
  rintro e w1 ⟨b, H', rfl, hm, hp, hh, _, hs⟩
  have hl := hp.length_eq
  have HP := Lib.hid hp
  have HU := Lib.hid (show Hp.Heap Hd.none hle H' H'.length by rw [hl]; exact hh)
  have HL := Lib.hid hl
  clear hp hh hl h hu
  cases b
  · go_wp2_with fail
    refine (up_any w1 B p c 0 0 rfl A H' hm (by rw [HL.out]; have := HN.out; omega) (by rw [HL.out]; exact h0) (heap_upi HU.out)).mono ?_
    rintro e w2 ⟨rfl, H2, hm2, hp2, hh2, hs2⟩
    have HP2 := Lib.hid hp2
    have HH2 := Lib.hid hh2
    clear hp2 hh2
    go_wp2_with fail
    go_end0
    exact ⟨rfl, H2, hm2, HP2.out.trans HP.out, HH2.out, hs.trans hs2⟩
  · go_wp2_with fail
    go_end0
    exact ⟨rfl, H', hm, HP.out, HU.out, hs⟩

theorem HM.free {w : World} {B p c : Nat} {A : Option Addr} {H : List Hd} (h : HM w B p A c H) : w.frozen? ⟨p, 0, none⟩ = false := frozen_of_row w p 0 _ _ h.cell

/-- The heap's last list is left out. -/
theorem HM.drop {w : World} {B p c : Nat} {A : Option Addr} {H : List Hd} {x : Hd} (h : HM w B p A c (H ++ [x])) :
    HM (w.setCell ⟨p, 0, none⟩ (.slice A H.length c)) B p A c H ∧ Save (fun k => k = p) w (w.setCell ⟨p, 0, none⟩ (.slice A H.length c)) := by
  obtain ⟨h1, h2, h3, h4, h5⟩ := h
  have hlow : ∀ k, k ≠ p → (w.setCell ⟨p, 0, none⟩ (.slice A H.length c)).heap[k]? = w.heap[k]? := fun k hk => heap_setCell_other w _ k _ (by simp; omega)
  refine ⟨⟨?_, ?_, ?_, h4, fun y hy => (h5 y (List.mem_append_left _ hy)).keep fun k hk => hlow k (by omega)⟩, ⟨rfl, rfl, rfl, by simp, fun k _ hk => hlow k hk⟩⟩
  · rw [heap_setCell_same w p 0 _ _ _ h1]; rfl
  · refine ⟨by simp, ?_⟩
    rcases h2.2 with ⟨h6, h7⟩ | ⟨g, cap, cur, e1, e2, e3, e4, e5, e6, e7⟩
    · simp at h7
    · injection e1 with k1 k2 k3
      subst k1 k3
      have hg : g ≠ p := fun e => h3 (by rw [e]; rfl)
      refine .inr ⟨g, c, cur, rfl, e2, (hlow g hg).trans e3, ?_, e5, e6, ?_⟩
      · simp at e4; omega
      · have := congrArg (List.take H.length) e7
        simpa [List.take_take, List.map_append] using this
  · exact fun e => h3 (by cases A with
      | none => exact e
      | some a => exact e)

theorem method_pop (p : Nat) (w : World) : (method 228 54 (.pointer (some ⟨p, 0, none⟩)) "Pop").run Try.prog w = .ok (110, .pointer (some ⟨p, 0, none⟩)) w := by
  kernel_rfl
theorem method_push (p : Nat) (w : World) : (method 228 54 (.pointer (some ⟨p, 0, none⟩)) "Push").run Try.prog w = .ok (111, .pointer (some ⟨p, 0, none⟩)) w := by
  kernel_rfl

set_option maxRecDepth 100000 in
theorem pop_hm (w : World) (B p c : Nat) (A : Option Addr) (H : List Hd) (x : Hd) (h : HM w B p A c (H ++ [x])) (hn : H.length ≤ 4611686018427387903) :
    Calls Try.prog 110 #[.pointer (some ⟨p, 0, none⟩)] w fun e w' => e = .returned (.iface 25 x.val) ∧ HM w' B p A c H ∧ Save (fun k => k = p) w w' := by
  obtain ⟨g, rfl, _⟩ := h.row (by simp)
  have h1 := h.c0
  have h2 := h.free
  have h3 := h.at_ (i := H.length) (by simp)
  rw [List.getD_eq_getElem?_getD, List.getElem?_append_right (Nat.le_refl _), Nat.sub_self] at h3
  simp only [List.getElem?_cons_zero, Option.getD_some] at h3
  unfold Hd.val at h3 ⊢
  rw [List.length_append] at h1
  simp only [List.length_cons, List.length_nil, Nat.zero_add] at h1
  have hb := h.bound.1
  rw [List.length_append] at hb
  simp only [List.length_cons, List.length_nil, Nat.zero_add] at hb
  obtain ⟨k1, k2⟩ := h.drop
  have hcm := h.bound.2
  unfold maxLen at hcm
  go_enter Try.func110, Try.ntmps110
  go_wp2_with fail
  go_ret
  exact ⟨rfl, k1, k2⟩

theorem list_split {H : List Hd} {n : Nat} (hl : H.length = n + 1) : H = H.take n ++ [H.getD n Hd.none] := by
  have h1 := List.take_append_drop n H
  have h2 : H.drop n = [H.getD n Hd.none] := by
    rw [List.drop_eq_getElem_cons (by omega), List.drop_eq_nil_of_le (by omega), List.getD_eq_getElem?_getD, List.getElem?_eq_getElem (by omega)]
    rfl
  rw [h2] at h1
  exact h1.symm

def PopTo (w : World) (B p c : Nat) (A : Option Addr) (H : List Hd) (e : Ending) (wr : World) : Prop :=
  ∃ H' : List Hd, e = .returned (.iface 25 (H.getD 0 Hd.none).val) ∧ HM wr B p A c H' ∧ ((H.getD 0 Hd.none) :: H').Perm H ∧ Hp.Heap Hd.none hle H' H'.length ∧ Save (fun k => k = p ∨ OB2 A k) w wr

theorem Save.wide {S S' : Nat → Prop} {w w' : World} (h : Save S w w') (hS : ∀ k, S k → S' k) : Save S' w w' := ⟨h.os, h.tape, h.output, h.size, fun k hk hs => h.block k hk (fun h' => hs (hS k h'))⟩

set_option maxRecDepth 100000 in
theorem pop_any (w : World) (B p c n : Nat) (A : Option Addr) (H : List Hd) (h : HM w B p A c H) (hl : H.length = n + 1) (hn : n ≤ 4611686018427387902) (hh : Hp.Heap Hd.none hle H H.length) :
    Calls Try.prog 67 #[hpV p] w (PopTo w B p c A H) := by
  have c1 := meth_len h.c0
  have hu := Hp.pop_dni hl hh
  have HL := Lib.hid hl
  rw [hl] at c1
  have HU := Lib.hid hu
  clear hu hl hh
  unfold hpV
  go_enter Try.func67, Try.ntmps67
  go_wp2_with fail
  refine (len_heads _ _ _ _).mono ?_
  rintro e w' ⟨rfl, rfl⟩
  clear c1
  have c1 := meth_swap h.c0
  go_wp2_with fail
  refine (swap_hm w B p c A H h (by rw [HL.out]; omega) 0 n _ _ rfl (by omega) (by rw [HL.out]; omega) (by rw [HL.out]; omega)).mono ?_
  rintro e w1 ⟨rfl, hm1, hs1⟩
  clear c1
  go_wp2_with fail
  refine (down_any w1 B p c n _ (by omega) A _ hm1 (by rw [Hp.swp_length, HL.out]; omega) (by rw [Hp.swp_length, HL.out]; omega) HU.out).mono ?_
  rintro e w2 ⟨b, H', rfl, hm2, hp2, hh2, hr2, hs2⟩
  have hl2 : H'.length = n + 1 := by rw [hp2.length_eq, Hp.swp_length]; exact HL.out
  have hlast : H'.getD n Hd.none = H.getD 0 Hd.none := by
    rw [hr2 n (Nat.le_refl _), Hp.swp_getD _ _ _ _ _ (by rw [HL.out]; omega) (by rw [HL.out]; omega), if_pos rfl]
  have hsp := list_split hl2
  rw [hlast] at hsp
  have hperm : ((H.getD 0 Hd.none) :: H'.take n).Perm H := by
    have h1 : (H'.take n ++ [H.getD 0 Hd.none]).Perm H := by
      rw [← hsp]; exact hp2.trans (Hp.swp_perm _ _ _ _ (by rw [HL.out]; omega) (by rw [HL.out]; omega))
    exact (List.perm_append_comm (l₁ := [H.getD 0 Hd.none])).trans h1
  have hheap : Hp.Heap Hd.none hle (H'.take n) (H'.take n).length := by
    intro i i0 hi
    have hi' : i < n := by rw [List.length_take] at hi; omega
    have hp := Hp.par_lt i0
    have e : ∀ k, k < n → (H'.take n).getD k Hd.none = H'.getD k Hd.none := fun k hk => by simp [List.getD_eq_getElem?_getD, List.getElem?_take, hk]
    rw [e _ hi', e _ (by omega)]
    exact hh2 i i0 hi'
  rw [hsp] at hm2
  have HP := Lib.hid hperm
  have HH := Lib.hid hheap
  have hnl : (H'.take n).length ≤ 4611686018427387903 := by rw [List.length_take]; omega
  clear hp2 hh2 hr2 hl2 hlast hsp hperm hheap h
  have c3 := method_pop p w2
  go_wp2_with fail
  refine (pop_hm w2 B p c A _ _ hm2 hnl).mono ?_
  rintro e w3 ⟨rfl, hm3, hs3⟩
  clear c3
  go_wp2_with fail
  go_ret
  exact ⟨_, rfl, hm3, HP.out, HH.out, ((hs1.trans hs2).wide fun k hk => .inr hk).trans (hs3.wide fun k hk => .inl hk)⟩
end Go.Proofs.Ytileglkimbkkgaa
