/-   -/
import Derived.Test.YthnbpdcjooifbaaZK5
import Derived.Deep.RegionLaw
namespace Go.Proofs.Ythnbpdcjooifbaa
open Go.RowKit
set_option linter.unusedSimpArgs false
set_option linter.unusedVariables false

theorem len_heads (A : Option Addr) (n c : Nat) (w : World) : Calls Try.prog 39 #[.slice A n c] w fun e w' => e = .returned (.int .i64 n) ∧ w = w' := by
  go_enter Try.func39, Try.ntmps39
  go_wp2
  go_ret
  exact ⟨rfl, rfl⟩

theorem heap_upi {H : List Hd} {n : Nat} (h : Hp.Heap Hd.none hle H n) : Hp.UpI Hd.none hle H n 0 := ⟨fun i i0 hi _ => h i i0 hi, fun i _ _ _ h0 => absurd h0 (by omega)⟩

set_option maxRecDepth 100000 in
theorem fix_any (w : World) (B p c : Nat) (A : Option Addr) (H : List Hd) (h : HM w B p A c H) (hn : H.length ≤ 4611686018427387903) (h0 : 0 < H.length) (hu : Hp.DnI Hd.none hle H H.length 0) :
    Calls Try.prog 68 #[hpV p, .int .i64 0] w fun e w' => e = .returned (.tuple #[]) ∧ HeapTo w B p c A H w' := by
  have hnat : H.length ≤ 9223372036854775807 := by omega
  have c1 := meth_len h.c0
  have HN := Lib.hid hn
  clear hn
  unfold hpV
  go_enter Try.func68, Try.ntmps68
  go_wp2_with fail
  refine (len_heads _ _ _ _).mono ?_
  rintro e w' ⟨rfl, rfl⟩
  clear c1
  go_wp2_with fail
  refine (down_any w B p c H.length _ rfl A H h HN.out (Nat.le_refl _) hu).mono ?_
  rintro e w1 ⟨b, H', rfl, hm, hp, hh, _, hs⟩
  have hl := hp.length_eq
  have HP := Lib.hid hp
  have HU := Lib.hid (show Hp.Heap Hd.none hle H' H'.length by rw [hl]; exact hh)
  have HL := Lib.hid hl
  clear hp hh hl h hu
  cases b
  · go_wp2_with fail
    refine (up_any w1 B p c 0 0 rfl A H' hm (by rw [HL.out]; have := HN.out; omega) (by rw [HL.out]; exact h0) (heap_upi HU.out)).mono ?_
    rintro e w2 ⟨rfl, H2, hm2, hp2, hh2, hs2⟩
    have HP2 := Lib.hid hp2
    have HH2 := Lib.hid hh2
    clear hp2 hh2
    go_wp2_with fail
    go_end0
    exact ⟨rfl, H2, hm2, HP2.out.trans HP.out, HH2.out, hs.trans hs2⟩
  · go_wp2_with fail
    go_end0
    exact ⟨rfl, H', hm, HP.out, HU.out, hs⟩

theorem HM.free {w : World} {B p c : Nat} {A : Option Addr} {H : List Hd} (h : HM w B p A c H) : w.frozen? ⟨p, 0, none⟩ = false := frozen_of_row w p 0 _ _ h.cell

/-- The heap's last list is left out. -/
theorem HM.drop {w : World} {B p c : Nat} {A : Option Addr} {H : List Hd} {x : Hd} (h : HM w B p A c (H ++ [x])) :
    HM (w.setCell ⟨p, 0, none⟩ (.slice A H.length c)) B p A c H ∧ Save (fun k => k = p) w (w.setCell ⟨p, 0, none⟩ (.slice A H.length c)) := by
  obtain ⟨h1, h2, h3, h4, h5⟩ := h
  have hlow : ∀ k, k ≠ p → (w.setCell ⟨p, 0, none⟩ (.slice A H.length c)).heap[k]? = w.heap[k]? := fun k hk => heap_setCell_other w _ k _ (by simp; omega)
  refine ⟨⟨?_, ?_, ?_, h4, fun y hy => (h5 y (List.mem_append_left _ hy)).keep fun k hk => hlow k (by omega)⟩, ⟨rfl, rfl, rfl, by simp, fun k _ hk => hlow k hk⟩⟩
  · rw [heap_setCell_same w p 0 _ _ _ h1]; rfl
  · refine ⟨by simp, ?_⟩
    rcases h2.2 with ⟨h6, h7⟩ | ⟨g, cap, cur, e1, e2, e3, e4, e5, e6, e7⟩
    · simp at h7
    · injection e1 with k1 k2 k3
      subst k1 k3
      have hg : g ≠ p := fun e => h3 (by rw [e]; rfl)
      refine .inr ⟨g, c, cur, rfl, e2, (hlow g hg).trans e3, ?_, e5, e6, ?_⟩
      · simp at e4; omega
      · have := congrArg (List.take H.length) e7
        simpa [List.take_take, List.map_append] using this
  · exact fun e => h3 (by cases A with
      | none => exact e
      | some a => exact e)

theorem method_pop (p : Nat) (w : World) : (method 228 54 (.pointer (some ⟨p, 0, none⟩)) "Pop").run Try.prog w = .ok (110, .pointer (some ⟨p, 0, none⟩)) w := by
  kernel_rfl
theorem method_push (p : Nat) (w : World) : (method 228 54 (.pointer (some ⟨p, 0, none⟩)) "Push").run Try.prog w = .ok (111, .pointer (some ⟨p, 0, none⟩)) w := by
  kernel_rfl

set_option maxRecDepth 100000 in
theorem pop_hm (w : World) (B p c : Nat) (A : Option Addr) (H : List Hd) (x : Hd) (h : HM w B p A c (H ++ [x])) (hn : H.length ≤ 4611686018427387903) :
    Calls Try.prog 110 #[.pointer (some ⟨p, 0, none⟩)] w fun e w' => e = .returned (.iface 25 x.val) ∧ HM w' B p A c H ∧ Save (fun k => k = p) w w' := by
  obtain ⟨g, rfl, _⟩ := h.row (by simp)
  have h1 := h.c0
  have h2 := h.free
  have h3 := h.at_ (i := H.length) (by simp)
  rw [List.getD_eq_getElem?_getD, List.getElem?_append_right (Nat.le_refl _), Nat.sub_self] at h3
  simp only [List.getElem?_cons_zero, Option.getD_some] at h3
  unfold Hd.val at h3 ⊢
  rw [List.length_append] at h1
  simp only [List.length_cons, List.length_nil, Nat.zero_add] at h1
  have hb := h.bound.1
  rw [List.length_append] at hb
  simp only [List.length_cons, List.length_nil, Nat.zero_add] at hb
  obtain ⟨k1, k2⟩ := h.drop
  have hcm := h.bound.2
  unfold maxLen at hcm
  go_enter Try.func110, Try.ntmps110
  go_wp2_with fail
  go_ret
  exact ⟨rfl, k1, k2⟩

theorem list_split {H : List Hd} {n : Nat} (hl : H.length = n + 1) : H = H.take n ++ [H.getD n Hd.none] := by
  have h1 := List.take_append_drop n H
  have h2 : H.drop n = [H.getD n Hd.none] := by
    rw [List.drop_eq_getElem_cons (by omega), List.drop_eq_nil_of_le (by omega), List.getD_eq_getElem?_getD, List.getElem?_eq_getElem (by omega)]
    rfl
  rw [h2] at h1
  exact h1.symm

def PopTo (w : World) (B p c : Nat) (A : Option Addr) (H : List Hd) (e : Ending) (wr : World) : Prop :=
  ∃ H' : List Hd, e = .returned (.iface 25 (H.getD 0 Hd.none).val) ∧ HM wr B p A c H' ∧ ((H.getD 0 Hd.none) :: H').Perm H ∧ Hp.Heap Hd.none hle H' H'.length ∧ Save (fun k => k = p ∨ OB2 A k) w wr

theorem Save.wide {S S' : Nat → Prop} {w w' : World} (h : Save S w w') (hS : ∀ k, S k → S' k) : Save S' w w' := ⟨h.os, h.tape, h.output, h.size, fun k hk hs => h.block k hk (fun h' => hs (hS k h'))⟩

set_option maxRecDepth 100000 in
theorem pop_any (w : World) (B p c n : Nat) (A : Option Addr) (H : List Hd) (h : HM w B p A c H) (hl : H.length = n + 1) (hn : n ≤ 4611686018427387902) (hh : Hp.Heap Hd.none hle H H.length) :
    Calls Try.prog 67 #[hpV p] w (PopTo w B p c A H) := by
  have c1 := meth_len h.c0
  have hu := Hp.pop_dni hl hh
  have HL := Lib.hid hl
  rw [hl] at c1
  have HU := Lib.hid hu
  clear hu hl hh
  unfold hpV
  go_enter Try.func67, Try.ntmps67
  go_wp2_with fail
  refine (len_heads _ _ _ _).mono ?_
  rintro e w' ⟨rfl, rfl⟩
  clear c1
  have c1 := meth_swap h.c0
  go_wp2_with fail
  refine (swap_hm w B p c A H h (by rw [HL.out]; omega) 0 n _ _ rfl (by omega) (by rw [HL.out]; omega) (by rw [HL.out]; omega)).mono ?_
  rintro e w1 ⟨rfl, hm1, hs1⟩
  clear c1
  go_wp2_with fail
  refine (down_any w1 B p c n _ (by omega) A _ hm1 (by rw [Hp.swp_length, HL.out]; omega) (by rw [Hp.swp_length, HL.out]; omega) HU.out).mono ?_
  rintro e w2 ⟨b, H', rfl, hm2, hp2, hh2, hr2, hs2⟩
  have hl2 : H'.length = n + 1 := by rw [hp2.length_eq, Hp.swp_length]; exact HL.out
  have hlast : H'.getD n Hd.none = H.getD 0 Hd.none := by
    rw [hr2 n (Nat.le_refl _), Hp.swp_getD _ _ _ _ _ (by rw [HL.out]; omega) (by rw [HL.out]; omega), if_pos rfl]
  have hsp := list_split hl2
  rw [hlast] at hsp
  have hperm : ((H.getD 0 Hd.none) :: H'.take n).Perm H := by
    have h1 : (H'.take n ++ [H.getD 0 Hd.none]).Perm H := by
      rw [← hsp]; exact hp2.trans (Hp.swp_perm _ _ _ _ (by rw [HL.out]; omega) (by rw [HL.out]; omega))
    exact (List.perm_append_comm (l₁ := [H.getD 0 Hd.none])).trans h1
  have hheap : Hp.Heap Hd.none hle (H'.take n) (H'.take n).length := by
    intro i i0 hi
    have hi' : i < n := by rw [List.length_take] at hi; omega
    have hp := Hp.par_lt i0
    have e : ∀ k, k < n → (H'.take n).getD k Hd.none = H'.getD k Hd.none := fun k hk => by simp [List.getD_eq_getElem?_getD, List.getElem?_take, hk]
    rw [e _ hi', e _ (by omega)]
    exact hh2 i i0 hi'
  rw [hsp] at hm2
  have HP := Lib.hid hperm
  have HH := Lib.hid hheap
  have hnl : (H'.take n).length ≤ 4611686018427387903 := by rw [List.length_take]; omega
  clear hp2 hh2 hr2 hl2 hlast hsp hperm hheap h
  have c3 := method_pop p w2
  go_wp2_with fail
  refine (pop_hm w2 B p c A _ _ hm2 hnl).mono ?_
  rintro e w3 ⟨rfl, hm3, hs3⟩
  clear c3
  go_wp2_with fail
  go_ret
  exact ⟨_, rfl, hm3, HP.out, HH.out, ((hs1.trans hs2).wide fun k hk => .inr hk).trans (hs3.wide fun k hk => .inl hk)⟩
end Go.Proofs.Ythnbpdcjooifbaa
namespace Go.Proofs.Ythnbpdcjooifbaa
open Go.RowKit
set_option linter.unusedSimpArgs false
set_option linter.unusedVariables false

theorem step_append_own {P : Program} {ops : Array Oper} {o : Oper} {a : Act} {w : World} {K : Act → World → Prop} {Q : Exit → Act → World → Prop} {E : Prop}
    (hg : o.guard = none) (s x : Operand) (t : TypeId) (hop : o.op = Op.call { callee := Callee.builtin Builtin.append, args := #[s, x], argTypes := #[t, t] })
    (base : Nat) (e : TypeId) (i : TypeInfo) (z : Value) (size bytes : Nat) (h1 : P.underlying t = some (.slice e)) (h2 : P.info? e = some i) (h3 : i.zero = some z) (h4 : i.size = size) (h5 : i.bytes = bytes) (h6 : z.cells.size = size) (h7 : 0 < size)
    (v : Value) (n : Nat) (xs : List Value) (hs : a.eval s = v) (hown : w.ownsRow base e size v n xs)
    (ad : Addr) (m c : Nat) (news : List Value) (hx : a.eval x = .slice (some ad) m c) (hn : news.length = m * size) (hc : ∀ j u, news[j]? = some u → w.cell? (ad.add j) = some u) (h1c : ∀ u ∈ news, u.oneCell' = true)
    (b1 : n + m ≤ maxLen) (b2 : (n + m) * bytes ≤ 140737488355328) (hbase : base ≤ w.heap.size)
    (hK : ∀ v' w', w'.ownsRow base e size v' (n + m) (xs ++ news) → w.grownBy w' v.ownBlock → K (a.put o.dst v') w') :
    if Region.wanted o (yielded ops a.tmps) = true then Oper.wp P o a w K Q else E := by
  have hw : Region.wanted o (yielded ops a.tmps) = true := by simp [Region.wanted, hg]
  rw [if_pos hw]
  subst hs
  obtain ⟨v', w', hrun, r1, r2, _⟩ := run_append_own (P := P) w base t o.type e i z size bytes h1 h2 h3 h4 h5 h6 h7 _ n xs hown ad m c news hn hc h1c b1 b2 hbase
  unfold Oper.wp
  simp [execOp, hop, resolve, invoke, builtin, hx, hrun, Result.andThen]
  exact hK v' w' r1 r2

theorem info_list : (Try.prog.info? 25).map (fun i => (i.zero, i.size, i.bytes)) = some (some (.slice none 0 0), 1, 24) := by kernel_rfl

theorem new_one (w : World) (v : Value) (t : TypeId) : ∀ j u, [v][j]? = some u → ((w.alloc (.cells #[v] t)).drew).cell? ((⟨w.heap.size, 0, none⟩ : Addr).add j) = some u := by
  intro j u hu
  cases j with
  | zero =>
    have e : (⟨w.heap.size, 0, none⟩ : Addr).add 0 = ⟨w.heap.size, 0, none⟩ := rfl
    rw [e]
    obtain rfl : v = u := by simpa using hu
    show (w.alloc (.cells #[v] t)).cell? ⟨w.heap.size, 0, none⟩ = some v
    rw [World.cell?_alloc_at _ _ _ _ rfl]
    first | done | rfl
  | succ j => simp at hu

/-- What an append of one head leaves. -/
theorem HM.pushed {w w' : World} {B p c g c' : Nat} {A : Option Addr} {H : List Hd} {x : Hd} (h : HM w B p A c H) (hx : HdAt w B x)
    (ho : w'.ownsRow B 25 1 (.slice (some ⟨g, 0, none⟩) (H.length + 1) c') (H.length + 1) (H.map Hd.val ++ [x.val])) (hg : w.grownBy w' ((Value.slice A H.length c).ownBlock)) (hgp : g ≠ p) :
    HM (w'.setCell ⟨p, 0, none⟩ (.slice (some ⟨g, 0, none⟩) (H.length + 1) c')) B p (some ⟨g, 0, none⟩) c' (H ++ [x]) := by
  have hp : p < w.heap.size := (Array.getElem?_eq_some_iff.1 h.cell).1
  have hpc : w'.heap[p]? = some (.cells #[.slice A H.length c] 81 (0, 0)) := (hg.block p hp (fun e => h.ne e.symm)).trans h.cell
  have hlow : ∀ k, k ≠ p → (w'.setCell ⟨p, 0, none⟩ (.slice (some ⟨g, 0, none⟩) (H.length + 1) c')).heap[k]? = w'.heap[k]? := fun k hk => heap_setCell_other w' _ k _ (by simp; omega)
  have hown : ∀ k, k < B → ¬ (Value.slice A H.length c).ownBlock = some k := fun k hk e => by have := (h.own.lt k e).1; omega
  have hpB := h.ge
  have hold : ∀ k, k < B → (w'.setCell ⟨p, 0, none⟩ (.slice (some ⟨g, 0, none⟩) (H.length + 1) c')).heap[k]? = w.heap[k]? := fun k hk => (hlow k (by omega)).trans (hg.block k (by omega) (fun e => hown k hk e.symm))
  refine ⟨?_, ?_, ?_, h.ge, ?_⟩
  · rw [heap_setCell_same w' p 0 _ _ _ hpc, List.length_append]; rfl
  · rw [List.length_append, List.map_append]
    refine ⟨ho.1, ?_⟩
    rcases ho.2 with ⟨e1, _⟩ | ⟨g2, cap, cur, e1, e2, e3, e4⟩
    · cases e1
    · injection e1 with k1 k2 k3
      injection k1 with k1
      injection k1 with k1
      subst k1
      exact .inr ⟨g, cap, cur, by rw [k3], e2, (hlow g hgp).trans e3, e4⟩
  · intro e
    exact hgp (Option.some.inj e)
  · intro y hy
    rcases List.mem_append.1 hy with h1 | h1
    · exact (h.rows y h1).keep hold
    · obtain rfl := List.mem_singleton.1 h1
      exact hx.keep hold

theorem row_form {w : World} {B : Nat} {e : TypeId} {v : Value} {n : Nat} {xs : List Value} (h : w.ownsRow B e 1 v (n + 1) xs) : ∃ g c, v = .slice (some ⟨g, 0, none⟩) (n + 1) c ∧ B ≤ g ∧ g < w.heap.size := by
  have hlt := h.lt
  rcases h.2 with ⟨_, h2⟩ | ⟨g, cap, cur, h1, hb, _⟩
  · omega
  · subst h1; exact ⟨g, cap, rfl, hb, (hlt g rfl).2⟩

theorem pushed2 {W w' : World} {B p c : Nat} {A : Option Addr} {H : List Hd} {x : Hd} {v' : Value} (h : HM W B p A c H) (hx : HdAt W B x)
    (ho : w'.ownsRow B 25 1 v' (H.length + 1) (H.map Hd.val ++ [x.val])) (hg : W.grownBy w' ((Value.slice A H.length c).ownBlock)) :
    ∃ g c', v' = .slice (some ⟨g, 0, none⟩) (H.length + 1) c' ∧ w'.cell? ⟨p, 0, none⟩ = some (.slice A H.length c) ∧ w'.frozen? ⟨p, 0, none⟩ = false ∧
      HM (w'.setCell ⟨p, 0, none⟩ (.slice (some ⟨g, 0, none⟩) (H.length + 1) c')) B p (some ⟨g, 0, none⟩) c' (H ++ [x]) ∧ Below B W (w'.setCell ⟨p, 0, none⟩ (.slice (some ⟨g, 0, none⟩) (H.length + 1) c')) := by
  obtain ⟨g, c', rfl, hgB, hgs⟩ := row_form ho
  have hp : p < W.heap.size := (Array.getElem?_eq_some_iff.1 h.cell).1
  have hpc : w'.heap[p]? = some (.cells #[.slice A H.length c] 81 (0, 0)) := (hg.block p hp (fun e => h.ne e.symm)).trans h.cell
  have hgp : g ≠ p := by
    rintro rfl
    rcases ho.2 with ⟨e1, _⟩ | ⟨g2, cap, cur, e1, e2, e3, e4⟩
    · cases e1
    · injection e1 with k1 k2 k3
      injection k1 with k1
      injection k1 with k1
      subst k1
      rw [hpc] at e3
      injection e3 with e3
      injection e3 with _ e3
      exact absurd e3 (by decide)
  refine ⟨g, c', rfl, ?_, frozen_of_row w' p 0 _ _ hpc, h.pushed hx ho hg hgp, ?_⟩
  · rw [cell_of_row w' p 0 _ _ _ hpc]; rfl
  · have hb : Below B W w' := (Below.refl _ _).grown hg (by have := h.ge; omega) (fun k hk => (h.own.lt k hk).1)
    exact hb.setCell (by have := h.ge; simpa using this) _

def PushTo (w : World) (B p : Nat) (H : List Hd) (e : Ending) (w' : World) : Prop :=
  e = .returned (.tuple #[]) ∧ ∃ g c', HM w' B p (some ⟨g, 0, none⟩) c' H ∧ Below B w w'

set_option maxRecDepth 100000 in
set_option maxHeartbeats 1000000 in
theorem push_hm (w : World) (B p c : Nat) (A : Option Addr) (H : List Hd) (x : Hd) (h : HM w B p A c H) (hx : HdAt w B x) (hn : H.length ≤ 1099511627776) :
    Calls Try.prog 111 #[.pointer (some ⟨p, 0, none⟩), .iface 25 x.val] w (PushTo w B p (H ++ [x])) := by
  have h1 := h.c0
  have h2 := h.free
  have hp : p < w.heap.size := (Array.getElem?_eq_some_iff.1 h.cell).1
  have hBw : B ≤ (w.alloc (.cells #[x.val] 25)).drew.heap.size := by have := h.ge; simp; omega
  have hta : ∀ (w : World) (a : Option Addr) (n c : Nat), (Instr.typeAssert (.iface 25 (.slice a n c)) 20 25 false).run Try.prog w = .ok (.slice a n c) w := fun _ _ _ _ => by kernel_rfl
  obtain ⟨i0, hi, hz0, hz1, hz2⟩ := info_parts info_list
  have hw2 : HM (w.alloc (.cells #[x.val] 25)).drew B p A c H := (h.kept ((Below.refl _ _).alloc (Nat.le_refl _) _)).twin ⟨rfl, rfl, rfl, rfl⟩
  have HW := Lib.hid hw2
  clear hw2
  have hx2 : HdAt (w.alloc (.cells #[x.val] 25)).drew B x := hx.keep fun k hk => ((Below.refl w.heap.size w).alloc (Nat.le_refl _) _).block k (by have := h.ge; omega)
  have hb2 : Below B w (w.alloc (.cells #[x.val] 25)).drew := ((Below.refl _ _).alloc (by have := h.ge; omega) _).drew
  have HX := Lib.hid hx2
  have HB := Lib.hid hb2
  clear hx2 hb2
  unfold Hd.val at HW HX HB hBw ⊢
  go_enter Try.func111, Try.ntmps111
  go_region_law ((refine step_append_own rfl (.tmp 7) (.tmp 10) 81 rfl B 25 i0 (.slice none 0 0) 1 24 Try.underlying81 hi hz0 hz1 hz2 rfl (by decide) (.slice A H.length c) H.length (H.map Hd.val) (by simp [Act.eval, Act.put]) HW.out.own ⟨w.heap.size, 0, none⟩ 1 1 [x.val] (by simp [Act.eval, Act.put]) rfl (new_one w x.val _) (fun u hu => by obtain rfl := List.mem_singleton.1 hu; rfl) (by unfold maxLen; omega) (by omega) hBw ?_); intro v' w1 hown' hgrow; obtain ⟨g, c', rfl, hpc, hpf, hm, hbel⟩ := pushed2 HW.out HX.out hown' hgrow; have HM2 := Lib.hid hm; have HB2 := Lib.hid hbel; clear hm hbel hown' hgrow)
  all_goals
    go_end0
    exact ⟨rfl, g, c', HM2.out.twin ⟨rfl, rfl, rfl, rfl⟩, HB.out.trans HB2.out⟩

theorem heap_upi_end {H : List Hd} {x : Hd} (h : Hp.Heap Hd.none hle H H.length) : Hp.UpI Hd.none hle (H ++ [x]) (H ++ [x]).length H.length := by
  have e : ∀ k, k < H.length → (H ++ [x]).getD k Hd.none = H.getD k Hd.none := fun k hk => by simp [List.getD_eq_getElem?_getD, List.getElem?_append_left hk]
  refine ⟨fun i i0 hi hne => ?_, fun i i0 hi hpi _ => ?_⟩
  · have hi' : i < H.length := by rw [List.length_append] at hi; simp at hi; omega
    have := Hp.par_lt i0
    rw [e _ hi', e _ (by omega)]
    exact h i i0 hi'
  · have := Hp.par_lt i0
    rw [List.length_append] at hi; simp at hi; omega

def HPushTo (w : World) (B p : Nat) (H : List Hd) (e : Ending) (w' : World) : Prop :=
  e = .returned (.tuple #[]) ∧ ∃ A c' H', HM w' B p A c' H' ∧ H'.Perm H ∧ Hp.Heap Hd.none hle H' H'.length ∧ Below B w w'

set_option maxRecDepth 100000 in
theorem hpush_any (w : World) (B p c : Nat) (A : Option Addr) (H : List Hd) (x : Hd) (h : HM w B p A c H) (hx : HdAt w B x) (hn : H.length ≤ 1099511627776) (hh : Hp.Heap Hd.none hle H H.length) :
    Calls Try.prog 66 #[hpV p, .iface 25 x.val] w (HPushTo w B p (H ++ [x])) := by
  have c1 := method_push p w
  have HU := Lib.hid (heap_upi_end (x := x) hh)
  clear hh
  have hv : x.val = .slice (some ⟨x.blk, x.off, none⟩) x.l.length x.cap := rfl
  have HP := Lib.hid (push_hm w B p c A H x h hx hn)
  rw [hv] at HP
  rw [hv]
  clear hv
  unfold hpV
  go_enter Try.func66, Try.ntmps66
  go_wp2_with fail
  refine HP.out.mono ?_
  rintro e w1 ⟨rfl, g, c', hm, hb⟩
  clear c1
  have c1 := meth_len hm.c0
  go_wp2_with fail
  refine (len_heads _ _ _ _).mono ?_
  rintro e w' ⟨rfl, rfl⟩
  clear c1
  have hl : (H ++ [x]).length = H.length + 1 := by simp
  have HL := Lib.hid hl
  clear hl
  have hlo : ((H ++ [x]).length : Int) ≤ 1099511627777 := by rw [HL.out]; omega
  have hlo2 : 1 ≤ ((H ++ [x]).length : Int) := by rw [HL.out]; omega
  go_wp2_with fail
  refine (up_any w1 B p c' H.length _ rfl _ (H ++ [x]) hm (by rw [HL.out]; omega) (by rw [HL.out]; omega) HU.out).mono ?_
  rintro e w2 ⟨rfl, H2, hm2, hp2, hh2, hs2⟩
  have HP2 := Lib.hid hp2
  have HH2 := Lib.hid hh2
  clear hp2 hh2
  go_wp2_with fail
  go_end0
  refine ⟨rfl, _, _, H2, hm2, HP2.out, HH2.out, hb.trans ?_⟩
  have hB : B ≤ w1.heap.size := by have := (Array.getElem?_eq_some_iff.1 hm.cell).1; have := hm.ge; omega
  refine hs2.below hB fun k hk => ?_
  obtain ⟨a, ha, rfl⟩ := hk
  obtain rfl := Option.some.inj ha
  exact (hm.own.lt g rfl).1
end Go.Proofs.Ythnbpdcjooifbaa
