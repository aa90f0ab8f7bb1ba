
/- container/heap over the heads: up, down. -/
import Derived.Test.YtileglkimbkkgaaK3
namespace Go.Proofs.Ytileglkimbkkgaa
open Go.RowKit
set_option linter.unusedSimpArgs false
set_option linter.unusedVariables false

theorem HM.kept {w w' : World} {B p c : Nat} {A : Option Addr} {H : List Hd} (h : HM w B p A c H) (hb : Below w.heap.size w w') : HM w' B p A c H := by
  obtain ⟨h1, h2, h3, h4, h5⟩ := h
  have hp : p < w.heap.size := (Array.getElem?_eq_some_iff.1 h1).1
  refine ⟨(hb.block p hp).trans h1, ?_, h3, h4, fun x hx => (h5 x hx).keep fun k hk => hb.block k (by omega)⟩
  exact h2.kept (row := none) ⟨hb.os, hb.tape, hb.output, hb.size, fun k hk _ => hb.block k hk⟩ (by cases (Value.slice A H.length c).ownBlock <;> simp)

def hpV (p : Nat) : Value := .iface 54 (.pointer (some ⟨p, 0, none⟩))

theorem method_less (p : Nat) (w : World) : (method 228 54 (.pointer (some ⟨p, 0, none⟩)) "Less").run Try.prog w = ((do pure (109, ← loadVar 81 ⟨p, 0, none⟩)) : Sem (FuncId × Value)).run Try.prog w := by
  kernel_rfl
theorem meth_less {p : Nat} {w : World} {A : Option Addr} {n c : Nat} (h : w.cell? ⟨p, 0, none⟩ = some (.slice A n c)) : (method 228 54 (.pointer (some ⟨p, 0, none⟩)) "Less").run Try.prog w = .ok (109, .slice A n c) w := by
  rw [method_less]
  go_simp
theorem method_swap (p : Nat) (w : World) : (method 228 54 (.pointer (some ⟨p, 0, none⟩)) "Swap").run Try.prog w = ((do pure (112, ← loadVar 81 ⟨p, 0, none⟩)) : Sem (FuncId × Value)).run Try.prog w := by
  kernel_rfl
theorem meth_swap {p : Nat} {w : World} {A : Option Addr} {n c : Nat} (h : w.cell? ⟨p, 0, none⟩ = some (.slice A n c)) : (method 228 54 (.pointer (some ⟨p, 0, none⟩)) "Swap").run Try.prog w = .ok (112, .slice A n c) w := by
  rw [method_swap]
  go_simp
theorem method_len (p : Nat) (w : World) : (method 228 54 (.pointer (some ⟨p, 0, none⟩)) "Len").run Try.prog w = ((do pure (39, ← loadVar 81 ⟨p, 0, none⟩)) : Sem (FuncId × Value)).run Try.prog w := by
  kernel_rfl
theorem meth_len {p : Nat} {w : World} {A : Option Addr} {n c : Nat} (h : w.cell? ⟨p, 0, none⟩ = some (.slice A n c)) : (method 228 54 (.pointer (some ⟨p, 0, none⟩)) "Len").run Try.prog w = .ok (39, .slice A n c) w := by
  rw [method_len]
  go_simp

theorem HM.c0 {w : World} {B p c : Nat} {A : Option Addr} {H : List Hd} (h : HM w B p A c H) : w.cell? ⟨p, 0, none⟩ = some (.slice A H.length c) := by
  rw [cell_of_row w p 0 _ _ _ h.cell]; rfl

/-- The heads' order. -/
def hle (x y : Hd) : Prop := ordE x.hd y.hd ≤ 0
theorem hle_refl (x : Hd) : hle x x := by unfold hle; rw [(ord_zero _ _).2 rfl]; exact Int.le_refl _
theorem hle_trans (x y z : Hd) (h : hle x y) (k : hle y z) : hle x z := (ord_trans _ _ _ h k).1
theorem hle_not {x y : Hd} (h : ¬ ordE x.hd y.hd < 0) : hle y x := by unfold hle; rw [ord_turn]; omega

theorem less_hm (w : World) (B p c : Nat) (A : Option Addr) (H : List Hd) (h : HM w B p A c H) (hn : H.length ≤ 4611686018427387904) (i j : Nat) (I J : Int) (hI : I = i) (hJ : J = j) (hi : i < H.length) (hj : j < H.length)
    (b : Bool) (hb : decide (ordE (H.getD i Hd.none).hd (H.getD j Hd.none).hd < 0) = b) :
    Calls Try.prog 109 #[.slice A H.length c, .int .i64 I, .int .i64 J] w fun e w' => e = .returned (.bool b) ∧ HM w' B p A c H ∧ Below w.heap.size w w' := by
  obtain ⟨g, rfl, _⟩ := h.row (by omega)
  subst hI hJ hb
  exact (less_any w B g c H.length i j _ _ hi hj hn (h.at_ hi) (h.at_ hj) (h.hd hi) (h.hd hj)).mono fun e w' ⟨he, hw⟩ => ⟨he, h.kept hw, hw⟩

theorem swap_hm (w : World) (B p c : Nat) (A : Option Addr) (H : List Hd) (h : HM w B p A c H) (hn : H.length ≤ 4611686018427387904) (i j : Nat) (I J : Int) (hI : I = i) (hJ : J = j) (hi : i < H.length) (hj : j < H.length) :
    Calls Try.prog 112 #[.slice A H.length c, .int .i64 I, .int .i64 J] w fun e w' =>
      e = .returned (.tuple #[]) ∧ HM w' B p A c (Hp.swp Hd.none H i j) ∧ Save (OB2 A) w w' := by
  subst hI hJ
  exact swap_any w B p c i j A H h hn hi hj

def HeapTo (w : World) (B p c : Nat) (A : Option Addr) (H : List Hd) (wr : World) : Prop :=
  ∃ H' : List Hd, HM wr B p A c H' ∧ H'.Perm H ∧ Hp.Heap Hd.none hle H' H'.length ∧ Save (OB2 A) w wr
def UpRel (w : World) (B p c : Nat) (A : Option Addr) (H : List Hd) (k : Nat) (wr : World) : Prop :=
  ∃ H' : List Hd, HM wr B p A c H' ∧ k < H'.length ∧ Hp.UpI Hd.none hle H' H'.length k ∧ H'.Perm H ∧ Save (OB2 A) w wr

set_option maxRecDepth 100000 in
theorem up_any (w : World) (B p c j : Nat) (J : Int) (hJ : J = j) (A : Option Addr) (H : List Hd) (h : HM w B p A c H) (hn : H.length ≤ 4611686018427387904) (hj : j < H.length) (hu : Hp.UpI Hd.none hle H H.length j) :
    Calls Try.prog 86 #[hpV p, .int .i64 J] w fun e w' => e = .returned (.tuple #[]) ∧ HeapTo w B p c A H w' := by
  subst hJ
  unfold hpV
  have HN := Lib.hid hn
  clear hn
  go_enter Try.func86, Try.ntmps86
  go_wp2_with fail
  go_loopw [1] (fun i wr => ∃ k : Nat, i = .int .i64 k ∧ UpRel w B p c A H k wr) (fun i _ => (intOf i).toNat)
  case atStart => exact ⟨j, rfl, H, h, hj, hu, .refl _, Save.refl _ _⟩
  case round =>
    obtain ⟨k, rfl, H', hm, hk, hu', hp, hs⟩ := hrel
    have hn' : H'.length ≤ 4611686018427387904 := by rw [hp.length_eq]; exact HN.out
    have HP := Lib.hid hp
    clear hp hu hj h
    have HU := Lib.hid hu'
    clear hu'
    by_cases h0 : k = 0
    · subst h0
      go_wp2_with fail
      go_end0
      exact ⟨rfl, H', hm, HP.out, HU.out.done (.inl rfl), hs⟩
    · obtain ⟨m, rfl⟩ : ∃ m, k = m + 1 := ⟨k - 1, by omega⟩
      clear h0
      have hm1 : m < 4611686018427387904 := by omega
      have hneq : ((m : Int) / 2 == (m : Int) + 1) = false := by simp; omega
      have c1 := meth_less hm.c0
      by_cases hlt : ordE (H'.getD (m + 1) Hd.none).hd (H'.getD (m / 2) Hd.none).hd < 0
      · have HL := Lib.hid hlt
        clear hlt
        go_wp2_with fail
        refine (less_hm wr B p c A H' hm hn' (m + 1) (m / 2) _ _ (by omega) (by omega) hk (by omega) true (decide_eq_true HL.out)).mono ?_
        rintro e w1 ⟨rfl, hm1', hb1⟩
        clear c1
        have c2 := meth_swap hm1'.c0
        go_wp2_with fail
        refine (swap_hm w1 B p c A H' hm1' hn' (m / 2) (m + 1) _ _ (by omega) (by omega) (by omega) hk).mono ?_
        rintro e w2 ⟨rfl, hm2, hs2⟩
        clear c2
        go_wp2_with fail
        go_roundw
        case rel =>
          refine ⟨m / 2, by go_num, _, hm2, by rw [Hp.swp_length]; omega, ?_, (Hp.swp_perm _ _ _ _ (by omega) hk).trans HP.out, (hs.trans (Save.of_below hb1)).trans hs2⟩
          rw [Hp.swp_length]
          have := HU.out.step hle_trans (Nat.le_refl _) hk (Nat.succ_pos _) (by have := HL.out; unfold hle; show ordE (H'.getD (m + 1) Hd.none).hd (H'.getD (m / 2) Hd.none).hd ≤ 0; omega)
          exact this
        case measure => simp [intOf]; omega
      · have HL := Lib.hid hlt
        clear hlt
        go_wp2_with fail
        refine (less_hm wr B p c A H' hm hn' (m + 1) (m / 2) _ _ (by omega) (by omega) hk (by omega) false (decide_eq_false (Int.not_lt.2 HL.out))).mono ?_
        rintro e w1 ⟨rfl, hm1', hb1⟩
        clear c1
        go_wp2_with fail
        go_end0
        exact ⟨rfl, H', hm1', HP.out, HU.out.done (.inr (hle_not (Int.not_lt.2 HL.out))), hs.trans (Save.of_below hb1)⟩
end Go.Proofs.Ytileglkimbkkgaa
