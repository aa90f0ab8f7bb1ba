
/- Instructions (chapter 9): All. -/
import Derived.Test.YtedlfcmlchjjlaaDD
import Derived.Test.YtedlfcmlchjjlaaDC
namespace Go.Proofs.Ytedlfcmlchjjlaa
open Go.RowKit
set_option linter.unusedSimpArgs false
set_option linter.unusedVariables false
set_option maxRecDepth 100000

theorem RB.tail {w : World} {B b off c : Nat} {l : List Int} (h : RB w B (some ⟨b, off, none⟩) c l) (p : Nat) (hp : p ≤ l.length) :
    RB w B (if l.length = p then some ⟨b, off, none⟩ else some ⟨b, off + p, none⟩) (l.length - p) (l.drop p) := by
  have hcap := h.cap
  have hle := h.le
  have hlen : (l.drop p).length = l.length - p := List.length_drop
  by_cases he : l.length = p
  · rw [if_pos he]
    have : l.drop p = [] := List.eq_nil_of_length_eq_zero (by omega)
    rw [this]
    exact RB.empty w B ⟨b, off, none⟩ _ (by omega)
  · rw [if_neg he]
    have := h.sub p (l.length - p) (by omega)
    rw [List.take_of_length_le (by omega)] at this
    refine ⟨by omega, by omega, this.bytes, ?_⟩
    rcases this.at_ with ⟨h1, _⟩ | h1
    · cases h1
    · exact .inr h1
theorem own_shape {w : World} {base : Nat} {v : Value} {M : List In} (h : w.ownsRow base 44 6 v M.length (rowI M)) : ∃ A c, v = .slice A M.length c := by
  rcases h.2 with ⟨h1, h2⟩ | ⟨g, cap, cur, h1, _⟩
  · exact ⟨none, 0, by rw [h1, h2]⟩
  · exact ⟨_, _, h1⟩
theorem OB.addr {w : World} {B c : Nat} {A : Option Addr} {l : List Int} (h : OB w B A c l) : (A = none ∧ c = 0 ∧ l = []) ∨ ∃ g, A = some ⟨g, 0, none⟩ := by
  rcases h.own.2 with ⟨h1, h2⟩ | ⟨g, cap, cur, h1, _⟩
  · injection h1 with h3 h4 h5
    exact .inl ⟨h3, h5, List.eq_nil_of_length_eq_zero h2⟩
  · injection h1 with h3 h4 h5
    exact .inr ⟨g, h3⟩

/-- What All answers. -/
def AllTo (w : World) (l : List Int) (e : Ending) (w' : World) : Prop :=
  (∃ A c, e = .returned (.tuple #[.slice A (allI l).1.length c, .int .i64 ((allI l).2 : Nat)]) ∧ w'.ownsRow w.heap.size 44 6 (.slice A (allI l).1.length c) (allI l).1.length (rowI (allI l).1)) ∧ Below w.heap.size w w'

set_option maxHeartbeats 8000000 in
theorem c9_all_nil (w : World) : Calls Try.prog 39 #[.slice none 0 0] w (AllTo w []) := by
  have hO := fun (w : World) => c9_of none 0 0 [] w rfl (RB.nil _ _)
  rw [show ofV [] = zeroI from by decide +kernel, show ofE [] = 5 from by decide +kernel] at hO
  rw [in_val] at hO
  have HO := Lib.hid hO
  clear hO
  unfold AllTo
  rw [show allI [] = ([], 0) from by decide +kernel]
  go_enter Try.func39, Try.ntmps39
  go_wp2_with fail
  go_loopw [2, 3] (fun v n wr => v = .slice none 0 0 ∧ n = .int .i64 0 ∧ Below w.heap.size w wr) (fun _ _ _ => 0)
  case atStart => exact ⟨rfl, rfl, Below.refl _ _⟩
  case round =>
    obtain ⟨rfl, rfl, hb⟩ := hrel
    go_wp2_with fail
    refine (HO.out _).mono ?_
    rintro e w2 ⟨rfl, hb2⟩
    have hB := hb.trans (hb2.mono hb.size)
    clear hb hb2
    go_wp2_with fail
    go_ret2
    exact ⟨⟨none, 0, rfl, World.ownsRow_nil _ _ _ _⟩, hB.alloc hB.size _⟩

set_option maxHeartbeats 16000000 in
theorem c9_all (b off c n : Nat) (l : List Int) (w : World) (hn : n = l.length) (h : RB w w.heap.size (some ⟨b, off, none⟩) c l) (hl : l.length ≤ 500) : Calls Try.prog 39 #[.slice (some ⟨b, off, none⟩) n c] w (AllTo w l) := by
  subst hn
  have hby := h.bytes
  have hcap := h.cap
  have hle := h.le
  unfold maxLen at hcap
  have HH := Lib.hid h
  unfold AllTo
  obtain ⟨R, hR⟩ : ∃ R, allI l = R := ⟨_, rfl⟩
  rw [hR]
  have HR := Lib.hid hR
  clear hR h
  go_enter Try.func39, Try.ntmps39
  go_wp2_with fail
  go_loopw [2, 3] (fun v n wr => ∃ (M : List In) (p : Nat), n = .int .i64 p ∧ wr.ownsRow w.heap.size 44 6 v M.length (rowI M) ∧ p ≤ l.length ∧ M.length ≤ p ∧ R = (M ++ (allI (l.drop p)).1, p + (allI (l.drop p)).2) ∧ Below w.heap.size w wr) (fun _ n _ => l.length - (intOf n).toNat)
  case atStart => exact ⟨[], 0, rfl, World.ownsRow_nil _ _ _ _, by omega, by simp, by rw [List.drop_zero, HR.out]; simp, Below.refl _ _⟩
  case round =>
    obtain ⟨M, p, rfl, ho, hp, hMp, hRp, hb⟩ := hrel
    obtain ⟨A0, c0, rfl⟩ := own_shape ho
    have HO := Lib.hid ho
    by_cases he : l.length = p
    · subst he
      have h0 : l.drop l.length = [] := List.drop_length
      rw [h0, show allI [] = ([], 0) from by decide +kernel] at hRp
      have hq := c9_of (some ⟨b, off, none⟩) 0 0 [] wr rfl (RB.empty wr _ _ 0 (Nat.zero_le _))
      rw [show ofV [] = zeroI from by decide +kernel, show ofE [] = 5 from by decide +kernel] at hq
      rw [in_val] at hq
      have HQ := Lib.hid hq
      have HRp := Lib.hid hRp
      clear hq hRp ho h0
      go_wp2_with fail
      refine HQ.out.mono ?_
      rintro e w2 ⟨rfl, hb2⟩
      have ho2 := HO.out.kept (w' := w2) (row := none) ⟨hb2.os, hb2.tape, hb2.output, hb2.size, fun i hi _ => hb2.block i hi⟩ (by cases hv : (Value.slice A0 M.length c0).ownBlock <;> simp)
      have hB2 := hb.trans (hb2.mono hb.size)
      clear hb hb2 HQ HO
      have HO2 := Lib.hid (ho2.alloc (inO zeroI))
      clear ho2
      go_wp2_with fail
      go_ret2
      rw [HRp.out]
      simp only [List.append_nil, Nat.add_zero]
      exact ⟨⟨A0, c0, rfl, HO2.out⟩, hB2.alloc hB2.size _⟩
    · have ht := (HH.out.below hb).tail p hp
      rw [if_neg he] at ht
      have hlm : (l.drop p).length = l.length - p := List.length_drop
      have HRp := Lib.hid hRp
      have hq := c9_of (some ⟨b, off + p, none⟩) (l.length - p) (l.length - p) (l.drop p) wr hlm.symm (ht.more hb.size)
      have hbd := hby.drop p
      have HC := Lib.hid (ofE_cases (l.drop p))
      have HG := Lib.hid (fun (y : In) (hy : ofI (l.drop p) = some y) => of_got hbd hy)
      have HS := Lib.hid (fun (y : In) (hy : ofI (l.drop p) = some y) => allI_some hbd hy)
      have HNo := Lib.hid (fun (hy : ofI (l.drop p) = none) => allI_none hy)
      obtain ⟨X, hX⟩ : ∃ X, ofV (l.drop p) = X := ⟨_, rfl⟩
      obtain ⟨E, hE⟩ : ∃ E, ofE (l.drop p) = E := ⟨_, rfl⟩
      rw [hX, hE] at HC hq
      rw [in_val] at hq
      have HQ := Lib.hid hq
      have HLm := Lib.hid hlm
      clear hq ht hRp hX hE hbd hlm ho
      go_wp2_with fail
      refine HQ.out.mono ?_
      rintro e w2 ⟨rfl, hb2⟩
      have ho2 := HO.out.kept (w' := w2) (row := none) ⟨hb2.os, hb2.tape, hb2.output, hb2.size, fun i hi _ => hb2.block i hi⟩ (by cases hv : (Value.slice A0 M.length c0).ownBlock <;> simp)
      have hB2 := hb.trans (hb2.mono hb.size)
      clear hb hb2 HQ HO
      obtain ⟨w3, hw3⟩ : ∃ w3, w2.alloc (inO X) = w3 := ⟨_, rfl⟩
      obtain ⟨N, hN⟩ : ∃ N, w2.heap.size = N := ⟨_, rfl⟩
      have hX3 : InW w3 N X := by rw [← hw3, ← hN]; exact InW.laid w2 X
      have ho3 : w3.ownsRow w.heap.size 44 6 (.slice A0 M.length c0) M.length (rowI M) := hw3 ▸ ho2.alloc (inO X)
      have hB3 : Below w.heap.size w w3 := hw3 ▸ hB2.alloc hB2.size _
      have hnb : some N ≠ (Value.slice A0 M.length c0).ownBlock := fun e => absurd (ho2.lt _ e.symm).2 (by omega)
      have hNw : w.heap.size ≤ N := hN ▸ hB2.size
      unfold inO at hw3
      clear ho2 hB2
      have HO3 := Lib.hid ho3
      have HNB := Lib.hid hnb
      clear ho3 hnb
      rcases HC.out with ⟨y, hy, rfl, rfl⟩ | ⟨hy, rfl⟩
      · have hS := HS.out _ hy
        have hg := HG.out _ hy
        obtain ⟨k, hk, k1, k2, k3, -⟩ := hg.nat
        rw [HLm.out] at k3
        have hR2 : R = ((M ++ [X]) ++ (allI (l.drop (p + k))).1, (p + k) + (allI (l.drop (p + k))).2) := by
          rw [HRp.out, hS, hk, Int.toNat_natCast, List.drop_drop]
          simp [Nat.add_assoc, Nat.add_comm k p]
        have HR2 := Lib.hid hR2
        have HK := Lib.hid hk
        clear hS hg hk hR2 HC HG HS HNo hy
        have g0 := hX3.gs
        have g1 := hX3.gx
        have g2 := hX3.go
        have g3 := hX3.gd
        have g4 := hX3.gm
        have g5 := hX3.gn
        have hX4 := Lib.hid (InW.laid w3 X)
        have HX3 := Lib.hid hX3
        clear hX3
        go_wp2_with (at_builtin; refine wpList_append_ins rfl _ _ 55 rfl Try.underlying55 w.heap.size _ M rfl (HO3.out.alloc _) w3.heap.size X rfl hX4.out (by omega) (by simp; have := hB3.size; omega) ?_; intro v5 w5 ho5 hg5; have h55 := (World.cell?_of_block (a := ⟨N, 5, none⟩) (hg5.block N (by have := HX3.out.lt; simp; omega) HNB.out)).trans ((((Below.refl w3.heap.size w3).alloc (Nat.le_refl _) (inO X)).cell (p := ⟨N, 5, none⟩) HX3.out.lt).trans g5); rw [HK.out] at h55)
        have hB5 := (hB3.alloc hB3.size (inO X)).grown hg5 (by have := hB3.size; simp; omega) (fun q hq => (HO3.out.lt q hq).1)
        clear g0 g1 g2 g3 g4 g5
        go_roundw
        case rel => exact ⟨M ++ [X], p + k, by go_num, ho5, by omega, by simp; omega, HR2.out, hB5⟩
        case measure => simp [intOf]; omega
      · have hS := HNo.out hy
        have hR2 : R = (M, p) := by rw [HRp.out, hS]; simp
        clear hS HC HG HS HNo hy HRp
        go_wp2_with fail
        go_ret2
        rw [hR2]
        exact ⟨⟨A0, c0, rfl, HO3.out⟩, hB3⟩
end Go.Proofs.Ytedlfcmlchjjlaa
