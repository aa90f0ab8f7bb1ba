/-  -/
import Derived.Test.YtofenjloieagaaaZB
import Derived.Lib.AppendZeros
import Derived.Lib.Hide
namespace Go.Proofs.Ytofenjloieagaaa
open Go.RowKit
set_option maxRecDepth 100000

/-- The answer is a slice of the call's own with the elements l; nothing below B has turned. -/
def Fresh (B : Nat) (w : World) (l : List Int) (e : Ending) (w' : World) : Prop :=
  ∃ A c, e = .returned (.slice A l.length c) ∧ OB w' B A c l ∧ Below B w w'

/-- What is fresh behind more is fresh. -/
theorem Fresh.of {B : Nat} {w w1 : World} {l : List Int} {e : Ending} {w' : World} (h : Fresh w1.heap.size w1 l e w') (hb : Below B w w1) (hB : B ≤ w1.heap.size) : Fresh B w l e w' := by
  obtain ⟨A, c, he, ho, hbl⟩ := h
  exact ⟨A, c, he, ho.mono hB, hb.trans (hbl.mono hB)⟩

set_option maxHeartbeats 400000 in
theorem own_any (A : Option Addr) (c n : Nat) (l : List Int) (w : World) (B : Nat) (hn : n = l.length) (h : RB w B A c l) (hB : B ≤ w.heap.size) (hlen : l.length ≤ 140737488355328) :
    Calls Try.prog 10 #[.slice A n c] w (Fresh w.heap.size w l) := by
  subst hn
  go_enter Try.func10, Try.ntmps10
  go_wp2_with (at_builtin; refine wpList_append_rb _ rfl _ _ rfl w.heap.size B _ _ _ [] rfl rfl (OB.made w #[] (Nat.zero_le _)) _ _ _ l rfl rfl (h.alloc hB _) (by simpa using hlen) (by simp) ?_; intro A' c' w1 hob hbel hne)
  go_ret
  exact ⟨A', c', rfl, hob, ((Below.refl _ _).alloc (Nat.le_refl _) _).trans hbel⟩

set_option maxHeartbeats 400000 in
theorem clone_any (A : Option Addr) (c n : Nat) (l : List Int) (w : World) (B : Nat) (hn : n = l.length) (h : RB w B A c l) (hB : B ≤ w.heap.size) (hlen : l.length ≤ 140737488355328) :
    Calls Try.prog 57 #[.slice A n c] w (Fresh w.heap.size w l) := by
  subst hn
  have heq := fun (w : World) (a : Option Addr) (n c : Nat) => Go.Lib.run_eql_slice_nil (P := Try.prog) w 23 5 a n c 0 0 Try.underlying23
  cases A with
  | none =>
    obtain ⟨rfl, rfl⟩ := h.none_nil
    go_enter Try.func57, Try.ntmps57
    go_wp2_with fail
    go_ret
    exact ⟨none, 0, rfl, OB.nil _ _, Below.refl _ _⟩
  | some a =>
    go_enter Try.func57, Try.ntmps57
    go_wp2_with (at_builtin; refine wpList_append_rb _ rfl _ _ rfl w.heap.size B _ _ _ [] rfl rfl (OB.made w #[] (Nat.zero_le _)) _ _ _ l rfl rfl (h.alloc hB _) (by simpa using hlen) (by simp) ?_; intro A' c' w1 hob hbel hne)
    go_ret
    exact ⟨A', c', rfl, hob, ((Below.refl _ _).alloc (Nat.le_refl _) _).trans hbel⟩

/-- Grow(nil, n): an empty slice with room of the call's own, or nil. -/
def Room (B : Nat) (w : World) (e : Ending) (w' : World) : Prop :=
  ∃ A c, e = .returned (.slice A 0 c) ∧ OB w' B A c [] ∧ Below B w w'

set_option maxHeartbeats 400000 in
theorem grow_zero (w : World) :
    Calls Try.prog 67 #[.slice none 0 0, .int .i64 0] w (Room w.heap.size w) := by
  go_enter Try.func67, Try.ntmps67
  go_wp2_with fail
  go_ret
  exact ⟨none, 0, rfl, OB.nil _ _, Below.refl _ _⟩

set_option maxHeartbeats 400000 in
set_option maxRecDepth 100000 in
theorem grow_pos (n : Nat) (w : World) (h0 : 0 < n) (hn : n ≤ 140737488355328) :
    Calls Try.prog 67 #[.slice none 0 0, .int .i64 n] w (Room w.heap.size w) := by
  obtain ⟨i, hi, hz0, hz1, hz2⟩ := info_parts infoB
  have hrun := fun ty => Go.Lib.run_append_nil_zeros (P := Try.prog) w 23 3 ty 5 i (.int .u8 0) .i64 .i64 Try.underlying23 Try.underlying3 hi hz0 n h0 (by omega) (by omega) (by rw [hz2]; omega)
  go_enter Try.func67, Try.ntmps67
  go_wp2_with (at_builtin; refine Go.Lib.wpList_append_run _ rfl _ _ _ _ rfl _ _ rfl rfl _ _ (hrun _) ?_)
  go_ret
  refine ⟨_, _, rfl, ?_, ((Below.refl _ _).alloc (Nat.le_refl _) _).drew⟩
  have hge := grownCap_ge w n 0 5
  have hcm := grownCap_le_maxLen w n 0 5 (by unfold maxLen; omega)
  exact ⟨World.ownsRow_made w _ (grownCap w n 0 5) (Nat.le_refl _) hcm (by simp [size_zeroCells]; omega), AllB.nil⟩

theorem grow_any (n : Nat) (w : World) (hn : n ≤ 140737488355328) :
    Calls Try.prog 67 #[.slice none 0 0, .int .i64 n] w (Room w.heap.size w) := by
  rcases Nat.eq_zero_or_pos n with rfl | h
  · exact grow_zero w
  · exact grow_pos n w h hn

/-- The pieces of a slice of slices. -/
structure Piece where
  A : Option Addr
  c : Nat
  l : List Int

def flat (ps : List Piece) : List Int := (ps.map (·.l)).flatten
theorem flat_nil : flat [] = [] := rfl
theorem flat_take (ps : List Piece) (k : Nat) (h : k < ps.length) : flat (ps.take (k + 1)) = flat (ps.take k) ++ ps[k].l := by
  unfold flat; rw [List.take_succ_eq_append_getElem h, List.map_append, List.flatten_append]; simp only [List.map_cons, List.map_nil, List.flatten_cons, List.flatten_nil, List.append_nil]
theorem flat_le (ps : List Piece) (k : Nat) : (flat (ps.take k)).length ≤ (flat ps).length := by
  have h : flat ps = flat (ps.take k) ++ flat (ps.drop k) := by
    conv => lhs; rw [← List.take_append_drop k ps]
    unfold flat; rw [List.map_append, List.flatten_append]
  rw [h, List.length_append]; omega
theorem flat_all (ps : List Piece) (k : Nat) (h : ps.length ≤ k) : flat (ps.take k) = flat ps := by rw [List.take_of_length_le h]

set_option maxHeartbeats 1000000 in
theorem concat_any (g cp : Nat) (ps : List Piece) (w : World) (hg : g < w.heap.size) (hps : ps.length ≤ 1000)
    (hcell : ∀ i (h : i < ps.length), w.cell? ⟨g, i, none⟩ = some (.slice ps[i].A ps[i].l.length ps[i].c))
    (hr : ∀ i (h : i < ps.length), RB w w.heap.size ps[i].A ps[i].c ps[i].l) (hlen : (flat ps).length ≤ 140737488355328) :
    Calls Try.prog 55 #[.slice (some ⟨g, 0, none⟩) ps.length cp] w (Fresh w.heap.size w (flat ps)) := by
  go_enter Try.func55, Try.ntmps55
  go_wp2
  go_loop [3, 11] (fun s i => ∃ k : Nat, k ≤ ps.length ∧ i = .int .i64 k ∧ s = .int .i64 (flat (ps.take k)).length) (fun _ i => ps.length - (intOf i).toNat)
  case atStart => exact ⟨0, Nat.zero_le _, rfl, rfl⟩
  case round =>
    obtain ⟨k, hk, rfl, rfl⟩ := hrel
    by_cases hlt : k < ps.length
    · have hc := hcell k hlt
      have hl := flat_le ps k
      have hl1 := flat_le ps (k + 1)
      have hft := flat_take ps k hlt
      have hs : (flat (ps.take (k + 1))).length = (flat (ps.take k)).length + ps[k].l.length := by rw [hft]; simp
      rw [hs] at hl1
      have HS := Lib.hid hs
      clear hs hft
      go_wp2
      go_round
      case rel => exact ⟨k + 1, by omega, by go_num, by rw [HS.out]; go_num⟩
      case measure => simp [intOf]; omega
    · obtain rfl : k = ps.length := by omega
      have hall := flat_all ps ps.length (Nat.le_refl _)
      rw [hall]
      clear hall hlt hk
      go_wp2_with (go_at_call 67; refine (grow_any _ _ hlen).mono ?_; rintro e w1 ⟨A1, c1, rfl, hob1, hbel1⟩)
      obtain ⟨hc, hf⟩ : (∀ p : Addr, p.block < w.heap.size → w1.cell? p = w.cell? p) ∧ True := ⟨fun p hp => hbel1.cell hp, trivial⟩
      clear hf
      go_loopw [6, 27] (fun v i wr => ∃ (k : Nat) (A : Option Addr) (c : Nat), k ≤ ps.length ∧ i = .int .i64 k ∧ v = .slice A (flat (ps.take k)).length c ∧ OB wr w.heap.size A c (flat (ps.take k)) ∧ Below w.heap.size w wr) (fun _ i _ => ps.length - (intOf i).toNat)
      case atStart => exact ⟨0, A1, c1, Nat.zero_le _, rfl, rfl, hob1, hbel1⟩
      case round =>
        obtain ⟨k, A, c, hk, rfl, rfl, hob, hbel⟩ := hrel
        by_cases hlt : k < ps.length
        · have hck : wr.cell? ⟨g, k, none⟩ = some (.slice ps[k].A ps[k].l.length ps[k].c) := (hbel.cell hg).trans (hcell k hlt)
          have hrk : RB wr w.heap.size ps[k].A ps[k].c ps[k].l := (hr k hlt).below hbel
          have hl1 := flat_le ps (k + 1)
          have hft := flat_take ps k hlt
          rw [hft, List.length_append] at hl1
          have HF := Lib.hid hft
          clear hft hc
          go_wp2_with (at_builtin; refine wpList_append_rb _ rfl _ _ rfl w.heap.size w.heap.size _ _ _ _ rfl rfl hob _ _ _ ps[k].l rfl rfl hrk (by omega) hbel.size ?_; intro A' c' w2 hob' hbel' hne)
          go_roundw
          case rel =>
            rw [← HF.out] at hob'
            exact ⟨k + 1, A', c', by omega, by go_num, by rw [HF.out, List.length_append], hob', hbel.trans hbel'⟩
          case measure => simp [intOf]; omega
        · obtain rfl : k = ps.length := by omega
          rw [flat_all ps ps.length (Nat.le_refl _)] at hob ⊢
          go_wp2
          go_ret
          exact ⟨A, c, rfl, hob, hbel⟩

/-- Concat of one, two, three pieces, in a row that was just laid. -/
theorem concat1 (A1 : Option Addr) (c1 : Nat) (l1 : List Int) (w : World) (h1 : RB w w.heap.size A1 c1 l1) (hlen : l1.length ≤ 140737488355328) :
    Calls Try.prog 55 #[.slice (some ⟨w.heap.size, 0, none⟩) 1 1] (w.alloc (.cells #[.slice A1 l1.length c1] 23)) (Fresh w.heap.size w l1) := by
  refine (concat_any w.heap.size 1 [⟨A1, c1, l1⟩] _ (by simp) (by simp) ?_ ?_ (by simp [flat]; omega)).mono fun e w' h => ?_
  · intro i hi
    have : i = 0 := by simp at hi; omega
    subst this
    rw [World.cell?_alloc_at _ _ _ _ rfl]; rfl
  · intro i hi
    have : i = 0 := by simp at hi; omega
    subst this
    exact (h1.alloc (Nat.le_refl _) _).more (by simp)
  · have := Fresh.of h ((Below.refl w.heap.size w).alloc (Nat.le_refl _) _) (by simp)
    simpa [flat] using this

theorem concat2 (A1 A2 : Option Addr) (c1 c2 : Nat) (l1 l2 : List Int) (w : World) (h1 : RB w w.heap.size A1 c1 l1) (h2 : RB w w.heap.size A2 c2 l2) (hlen : l1.length + l2.length ≤ 140737488355328) :
    Calls Try.prog 55 #[.slice (some ⟨w.heap.size, 0, none⟩) 2 2] (w.alloc (.cells #[.slice A1 l1.length c1, .slice A2 l2.length c2] 23)) (Fresh w.heap.size w (l1 ++ l2)) := by
  refine (concat_any w.heap.size 2 [⟨A1, c1, l1⟩, ⟨A2, c2, l2⟩] _ (by simp) (by simp) ?_ ?_ (by simp [flat]; omega)).mono fun e w' h => ?_
  · intro i hi
    match i, hi with
    | 0, _ => rw [World.cell?_alloc_at _ _ _ _ rfl]; rfl
    | 1, _ => rw [World.cell?_alloc_at _ _ _ _ rfl]; rfl
  · intro i hi
    match i, hi with
    | 0, _ => exact (h1.alloc (Nat.le_refl _) _).more (by simp)
    | 1, _ => exact (h2.alloc (Nat.le_refl _) _).more (by simp)
  · have := Fresh.of h ((Below.refl w.heap.size w).alloc (Nat.le_refl _) _) (by simp)
    simpa [flat] using this

theorem concat3 (A1 A2 A3 : Option Addr) (c1 c2 c3 : Nat) (l1 l2 l3 : List Int) (w : World) (h1 : RB w w.heap.size A1 c1 l1) (h2 : RB w w.heap.size A2 c2 l2) (h3 : RB w w.heap.size A3 c3 l3) (hlen : l1.length + l2.length + l3.length ≤ 140737488355328) :
    Calls Try.prog 55 #[.slice (some ⟨w.heap.size, 0, none⟩) 3 3] (w.alloc (.cells #[.slice A1 l1.length c1, .slice A2 l2.length c2, .slice A3 l3.length c3] 23)) (Fresh w.heap.size w (l1 ++ (l2 ++ l3))) := by
  refine (concat_any w.heap.size 3 [⟨A1, c1, l1⟩, ⟨A2, c2, l2⟩, ⟨A3, c3, l3⟩] _ (by simp) (by simp) ?_ ?_ (by simp [flat]; omega)).mono fun e w' h => ?_
  · intro i hi
    match i, hi with
    | 0, _ => rw [World.cell?_alloc_at _ _ _ _ rfl]; rfl
    | 1, _ => rw [World.cell?_alloc_at _ _ _ _ rfl]; rfl
    | 2, _ => rw [World.cell?_alloc_at _ _ _ _ rfl]; rfl
  · intro i hi
    match i, hi with
    | 0, _ => exact (h1.alloc (Nat.le_refl _) _).more (by simp)
    | 1, _ => exact (h2.alloc (Nat.le_refl _) _).more (by simp)
    | 2, _ => exact (h3.alloc (Nat.le_refl _) _).more (by simp)
  · have := Fresh.of h ((Below.refl w.heap.size w).alloc (Nat.le_refl _) _) (by simp)
    simpa [flat] using this

end Go.Proofs.Ytofenjloieagaaa
