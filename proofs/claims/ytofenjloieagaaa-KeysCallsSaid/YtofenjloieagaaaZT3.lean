/-  -/
import Derived.Maps.OwnOps
import Derived.Maps.OwnSet
import Derived.Maps.Views
import Derived.Test.YtofenjloieagaaaZT2
namespace Go.Proofs.Ytofenjloieagaaa
open Go.RowKit Go.Maps
set_option linter.unusedSimpArgs false
set_option linter.unusedVariables false
set_option maxRecDepth 100000

theorem keyedI : Keyed Try.prog 3 := int_keyed Try.underlying3
theorem zeroU (w : World) : (zeroValue 70).run Try.prog w = .ok (.agg #[]) w := by kernel_rfl

/-- Is a key down, once one touch more is done? Once all of a list are? -/
def stepK (x : Tc) (c : Int) (b : Bool) : Bool := if x.what = 1 ∧ x.key = c then x.on else b
def downB (l : List Tc) (c : Int) : Bool := l.foldl (fun b x => stepK x c b) false
theorem downB_more {l : List Tc} {k : Nat} (hk : k < l.length) (c : Int) : downB (l.take (k + 1)) c = stepK (l.getD k tcZ) c (downB (l.take k) c) := by
  unfold downB
  rw [tc_take_more hk, List.foldl_append]
  rfl

/-- A map holds just the keys that are down. -/
def DownRel (l : List Tc) (D : DataW Unit) : Prop := IsMap D ∧ ∀ c : Int, Maps.has D (.int .i64 c) = downB l c
theorem DownRel.start : DownRel [] (.map []) := ⟨isMap_empty, fun c => rfl⟩
theorem DownRel.on {l : List Tc} {k : Nat} {D : DataW Unit} (h : DownRel (l.take k) D) (hk : k < l.length) (h1 : (l.getD k tcZ).what = 1) (h2 : (l.getD k tcZ).on = true) : DownRel (l.take (k + 1)) (D.put (.int .i64 (l.getD k tcZ).key) (.agg [])) := by
  refine ⟨h.1.put _ _, fun c => ?_⟩
  rw [downB_more hk]
  unfold stepK
  by_cases e : (l.getD k tcZ).key = c
  · subst e
    rw [if_pos ⟨h1, rfl⟩, has_put_same h.1 (by simp [WideAt.IsKeyLit]), h2]
  · rw [if_neg (fun h => e h.2), has_put_other (fun e2 => e (by injection e2 with _ e3; first | exact e3 | exact e3.symm)), h.2]
theorem DownRel.off {l : List Tc} {k : Nat} {D : DataW Unit} (h : DownRel (l.take k) D) (hk : k < l.length) (h1 : (l.getD k tcZ).what = 1) (h2 : (l.getD k tcZ).on = false) : DownRel (l.take (k + 1)) (D.del (.int .i64 (l.getD k tcZ).key)) := by
  refine ⟨h.1.del _, fun c => ?_⟩
  rw [downB_more hk]
  unfold stepK
  by_cases e : (l.getD k tcZ).key = c
  · subst e
    rw [if_pos ⟨h1, rfl⟩, has_del_same, h2]
  · rw [if_neg (fun h => e h.2), has_del_other (fun e2 => e (by injection e2 with _ e3; first | exact e3 | exact e3.symm)), h.2]
theorem DownRel.none {l : List Tc} {k : Nat} {D : DataW Unit} (h : DownRel (l.take k) D) (hk : k < l.length) (h1 : ¬ (l.getD k tcZ).what = 1) : DownRel (l.take (k + 1)) D := by
  refine ⟨h.1, fun c => ?_⟩
  rw [downB_more hk]
  unfold stepK
  rw [if_neg (fun h => h1 h.1), h.2]

/-- What down leaves: a map that the call has made, of just the keys that are down. -/
def DownTo (l : List Tc) (w : World) (e : Ending) (w' : World) : Prop :=
  (∃ (b n : Nat) (D : DataW Unit), e = .returned (.map (some b)) ∧ w'.ownsMap Try.prog 3 (unitElem (H := Unit)) b n D ∧ DownRel l D ∧ n ≤ l.length) ∧ Below w.heap.size w w'

set_option maxHeartbeats 4000000 in
theorem down_any (w : World) (B : Nat) (A : Option Addr) (c : Nat) (l : List Tc) (hB : B ≤ w.heap.size) (hl : TsAt w B A l) (hw : ∀ x ∈ l, x.wf) (hc : l.length ≤ 65536) :
    Calls Try.prog 46 #[.slice A l.length c] w (DownTo l w) := by
  have HW := Lib.hid hw
  have HL := Lib.hid (hl.more hB)
  have HZ := Lib.hid (zeroU)
  clear hl hw hB
  unfold DownTo
  have hmm := @run_makeMap Try.prog
  go_enter Try.func46, Try.ntmps46
  go_wp2_with fail
  have hm0 : (w.alloc (.map #[] 0)).ownsMap Try.prog 3 (unitElem (H := Unit)) w.heap.size 0 (.map []) := World.ownsMap_made _ _ _ _
  have hb0 : Below w.heap.size w (w.alloc (.map #[] 0)) := (Below.refl _ _).alloc (Nat.le_refl _) _
  have HM0 := Lib.hid hm0
  have HB0 := Lib.hid hb0
  clear hm0 hb0 hmm
  go_loopw [9] (fun i wr => ∃ k : Nat, k ≤ l.length ∧ i = .int .i64 k ∧ (∃ D, DownRel (l.take k) D ∧ wr.ownsMap Try.prog 3 (unitElem (H := Unit)) w.heap.size k D) ∧ Below w.heap.size w wr) (fun i _ => l.length - (intOf i).toNat)
  case atStart => exact ⟨0, Nat.zero_le _, rfl, ⟨_, DownRel.start, HM0.out⟩, HB0.out⟩
  case round =>
    rename World => wr
    obtain ⟨k, hk, rfl, ⟨D, hD, hm⟩, hb⟩ := hrel
    have HD := Lib.hid hD
    have HM := Lib.hid hm
    have HB := Lib.hid hb
    clear hD hm hb HM0 HB0
    by_cases hlt : k < l.length
    · obtain ⟨b, o, hA, hb1, hat⟩ := HL.out.at_ (by omega)
      have hev := (hat k hlt).below HB.out hb1
      have hbl : b < wr.heap.size := by have := HB.out.size; omega
      have h1s : w.heap.size ≤ wr.heap.size := HB.out.size
      have HQ := Lib.hid (HW.out _ (getD_mem tcZ l k hlt))
      have HOn := Lib.hid (fun h1 h2 => HD.out.on hlt h1 h2)
      have HOff := Lib.hid (fun h1 h2 => HD.out.off hlt h1 h2)
      have HNo := Lib.hid (fun h1 => HD.out.none hlt h1)
      clear hat HW HD
      subst hA
      generalize l.getD k tcZ = y at *
      obtain ⟨t, kd, ky, n⟩ := y
      obtain ⟨c0, c1, c2, c3⟩ := hev
      simp only at c0 c1 c2 c3 HOn HOff HNo
      have hkey : keyOf Try.prog 3 (.int .i64 ky) = some (.int .i64 ky) := keyOf_int_mk Try.underlying3 (WalkArith.wf_i64 (by have := HQ.out.key; simp only at this; omega))
      have HKey := Lib.hid hkey
      clear hkey
      go_upto_region 6 with fail
      obtain ⟨hBx, hQ, hltx⟩ := TB.boxed (q := ⟨t, kd, ky, n⟩) (Below.refl (wr.alloc (tcO ⟨t, kd, ky, n⟩)).heap.size (wr.alloc (tcO ⟨t, kd, ky, n⟩)))
      have hmx := HM.out.alloc (tcO ⟨t, kd, ky, n⟩)
      simp only [tcO] at hBx hQ hltx hmx
      generalize wr.alloc (.cells #[.int .i64 t, .int .i64 kd, .int .i64 ky, .bool n] 45) = wx at *
      have HBx := Lib.hid (HB.out.trans (hBx.mono h1s))
      have HMx := Lib.hid hmx
      obtain ⟨d0, d1, d2, d3⟩ := hQ
      simp only at d0 d1 d2 d3
      clear hBx hmx HB HM c0 c1 c2 c3 hbl
      by_cases h1 : kd = 1
      · subst h1
        cases n with
        | true =>
          have HN := Lib.hid (HOn.out rfl rfl)
          clear HOn HOff HNo
          go_wp2_with (at_mapUpdate; refine wpList_mapUpdate_own _ rfl _ _ _ 69 rfl 3 70 keyedI Try.underlying69 _ w.heap.size k D rfl HMx.out (by unfold maxLen; omega) _ _ _ rfl rfl HKey.out _ [] unitElem_mk ?_; intro w7 hm7 hg7; have HM7 := Lib.hid hm7; have HB7 := Lib.hid (HBx.out.grown hg7 HBx.out.size (fun j e => by obtain rfl := Option.some.inj e; exact Nat.le_refl _)); clear hm7 hg7)
          exact ⟨⟨k + 1, by omega, by go_num, ⟨_, HN.out, HM7.out⟩, HB7.out⟩, by simp [intOf]; omega⟩
        | false =>
          have HN := Lib.hid (HOff.out rfl rfl)
          clear HOn HOff HNo
          go_wp2_with (at_delete; refine wpList_delete_own _ rfl _ _ 69 3 rfl 70 keyedI Try.underlying69 _ w.heap.size k D rfl HMx.out _ _ rfl HKey.out ?_; intro w7 hm7 hg7; have HM7 := Lib.hid (hm7.mono (Nat.le_succ k)); have HB7 := Lib.hid (HBx.out.grown hg7.grown HBx.out.size (fun j e => by obtain rfl := Option.some.inj e; exact Nat.le_refl _)); clear hm7 hg7)
          exact ⟨⟨k + 1, by omega, by go_num, ⟨_, HN.out, HM7.out⟩, HB7.out⟩, by simp [intOf]; omega⟩
      · have HN := Lib.hid (HNo.out h1)
        have hn : (kd != 1) = true := by simpa using h1
        clear HOn HOff HNo
        go_wp2_with fail
        exact ⟨⟨k + 1, by omega, by go_num, ⟨_, HN.out, HMx.out.mono (Nat.le_succ k)⟩, HBx.out⟩, by simp [intOf]; omega⟩
    · obtain rfl : k = l.length := by omega
      have HD2 : Hid (DownRel l D) := Lib.hid (by have := HD.out; rwa [List.take_length] at this)
      clear HD HW HL HZ
      go_wp2_with fail
      go_ret
      exact ⟨⟨_, _, D, rfl, HM.out, HD2.out, Nat.le_refl _⟩, HB.out⟩

/-- A row's byte, a port's byte: five bits that are clear where a key is down, and three more. -/
def byte5 (x0 x1 x2 x3 x4 e : Bool) : Int := 160 + (if e then 64 else 0) + (if x0 then 0 else 1) + (if x1 then 0 else 2) + (if x2 then 0 else 4) + (if x3 then 0 else 8) + (if x4 then 0 else 16)
def byteV (c : Nat → Bool) (e : Bool) : Int := byte5 (c 0) (c 1) (c 2) (c 3) (c 4) e

/-- A row's byte after its first k bits. -/
def rowK (f : Nat → Bool) : Nat → Int
  | 0 => 255
  | k + 1 => if f k then rowK f k - 2 ^ k else rowK f k
theorem rowK_all (f : Nat → Bool) : rowK f 5 = byteV f true := by
  unfold byteV byte5
  simp only [rowK]
  cases f 0 <;> cases f 1 <;> cases f 2 <;> cases f 3 <;> cases f 4 <;> rfl

theorem rowK_clear (f : Nat → Bool) (k : Nat) (hk : k < 5) : bits .andNot .u8 (rowK f k) (2 ^ k % 256) = rowK f k - 2 ^ k := by
  have h : k = 0 ∨ k = 1 ∨ k = 2 ∨ k = 3 ∨ k = 4 := by omega
  rcases h with rfl | rfl | rfl | rfl | rfl <;> simp only [rowK]
  · decide
  · cases f 0 <;> decide
  · cases f 0 <;> cases f 1 <;> decide
  · cases f 0 <;> cases f 1 <;> cases f 2 <;> decide
  · cases f 0 <;> cases f 1 <;> cases f 2 <;> cases f 3 <;> decide

set_option maxHeartbeats 4000000 in
theorem rowbyte_any (w : World) (b n : Nat) (l : List Tc) (D : DataW Unit) (hm : w.ownsMap Try.prog 3 (unitElem (H := Unit)) b n D) (hD : DownRel l D) (r : Nat) (hr : r < 8) :
    Calls Try.prog 49 #[.map (some b), .int .i64 r] w fun e w' => e = .returned (.int .u8 (byteV (fun j => downB l (5 * r + j)) true)) ∧ Below w.heap.size w w' := by
  have hk : ∀ j : Int, -9223372036854775808 ≤ j → j ≤ 9223372036854775807 → keyOf Try.prog 3 (.int .i64 j) = some (.int .i64 j) := fun j h0 h1 => keyOf_int_mk Try.underlying3 (WalkArith.wf_i64 ⟨h0, h1⟩)
  have HK := Lib.hid hk
  rw [← rowK_all]
  obtain ⟨f, hf⟩ : ∃ f : Nat → Bool, ∀ j : Nat, downB l (5 * r + j) = f j := ⟨_, fun j => rfl⟩
  have hff : (fun j : Nat => downB l (5 * r + j)) = f := funext hf
  rw [hff]
  have HH := Lib.hid (fun j : Nat => (hD.2 (5 * r + j)).trans (hf j))
  clear hf hff
  have HM := Lib.hid hm
  have HZ := Lib.hid zeroU
  clear hD hm hk
  go_enter Try.func49, Try.ntmps49
  go_wp2_with fail
  go_loopw [5, 9] (fun v i wr => ∃ k : Nat, k ≤ 5 ∧ i = .int .i64 k ∧ v = .int .u8 (rowK f k) ∧ wr.ownsMap Try.prog 3 (unitElem (H := Unit)) b n D ∧ Below w.heap.size w wr) (fun _ i _ => 5 - (intOf i).toNat)
  case atStart => exact ⟨0, by omega, rfl, rfl, HM.out, Below.refl _ _⟩
  case round =>
    rename World => wr
    obtain ⟨k, hk, rfl, rfl, hm, hb⟩ := hrel
    have HMr := Lib.hid hm
    have HB := Lib.hid hb
    clear hm hb HM
    by_cases hlt : k < 5
    · have HKk := Lib.hid (HK.out (r * 5 + k) (by omega) (by omega))
      have hh := HH.out k
      rw [show 5 * (r : Int) + (k : Nat) = r * 5 + k by omega] at hh
      have HHk := Lib.hid hh
      clear hh
      clear HH HK
      have HS := Lib.hid (show rowK f (k + 1) = if f k then rowK f k - 2 ^ k else rowK f k from rfl)
      have HC := Lib.hid (rowK_clear f k hlt)
      generalize rowK f k = v at *
      cases hfk : f k with
      | true =>
        rw [hfk] at HHk HS
        go_wp2_with (at_lookup; (refine wpList_lookup_own_unit _ rfl _ _ 69 rfl 3 70 keyedI Try.underlying69 (HZ.out _) b n D rfl HMr.out _ _ rfl HKk.out ?_; rw [HHk.out]))
        exact ⟨⟨k + 1, by omega, by go_num, by rw [HC.out, HS.out, if_pos rfl], HMr.out.alloc _, HB.out.alloc HB.out.size _⟩, by simp [intOf]; omega⟩
      | false =>
        rw [hfk] at HHk HS
        go_wp2_with (at_lookup; refine wpList_lookup_own_unit _ rfl _ _ 69 rfl 3 70 keyedI Try.underlying69 (HZ.out _) b n D rfl HMr.out _ _ rfl HKk.out ?_; rw [HHk.out])
        exact ⟨⟨k + 1, by omega, by go_num, by rw [HS.out, if_neg (by simp)], HMr.out.alloc _, HB.out.alloc HB.out.size _⟩, by simp [intOf]; omega⟩
    · obtain rfl : k = 5 := by omega
      go_wp2_with fail
      go_ret
      exact ⟨rfl, HB.out⟩
end Go.Proofs.Ytofenjloieagaaa
