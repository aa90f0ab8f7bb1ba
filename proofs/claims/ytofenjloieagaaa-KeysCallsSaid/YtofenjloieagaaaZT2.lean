/-  -/
import Derived.Test.YtofenjloieagaaaZT1
import Derived.RegionTactic
import Derived.Deep.DeepCutAuto
namespace Go.Proofs.Ytofenjloieagaaa
open Go.RowKit
set_option linter.unusedSimpArgs false
set_option linter.unusedVariables false
set_option maxRecDepth 100000

/-- How many touches of a list have times up to t. -/
def untilN (l : List Tc) (t : Int) : Nat := if Good l then (l.takeWhile (fun x => decide (x.time ≤ t))).length else 0
theorem tw_len {α : Type} (z : α) (p : α → Bool) : ∀ (l : List α) (n : Nat), n ≤ l.length → (∀ i, i < n → p (l.getD i z) = true) → (n < l.length → p (l.getD n z) = false) → (l.takeWhile p).length = n
  | [], n, h, _, _ => by simp at h; simp [h]
  | x :: l, 0, _, _, h => by
    have := h (by simp)
    simp at this
    simp [List.takeWhile_cons, this]
  | x :: l, n + 1, h, h1, h2 => by
    have hx := h1 0 (by omega)
    simp at hx
    have := tw_len z p l n (by simpa using h) (fun i hi => by have := h1 (i + 1) (by omega); simpa using this) (fun hn => by have := h2 (by simpa using hn); simpa using this)
    simp [List.takeWhile_cons, hx, this]
theorem tw_at {α : Type} (z : α) (p : α → Bool) : ∀ (l : List α), (l.takeWhile p).length ≤ l.length ∧ (∀ i, i < (l.takeWhile p).length → p (l.getD i z) = true) ∧ ((l.takeWhile p).length < l.length → p (l.getD (l.takeWhile p).length z) = false)
  | [] => by simp
  | x :: l => by
    obtain ⟨h0, h1, h2⟩ := tw_at z p l
    cases hx : p x with
    | false => simp [List.takeWhile_cons, hx]
    | true =>
      simp only [List.takeWhile_cons, hx, if_true, List.length_cons]
      refine ⟨by omega, fun i hi => ?_, fun hn => ?_⟩
      · cases i with
        | zero => simpa using hx
        | succ i => have := h1 i (by omega); simpa using this
      · have := h2 (by omega); simpa using this
theorem untilN_le (l : List Tc) (t : Int) : untilN l t ≤ l.length := by
  unfold untilN
  split
  · exact (tw_at tcZ _ l).1
  · omega
theorem untilN_in {l : List Tc} {t : Int} (hg : Good l) : (∀ i, i < untilN l t → (l.getD i tcZ).time ≤ t) ∧ (untilN l t < l.length → t < (l.getD (untilN l t) tcZ).time) := by
  have h := tw_at tcZ (fun x : Tc => decide (x.time ≤ t)) l
  have e : untilN l t = (l.takeWhile (fun x => decide (x.time ≤ t))).length := by unfold untilN; rw [if_pos hg]
  rw [e]
  refine ⟨fun i hi => of_decide_eq_true (h.2.1 i hi), fun hn => ?_⟩
  have := of_decide_eq_false (h.2.2 hn)
  omega
theorem untilN_is {l : List Tc} {t : Int} (hg : Good l) {n : Nat} (hn : n ≤ l.length) (h1 : ∀ i, i < n → (l.getD i tcZ).time ≤ t) (h2 : n < l.length → t < (l.getD n tcZ).time) : untilN l t = n := by
  unfold untilN
  rw [if_pos hg]
  exact tw_len tcZ _ l n hn (fun i hi => decide_eq_true (h1 i hi)) (fun hl => decide_eq_false (by have := h2 hl; omega))
theorem untilN_no {l : List Tc} {t : Int} (hg : ¬ Good l) : untilN l t = 0 := by unfold untilN; rw [if_neg hg]
theorem good_mono {l : List Tc} {k : Nat} (hg : GoodTo l k) : ∀ b, b < k → ∀ a, a ≤ b → (l.getD a tcZ).time ≤ (l.getD b tcZ).time
  | 0, _, a, ha => by
    obtain rfl : a = 0 := by omega
    exact Int.le_refl _
  | b + 1, hb, a, ha => by
    by_cases e : a = b + 1
    · rw [e]; exact Int.le_refl _
    · have h1 := good_mono hg b (by omega) a (by omega)
      have h2 := (hg (b + 1) hb).2
      rw [lastT_next] at h2
      omega
theorem good_low {l : List Tc} {k : Nat} (hg : GoodTo l k) : ∀ b, b < k → 0 ≤ (l.getD b tcZ).time := fun b hb => by
  have h1 := good_mono hg b hb 0 (by omega)
  have h2 := (hg 0 (by omega)).2
  unfold lastT at h2
  simp only [if_true] at h2
  omega

theorem tc_take_more {l : List Tc} {k : Nat} (hk : k < l.length) : l.take (k + 1) = l.take k ++ [l.getD k tcZ] := by
  rw [List.take_add_one, List.getElem?_eq_getElem hk]
  simp [List.getD_eq_getElem?_getD, hk]

set_option maxHeartbeats 2000000 in
theorem until_asks (w : World) (B bx bt : Nat) (A : Option Addr) (c : Nat) (l : List Tc) (t : Int) (i : Nat) (hi : i < l.length) (hB : B ≤ w.heap.size) (hl : TsAt w B A l)
    (hx : w.cell? ⟨bx, 0, none⟩ = some (.slice A l.length c)) (ht : w.cell? ⟨bt, 0, none⟩ = some (.int .i64 t)) :
    Calls Try.prog 51 (#[.int .i64 i] ++ #[.pointer (some ⟨bx, 0, none⟩), .pointer (some ⟨bt, 0, none⟩)]) w fun e w' => e = .returned (.bool (decide (t < (l.getD i tcZ).time))) ∧ Below w.heap.size w w' := by
  obtain ⟨b, o, hA, hb1, hat⟩ := hl.at_ (by omega)
  have hev := hat i hi
  clear hat hl
  subst hA
  generalize l.getD i tcZ = y at *
  obtain ⟨c0, c1, c2, c3⟩ := hev
  have hiz : (i : Int) < (l.length : Int) := by omega
  go_enter Try.func51, Try.ntmps51
  go_wp2
  go_region
  all_goals go_wp2
  all_goals go_ret
  all_goals exact ⟨by simp, (Below.refl _ _).drew⟩

set_option maxHeartbeats 4000000 in
theorem search_any (w : World) (B bx bt : Nat) (A : Option Addr) (c : Nat) (l : List Tc) (t : Int) (hB : B ≤ w.heap.size) (hbx : bx < w.heap.size) (hbt : bt < w.heap.size) (hl : TsAt w B A l) (hg : Good l)
    (hx : w.cell? ⟨bx, 0, none⟩ = some (.slice A l.length c)) (ht : w.cell? ⟨bt, 0, none⟩ = some (.int .i64 t)) :
    Calls Try.prog 50 #[.int .i64 l.length, .func (.func 51) #[] #[.pointer (some ⟨bx, 0, none⟩), .pointer (some ⟨bt, 0, none⟩)]] w fun e w' => e = .returned (.int .i64 (untilN l t)) ∧ Below w.heap.size w w' := by
  have hc : l.length ≤ 65536 := hg.1
  have HC := Lib.hid (fun (i : Nat) (hi : i < l.length) (wr : World) (hb : Below w.heap.size w wr) => until_asks wr B bx bt A c l t i hi (by have := hb.size; omega) (hl.below (hb.mono hB)) ((hb.cell hbx).trans hx) ((hb.cell hbt).trans ht))
  have HI := Lib.hid (fun (n : Nat) (hn : n ≤ l.length) h1 h2 => untilN_is (t := t) hg (n := n) hn h1 h2)
  have HM := Lib.hid (good_mono hg.2)
  clear hl hx ht hg
  generalize untilN l t = un at *
  go_enter Try.func50, Try.ntmps50
  go_wp2_with fail
  go_loopw [5, 6] (fun s5 s6 wr => ∃ lo hi : Nat, s5 = .int .i64 lo ∧ s6 = .int .i64 hi ∧ lo ≤ hi ∧ hi ≤ l.length ∧ Hid ((∀ i, i < lo → (l.getD i tcZ).time ≤ t) ∧ (hi < l.length → t < (l.getD hi tcZ).time)) ∧ Below w.heap.size w wr) (fun s5 s6 _ => (intOf s6).toNat - (intOf s5).toNat)
  case atStart => exact ⟨0, l.length, rfl, rfl, Nat.zero_le _, Nat.le_refl _, Lib.hid ⟨fun i h => by omega, fun h => by omega⟩, Below.refl _ _⟩
  case round =>
    rename World => wr
    obtain ⟨lo, hi, rfl, rfl, hle, hhi, HR, hb⟩ := hrel
    have HB := Lib.hid hb
    clear hb
    by_cases hlt : lo < hi
    · have hc := HC.out ((lo + hi) / 2) (by omega) wr HB.out
      rw [show (((lo + hi) / 2 : Nat) : Int) = ((lo : Int) + (hi : Int)) / 2 by omega] at hc
      have HH := Lib.hid hc
      clear hc HC HI
      by_cases hp : t < (l.getD ((lo + hi) / 2) tcZ).time
      · have HP := Lib.hid hp
        rw [decide_eq_true hp] at HH
        clear hp
        go_wp2_with fail
        refine HH.out.mono ?_
        rintro e w1 ⟨rfl, hb⟩
        have HB1 := Lib.hid (HB.out.trans (hb.mono HB.out.size))
        clear hb HH
        go_wp2_with fail
        exact ⟨⟨lo, (lo + hi) / 2, rfl, by go_num, by omega, by omega, Lib.hid ⟨HR.out.1, fun _ => HP.out⟩, HB1.out⟩, by simp [intOf]; omega⟩
      · have HP := Lib.hid hp
        rw [decide_eq_false hp] at HH
        clear hp
        go_wp2_with fail
        refine HH.out.mono ?_
        rintro e w1 ⟨rfl, hb⟩
        have HB1 := Lib.hid (HB.out.trans (hb.mono HB.out.size))
        clear hb HH
        go_wp2_with fail
        exact ⟨⟨(lo + hi) / 2 + 1, hi, by go_num, rfl, by omega, by omega, Lib.hid ⟨fun j hj => by
          have := HM.out ((lo + hi) / 2) (by omega) j (by omega)
          have := HP.out
          omega, HR.out.2⟩, HB1.out⟩, by simp [intOf]; omega⟩
    · obtain rfl : hi = lo := by omega
      have HIo := Lib.hid (HI.out hi hhi HR.out.1 HR.out.2)
      clear HI HC HR HM
      go_wp2_with fail
      go_ret
      exact ⟨by rw [HIo.out]; rfl, HB.out⟩

set_option maxHeartbeats 2000000 in
theorem until_any (w : World) (A : Option Addr) (c : Nat) (l : List Tc) (t : Int) (hl : TsAt w w.heap.size A l) (hc : l.length ≤ c ∧ c ≤ maxLen) :
    Calls Try.prog 22 #[.slice A l.length c, .int .i64 t] w fun e w' => e = .returned (.int .i64 (untilN l t)) ∧ Below w.heap.size w w' := by
  obtain ⟨W0, hW0⟩ : ∃ W0, W0 = (w.alloc (.cells #[.slice A l.length c] 22)).alloc (.cells #[.int .i64 t] 2) := ⟨_, rfl⟩
  have hsz : W0.heap.size = w.heap.size + 2 := by rw [hW0]; simp
  have hB0 : Below w.heap.size w W0 := by rw [hW0]; exact ((Below.refl _ w).alloc (Nat.le_refl _) _).alloc (by simp) _
  have ca : W0.cell? ⟨w.heap.size, 0, none⟩ = some (.slice A l.length c) := by
    rw [hW0, ((Below.refl (w.heap.size + 1) (w.alloc (.cells #[.slice A l.length c] 22))).alloc (by simp) _).cell (by simp), World.cell?_alloc_at _ _ _ _ rfl]; rfl
  have cx : W0.cell? ⟨w.heap.size + 1, 0, none⟩ = some (.int .i64 t) := by
    rw [hW0, World.cell?_alloc_at _ _ _ _ (by simp)]; rfl
  have h01 : w.heap.size < W0.heap.size := by omega
  have h02 : w.heap.size + 1 < W0.heap.size := by omega
  have HCk := Lib.hid (check_any W0 A c l (hl.on hB0 (by omega)) hc)
  have HB0 := Lib.hid hB0
  have HS := Lib.hid (fun (hg : Good l) (wr : World) (hb : Below W0.heap.size W0 wr) => search_any wr W0.heap.size w.heap.size (w.heap.size + 1) A c l t hb.size (by have := hb.size; omega) (by have := hb.size; omega) ((hl.on hB0 (by omega)).below hb) hg ((hb.cell h01).trans ca) ((hb.cell h02).trans cx))
  have HE := Lib.hid (@errL_zero l)
  have HN := Lib.hid (@untilN_no l t)
  have hcx : ∀ wr, Below W0.heap.size W0 wr → wr.cell? ⟨w.heap.size, 0, none⟩ = some (.slice A l.length c) := fun wr hb => (hb.cell h01).trans ca
  have HX := Lib.hid hcx
  clear hl hc hB0 cx hcx
  have HW := Lib.hid hW0
  clear hW0
  generalize hne : errL l = er at *
  clear hne
  go_enter Try.func22, Try.ntmps22
  go_wp2_with fail
  rw [← HW.out]
  refine HCk.out.mono ?_
  rintro e w1 ⟨rfl, hb⟩
  have c1 := HX.out w1 hb
  by_cases hg : Good l
  · obtain rfl := HE.out.2 hg
    have HSo := Lib.hid (HS.out hg w1 hb)
    have HB1 := Lib.hid (HB0.out.trans (hb.mono HB0.out.size))
    clear HS HE HN hb HW ca
    go_wp2_with fail
    refine HSo.out.mono ?_
    rintro e w2 ⟨rfl, hb⟩
    have HB2 := Lib.hid (HB1.out.trans (hb.mono HB1.out.size))
    clear hb
    go_wp2_with fail
    go_ret
    exact ⟨rfl, HB2.out⟩
  · have hn : (er != 0) = true := by
      have : ¬ er = 0 := fun h => hg (HE.out.1 h)
      simpa using this
    have HB1 := Lib.hid (HB0.out.trans (hb.mono HB0.out.size))
    have HNo := Lib.hid (HN.out hg)
    clear HS HE HN hb HW ca
    go_wp2_with fail
    go_ret
    exact ⟨by rw [HNo.out]; rfl, HB1.out⟩
end Go.Proofs.Ytofenjloieagaaa
