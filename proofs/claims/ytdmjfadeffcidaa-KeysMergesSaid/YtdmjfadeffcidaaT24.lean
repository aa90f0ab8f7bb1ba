
/- slices: insertion sort. -/
import Derived.Test.YtdmjfadeffcidaaT23
namespace Go.Proofs.Ytdmjfadeffcidaa
open Go.RowKit
set_option linter.unusedSimpArgs false
set_option linter.unusedVariables false
set_option maxRecDepth 100000

/-- The touches of each time stand in the same order. -/
def Same (M N : List Tc) : Prop := ∀ t : Int, M.filter (fun x => x.time == t) = N.filter (fun x => x.time == t)
theorem Same.refl (M : List Tc) : Same M M := fun _ => rfl
theorem Same.trans {A B C : List Tc} (h : Same A B) (k : Same B C) : Same A C := fun t => (h t).trans (k t)
theorem Same.symm {A B : List Tc} (h : Same A B) : Same B A := fun t => (h t).symm
theorem Same.app {A B C D : List Tc} (h : Same A B) (k : Same C D) : Same (A ++ C) (B ++ D) := fun t => by rw [List.filter_append, List.filter_append, h t, k t]
theorem Same.cancel {P S S' Q : List Tc} (h : Same (P ++ (S ++ Q)) (P ++ (S' ++ Q))) : Same S S' := fun t => by
  have := h t
  simp only [List.filter_append] at this
  exact List.append_cancel_right (List.append_cancel_left this)
theorem Same.mem {A B : List Tc} (h : Same A B) {x : Tc} (hx : x ∈ A) : x ∈ B := by
  have : x ∈ A.filter (fun y => y.time == x.time) := List.mem_filter.2 ⟨hx, by simp⟩
  rw [h x.time] at this
  exact (List.mem_filter.1 this).1
theorem Same.swap {x y : Tc} (h : ¬ x.time = y.time) (Z W : List Tc) : Same (Z ++ (y :: x :: W)) (Z ++ (x :: y :: W)) := by
  refine Same.app (Same.refl Z) fun t => ?_
  simp only [List.filter_cons]
  by_cases h1 : x.time = t
  · have h2 : ¬ y.time = t := fun e => h (h1.trans e.symm)
    simp [h1, h2]
  · by_cases h2 : y.time = t <;> simp [h1, h2]
def Rising (M : List Tc) : Prop := M.Pairwise (fun x y => x.time ≤ y.time)
theorem swap_adj (Z W : List Tc) (x y : Tc) : ((Z ++ (y :: x :: W)).set (Z.length + 1) y).set Z.length x = Z ++ (x :: y :: W) := by
  rw [List.set_append_right _ _ (by omega), show Z.length + 1 - Z.length = 1 by omega, List.set_append_right _ _ (by omega), Nat.sub_self]
  rfl
theorem mid_getD (Z W : List Tc) (x : Tc) : (Z ++ (x :: W)).getD Z.length tcZ = x := by
  rw [app_getD, if_neg (by omega), Nat.sub_self]; rfl

/-- The part of a row from a to b is sorted, those of a time in their order; all else stands. -/
def Sorts (D N : List Tc) (a b : Nat) : Prop := ∃ P S S' Q : List Tc, D = P ++ (S ++ Q) ∧ N = P ++ (S' ++ Q) ∧ P.length = a ∧ P.length + S.length = b ∧ S'.length = S.length ∧ Same S S' ∧ Rising S'
theorem Sorts.len {D N : List Tc} {a b : Nat} (h : Sorts D N a b) : N.length = D.length := by
  obtain ⟨P, S, S', Q, rfl, rfl, _, _, h, _⟩ := h
  simp only [List.length_append, h]

/-- Between two rounds of the outer loop. -/
structure InO (D N : List Tc) (a i : Nat) : Prop where
  is : ∃ P S R : List Tc, N = P ++ (S ++ R) ∧ P = D.take a ∧ R = D.drop i ∧ P.length = a ∧ a + S.length = i ∧ Rising S ∧ Same D N
/-- Between two rounds of the inner loop. -/
structure InI (D N : List Tc) (a i j : Nat) : Prop where
  is : ∃ P A B R x, N = P ++ (A ++ (x :: (B ++ R))) ∧ P = D.take a ∧ R = D.drop (i + 1) ∧ P.length = a ∧ a + A.length = j ∧ j + B.length = i ∧ Rising (A ++ B) ∧ (∀ y ∈ B, x.time < y.time) ∧ Same D N
theorem InO.start {D : List Tc} {a : Nat} (h : a < D.length) : InO D D a (a + 1) := by
  refine ⟨⟨D.take a, [D.getD a tcZ], D.drop (a + 1), ?_, rfl, rfl, by simp; omega, by simp, List.pairwise_singleton _ _, Same.refl D⟩⟩
  have : D.getD a tcZ = D[a] := getD_at tcZ D a h
  rw [this]
  have e1 : D = D.take a ++ D.drop a := (List.take_append_drop a D).symm
  conv => lhs; rw [e1]
  rw [List.drop_eq_getElem_cons h]
  rfl
theorem InO.into {D N : List Tc} {a i : Nat} (h : InO D N a i) (hi : i < D.length) : InI D N a i i := by
  obtain ⟨P, S, R, rfl, h1, rfl, h2, h3, h4, h5⟩ := h.is
  refine ⟨⟨P, S, [], D.drop (i + 1), D[i], ?_, h1, rfl, h2, h3, by simp, by simpa using h4, fun y hy => (by cases hy), h5⟩⟩
  rw [List.drop_eq_getElem_cons hi]
  rfl
theorem InI.step {D N : List Tc} {a i q : Nat} (h : InI D N a i (q + 1)) (hq : a < q + 1) (hlt : (N.getD (q + 1) tcZ).time < (N.getD q tcZ).time) : InI D ((N.set (q + 1) (N.getD q tcZ)).set q (N.getD (q + 1) tcZ)) a i q := by
  obtain ⟨P, A, B, R, x, rfl, h1, h2, h3, h4, h5, h6, h7, h8⟩ := h.is
  have hne : A ≠ [] := fun e => by rw [e] at h4; simp at h4; omega
  obtain ⟨A', y, rfl⟩ : ∃ A' y, A = A' ++ [y] := ⟨A.dropLast, A.getLast hne, (List.dropLast_concat_getLast hne).symm⟩
  rw [List.length_append, List.length_singleton] at h4
  have e : P ++ (A' ++ [y] ++ (x :: (B ++ R))) = (P ++ A') ++ (y :: x :: (B ++ R)) := by simp only [List.append_assoc, List.singleton_append]
  have hZ : (P ++ A').length = q := by rw [List.length_append]; omega
  rw [e] at hlt h8 ⊢
  have gy : ((P ++ A') ++ (y :: x :: (B ++ R))).getD q tcZ = y := by rw [← hZ]; exact mid_getD _ _ _
  have gx : ((P ++ A') ++ (y :: x :: (B ++ R))).getD (q + 1) tcZ = x := by
    have e2 : (P ++ A') ++ (y :: x :: (B ++ R)) = (P ++ A' ++ [y]) ++ (x :: (B ++ R)) := by simp only [List.append_assoc, List.singleton_append]
    have hZ2 : (P ++ A' ++ [y]).length = q + 1 := by rw [List.length_append, hZ]; rfl
    rw [e2, ← hZ2]; exact mid_getD _ _ _
  rw [gx, gy] at hlt ⊢
  have e3 := swap_adj (P ++ A') (B ++ R) x y
  rw [hZ] at e3
  rw [e3]
  refine ⟨⟨P, A', y :: B, R, x, by simp only [List.append_assoc, List.cons_append], h1, h2, h3, by omega, by simp; omega, ?_, ?_, ?_⟩⟩
  · simpa only [List.append_assoc, List.singleton_append] using h6
  · intro z hz
    rcases List.mem_cons.1 hz with rfl | hz
    · exact hlt
    · exact h7 z hz
  · exact h8.trans (Same.swap (by omega) _ _)
theorem InI.stop {D N : List Tc} {a i j : Nat} (h : InI D N a i j) (hs : a < j → ¬ (N.getD j tcZ).time < (N.getD (j - 1) tcZ).time) : InO D N a (i + 1) := by
  obtain ⟨P, A, B, R, x, rfl, h1, h2, h3, h4, h5, h6, h7, h8⟩ := h.is
  refine ⟨⟨P, A ++ (x :: B), R, by simp only [List.append_assoc, List.cons_append], h1, h2, h3, by simp; omega, ?_, h8⟩⟩
  obtain ⟨hA, hB, hAB⟩ := List.pairwise_append.1 h6
  refine List.pairwise_append.2 ⟨hA, List.pairwise_cons.2 ⟨fun y hy => Int.le_of_lt (h7 y hy), hB⟩, fun u hu v hv => ?_⟩
  rcases List.mem_cons.1 hv with rfl | hv
  · by_cases hne : A = []
    · rw [hne] at hu; cases hu
    · obtain ⟨A', y, rfl⟩ : ∃ A' y, A = A' ++ [y] := ⟨A.dropLast, A.getLast hne, (List.dropLast_concat_getLast hne).symm⟩
      rw [List.length_append, List.length_singleton] at h4
      have hs := hs (by omega)
      have e : P ++ (A' ++ [y] ++ (v :: (B ++ R))) = (P ++ A') ++ (y :: v :: (B ++ R)) := by simp only [List.append_assoc, List.singleton_append]
      have e2 : (P ++ A') ++ (y :: v :: (B ++ R)) = (P ++ A' ++ [y]) ++ (v :: (B ++ R)) := by simp only [List.append_assoc, List.singleton_append]
      have hZ : (P ++ A').length = j - 1 := by rw [List.length_append]; omega
      have hZ2 : (P ++ A' ++ [y]).length = j := by rw [List.length_append, hZ]; simp; omega
      rw [e] at hs
      have gy : ((P ++ A') ++ (y :: v :: (B ++ R))).getD (j - 1) tcZ = y := by rw [← hZ]; exact mid_getD _ _ _
      have gx : ((P ++ A') ++ (y :: v :: (B ++ R))).getD j tcZ = v := by rw [e2, ← hZ2]; exact mid_getD _ _ _
      rw [gx, gy] at hs
      have : u.time ≤ y.time := by
        rcases List.mem_append.1 hu with h | h
        · exact (List.pairwise_append.1 hA).2.2 u h y (List.mem_singleton.2 rfl)
        · obtain rfl := List.mem_singleton.1 h
          exact Int.le_refl _
      omega
  · exact hAB u hu v hv
theorem InO.sorts {D N : List Tc} {a b : Nat} (h : InO D N a b) (hb : b ≤ D.length) (hN : N.length = D.length) : Sorts D N a b := by
  obtain ⟨P, S, R, rfl, rfl, rfl, h3, h4, h5, h6⟩ := h.is
  have e : D = D.take a ++ ((D.drop a).take (b - a) ++ D.drop b) := by
    conv => lhs; rw [← List.take_append_drop a D, ← List.take_append_drop (b - a) (D.drop a), List.drop_drop, show a + (b - a) = b by omega]
  have hl : ((D.drop a).take (b - a)).length = b - a := by rw [List.length_take, List.length_drop]; omega
  refine ⟨D.take a, (D.drop a).take (b - a), S, D.drop b, e, rfl, h3, by omega, by omega, ?_, h5⟩
  rw [e] at h6
  refine Same.cancel (P := D.take a) (Q := D.drop b) ?_
  have e2 : (D.take a ++ ((D.drop a).take (b - a) ++ D.drop b)).take a = D.take a := by rw [← e]
  have e3 : (D.take a ++ ((D.drop a).take (b - a) ++ D.drop b)).drop b = D.drop b := by rw [← e]
  rw [e2, e3] at h6
  exact h6
theorem sorts_none {D : List Tc} {a : Nat} (h : a ≤ D.length) : Sorts D D a a :=
  ⟨D.take a, [], [], D.drop a, by simp, by simp, by simp; omega, by simp; omega, rfl, Same.refl _, List.Pairwise.nil⟩

abbrev lessV : Value := .func (.func 44) #[] #[]

set_option maxHeartbeats 8000000 in
theorem insertion_any (w : World) (g c L : Nat) (X : List Value) (D : List Tc) (h : SW w g X D) (hL : D.length = L) (hLc : L ≤ c) (hL1 : L ≤ 1000000) (a b : Nat) (hab : a ≤ b) (hbL : b ≤ L) :
    Calls Try.prog 76 #[.slice (some ⟨g, 0, none⟩) L c, .int .i64 a, .int .i64 b, lessV] w fun e w' => e = .returned (.tuple #[]) ∧ ∃ N, Sorts D N a b ∧ SW w' g X N ∧ Save (· = g) w w' := by
  have Hs0 := Lib.hid h
  have HDL := Lib.hid hL
  have hgl := h.lt
  clear h
  by_cases hab' : a < b
  case neg =>
    obtain rfl : a = b := by omega
    have HS := Lib.hid (sorts_none (D := D) (a := a) (by omega))
    clear hL
    go_enter Try.func76, Try.ntmps76
    go_wp2_with fail
    go_loopw [8] (fun i wr => i = .int .i64 ((a : Int) + 1) ∧ wr = w) (fun _ _ => 0)
    case atStart => exact ⟨rfl, rfl⟩
    case round =>
      obtain ⟨rfl, rfl⟩ := hrel
      go_wp2_with fail
      go_end0
      exact ⟨rfl, D, HS.out, Hs0.out, Save.refl _ _⟩
  case pos =>
  have HI0 := Lib.hid (InO.start (D := D) (a := a) (by omega))
  clear hL
  go_enter Try.func76, Try.ntmps76
  go_wp2_with fail
  go_loopw [8] (fun i wr => ∃ (k : Nat) (N : List Tc), a < k ∧ k ≤ b ∧ i = .int .i64 k ∧ SW wr g X N ∧ N.length = L ∧ InO D N a k ∧ Save (· = g) w wr) (fun i _ => b - (intOf i).toNat)
  case atStart => exact ⟨a + 1, D, by omega, by omega, rfl, Hs0.out, HDL.out, HI0.out, Save.refl _ _⟩
  case round =>
    rename World => wr
    obtain ⟨k, N, hak, hkb, rfl, hs, hNL, hin, hsv⟩ := hrel
    have HN := Lib.hid hs
    have HNL := Lib.hid hNL
    have HIN := Lib.hid hin
    have HV := Lib.hid hsv
    clear hs hNL hin hsv Hs0 HI0
    by_cases hkt : k < b
    · have HJ0 := Lib.hid (HIN.out.into (by rw [HDL.out]; omega))
      clear HIN
      go_wp2_with fail
      go_loopw [9] (fun jv wm => ∃ (j : Nat) (N : List Tc), a ≤ j ∧ j ≤ k ∧ jv = .int .i64 j ∧ SW wm g X N ∧ N.length = L ∧ InI D N a k j ∧ Save (· = g) w wm) (fun jv _ => (intOf jv).toNat)
      case atStart => exact ⟨k, N, by omega, Nat.le_refl _, rfl, HN.out, HNL.out, HJ0.out, HV.out⟩
      case round =>
        rename World => wm
        clear HN HNL HJ0 HV N
        obtain ⟨j, N, haj, hjk, rfl, hs, hNL, hin, hsv⟩ := hrel
        have HN := Lib.hid hs
        have HIN := Lib.hid hin
        have HV := Lib.hid hsv
        have hlt := hs.lt
        clear hs hin hsv
        by_cases hja : a < j
        · obtain ⟨q, hq⟩ : ∃ q, j = q + 1 := ⟨j - 1, by omega⟩
          have hxk : j < N.length := by omega
          have hyk : q < N.length := by omega
          have hTx := HN.out.tb hxk
          have hTy := HN.out.tb hyk
          have HStep : Hid ((N.getD j tcZ).time < (N.getD q tcZ).time → InI D ((N.set j (N.getD q tcZ)).set q (N.getD j tcZ)) a k q) := Lib.hid (by subst hq; exact fun hl => HIN.out.step hja hl)
          have HStop : Hid (¬ (N.getD j tcZ).time < (N.getD q tcZ).time → InO D N a (k + 1)) := Lib.hid (by subst hq; exact fun hl => HIN.out.stop (fun _ => hl))
          clear HIN
          obtain ⟨x, hx⟩ : ∃ x, N.getD j tcZ = x := ⟨_, rfl⟩
          obtain ⟨y, hy⟩ : ∃ y, N.getD q tcZ = y := ⟨_, rfl⟩
          rw [hx] at hTx
          rw [hy] at hTy
          rw [hx, hy] at HStep HStop
          have HXY := Lib.hid (And.intro hx hy)
          clear hx hy
          obtain ⟨c0, c1, c2, c3⟩ := hTx
          obtain ⟨d0, d1, d2, d3⟩ := hTy
          have x0 := fun p : M.Of (M.Base wm) => (p.ok.2.cell hlt).trans c0
          have x1 := fun p : M.Of (M.Base wm) => (p.ok.2.cell hlt).trans c1
          have x2 := fun p : M.Of (M.Base wm) => (p.ok.2.cell hlt).trans c2
          have x3 := fun p : M.Of (M.Base wm) => (p.ok.2.cell hlt).trans c3
          have y0 := fun p : M.Of (M.Base wm) => (p.ok.2.cell hlt).trans d0
          have y1 := fun p : M.Of (M.Base wm) => (p.ok.2.cell hlt).trans d1
          have y2 := fun p : M.Of (M.Base wm) => (p.ok.2.cell hlt).trans d2
          have y3 := fun p : M.Of (M.Base wm) => (p.ok.2.cell hlt).trans d3
          clear c0 c1 c2 c3 d0 d1 d2 d3
          have HC := Lib.hid (fun w => less17 x y w)
          have HCm := Lib.hid (cmpT_neg x.time y.time)
          unfold Tc.val at HC
          have ej : (j : Int) - 1 = q := by omega
          have hlj : j < L := by omega
          have hlq : q < L := by omega
          have wj : IntKind.i64.wrap (j : Int) = j := by rw [IntKind.wrap_i64]; omega
          have wq : IntKind.i64.wrap (q : Int) = q := by rw [IntKind.wrap_i64]; omega
          have HQ := Lib.hid hq
          clear hq
          generalize cmpT x.time y.time = cm at *
          go_upto_region 4 with fail
          refine M.region_ (by kernel_rfl) ?_
          refine M.seg_ [0, 1, 2, 3, 4, 5, 6, 7, 8, 9, 10, 11, 12, 13] 3 _ _ (M.Base.refl _) (by kernel_rfl) (by kernel_rfl) (by kernel_rfl) (by simp only [pickOps, mask, plain, List.getElem?_toArray, List.getElem?_cons_zero, List.getElem?_cons_succ, if_true, Bool.false_eq_true, if_false]; rfl) ?_
          repeat (go_big_quiet_step (fail))
          refine wpQuiet_nil ?_
          refine M.calm_ (i := 14) (.int .i64 cm) rfl (by kernel_rfl) (by kernel_rfl) (by kernel_rfl) (by kernel_rfl) ?_ ?_
          · intro wz sz
            unfold Oper.does
            go_simp
            exact (HC.out wz).mono fun e w' ⟨he, hw⟩ => ⟨_, he, rfl, Save.of_below hw⟩
          go_simp
          by_cases hxy : x.time < y.time
          · have hcm := HCm.out.trans (decide_eq_true hxy)
            have HI1 := Lib.hid (HStep.out hxy)
            clear HStep HStop hxy
            refine M.seg_ [15, 16] 0 _ _ (M.Base.refl _) (by kernel_rfl) (by kernel_rfl) (by kernel_rfl) (by simp only [pickOps, mask, plain, List.getElem?_toArray, List.getElem?_cons_zero, List.getElem?_cons_succ, if_true, Bool.false_eq_true, if_false]; rfl) ?_
            repeat (go_big_quiet_step (fail))
            refine wpQuiet_nil ?_
            refine M.end_ (by kernel_rfl) ?_
            intro wc sc
            have HNc := Lib.hid (HN.out.below sc.2 hlt)
            have HVc := Lib.hid (HV.out.trans (Save.of_below sc.2))
            have hltc : g < wc.heap.size := by have := sc.1; omega
            clear x0 x1 x2 x3 y0 y1 y2 y3 sc HN HV hcm HCm HC
            go_upto_region 6 with fail
            refine H.region_ (fun i => i == 9 || i == 13) (fun i => i == 15 || i == 17) (M.Base wc) (M.But wc g (fun o => ∃ N' : List Tc, N'.length = L ∧ SWo X N' o)) (M.closed_base _) (fun w' hw' => ⟨hltc, Save.of_below hw'.2, ⟨_, hNL, HNc.out.below hw'.2 hltc⟩⟩) (fun n => ⟨Nat.le_refl _, (Save.drawn _ wc n).all⟩) (by kernel_rfl) ?_
            refine H.any_ (i := 0) (.slice (some ⟨g, 0, none⟩) L c) rfl (by kernel_rfl) (by kernel_rfl) (by kernel_rfl) rfl (by kernel_rfl) ?_ ?_
            · intro wz sz
              unfold Oper.does
              go_simp
              try exact Save.refl _ _
            go_simp
            refine H.any_ (i := 1) (.int .i64 j) rfl (by kernel_rfl) (by kernel_rfl) (by kernel_rfl) rfl (by kernel_rfl) ?_ ?_
            · intro wz sz
              unfold Oper.does
              go_simp
              try exact Save.refl _ _
            go_simp
            refine H.any_ (i := 2) (.slice (some ⟨g, 0, none⟩) L c) rfl (by kernel_rfl) (by kernel_rfl) (by kernel_rfl) rfl (by kernel_rfl) ?_ ?_
            · intro wz sz
              unfold Oper.does
              go_simp
              try exact Save.refl _ _
            go_simp
            refine H.any_ (i := 3) (.int .i64 j) rfl (by kernel_rfl) (by kernel_rfl) (by kernel_rfl) rfl (by kernel_rfl) ?_ ?_
            · intro wz sz
              unfold Oper.does
              go_simp
              try exact Save.refl _ _
            go_simp
            refine H.any_ (i := 4) (.int .i64 q) rfl (by kernel_rfl) (by kernel_rfl) (by kernel_rfl) rfl (by kernel_rfl) ?_ ?_
            · intro wz sz
              unfold Oper.does
              go_simp
              try exact Save.refl _ _
            go_simp
            refine H.any_ (i := 5) (.slice (some ⟨g, 0, none⟩) L c) rfl (by kernel_rfl) (by kernel_rfl) (by kernel_rfl) rfl (by kernel_rfl) ?_ ?_
            · intro wz sz
              unfold Oper.does
              go_simp
              try exact Save.refl _ _
            go_simp
            refine H.any_ (i := 6) (.int .i64 j) rfl (by kernel_rfl) (by kernel_rfl) (by kernel_rfl) rfl (by kernel_rfl) ?_ ?_
            · intro wz sz
              unfold Oper.does
              go_simp
              try exact Save.refl _ _
            go_simp
            refine H.any_ (i := 7) (.int .i64 q) rfl (by kernel_rfl) (by kernel_rfl) (by kernel_rfl) rfl (by kernel_rfl) ?_ ?_
            · intro wz sz
              unfold Oper.does
              go_simp
              try exact Save.refl _ _
            go_simp
            refine H.any_ (i := 8) (.pointer (some ⟨g, q * 4, none⟩)) rfl (by kernel_rfl) (by kernel_rfl) (by kernel_rfl) rfl (by kernel_rfl) ?_ ?_
            · intro wz sz
              unfold Oper.does
              go_simp
              try exact Save.refl _ _
            go_simp
            refine H.calm_ (i := 9) (.agg #[.int .i64 y.time, .int .i64 y.what, .int .i64 y.key, .bool y.on]) rfl (by kernel_rfl) (by kernel_rfl) (by kernel_rfl) rfl (by kernel_rfl) (by kernel_rfl) ?_ ?_
            · intro wz sz
              have hT := (HNc.out.below sz.2 hltc).tb hyk
              rw [HXY.out.2] at hT
              obtain ⟨c0, c1, c2, c3⟩ := hT
              unfold Oper.does
              go_simp
              exact Save.refl _ _
            go_simp
            refine H.any_ (i := 10) (.slice (some ⟨g, 0, none⟩) L c) rfl (by kernel_rfl) (by kernel_rfl) (by kernel_rfl) rfl (by kernel_rfl) ?_ ?_
            · intro wz sz
              unfold Oper.does
              go_simp
              try exact Save.refl _ _
            go_simp
            refine H.any_ (i := 11) (.int .i64 j) rfl (by kernel_rfl) (by kernel_rfl) (by kernel_rfl) rfl (by kernel_rfl) ?_ ?_
            · intro wz sz
              unfold Oper.does
              go_simp
              try exact Save.refl _ _
            go_simp
            refine H.any_ (i := 12) (.pointer (some ⟨g, j * 4, none⟩)) rfl (by kernel_rfl) (by kernel_rfl) (by kernel_rfl) rfl (by kernel_rfl) ?_ ?_
            · intro wz sz
              unfold Oper.does
              go_simp
              try exact Save.refl _ _
            go_simp
            refine H.calm_ (i := 13) (.agg #[.int .i64 x.time, .int .i64 x.what, .int .i64 x.key, .bool x.on]) rfl (by kernel_rfl) (by kernel_rfl) (by kernel_rfl) rfl (by kernel_rfl) (by kernel_rfl) ?_ ?_
            · intro wz sz
              have hT := (HNc.out.below sz.2 hltc).tb hxk
              rw [HXY.out.1] at hT
              obtain ⟨c0, c1, c2, c3⟩ := hT
              unfold Oper.does
              go_simp
              exact Save.refl _ _
            go_simp
            refine H.any_ (i := 14) (.pointer (some ⟨g, j * 4, none⟩)) rfl (by kernel_rfl) (by kernel_rfl) (by kernel_rfl) rfl (by kernel_rfl) ?_ ?_
            · intro wz sz
              unfold Oper.does
              go_simp
              try exact Save.refl _ _
            go_simp
            refine H.store_ [15] (by kernel_rfl) (by simp) ?_
            intro i hi
            obtain rfl : i = 15 := by simpa using hi
            refine H.one_ rfl rfl (by intro t ht; simp only [Bool.or_eq_true, beq_iff_eq] at ht; rcases ht with rfl | rfl <;> kernel_rfl) (by kernel_rfl) ?_
            intro wz sz
            have hB : SW wz g X N := HNc.out.below sz.2 hltc
            obtain ⟨c0, c1, c2, c3⟩ := hB.tb (k := j) (by omega)
            have f0 := hB.free (j * 4)
            have f1 := hB.free (j * 4 + 1)
            have f2 := hB.free (j * 4 + 2)
            have f3 := hB.free (j * 4 + 3)
            unfold Oper.does
            go_simp
            refine ⟨M.But wc g (SWo X (N.set j y)), ⟨hltc, Save.trans (Save.of_below sz.2) (save_putT wz g j y), hB.put (by omega) y⟩, M.closed_but _ _ _, M.But.weaken (fun o ho => ⟨_, by simpa using hNL, ho⟩), ?_⟩
            clear c0 c1 c2 c3 f0 f1 f2 f3 hB sz
            go_simp
            refine H.any_ (i := 16) (.pointer (some ⟨g, q * 4, none⟩)) rfl (by kernel_rfl) (by kernel_rfl) (by kernel_rfl) rfl (by kernel_rfl) ?_ ?_
            · intro wz sz
              unfold Oper.does
              go_simp
              try exact Save.refl _ _
            go_simp
            refine H.store_ [17] (by kernel_rfl) (by simp) ?_
            intro i hi
            obtain rfl : i = 17 := by simpa using hi
            refine H.one_ rfl rfl (by intro t ht; simp only [Bool.or_eq_true, beq_iff_eq] at ht; rcases ht with rfl | rfl <;> kernel_rfl) (by kernel_rfl) ?_
            intro wz sz
            have hB : SW wz g X (N.set j y) := sz.2.2
            obtain ⟨c0, c1, c2, c3⟩ := hB.tb (k := q) (by simp; omega)
            have f0 := hB.free (q * 4)
            have f1 := hB.free (q * 4 + 1)
            have f2 := hB.free (q * 4 + 2)
            have f3 := hB.free (q * 4 + 3)
            unfold Oper.does
            go_simp
            refine ⟨M.But wc g (SWo X ((N.set j y).set q x)), sz.step (save_putT wz g q x) (hB.put (by simp; omega) x), M.closed_but _ _ _, M.But.weaken (fun o ho => ⟨_, by simpa using hNL, ho⟩), ?_⟩
            clear c0 c1 c2 c3 f0 f1 f2 f3 hB sz
            go_simp
            refine H.end_ (by kernel_rfl) ?_
            intro we se
            have HNe := Lib.hid se.2.2
            have HVe := Lib.hid (HVc.out.trans se.2.1)
            clear se HNc HVc HXY
            go_wp2_with fail
            have hq := HQ.out
            exact ⟨⟨q, _, by omega, by omega, rfl, HNe.out, by simp; omega, HI1.out, HVe.out⟩, by simp [intOf] <;> omega⟩
          · have hcm := HCm.out.trans (decide_eq_false hxy)
            have HI1 := Lib.hid (HStop.out hxy)
            clear HStep HStop hxy
            refine M.seg_ [15, 16] 0 _ _ (M.Base.refl _) (by kernel_rfl) (by kernel_rfl) (by kernel_rfl) (by simp only [pickOps, mask, plain, List.getElem?_toArray, List.getElem?_cons_zero, List.getElem?_cons_succ, if_true, Bool.false_eq_true, if_false]; rfl) ?_
            repeat (go_big_quiet_step (fail))
            refine wpQuiet_nil ?_
            refine M.end_ (by kernel_rfl) ?_
            intro wc sc
            have HNc := Lib.hid (HN.out.below sc.2 hlt)
            have HVc := Lib.hid (HV.out.trans (Save.of_below sc.2))
            clear x0 x1 x2 x3 y0 y1 y2 y3 sc HN HV HCm HC HXY
            go_wp2_with fail
            exact ⟨⟨k + 1, N, by omega, by omega, by go_num, HNc.out, hNL, HI1.out, HVc.out⟩, by simp [intOf] <;> omega⟩
        · obtain rfl : j = a := by omega
          have HI1 := Lib.hid (HIN.out.stop (fun h => absurd h (Nat.lt_irrefl _)))
          clear HIN
          go_upto_region 4 with fail
          refine M.region_ (by kernel_rfl) ?_
          refine M.seg_ [0, 1, 2, 3, 4, 5, 6, 7, 8, 9, 10, 11, 12, 13, 14, 15, 16] 0 _ _ (M.Base.refl _) (by kernel_rfl) (by kernel_rfl) (by kernel_rfl) (by simp only [pickOps, mask, plain, List.getElem?_toArray, List.getElem?_cons_zero, List.getElem?_cons_succ, if_true, Bool.false_eq_true, if_false]; rfl) ?_
          repeat (go_big_quiet_step (fail))
          refine wpQuiet_nil ?_
          refine M.end_ (by kernel_rfl) ?_
          intro wc sc
          have HNc := Lib.hid (HN.out.below sc.2 hlt)
          have HVc := Lib.hid (HV.out.trans (Save.of_below sc.2))
          clear sc HN HV
          go_wp2_with fail
          exact ⟨⟨k + 1, N, by omega, by omega, by go_num, HNc.out, hNL, HI1.out, HVc.out⟩, by simp [intOf] <;> omega⟩
    · obtain rfl : k = b := by omega
      have HS := Lib.hid (HIN.out.sorts (by rw [HDL.out]; exact hbL) (by rw [HNL.out, HDL.out]))
      clear HIN HNL
      go_wp2_with fail
      go_end0
      exact ⟨rfl, N, HS.out, HN.out, HV.out⟩
end Go.Proofs.Ytdmjfadeffcidaa
