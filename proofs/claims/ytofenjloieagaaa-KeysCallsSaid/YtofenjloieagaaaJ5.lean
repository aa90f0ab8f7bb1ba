/-   -/
import Derived.Test.YtofenjloieagaaaJ4
namespace Go.Proofs.Ytofenjloieagaaa
open Go.RowKit
set_option linter.unusedSimpArgs false
set_option linter.unusedVariables false
set_option maxRecDepth 100000

/-- The touches of each time stand in the same order. -/
def Same (M N : List Tc) : Prop := ∀ t : Int, M.filter (fun x => x.time == t) = N.filter (fun x => x.time == t)
theorem Same.refl (M : List Tc) : Same M M := fun _ => rfl
theorem Same.trans {A B C : List Tc} (h : Same A B) (k : Same B C) : Same A C := fun t => (h t).trans (k t)
theorem Same.symm {A B : List Tc} (h : Same A B) : Same B A := fun t => (h t).symm
theorem Same.app {A B C D : List Tc} (h : Same A B) (k : Same C D) : Same (A ++ C) (B ++ D) := fun t => by rw [List.filter_append, List.filter_append, h t, k t]
theorem Same.cancel {P S S' Q : List Tc} (h : Same (P ++ (S ++ Q)) (P ++ (S' ++ Q))) : Same S S' := fun t => by
  have := h t
  simp only [List.filter_append] at this
  exact List.append_cancel_right (List.append_cancel_left this)
theorem Same.mem {A B : List Tc} (h : Same A B) {x : Tc} (hx : x ∈ A) : x ∈ B := by
  have : x ∈ A.filter (fun y => y.time == x.time) := List.mem_filter.2 ⟨hx, by simp⟩
  rw [h x.time] at this
  exact (List.mem_filter.1 this).1
theorem Same.swap {x y : Tc} (h : ¬ x.time = y.time) (Z W : List Tc) : Same (Z ++ (y :: x :: W)) (Z ++ (x :: y :: W)) := by
  refine Same.app (Same.refl Z) fun t => ?_
  simp only [List.filter_cons]
  by_cases h1 : x.time = t
  · have h2 : ¬ y.time = t := fun e => h (h1.trans e.symm)
    simp [h1, h2]
  · by_cases h2 : y.time = t <;> simp [h1, h2]
def Rising (M : List Tc) : Prop := M.Pairwise (fun x y => x.time ≤ y.time)
theorem swap_adj (Z W : List Tc) (x y : Tc) : ((Z ++ (y :: x :: W)).set (Z.length + 1) y).set Z.length x = Z ++ (x :: y :: W) := by
  rw [List.set_append_right _ _ (by omega), show Z.length + 1 - Z.length = 1 by omega, List.set_append_right _ _ (by omega), Nat.sub_self]
  rfl
theorem mid_getD (Z W : List Tc) (x : Tc) : (Z ++ (x :: W)).getD Z.length tcZ = x := by
  rw [app_getD, if_neg (by omega), Nat.sub_self]; rfl

/-- The part of a row from a to b is sorted, those of a time in their order; all else stands. -/
def Sorts (D N : List Tc) (a b : Nat) : Prop := ∃ P S S' Q : List Tc, D = P ++ (S ++ Q) ∧ N = P ++ (S' ++ Q) ∧ P.length = a ∧ P.length + S.length = b ∧ S'.length = S.length ∧ Same S S' ∧ Rising S'
theorem Sorts.len {D N : List Tc} {a b : Nat} (h : Sorts D N a b) : N.length = D.length := by
  obtain ⟨P, S, S', Q, rfl, rfl, _, _, h, _⟩ := h
  simp only [List.length_append, h]

/-- Between two rounds of the outer loop. -/
structure InO (D N : List Tc) (a i : Nat) : Prop where
  is : ∃ P S R : List Tc, N = P ++ (S ++ R) ∧ P = D.take a ∧ R = D.drop i ∧ P.length = a ∧ a + S.length = i ∧ Rising S ∧ Same D N
/-- Between two rounds of the inner loop. -/
structure InI (D N : List Tc) (a i j : Nat) : Prop where
  is : ∃ P A B R x, N = P ++ (A ++ (x :: (B ++ R))) ∧ P = D.take a ∧ R = D.drop (i + 1) ∧ P.length = a ∧ a + A.length = j ∧ j + B.length = i ∧ Rising (A ++ B) ∧ (∀ y ∈ B, x.time < y.time) ∧ Same D N
theorem InO.start {D : List Tc} {a : Nat} (h : a < D.length) : InO D D a (a + 1) := by
  refine ⟨⟨D.take a, [D.getD a tcZ], D.drop (a + 1), ?_, rfl, rfl, by simp; omega, by simp, List.pairwise_singleton _ _, Same.refl D⟩⟩
  have : D.getD a tcZ = D[a] := getD_at tcZ D a h
  rw [this]
  have e1 : D = D.take a ++ D.drop a := (List.take_append_drop a D).symm
  conv => lhs; rw [e1]
  rw [List.drop_eq_getElem_cons h]
  rfl
theorem InO.into {D N : List Tc} {a i : Nat} (h : InO D N a i) (hi : i < D.length) : InI D N a i i := by
  obtain ⟨P, S, R, rfl, h1, rfl, h2, h3, h4, h5⟩ := h.is
  refine ⟨⟨P, S, [], D.drop (i + 1), D[i], ?_, h1, rfl, h2, h3, by simp, by simpa using h4, fun y hy => (by cases hy), h5⟩⟩
  rw [List.drop_eq_getElem_cons hi]
  rfl
theorem InI.step {D N : List Tc} {a i q : Nat} (h : InI D N a i (q + 1)) (hq : a < q + 1) (hlt : (N.getD (q + 1) tcZ).time < (N.getD q tcZ).time) : InI D ((N.set (q + 1) (N.getD q tcZ)).set q (N.getD (q + 1) tcZ)) a i q := by
  obtain ⟨P, A, B, R, x, rfl, h1, h2, h3, h4, h5, h6, h7, h8⟩ := h.is
  have hne : A ≠ [] := fun e => by rw [e] at h4; simp at h4; omega
  obtain ⟨A', y, rfl⟩ : ∃ A' y, A = A' ++ [y] := ⟨A.dropLast, A.getLast hne, (List.dropLast_concat_getLast hne).symm⟩
  rw [List.length_append, List.length_singleton] at h4
  have e : P ++ (A' ++ [y] ++ (x :: (B ++ R))) = (P ++ A') ++ (y :: x :: (B ++ R)) := by simp only [List.append_assoc, List.singleton_append]
  have hZ : (P ++ A').length = q := by rw [List.length_append]; omega
  rw [e] at hlt h8 ⊢
  have gy : ((P ++ A') ++ (y :: x :: (B ++ R))).getD q tcZ = y := by rw [← hZ]; exact mid_getD _ _ _
  have gx : ((P ++ A') ++ (y :: x :: (B ++ R))).getD (q + 1) tcZ = x := by
    have e2 : (P ++ A') ++ (y :: x :: (B ++ R)) = (P ++ A' ++ [y]) ++ (x :: (B ++ R)) := by simp only [List.append_assoc, List.singleton_append]
    have hZ2 : (P ++ A' ++ [y]).length = q + 1 := by rw [List.length_append, hZ]; rfl
    rw [e2, ← hZ2]; exact mid_getD _ _ _
  rw [gx, gy] at hlt ⊢
  have e3 := swap_adj (P ++ A') (B ++ R) x y
  rw [hZ] at e3
  rw [e3]
  refine ⟨⟨P, A', y :: B, R, x, by simp only [List.append_assoc, List.cons_append], h1, h2, h3, by omega, by simp; omega, ?_, ?_, ?_⟩⟩
  · simpa only [List.append_assoc, List.singleton_append] using h6
  · intro z hz
    rcases List.mem_cons.1 hz with rfl | hz
    · exact hlt
    · exact h7 z hz
  · exact h8.trans (Same.swap (by omega) _ _)
theorem InI.stop {D N : List Tc} {a i j : Nat} (h : InI D N a i j) (hs : a < j → ¬ (N.getD j tcZ).time < (N.getD (j - 1) tcZ).time) : InO D N a (i + 1) := by
  obtain ⟨P, A, B, R, x, rfl, h1, h2, h3, h4, h5, h6, h7, h8⟩ := h.is
  refine ⟨⟨P, A ++ (x :: B), R, by simp only [List.append_assoc, List.cons_append], h1, h2, h3, by simp; omega, ?_, h8⟩⟩
  obtain ⟨hA, hB, hAB⟩ := List.pairwise_append.1 h6
  refine List.pairwise_append.2 ⟨hA, List.pairwise_cons.2 ⟨fun y hy => Int.le_of_lt (h7 y hy), hB⟩, fun u hu v hv => ?_⟩
  rcases List.mem_cons.1 hv with rfl | hv
  · by_cases hne : A = []
    · rw [hne] at hu; cases hu
    · obtain ⟨A', y, rfl⟩ : ∃ A' y, A = A' ++ [y] := ⟨A.dropLast, A.getLast hne, (List.dropLast_concat_getLast hne).symm⟩
      rw [List.length_append, List.length_singleton] at h4
      have hs := hs (by omega)
      have e : P ++ (A' ++ [y] ++ (v :: (B ++ R))) = (P ++ A') ++ (y :: v :: (B ++ R)) := by simp only [List.append_assoc, List.singleton_append]
      have e2 : (P ++ A') ++ (y :: v :: (B ++ R)) = (P ++ A' ++ [y]) ++ (v :: (B ++ R)) := by simp only [List.append_assoc, List.singleton_append]
      have hZ : (P ++ A').length = j - 1 := by rw [List.length_append]; omega
      have hZ2 : (P ++ A' ++ [y]).length = j := by rw [List.length_append, hZ]; simp; omega
      rw [e] at hs
      have gy : ((P ++ A') ++ (y :: v :: (B ++ R))).getD (j - 1) tcZ = y := by rw [← hZ]; exact mid_getD _ _ _
      have gx : ((P ++ A') ++ (y :: v :: (B ++ R))).getD j tcZ = v := by rw [e2, ← hZ2]; exact mid_getD _ _ _
      rw [gx, gy] at hs
      have : u.time ≤ y.time := by
        rcases List.mem_append.1 hu with h | h
        · exact (List.pairwise_append.1 hA).2.2 u h y (List.mem_singleton.2 rfl)
        · obtain rfl := List.mem_singleton.1 h
          exact Int.le_refl _
      omega
  · exact hAB u hu v hv
theorem InO.sorts {D N : List Tc} {a b : Nat} (h : InO D N a b) (hb : b ≤ D.length) (hN : N.length = D.length) : Sorts D N a b := by
  obtain ⟨P, S, R, rfl, rfl, rfl, h3, h4, h5, h6⟩ := h.is
  have e : D = D.take a ++ ((D.drop a).take (b - a) ++ D.drop b) := by
    conv => lhs; rw [← List.take_append_drop a D, ← List.take_append_drop (b - a) (D.drop a), List.drop_drop, show a + (b - a) = b by omega]
  have hl : ((D.drop a).take (b - a)).length = b - a := by rw [List.length_take, List.length_drop]; omega
  refine ⟨D.take a, (D.drop a).take (b - a), S, D.drop b, e, rfl, h3, by omega, by omega, ?_, h5⟩
  rw [e] at h6
  refine Same.cancel (P := D.take a) (Q := D.drop b) ?_
  have e2 : (D.take a ++ ((D.drop a).take (b - a) ++ D.drop b)).take a = D.take a := by rw [← e]
  have e3 : (D.take a ++ ((D.drop a).take (b - a) ++ D.drop b)).drop b = D.drop b := by rw [← e]
  rw [e2, e3] at h6
  exact h6
theorem sorts_none {D : List Tc} {a : Nat} (h : a ≤ D.length) : Sorts D D a a :=
  ⟨D.take a, [], [], D.drop a, by simp, by simp, by simp; omega, by simp; omega, rfl, Same.refl _, List.Pairwise.nil⟩

abbrev lessV : Value := .func (.func 28) #[] #[]

set_option maxHeartbeats 8000000 in
theorem insertion_any (w : World) (g c L : Nat) (X : List Value) (D : List Tc) (h : SW w g X D) (hL : D.length = L) (hLc : L ≤ c) (hL1 : L ≤ 1000000) (a b : Nat) (hab : a ≤ b) (hbL : b ≤ L) :
    Calls Try.prog 65 #[.slice (some ⟨g, 0, none⟩) L c, .int .i64 a, .int .i64 b, lessV] w fun e w' => e = .returned (.tuple #[]) ∧ ∃ N, Sorts D N a b ∧ SW w' g X N ∧ Save (· = g) w w' := by
  have Hs0 := Lib.hid h
  have HDL := Lib.hid hL
  have hgl := h.lt
  clear h
  by_cases hab' : a < b
  case neg =>
    obtain rfl : a = b := by omega
    have HS := Lib.hid (sorts_none (D := D) (a := a) (by omega))
    clear hL
    go_enter Try.func65, Try.ntmps65
    go_wp2_with fail
    go_loopw [8] (fun i wr => i = .int .i64 ((a : Int) + 1) ∧ wr = w) (fun _ _ => 0)
    case atStart => exact ⟨rfl, rfl⟩
    case round =>
      obtain ⟨rfl, rfl⟩ := hrel
      go_wp2_with fail
      go_end0
      exact ⟨rfl, D, HS.out, Hs0.out, Save.refl _ _⟩
  case pos =>
  have HI0 := Lib.hid (InO.start (D := D) (a := a) (by omega))
  clear hL
  go_enter Try.func65, Try.ntmps65
  go_wp2_with fail
  go_loopw [8] (fun i wr => ∃ (k : Nat) (N : List Tc), a < k ∧ k ≤ b ∧ i = .int .i64 k ∧ SW wr g X N ∧ N.length = L ∧ InO D N a k ∧ Save (· = g) w wr) (fun i _ => b - (intOf i).toNat)
  case atStart => exact ⟨a + 1, D, by omega, by omega, rfl, Hs0.out, HDL.out, HI0.out, Save.refl _ _⟩
  case round =>
    rename World => wr
    obtain ⟨k, N, hak, hkb, rfl, hs, hNL, hin, hsv⟩ := hrel
    have HN := Lib.hid hs
    have HNL := Lib.hid hNL
    have HIN := Lib.hid hin
    have HV := Lib.hid hsv
    clear hs hNL hin hsv Hs0 HI0
    by_cases hkt : k < b
    · have HJ0 := Lib.hid (HIN.out.into (by rw [HDL.out]; omega))
      clear HIN
      go_wp2_with fail
      go_loopw [9] (fun jv wm => ∃ (j : Nat) (N : List Tc), a ≤ j ∧ j ≤ k ∧ jv = .int .i64 j ∧ SW wm g X N ∧ N.length = L ∧ InI D N a k j ∧ Save (· = g) w wm) (fun jv _ => (intOf jv).toNat)
      case atStart => exact ⟨k, N, by omega, Nat.le_refl _, rfl, HN.out, HNL.out, HJ0.out, HV.out⟩
      case round =>
        rename World => wm
        clear HN HNL HJ0 HV N
        obtain ⟨j, N, haj, hjk, rfl, hs, hNL, hin, hsv⟩ := hrel
        have HN := Lib.hid hs
        have HIN := Lib.hid hin
        have HV := Lib.hid hsv
        have hlt := hs.lt
        clear hs hin hsv
        by_cases hja : a < j
        · obtain ⟨q, hq⟩ : ∃ q, j = q + 1 := ⟨j - 1, by omega⟩
          have hxk : j < N.length := by omega
          have hyk : q < N.length := by omega
          have hTx := HN.out.tb hxk
          have hTy := HN.out.tb hyk
          have HStep : Hid ((N.getD j tcZ).time < (N.getD q tcZ).time → InI D ((N.set j (N.getD q tcZ)).set q (N.getD j tcZ)) a k q) := Lib.hid (by subst hq; exact fun hl => HIN.out.step hja hl)
          have HStop : Hid (¬ (N.getD j tcZ).time < (N.getD q tcZ).time → InO D N a (k + 1)) := Lib.hid (by subst hq; exact fun hl => HIN.out.stop (fun _ => hl))
          clear HIN
          obtain ⟨x, hx⟩ : ∃ x, N.getD j tcZ = x := ⟨_, rfl⟩
          obtain ⟨y, hy⟩ : ∃ y, N.getD q tcZ = y := ⟨_, rfl⟩
          rw [hx] at hTx
          rw [hy] at hTy
          rw [hx, hy] at HStep HStop
          have HXY := Lib.hid (And.intro hx hy)
          clear hx hy
          obtain ⟨c0, c1, c2, c3⟩ := hTx
          obtain ⟨d0, d1, d2, d3⟩ := hTy
          have x0 := fun p : M.Of (M.Base wm) => (p.ok.2.cell hlt).trans c0
          have x1 := fun p : M.Of (M.Base wm) => (p.ok.2.cell hlt).trans c1
          have x2 := fun p : M.Of (M.Base wm) => (p.ok.2.cell hlt).trans c2
          have x3 := fun p : M.Of (M.Base wm) => (p.ok.2.cell hlt).trans c3
          have y0 := fun p : M.Of (M.Base wm) => (p.ok.2.cell hlt).trans d0
          have y1 := fun p : M.Of (M.Base wm) => (p.ok.2.cell hlt).trans d1
          have y2 := fun p : M.Of (M.Base wm) => (p.ok.2.cell hlt).trans d2
          have y3 := fun p : M.Of (M.Base wm) => (p.ok.2.cell hlt).trans d3
          clear c0 c1 c2 c3 d0 d1 d2 d3
          have HC := Lib.hid (fun w => less17 x y w)
          have HCm := Lib.hid (cmpT_neg x.time y.time)
          unfold Tc.val at HC
          have ej : (j : Int) - 1 = q := by omega
          have hlj : j < L := by omega
          have hlq : q < L := by omega
          have wj : IntKind.i64.wrap (j : Int) = j := by rw [IntKind.wrap_i64]; omega
          have wq : IntKind.i64.wrap (q : Int) = q := by rw [IntKind.wrap_i64]; omega
          have HQ := Lib.hid hq
          clear hq
          generalize cmpT x.time y.time = cm at *
          go_upto_region 4 with fail
          refine M.region_ (by kernel_rfl) ?_
          refine M.seg_ [0, 1, 2, 3, 4, 5, 6, 7, 8, 9, 10, 11, 12, 13] 3 _ _ (M.Base.refl _) (by kernel_rfl) (by kernel_rfl) (by kernel_rfl) (by simp only [pickOps, mask, plain, List.getElem?_toArray, List.getElem?_cons_zero, List.getElem?_cons_succ, if_true, Bool.false_eq_true, if_false]; rfl) ?_
          repeat (go_big_quiet_step (fail))
          refine wpQuiet_nil ?_
          refine M.calm_ (i := 14) (.int .i64 cm) rfl (by kernel_rfl) (by kernel_rfl) (by kernel_rfl) (by kernel_rfl) ?_ ?_
          · intro wz sz
            unfold Oper.does
            go_simp
            exact (HC.out wz).mono fun e w' ⟨he, hw⟩ => ⟨_, he, rfl, Save.of_below hw⟩
          go_simp
          by_cases hxy : x.time < y.time
          · have hcm := HCm.out.trans (decide_eq_true hxy)
            have HI1 := Lib.hid (HStep.out hxy)
            clear HStep HStop hxy
            refine M.seg_ [15, 16] 0 _ _ (M.Base.refl _) (by kernel_rfl) (by kernel_rfl) (by kernel_rfl) (by simp only [pickOps, mask, plain, List.getElem?_toArray, List.getElem?_cons_zero, List.getElem?_cons_succ, if_true, Bool.false_eq_true, if_false]; rfl) ?_
            repeat (go_big_quiet_step (fail))
            refine wpQuiet_nil ?_
            refine M.end_ (by kernel_rfl) ?_
            intro wc sc
            have HNc := Lib.hid (HN.out.below sc.2 hlt)
            have HVc := Lib.hid (HV.out.trans (Save.of_below sc.2))
            have hltc : g < wc.heap.size := by have := sc.1; omega
            clear x0 x1 x2 x3 y0 y1 y2 y3 sc HN HV hcm HCm HC
            go_upto_region 6 with fail
            refine H.region_ (fun i => i == 9 || i == 13) (fun i => i == 15 || i == 17) (M.Base wc) (M.But wc g (fun o => ∃ N' : List Tc, N'.length = L ∧ SWo X N' o)) (M.closed_base _) (fun w' hw' => ⟨hltc, Save.of_below hw'.2, ⟨_, hNL, HNc.out.below hw'.2 hltc⟩⟩) (fun n => ⟨Nat.le_refl _, (Save.drawn _ wc n).all⟩) (by kernel_rfl) ?_
            refine H.any_ (i := 0) (.slice (some ⟨g, 0, none⟩) L c) rfl (by kernel_rfl) (by kernel_rfl) (by kernel_rfl) rfl (by kernel_rfl) ?_ ?_
            · intro wz sz
              unfold Oper.does
              go_simp
              try exact Save.refl _ _
            go_simp
            refine H.any_ (i := 1) (.int .i64 j) rfl (by kernel_rfl) (by kernel_rfl) (by kernel_rfl) rfl (by kernel_rfl) ?_ ?_
            · intro wz sz
              unfold Oper.does
              go_simp
              try exact Save.refl _ _
            go_simp
            refine H.any_ (i := 2) (.slice (some ⟨g, 0, none⟩) L c) rfl (by kernel_rfl) (by kernel_rfl) (by kernel_rfl) rfl (by kernel_rfl) ?_ ?_
            · intro wz sz
              unfold Oper.does
              go_simp
              try exact Save.refl _ _
            go_simp
            refine H.any_ (i := 3) (.int .i64 j) rfl (by kernel_rfl) (by kernel_rfl) (by kernel_rfl) rfl (by kernel_rfl) ?_ ?_
            · intro wz sz
              unfold Oper.does
              go_simp
              try exact Save.refl _ _
            go_simp
            refine H.any_ (i := 4) (.int .i64 q) rfl (by kernel_rfl) (by kernel_rfl) (by kernel_rfl) rfl (by kernel_rfl) ?_ ?_
            · intro wz sz
              unfold Oper.does
              go_simp
              try exact Save.refl _ _
            go_simp
            refine H.any_ (i := 5) (.slice (some ⟨g, 0, none⟩) L c) rfl (by kernel_rfl) (by kernel_rfl) (by kernel_rfl) rfl (by kernel_rfl) ?_ ?_
            · intro wz sz
              unfold Oper.does
              go_simp
              try exact Save.refl _ _
            go_simp
            refine H.any_ (i := 6) (.int .i64 j) rfl (by kernel_rfl) (by kernel_rfl) (by kernel_rfl) rfl (by kernel_rfl) ?_ ?_
            · intro wz sz
              unfold Oper.does
              go_simp
              try exact Save.refl _ _
            go_simp
            refine H.any_ (i := 7) (.int .i64 q) rfl (by kernel_rfl) (by kernel_rfl) (by kernel_rfl) rfl (by kernel_rfl) ?_ ?_
            · intro wz sz
              unfold Oper.does
              go_simp
              try exact Save.refl _ _
            go_simp
            refine H.any_ (i := 8) (.pointer (some ⟨g, q * 4, none⟩)) rfl (by kernel_rfl) (by kernel_rfl) (by kernel_rfl) rfl (by kernel_rfl) ?_ ?_
            · intro wz sz
              unfold Oper.does
              go_simp
              try exact Save.refl _ _
            go_simp
            refine H.calm_ (i := 9) (.agg #[.int .i64 y.time, .int .i64 y.what, .int .i64 y.key, .bool y.on]) rfl (by kernel_rfl) (by kernel_rfl) (by kernel_rfl) rfl (by kernel_rfl) (by kernel_rfl) ?_ ?_
            · intro wz sz
              have hT := (HNc.out.below sz.2 hltc).tb hyk
              rw [HXY.out.2] at hT
              obtain ⟨c0, c1, c2, c3⟩ := hT
              unfold Oper.does
              go_simp
              exact Save.refl _ _
            go_simp
            refine H.any_ (i := 10) (.slice (some ⟨g, 0, none⟩) L c) rfl (by kernel_rfl) (by kernel_rfl) (by kernel_rfl) rfl (by kernel_rfl) ?_ ?_
            · intro wz sz
              unfold Oper.does
              go_simp
              try exact Save.refl _ _
            go_simp
            refine H.any_ (i := 11) (.int .i64 j) rfl (by kernel_rfl) (by kernel_rfl) (by kernel_rfl) rfl (by kernel_rfl) ?_ ?_
            · intro wz sz
              unfold Oper.does
              go_simp
              try exact Save.refl _ _
            go_simp
            refine H.any_ (i := 12) (.pointer (some ⟨g, j * 4, none⟩)) rfl (by kernel_rfl) (by kernel_rfl) (by kernel_rfl) rfl (by kernel_rfl) ?_ ?_
            · intro wz sz
              unfold Oper.does
              go_simp
              try exact Save.refl _ _
            go_simp
            refine H.calm_ (i := 13) (.agg #[.int .i64 x.time, .int .i64 x.what, .int .i64 x.key, .bool x.on]) rfl (by kernel_rfl) (by kernel_rfl) (by kernel_rfl) rfl (by kernel_rfl) (by kernel_rfl) ?_ ?_
            · intro wz sz
              have hT := (HNc.out.below sz.2 hltc).tb hxk
              rw [HXY.out.1] at hT
              obtain ⟨c0, c1, c2, c3⟩ := hT
              unfold Oper.does
              go_simp
              exact Save.refl _ _
            go_simp
            refine H.any_ (i := 14) (.pointer (some ⟨g, j * 4, none⟩)) rfl (by kernel_rfl) (by kernel_rfl) (by kernel_rfl) rfl (by kernel_rfl) ?_ ?_
            · intro wz sz
              unfold Oper.does
              go_simp
              try exact Save.refl _ _
            go_simp
            refine H.store_ [15] (by kernel_rfl) (by simp) ?_
            intro i hi
            obtain rfl : i = 15 := by simpa using hi
            refine H.one_ rfl rfl (by intro t ht; simp only [Bool.or_eq_true, beq_iff_eq] at ht; rcases ht with rfl | rfl <;> kernel_rfl) (by kernel_rfl) ?_
            intro wz sz
            have hB : SW wz g X N := HNc.out.below sz.2 hltc
            obtain ⟨c0, c1, c2, c3⟩ := hB.tb (k := j) (by omega)
            have f0 := hB.free (j * 4)
            have f1 := hB.free (j * 4 + 1)
            have f2 := hB.free (j * 4 + 2)
            have f3 := hB.free (j * 4 + 3)
            unfold Oper.does
            go_simp
            refine ⟨M.But wc g (SWo X (N.set j y)), ⟨hltc, Save.trans (Save.of_below sz.2) (save_putT wz g j y), hB.put (by omega) y⟩, M.closed_but _ _ _, M.But.weaken (fun o ho => ⟨_, by simpa using hNL, ho⟩), ?_⟩
            clear c0 c1 c2 c3 f0 f1 f2 f3 hB sz
            go_simp
            refine H.any_ (i := 16) (.pointer (some ⟨g, q * 4, none⟩)) rfl (by kernel_rfl) (by kernel_rfl) (by kernel_rfl) rfl (by kernel_rfl) ?_ ?_
            · intro wz sz
              unfold Oper.does
              go_simp
              try exact Save.refl _ _
            go_simp
            refine H.store_ [17] (by kernel_rfl) (by simp) ?_
            intro i hi
            obtain rfl : i = 17 := by simpa using hi
            refine H.one_ rfl rfl (by intro t ht; simp only [Bool.or_eq_true, beq_iff_eq] at ht; rcases ht with rfl | rfl <;> kernel_rfl) (by kernel_rfl) ?_
            intro wz sz
            have hB : SW wz g X (N.set j y) := sz.2.2
            obtain ⟨c0, c1, c2, c3⟩ := hB.tb (k := q) (by simp; omega)
            have f0 := hB.free (q * 4)
            have f1 := hB.free (q * 4 + 1)
            have f2 := hB.free (q * 4 + 2)
            have f3 := hB.free (q * 4 + 3)
            unfold Oper.does
            go_simp
            refine ⟨M.But wc g (SWo X ((N.set j y).set q x)), sz.step (save_putT wz g q x) (hB.put (by simp; omega) x), M.closed_but _ _ _, M.But.weaken (fun o ho => ⟨_, by simpa using hNL, ho⟩), ?_⟩
            clear c0 c1 c2 c3 f0 f1 f2 f3 hB sz
            go_simp
            refine H.end_ (by kernel_rfl) ?_
            intro we se
            have HNe := Lib.hid se.2.2
            have HVe := Lib.hid (HVc.out.trans se.2.1)
            clear se HNc HVc HXY
            go_wp2_with fail
            have hq := HQ.out
            exact ⟨⟨q, _, by omega, by omega, rfl, HNe.out, by simp; omega, HI1.out, HVe.out⟩, by simp [intOf] <;> omega⟩
          · have hcm := HCm.out.trans (decide_eq_false hxy)
            have HI1 := Lib.hid (HStop.out hxy)
            clear HStep HStop hxy
            refine M.seg_ [15, 16] 0 _ _ (M.Base.refl _) (by kernel_rfl) (by kernel_rfl) (by kernel_rfl) (by simp only [pickOps, mask, plain, List.getElem?_toArray, List.getElem?_cons_zero, List.getElem?_cons_succ, if_true, Bool.false_eq_true, if_false]; rfl) ?_
            repeat (go_big_quiet_step (fail))
            refine wpQuiet_nil ?_
            refine M.end_ (by kernel_rfl) ?_
            intro wc sc
            have HNc := Lib.hid (HN.out.below sc.2 hlt)
            have HVc := Lib.hid (HV.out.trans (Save.of_below sc.2))
            clear x0 x1 x2 x3 y0 y1 y2 y3 sc HN HV HCm HC HXY
            go_wp2_with fail
            exact ⟨⟨k + 1, N, by omega, by omega, by go_num, HNc.out, hNL, HI1.out, HVc.out⟩, by simp [intOf] <;> omega⟩
        · obtain rfl : j = a := by omega
          have HI1 := Lib.hid (HIN.out.stop (fun h => absurd h (Nat.lt_irrefl _)))
          clear HIN
          go_upto_region 4 with fail
          refine M.region_ (by kernel_rfl) ?_
          refine M.seg_ [0, 1, 2, 3, 4, 5, 6, 7, 8, 9, 10, 11, 12, 13, 14, 15, 16] 0 _ _ (M.Base.refl _) (by kernel_rfl) (by kernel_rfl) (by kernel_rfl) (by simp only [pickOps, mask, plain, List.getElem?_toArray, List.getElem?_cons_zero, List.getElem?_cons_succ, if_true, Bool.false_eq_true, if_false]; rfl) ?_
          repeat (go_big_quiet_step (fail))
          refine wpQuiet_nil ?_
          refine M.end_ (by kernel_rfl) ?_
          intro wc sc
          have HNc := Lib.hid (HN.out.below sc.2 hlt)
          have HVc := Lib.hid (HV.out.trans (Save.of_below sc.2))
          clear sc HN HV
          go_wp2_with fail
          exact ⟨⟨k + 1, N, by omega, by omega, by go_num, HNc.out, hNL, HI1.out, HVc.out⟩, by simp [intOf] <;> omega⟩
    · obtain rfl : k = b := by omega
      have HS := Lib.hid (HIN.out.sorts (by rw [HDL.out]; exact hbL) (by rw [HNL.out, HDL.out]))
      clear HIN HNL
      go_wp2_with fail
      go_end0
      exact ⟨rfl, N, HS.out, HN.out, HV.out⟩
end Go.Proofs.Ytofenjloieagaaa
namespace Go.Proofs.Ytofenjloieagaaa
open Go.RowKit
set_option linter.unusedSimpArgs false
set_option linter.unusedVariables false
set_option maxRecDepth 100000

theorem swap_adj2 (Z W : List Tc) (x y : Tc) : ((Z ++ (x :: y :: W)).set Z.length y).set (Z.length + 1) x = Z ++ (y :: x :: W) := by
  rw [List.set_append_right _ _ (by omega), Nat.sub_self, List.set_append_right _ _ (by omega), show Z.length + 1 - Z.length = 1 by omega]
  rfl
theorem two_getD (Z W : List Tc) (x y : Tc) : (Z ++ (x :: y :: W)).getD (Z.length + 1) tcZ = y := by
  have e : Z ++ (x :: y :: W) = (Z ++ [x]) ++ (y :: W) := by simp
  have h : (Z ++ [x]).length = Z.length + 1 := by simp
  rw [e, ← h]; exact mid_getD _ _ _
theorem Same.exch {U V : List Tc} (h : ∀ x ∈ V, ∀ y ∈ U, ¬ x.time = y.time) : Same (U ++ V) (V ++ U) := fun t => by
  rw [List.filter_append, List.filter_append]
  by_cases hV : V.filter (fun x => x.time == t) = []
  · rw [hV, List.append_nil, List.nil_append]
  · have hU : U.filter (fun x => x.time == t) = [] := by
      rw [List.filter_eq_nil_iff]
      intro y hy hyt
      obtain ⟨x, hx⟩ := List.exists_mem_of_ne_nil _ hV
      obtain ⟨hx1, hx2⟩ := List.mem_filter.1 hx
      refine h x hx1 y hy ?_
      rw [beq_iff_eq.1 hx2, beq_iff_eq.1 hyt]
    rw [hU, List.nil_append, List.append_nil]
theorem Same.length {A B : List Tc} (h : Same A B) : A.length = B.length := by
  have key : ∀ (n : Nat) (A B : List Tc), A.length ≤ n → Same A B → A.length = B.length := by
    intro n
    induction n with
    | zero =>
      intro A B hA h
      have : A = [] := List.eq_nil_of_length_eq_zero (by omega)
      subst this
      cases B with
      | nil => rfl
      | cons b B =>
        have := h.symm.mem (x := b) (List.mem_cons_self ..)
        cases this
    | succ n ih =>
      intro A B hA h
      cases A with
      | nil =>
        cases B with
        | nil => rfl
        | cons b B =>
          have := h.symm.mem (x := b) (List.mem_cons_self ..)
          cases this
      | cons a A =>
        obtain ⟨B1, B2, rfl, hB⟩ : ∃ B1 B2, B = B1 ++ (a :: B2) ∧ B1.filter (fun x => x.time == a.time) = [] := by
          have ha := h a.time
          simp only [List.filter_cons, beq_self_eq_true, if_true] at ha
          obtain ⟨l1, l2, e, h1, h2⟩ := List.filter_eq_cons_iff.1 ha.symm
          exact ⟨l1, l2, e, List.filter_eq_nil_iff.2 h1⟩
        have h2 : Same A (B1 ++ B2) := fun t => by
          have ht := h t
          simp only [List.filter_append, List.filter_cons] at ht ⊢
          by_cases e : a.time = t
          · subst e
            simp only [beq_self_eq_true, if_true, hB, List.nil_append] at ht ⊢
            injection ht
          · have : (a.time == t) = false := by simpa using e
            simpa [this] using ht
        have := ih A (B1 ++ B2) (by simpa using hA) h2
        simp only [List.length_append, List.length_cons] at this ⊢
        omega
  exact key A.length A B (Nat.le_refl _) h

/-- One touch on its way up, on its way down. -/
structure MovR (T N : List Tc) (k e : Nat) : Prop where
  is : ∃ Z u B W, N = Z ++ (u :: (B ++ W)) ∧ T = Z ++ (B ++ (u :: W)) ∧ Z.length = k ∧ k + B.length = e
structure MovL (T N : List Tc) (k s : Nat) : Prop where
  is : ∃ Z B u W, N = Z ++ (B ++ (u :: W)) ∧ T = Z ++ (u :: (B ++ W)) ∧ Z.length = s ∧ s + B.length = k
theorem MovR.step {T N : List Tc} {k e : Nat} (h : MovR T N k e) (hk : k < e) : MovR T ((N.set k (N.getD (k + 1) tcZ)).set (k + 1) (N.getD k tcZ)) (k + 1) e := by
  obtain ⟨Z, u, B, W, rfl, rfl, rfl, h2⟩ := h.is
  cases B with
  | nil => simp at h2; omega
  | cons y B =>
    simp only [List.cons_append]
    rw [two_getD, mid_getD, swap_adj2]
    exact ⟨⟨Z ++ [y], u, B, W, by simp, by simp, by simp, by simp at h2; omega⟩⟩
theorem MovR.done {T N : List Tc} {e : Nat} (h : MovR T N e e) : N = T := by
  obtain ⟨Z, u, B, W, rfl, rfl, h1, h2⟩ := h.is
  have : B = [] := List.eq_nil_of_length_eq_zero (by omega)
  subst this
  rfl
theorem MovR.len {T N : List Tc} {k e : Nat} (h : MovR T N k e) : e < N.length ∧ T.length = N.length := by
  obtain ⟨Z, u, B, W, rfl, rfl, h1, h2⟩ := h.is
  simp only [List.length_append, List.length_cons]
  omega
theorem MovL.step {T N : List Tc} {q s : Nat} (h : MovL T N (q + 1) s) (hk : s < q + 1) : MovL T ((N.set (q + 1) (N.getD q tcZ)).set q (N.getD (q + 1) tcZ)) q s := by
  obtain ⟨Z, B, u, W, rfl, rfl, h1, h2⟩ := h.is
  have hne : B ≠ [] := fun e => by rw [e] at h2; simp at h2; omega
  obtain ⟨B', y, rfl⟩ : ∃ B' y, B = B' ++ [y] := ⟨B.dropLast, B.getLast hne, (List.dropLast_concat_getLast hne).symm⟩
  rw [List.length_append, List.length_singleton] at h2
  have e : Z ++ (B' ++ [y] ++ (u :: W)) = (Z ++ B') ++ (y :: u :: W) := by simp
  have hZ : (Z ++ B').length = q := by rw [List.length_append]; omega
  have g1 := two_getD (Z ++ B') W y u
  have g2 := mid_getD (Z ++ B') (u :: W) y
  have g3 := swap_adj (Z ++ B') W u y
  rw [hZ] at g1 g2 g3
  rw [e, g1, g2, g3]
  exact ⟨⟨Z, B', u, y :: W, by simp, by simp, h1, by omega⟩⟩
theorem MovL.done {T N : List Tc} {s : Nat} (h : MovL T N s s) : N = T := by
  obtain ⟨Z, B, u, W, rfl, rfl, h1, h2⟩ := h.is
  have : B = [] := List.eq_nil_of_length_eq_zero (by omega)
  subst this
  rfl
theorem MovL.len {T N : List Tc} {k s : Nat} (h : MovL T N k s) : k < N.length ∧ T.length = N.length := by
  obtain ⟨Z, B, u, W, rfl, rfl, h1, h2⟩ := h.is
  simp only [List.length_append, List.length_cons]
  omega

/-- Two sorted parts, side by side. -/
def Two (D : List Tc) (a m b : Nat) : Prop := ∃ P U V Q : List Tc, D = P ++ (U ++ (V ++ Q)) ∧ P.length = a ∧ a + U.length = m ∧ m + V.length = b ∧ Rising U ∧ Rising V
theorem Two.le {D : List Tc} {a m b : Nat} (h : Two D a m b) : a ≤ m ∧ m ≤ b ∧ b ≤ D.length := by
  obtain ⟨P, U, V, Q, rfl, h1, h2, h3, _⟩ := h
  simp only [List.length_append]
  omega
theorem split_at {α : Type} (D : List α) (n : Nat) (h : n ≤ D.length) : ∃ X Y, D = X ++ Y ∧ X.length = n := ⟨D.take n, D.drop n, (List.take_append_drop n D).symm, by simp; omega⟩
/-- They, each parted in two: what the search has found. -/
structure Four (D P A U V B Q : List Tc) (a s m e b : Nat) : Prop where
  is : D = P ++ (A ++ (U ++ (V ++ (B ++ Q))))
  lP : P.length = a
  lA : a + A.length = s
  lU : s + U.length = m
  lV : m + V.length = e
  lB : e + B.length = b
  rU : Rising (A ++ U)
  rV : Rising (V ++ B)
  less : ∀ x ∈ V, ∀ y ∈ U, x.time < y.time
  rise : ∀ x ∈ A, ∀ y ∈ B, x.time ≤ y.time
theorem Rising.left {A B : List Tc} (h : Rising (A ++ B)) : Rising A := (List.pairwise_append.1 h).1
theorem Rising.right {A B : List Tc} (h : Rising (A ++ B)) : Rising B := (List.pairwise_append.1 h).2.1
theorem Rising.mid {A B : List Tc} (h : Rising (A ++ B)) : ∀ x ∈ A, ∀ y ∈ B, x.time ≤ y.time := (List.pairwise_append.1 h).2.2
theorem rising_last {A : List Tc} {z : Tc} (h : Rising (A ++ [z])) : ∀ x ∈ A ++ [z], x.time ≤ z.time := fun x hx => by
  rcases List.mem_append.1 hx with h1 | h1
  · exact h.mid x h1 z (List.mem_singleton.2 rfl)
  · obtain rfl := List.mem_singleton.1 h1
    exact Int.le_refl _
theorem rising_first {A : List Tc} {z : Tc} (h : Rising (z :: A)) : ∀ x ∈ z :: A, z.time ≤ x.time := fun x hx => by
  rcases List.mem_cons.1 hx with rfl | h1
  · exact Int.le_refl _
  · exact (List.pairwise_cons.1 h).1 x h1
theorem Two.four {D : List Tc} {a m b s e : Nat} (h : Two D a m b) (h1 : a ≤ s) (h2 : s ≤ m) (h3 : m ≤ e) (h4 : e ≤ b)
    (hx : s < m → m < e → (D.getD (e - 1) tcZ).time < (D.getD s tcZ).time) (hy : a < s → e < b → (D.getD (s - 1) tcZ).time ≤ (D.getD e tcZ).time) : ∃ P A U V B Q, Four D P A U V B Q a s m e b := by
  obtain ⟨P, U, V, Q, rfl, l1, l2, l3, r1, r2⟩ := h
  obtain ⟨A, U, rfl, hA⟩ := split_at U (s - a) (by omega)
  obtain ⟨V, B, rfl, hV⟩ := split_at V (e - m) (by omega)
  rw [List.length_append] at l2 l3
  have eD : P ++ (A ++ U ++ (V ++ B ++ Q)) = P ++ (A ++ (U ++ (V ++ (B ++ Q)))) := by simp only [List.append_assoc]
  rw [eD] at hx hy ⊢
  refine ⟨P, A, U, V, B, Q, rfl, l1, by omega, by omega, by omega, by omega, r1, r2, fun x hxV y hyU => ?_, fun x hxA y hyB => ?_⟩
  · have hV0 : V ≠ [] := fun e => by rw [e] at hxV; cases hxV
    obtain ⟨V', z, rfl⟩ : ∃ V' z, V = V' ++ [z] := ⟨V.dropLast, V.getLast hV0, (List.dropLast_concat_getLast hV0).symm⟩
    cases U with
    | nil => cases hyU
    | cons u U =>
      simp only [List.length_append, List.length_cons, List.length_nil] at l2 l3 hV
      have g1 : (P ++ (A ++ (u :: U ++ (V' ++ [z] ++ (B ++ Q))))).getD s tcZ = u := by
        have e1 : P ++ (A ++ (u :: U ++ (V' ++ [z] ++ (B ++ Q)))) = (P ++ A) ++ (u :: (U ++ (V' ++ [z] ++ (B ++ Q)))) := by simp
        have e2 : (P ++ A).length = s := by rw [List.length_append]; omega
        rw [e1, ← e2]; exact mid_getD _ _ _
      have g2 : (P ++ (A ++ (u :: U ++ (V' ++ [z] ++ (B ++ Q))))).getD (e - 1) tcZ = z := by
        have e1 : P ++ (A ++ (u :: U ++ (V' ++ [z] ++ (B ++ Q)))) = (P ++ (A ++ (u :: U ++ V'))) ++ (z :: (B ++ Q)) := by simp
        have e2 : (P ++ (A ++ (u :: U ++ V'))).length = e - 1 := by simp only [List.length_append, List.length_cons]; omega
        rw [e1, ← e2]; exact mid_getD _ _ _
      have := hx (by omega) (by omega)
      rw [g1, g2] at this
      have h5 := rising_last r2.left x hxV
      have h6 := rising_first r1.right y hyU
      omega
  · have hA0 : A ≠ [] := fun e => by rw [e] at hxA; cases hxA
    obtain ⟨A', z, rfl⟩ : ∃ A' z, A = A' ++ [z] := ⟨A.dropLast, A.getLast hA0, (List.dropLast_concat_getLast hA0).symm⟩
    cases B with
    | nil => cases hyB
    | cons u B =>
      simp only [List.length_append, List.length_cons, List.length_nil] at l2 l3 hA
      have g1 : (P ++ (A' ++ [z] ++ (U ++ (V ++ (u :: B ++ Q))))).getD e tcZ = u := by
        have e1 : P ++ (A' ++ [z] ++ (U ++ (V ++ (u :: B ++ Q)))) = (P ++ (A' ++ [z] ++ (U ++ V))) ++ (u :: (B ++ Q)) := by simp
        have e2 : (P ++ (A' ++ [z] ++ (U ++ V))).length = e := by simp only [List.length_append, List.length_cons, List.length_nil]; omega
        rw [e1, ← e2]; exact mid_getD _ _ _
      have g2 : (P ++ (A' ++ [z] ++ (U ++ (V ++ (u :: B ++ Q))))).getD (s - 1) tcZ = z := by
        have e1 : P ++ (A' ++ [z] ++ (U ++ (V ++ (u :: B ++ Q)))) = (P ++ A') ++ (z :: (U ++ (V ++ (u :: B ++ Q)))) := by simp
        have e2 : (P ++ A').length = s - 1 := by rw [List.length_append]; omega
        rw [e1, ← e2]; exact mid_getD _ _ _
      have := hy (by omega) (by omega)
      rw [g1, g2] at this
      have h5 := rising_last r1.left x hxA
      have h6 := rising_first r2.right y hyB
      omega
/-- The row with its middle parts exchanged, then its halves sorted, is sorted. -/
theorem Four.sorts {D P A U V B Q : List Tc} {a s m e b : Nat} (h : Four D P A U V B Q a s m e b) {L R : List Tc} (hL : Same (A ++ V) L) (hR : Same (U ++ B) R) (rL : Rising L) (rR : Rising R) : Sorts D (P ++ (L ++ (R ++ Q))) a b := by
  have hl := hL.length
  have hr := hR.length
  rw [List.length_append] at hl hr
  have h1 := h.lP; have h2 := h.lA; have h3 := h.lU; have h4 := h.lV; have h5 := h.lB
  refine ⟨P, A ++ (U ++ (V ++ B)), L ++ R, Q, by rw [h.is]; simp only [List.append_assoc], by simp only [List.append_assoc], h1, by simp only [List.length_append]; omega, by simp only [List.length_append]; omega, ?_, ?_⟩
  · have e1 : Same (U ++ V) (V ++ U) := Same.exch (fun x hx y hy => by have := h.less x hx y hy; omega)
    have e2 : Same (A ++ (U ++ (V ++ B))) ((A ++ V) ++ (U ++ B)) := by
      have := Same.app (Same.refl A) (Same.app e1 (Same.refl B))
      simpa only [List.append_assoc] using this
    exact e2.trans (Same.app hL hR)
  · refine List.pairwise_append.2 ⟨rL, rR, fun x hx y hy => ?_⟩
    have hx := hL.symm.mem hx
    have hy := hR.symm.mem hy
    rcases List.mem_append.1 hx with hx | hx <;> rcases List.mem_append.1 hy with hy | hy
    · exact h.rU.mid x hx y hy
    · exact h.rise x hx y hy
    · exact Int.le_of_lt (h.less x hx y hy)
    · exact h.rV.mid x hx y hy
theorem Four.turns {D P A U V B Q : List Tc} {a s m e b : Nat} (h : Four D P A U V B Q a s m e b) : Turns (P ++ (A ++ (V ++ (U ++ (B ++ Q))))) D m (m - s) (e - m) := by
  have h1 := h.lP; have h2 := h.lA; have h3 := h.lU; have h4 := h.lV
  exact ⟨⟨P ++ A, U, V, B ++ Q, by rw [h.is]; simp only [List.append_assoc], by simp only [List.append_assoc], by rw [List.length_append]; omega, by omega, by omega⟩⟩
theorem Four.same {D P A U V B Q : List Tc} {a s m e b : Nat} (h : Four D P A U V B Q a s m e b) (hn : ¬ (s < m ∧ m < e)) : D = P ++ (A ++ (V ++ (U ++ (B ++ Q)))) := by
  have h3 := h.lU; have h4 := h.lV
  rw [h.is]
  by_cases hU : U = []
  · subst hU; rfl
  · have : 0 < U.length := List.length_pos_iff.2 hU
    have hV : V = [] := List.eq_nil_of_length_eq_zero (by omega)
    subst hV; rfl
/-- The left half of the row that was turned. -/
theorem Four.two1 {D P A U V B Q : List Tc} {a s m e b : Nat} (h : Four D P A U V B Q a s m e b) (mid : Nat) (hm : mid + m = s + e) : Two (P ++ (A ++ (V ++ (U ++ (B ++ Q))))) a s mid := by
  have h1 := h.lP; have h2 := h.lA; have h3 := h.lU; have h4 := h.lV
  exact ⟨P, A, V, U ++ (B ++ Q), rfl, h1, h2, by omega, h.rU.left, h.rV.left⟩
theorem Four.two2 {D P A U V B Q : List Tc} {a s m e b : Nat} (h : Four D P A U V B Q a s m e b) (mid : Nat) (hm : mid + m = s + e) {L : List Tc} (hL : Same (A ++ V) L) : Two (P ++ (L ++ (U ++ (B ++ Q)))) mid e b := by
  have h1 := h.lP; have h2 := h.lA; have h3 := h.lU; have h4 := h.lV; have h5 := h.lB
  have hl := hL.length
  rw [List.length_append] at hl
  exact ⟨P ++ L, U, B, Q, by simp only [List.append_assoc], by rw [List.length_append]; omega, by omega, by omega, h.rU.right, h.rV.right⟩
theorem app_inj {P P' A A' : List Tc} (h : P ++ A = P' ++ A') (hl : P.length = P'.length) : P = P' ∧ A = A' := List.append_inj h hl
/-- What a sort of a known part leaves. -/
theorem Sorts.of {P S Q N : List Tc} {a b : Nat} (h : Sorts (P ++ (S ++ Q)) N a b) (h1 : P.length = a) (h2 : a + S.length = b) : ∃ S', N = P ++ (S' ++ Q) ∧ Same S S' ∧ Rising S' := by
  obtain ⟨P', S1, S', Q', e, hN, l1, l2, l3, h3, h4⟩ := h
  obtain ⟨e1, e⟩ := app_inj e (by omega)
  obtain ⟨e3, e4⟩ := app_inj e (by omega)
  exact ⟨S', by rw [hN, e1, e4], by rw [e3]; exact h3, h4⟩
end Go.Proofs.Ytofenjloieagaaa
