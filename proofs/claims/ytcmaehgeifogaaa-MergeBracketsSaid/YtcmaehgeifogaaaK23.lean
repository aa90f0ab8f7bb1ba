
/- The walk of MergeBrackets. -/
import Derived.Test.YtcmaehgeifogaaaK22
namespace Go.Proofs.Ytcmaehgeifogaaa
open Go.RowKit
set_option linter.unusedSimpArgs false
set_option linter.unusedVariables false

theorem mchk_any (w : World) (x : Ls) (h : LsAt w w.heap.size x) : Calls Try.prog 25 #[.slice x.A x.l.length x.c] w fun e w' => e = .returned (.int .i64 (chk x.l)) ∧ Below w.heap.size w w' :=
  (mcheck_any w x h).mono fun e w' hc => hc.chk
theorem at_later {w w' : World} {x : Ls} (h : LsAt w w.heap.size x) (hb : Below w.heap.size w w') : LsAt w' w'.heap.size x := (h.keep hb.block).more hb.size

theorem all3 {p : Ls → Prop} {a b c : Ls} (ha : p a) (hb : p b) (hc : p c) : ∀ x ∈ [a, b, c], p x := by
  intro x hx
  simp only [List.mem_cons, List.mem_nil_iff, or_false] at hx
  rcases hx with rfl | rfl | rfl <;> assumption
theorem all2 {p : Ls → Prop} {a b : Ls} (ha : p a) (hb : p b) : ∀ x ∈ [a, b], p x := by
  intro x hx
  simp only [List.mem_cons, List.mem_nil_iff, or_false] at hx
  rcases hx with rfl | rfl <;> assumption
theorem own_shape {w : World} {base : Nat} {v : Value} {M : List Ev} (h : w.ownsRow base 23 6 v M.length (rowV M)) : ∃ A c, v = .slice A M.length c ∧ LsAt w w.heap.size ⟨A, c, M⟩ := by
  rcases h.2 with ⟨rfl, h2⟩ | ⟨g, cap, cur, rfl, _⟩
  · have hM : M = [] := List.eq_nil_of_length_eq_zero h2
    subst hM
    exact ⟨none, 0, rfl, nil_ls w _⟩
  · have := own_ls h M.length (Nat.le_refl _)
    rw [List.take_length] at this
    exact ⟨_, _, rfl, this⟩

theorem perm_312 (a b c : List Ev) : (c ++ (a ++ (b ++ []))).Perm (a ++ (b ++ (c ++ []))) := by
  have := List.perm_append_comm (l₁ := c) (l₂ := a ++ b)
  simpa using this
theorem nodup_12 {a b c : List Ev} (h : (a ++ (b ++ (c ++ []))).Nodup) : (a ++ (b ++ [])).Nodup := by
  have h1 : (a ++ (b ++ [])).Sublist (a ++ (b ++ (c ++ []))) := by
    have := List.sublist_append_left (a ++ b) c
    simp
  exact h.sublist h1
theorem may_12 {a b : List Ev} (ha : chk a = 0) (hb : chk b = 0) : ∀ e ∈ a ++ (b ++ []), e.May := by
  intro e he
  simp only [List.append_nil, List.mem_append] at he
  rcases he with h | h
  · exact good_may (chk_good ha).1 e h
  · exact good_may (chk_good hb).1 e h

set_option maxRecDepth 100000 in
set_option maxHeartbeats 4000000 in
theorem walk_MergeBrackets (w : World) (a1 : Option Addr) (c1 n1 : Nat) (l1 : List Ev) (e1 : n1 = l1.length) (h1 : LsAt w w.heap.size ⟨a1, c1, l1⟩ ∧ (∀ e ∈ l1, e.wf) ∧ (a1 = none → c1 = 0))
    (a2 : Option Addr) (c2 n2 : Nat) (l2 : List Ev) (e2 : n2 = l2.length) (h2 : LsAt w w.heap.size ⟨a2, c2, l2⟩ ∧ (∀ e ∈ l2, e.wf) ∧ (a2 = none → c2 = 0))
    (a3 : Option Addr) (c3 n3 : Nat) (l3 : List Ev) (e3 : n3 = l3.length) (h3 : LsAt w w.heap.size ⟨a3, c3, l3⟩ ∧ (∀ e ∈ l3, e.wf) ∧ (a3 = none → c3 = 0)) :
    Calls Try.prog 6 #[.slice a1 n1 c1, .slice a2 n2 c2, .slice a3 n3 c3] w fun e w' => e = .returned (.bool true) ∧ Below w.heap.size w w' := by
  subst e1 e2 e3
  obtain ⟨x0, _, xn⟩ := h1
  obtain ⟨y0, _, yn⟩ := h2
  obtain ⟨z0, _, zn⟩ := h3
  have XN := Lib.hid xn
  have YN := Lib.hid yn
  have ZN := Lib.hid zn
  clear xn yn zn
  go_enter Try.func6, Try.ntmps6
  go_wp2_with fail
  refine (lives4_any w).mono ?_
  rintro e w1 ⟨rfl, b1⟩
  have x1 := at_later x0 b1
  have y1 := at_later y0 b1
  have z1 := at_later z0 b1
  have hLL := new_ll w1 [⟨a1, c1, l1⟩, ⟨a2, c2, l2⟩, ⟨a3, c3, l3⟩] (by intro x hx; simp only [List.mem_cons, List.mem_nil_iff, or_false] at hx; rcases hx with rfl | rfl | rfl <;> assumption) (by show 3 ≤ maxLen; decide) (.cells #[.slice a1 l1.length c1, .slice a2 l2.length c2, .slice a3 l3.length c3] 25) rfl
  have hli := light_any _ 3 _ _ hLL
  have hal : allOf [⟨a1, c1, l1⟩, ⟨a2, c2, l2⟩, ⟨a3, c3, l3⟩] = l1 ++ (l2 ++ (l3 ++ [])) := rfl
  have b2 : Below w.heap.size w (w1.alloc (.cells #[.slice a1 l1.length c1, .slice a2 l2.length c2, .slice a3 l3.length c3] 25)) := b1.alloc b1.size _
  have x2 := at_later x0 b2
  have y2 := at_later y0 b2
  have z2 := at_later z0 b2
  have B2 := Lib.hid b2
  have X2 := Lib.hid x2
  have HAL := Lib.hid hal
  clear b1 x1 y1 z1 hLL b2 x2 y2 z2 hal
  by_cases hl : lightB [⟨a1, c1, l1⟩, ⟨a2, c2, l2⟩, ⟨a3, c3, l3⟩] = true
  case neg =>
    rw [Bool.not_eq_true] at hl
    rw [hl] at hli
    have HLI := Lib.hid hli
    clear hli hl
    go_wp2_with fail
    refine HLI.out.mono ?_
    rintro e w2 ⟨rfl, rfl⟩
    go_wp2_with fail
    go_ret
    exact ⟨rfl, B2.out⟩
  case pos =>
    rw [hl] at hli
    have hlen := (of_decide_eq_true hl).2
    rw [HAL.out] at hlen
    have hlen3 : l1.length + l2.length + l3.length ≤ 120 := by simp only [List.length_append, List.length_nil] at hlen; omega
    have HLI := Lib.hid hli
    clear hli hl hlen
    go_wp2_with fail
    refine HLI.out.mono ?_
    rintro e w2 ⟨rfl, rfl⟩
    clear HLI
    go_wp2_with fail
    by_cases k1 : chk l1 = 0
    case neg =>
      have hne : (chk l1 != 0) = true := by simpa using k1
      clear k1
      refine (mchk_any _ ⟨a1, c1, l1⟩ (at_later x0 B2.out)).mono ?_
      rintro e w3 ⟨rfl, b⟩
      have hB := B2.out.trans (b.mono B2.out.size)
      clear b
      go_wp2_with fail
      go_ret
      exact ⟨rfl, hB⟩
    have hc := mchk_any _ ⟨a1, c1, l1⟩ (at_later x0 B2.out)
    rw [show chk (⟨a1, c1, l1⟩ : Ls).l = 0 from k1] at hc
    have K1 := Lib.hid k1
    clear k1
    refine hc.mono ?_
    rintro e w3 ⟨rfl, b⟩
    have B3 := Lib.hid (B2.out.trans (b.mono B2.out.size))
    clear b hc
    go_wp2_with fail
    by_cases k2 : chk l2 = 0
    case neg =>
      have hne : (chk l2 != 0) = true := by simpa using k2
      clear k2
      refine (mchk_any _ ⟨a2, c2, l2⟩ (at_later y0 B3.out)).mono ?_
      rintro e w3 ⟨rfl, b⟩
      have hB := B3.out.trans (b.mono B3.out.size)
      clear b
      go_wp2_with fail
      go_ret
      exact ⟨rfl, hB⟩
    have hc := mchk_any _ ⟨a2, c2, l2⟩ (at_later y0 B3.out)
    rw [show chk (⟨a2, c2, l2⟩ : Ls).l = 0 from k2] at hc
    have K2 := Lib.hid k2
    clear k2
    refine hc.mono ?_
    rintro e w4 ⟨rfl, b⟩
    have B4 := Lib.hid (B3.out.trans (b.mono B3.out.size))
    clear b hc
    go_wp2_with fail
    by_cases k3 : chk l3 = 0
    case neg =>
      have hne : (chk l3 != 0) = true := by simpa using k3
      clear k3
      refine (mchk_any _ ⟨a3, c3, l3⟩ (at_later z0 B4.out)).mono ?_
      rintro e w3 ⟨rfl, b⟩
      have hB := B4.out.trans (b.mono B4.out.size)
      clear b
      go_wp2_with fail
      go_ret
      exact ⟨rfl, hB⟩
    have hc := mchk_any _ ⟨a3, c3, l3⟩ (at_later z0 B4.out)
    rw [show chk (⟨a3, c3, l3⟩ : Ls).l = 0 from k3] at hc
    have K3 := Lib.hid k3
    clear k3
    refine hc.mono ?_
    rintro e w5 ⟨rfl, b⟩
    have B5 := Lib.hid (B4.out.trans (b.mono B4.out.size))
    clear b hc
    go_wp2_with fail
    by_cases hN : (l1 ++ (l2 ++ (l3 ++ []))).Nodup
    case pos =>
      have hLL1 := new_ll w5 [⟨a1, c1, l1⟩, ⟨a2, c2, l2⟩, ⟨a3, c3, l3⟩] (all3 (at_later x0 B5.out) (at_later y0 B5.out) (at_later z0 B5.out)) (by show 3 ≤ maxLen; decide) (.cells #[.slice a1 l1.length c1, .slice a2 l2.length c2, .slice a3 l3.length c3] 25) rfl
      have hm1 := merge_any _ 3 _ _ hLL1 (by show 3 ≤ 1099511627776; decide)
      refine hm1.mono ?_
      rintro e w6 hmt
      obtain ⟨b, hr1⟩ := merge_ok hmt (all3 (p := fun x => chk x.l = 0) (K1.out) (K2.out) (K3.out)) (by show (l1 ++ (l2 ++ (l3 ++ []))).length ≤ 4194304; simp only [List.length_append, List.length_nil]; omega)
      have hb1 : Below w5.heap.size w5 w6 := ((Below.refl _ _).alloc (Nat.le_refl _) _).trans (b.mono (by simp))
      have B6 := Lib.hid (B5.out.trans (hb1.mono B5.out.size))
      clear hLL1 hm1 hmt b
      rcases hr1 with ⟨h, _⟩ | ⟨_, M1, g1, d1, s1, p1, rfl, o1⟩
      · exact absurd hN h
      go_wp2_with fail
      have hLL2 := new_ll w6 [⟨a3, c3, l3⟩, ⟨a1, c1, l1⟩, ⟨a2, c2, l2⟩] (all3 (at_later z0 B6.out) (at_later x0 B6.out) (at_later y0 B6.out)) (by show 3 ≤ maxLen; decide) (.cells #[.slice a3 l3.length c3, .slice a1 l1.length c1, .slice a2 l2.length c2] 25) rfl
      have hm2 := merge_any _ 3 _ _ hLL2 (by show 3 ≤ 1099511627776; decide)
      refine hm2.mono ?_
      rintro e w7 hmt
      obtain ⟨b, hr2⟩ := merge_ok hmt (all3 (p := fun x => chk x.l = 0) (K3.out) (K1.out) (K2.out)) (by show (l3 ++ (l1 ++ (l2 ++ []))).length ≤ 4194304; simp only [List.length_append, List.length_nil]; omega)
      have hb2 : Below w6.heap.size w6 w7 := ((Below.refl _ _).alloc (Nat.le_refl _) _).trans (b.mono (by simp))
      have B7 := Lib.hid (B6.out.trans (hb2.mono B6.out.size))
      clear hLL2 hm2 hmt b
      have hN2 : (l3 ++ (l1 ++ (l2 ++ []))).Nodup := (perm_312 l1 l2 l3).symm.nodup hN
      rcases hr2 with ⟨h, _⟩ | ⟨_, M2, g2, d2, s2, p2, rfl, o2⟩
      · exact absurd hN2 h
      obtain rfl : M2 = M1 := Hp.sorted_unique ole_anti s2 s1 (p2.trans ((perm_312 l1 l2 l3).trans p1.symm))
      go_wp2_with fail
      have hLL3 := new_ll w7 [⟨a1, c1, l1⟩, ⟨a2, c2, l2⟩] (all2 (at_later x0 B7.out) (at_later y0 B7.out)) (by show 2 ≤ maxLen; decide) (.cells #[.slice a1 l1.length c1, .slice a2 l2.length c2] 25) rfl
      have hm3 := merge_any _ 2 _ _ hLL3 (by show 2 ≤ 1099511627776; decide)
      refine hm3.mono ?_
      rintro e w8 hmt
      obtain ⟨b, hr3⟩ := merge_ok hmt (all2 (p := fun x => chk x.l = 0) (K1.out) (K2.out)) (by show (l1 ++ (l2 ++ [])).length ≤ 4194304; simp only [List.length_append, List.length_nil]; omega)
      have hb3 : Below w7.heap.size w7 w8 := ((Below.refl _ _).alloc (Nat.le_refl _) _).trans (b.mono (by simp))
      have B8 := Lib.hid (B7.out.trans (hb3.mono B7.out.size))
      clear hLL3 hm3 hmt b
      have hN3 : (l1 ++ (l2 ++ [])).Nodup := nodup_12 hN
      rcases hr3 with ⟨h, _⟩ | ⟨_, M3, g3, d3, s3, p3, rfl, o3⟩
      · exact absurd hN3 h
      have p3 : M3.Perm (l1 ++ (l2 ++ [])) := p3
      have KM : chk M3 = 0 := chk_merged s3 p3 (may_12 K1.out K2.out) (by simp only [List.length_append, List.length_nil]; omega)
      have hM3 : M3.length = l1.length + l2.length := by rw [p3.length_eq]; simp
      have HM3 := Lib.hid hM3
      clear hM3
      go_wp2_with fail
      have hLL4 := new_ll w8 [⟨some ⟨g3, 0, none⟩, d3, M3⟩, ⟨a3, c3, l3⟩] (all2 (o3) (at_later z0 B8.out)) (by show 2 ≤ maxLen; decide) (.cells #[.slice (some ⟨g3, 0, none⟩) M3.length d3, .slice a3 l3.length c3] 25) rfl
      have hm4 := merge_any _ 2 _ _ hLL4 (by show 2 ≤ 1099511627776; decide)
      refine hm4.mono ?_
      rintro e w9 hmt
      obtain ⟨b, hr4⟩ := merge_ok hmt (all2 (p := fun x => chk x.l = 0) (KM) (K3.out)) (by show (M3 ++ (l3 ++ [])).length ≤ 4194304; have h5 := HM3.out; simp only [List.length_append, List.length_nil]; omega)
      have hb4 : Below w8.heap.size w8 w9 := ((Below.refl _ _).alloc (Nat.le_refl _) _).trans (b.mono (by simp))
      have B9 := Lib.hid (B8.out.trans (hb4.mono B8.out.size))
      clear hLL4 hm4 hmt b
      have p34 : (M3 ++ (l3 ++ [])).Perm (l1 ++ (l2 ++ (l3 ++ []))) := by
        have := p3.append_right (l3 ++ [])
        simpa using this
      rcases hr4 with ⟨h, _⟩ | ⟨_, M4, g4, d4, s4, p4, rfl, o4⟩
      · exact absurd (p34.symm.nodup hN) h
      obtain rfl : M4 = M2 := Hp.sorted_unique ole_anti s4 s1 (p4.trans (p34.trans p1.symm))
      have x9 := at_later (at_later (at_later o1 hb2) hb3) hb4
      have y9 := at_later (at_later o2 hb3) hb4
      have P1 := Lib.hid p1
      have HN := Lib.hid hN
      have O4 := Lib.hid o4
      clear s2 s3 s4 p2 p3 p4 p34 hN2 hN3 KM o1 o2 o3 o4 hN p1
      have he1 := events_any w9 _ _ x9 y9
      rw [decide_eq_true rfl] at he1
      have HE1 := Lib.hid he1
      have HX9 := Lib.hid x9
      unfold Ls.val at HE1
      clear he1 x9 y9
      go_wp2_with fail
      refine HE1.out.mono ?_
      rintro e w10 ⟨rfl, b10⟩
      have he2 := events_any w10 _ _ (at_later HX9.out b10) (at_later O4.out b10)
      rw [decide_eq_true rfl] at he2
      have HE2 := Lib.hid he2
      unfold Ls.val at HE2
      have B10 := Lib.hid (B9.out.trans (b10.mono B9.out.size))
      have HX10 := Lib.hid (at_later HX9.out b10)
      clear he2 b10 HE1
      go_wp2_with fail
      refine HE2.out.mono ?_
      rintro e w11 ⟨rfl, b11⟩
      have B11 := Lib.hid (B10.out.trans (b11.mono B10.out.size))
      have HX11 := Lib.hid (at_later HX10.out b11)
      clear b11 HE2
      have CW0 := Lib.hid ((Below.refl w11.heap.size w11).alloc (Nat.le_refl _) (.cells #[] 23))
      have BW0 := Lib.hid (B11.out.alloc B11.out.size (.cells #[] 23))
      have OW0 := Lib.hid (World.ownsRow_made (base := w11.heap.size) (e := 23) (size := 6) w11 #[] 0 (Nat.le_refl _) (Nat.zero_le _) rfl)
      go_wp2_with (first
        | (at_builtin; refine wpList_append_ls rfl (.tmp 103) (.tmp 104) 25 rfl Try.underlying25 w11.heap.size _ [] rfl OW0.out _ ⟨a1, c1, l1⟩ rfl (at_later x0 BW0.out) XN.out (by simp only [List.length_append, List.length_nil]; omega) (by simp) ?_; intro v1 wa hown103 hgr103; have hca : Below w11.heap.size w11 wa := CW0.out.grown hgr103 (by simp) (fun k hk => by obtain rfl := Option.some.inj hk; exact Nat.le_refl _); have hba := B11.out.trans (hca.mono B11.out.size))
        | (at_builtin; refine wpList_append_ls rfl (.tmp 105) (.tmp 106) 25 rfl Try.underlying25 w11.heap.size v1 ([] ++ l1) rfl hown103 _ ⟨a2, c2, l2⟩ rfl (at_later y0 hba) YN.out (by simp only [List.length_append, List.length_nil]; omega) hca.size ?_; intro v2 wb hown105 hgr105; have hcb : Below w11.heap.size w11 wb := hca.grown hgr105 hca.size (fun k hk => (hown103.lt k hk).1); have hbb := B11.out.trans (hcb.mono B11.out.size))
        | (at_builtin; refine wpList_append_ls rfl (.tmp 107) (.tmp 108) 25 rfl Try.underlying25 w11.heap.size v2 ([] ++ l1 ++ l2) rfl hown105 _ ⟨a3, c3, l3⟩ rfl (at_later z0 hbb) ZN.out (by simp only [List.length_append, List.length_nil]; omega) hcb.size ?_; intro v3 wc hown107 hgr107; have hcc : Below w11.heap.size w11 wc := hcb.grown hgr107 hcb.size (fun k hk => (hown105.lt k hk).1); have hbc := B11.out.trans (hcc.mono B11.out.size)))
      obtain ⟨A, ca, rfl, hall⟩ := own_shape hown107
      have hx := at_later HX11.out hcc
      obtain ⟨T, hT⟩ : ∃ T, [] ++ l1 ++ l2 ++ l3 = T := ⟨_, rfl⟩
      have hpT : M4.Perm T := by rw [← hT]; exact P1.out.trans (by show (l1 ++ (l2 ++ (l3 ++ []))).Perm _; simp)
      have hnT : T.Nodup := hpT.nodup (Hp.sorted_nodup s1)
      rw [hT] at hall ⊢
      obtain ⟨nT, hnT2⟩ : ∃ n, T.length = n := ⟨_, rfl⟩
      have hnX : M4.length = nT := by rw [← hnT2]; exact hpT.length_eq
      rw [hnX, hnT2]
      have PT := Lib.hid hpT
      have NT := Lib.hid hnT
      have LT := Lib.hid hnT2
      have LX := Lib.hid hnX
      have S1 := Lib.hid s1
      have hnT3 : nT ≤ 120 := by rw [← hnT2, ← hT]; simp only [List.length_append, List.length_nil]; omega
      have hcA := hall.cap
      have hcX := hx.cap
      have hlA := hall.le
      have hlX := hx.le
      rw [hnX] at hlX
      have hlA : nT ≤ ca := by rw [← hnT2]; exact hlA
      unfold maxLen at hcA hcX
      have HAL2 := Lib.hid hall
      have HXX := Lib.hid hx
      have BC := Lib.hid hbc
      clear hpT hnT hnT2 hnX hT hall hx hbc hcc hown107 hgr107 hcb hbb hown105 hgr105 hca hba hown103 hgr103 OW0 BW0 CW0 s1
      go_wp2_with fail
      go_loopw [15, 17] (fun n i wx => ∃ k : Nat, k ≤ nT ∧ i = .int .i64 k ∧ n = .int .i64 k ∧ Below wc.heap.size wc wx) (fun _ i _ => nT - (intOf i).toNat)
      case atStart => exact ⟨0, Nat.zero_le _, rfl, rfl, Below.refl _ _⟩
      case round =>
        obtain ⟨i, hi, rfl, rfl, hbx⟩ := hrel
        by_cases hlt : i < nT
        · obtain ⟨b2, o2, hA2, _, _⟩ := HAL2.out.at_ (by rw [LT.out]; omega)
          have hA2 : A = some ⟨b2, o2, none⟩ := hA2
          subst hA2
          obtain ⟨wo, hwo⟩ : ∃ wo : World, wo = wr := ⟨_, rfl⟩
          subst hwo
          obtain ⟨y, hy⟩ : ∃ y, M4.getD i evZ = y := ⟨_, rfl⟩
          have HYY := Lib.hid hy
          clear hy
          rcases Nat.eq_zero_or_pos i with rfl | hi0
          · go_wp2_with fail
            go_quiet (fail)
            have HBY := Lib.hid (show Below wc.heap.size wc (wo.drewN nq) from ⟨hbx.os, hbx.tape, hbx.output, hbx.size, hbx.block⟩)
            clear hbx
            go_wp2_with fail
            go_loopw [15, 18] (fun n kk wy => ∃ k m : Nat, k ≤ nT ∧ kk = .int .i64 k ∧ n = .int .i64 (((0 + m : Nat)) : Int) ∧ m = (T.take k).count y ∧ Below wc.heap.size wc wy) (fun _ kk _ => nT - (intOf kk).toNat)
            case atStart => exact ⟨0, 0, Nat.zero_le _, rfl, rfl, by simp, HBY.out⟩
            case round =>
              obtain ⟨k, m, hk, rfl, rfl, hm, hby⟩ := hrel
              have HMm := Lib.hid hm
              have hmk : m ≤ k := by rw [hm]; exact Nat.le_trans List.count_le_length (by rw [List.length_take]; omega)
              clear hm
              by_cases hlk : k < nT
              · obtain ⟨bu, ou, hAu, hu⟩ := HAL2.out.ev hby (k := k) (by rw [LT.out]; exact hlk)
                obtain ⟨bv, ov, hAv, hv⟩ := HXX.out.ev hby (k := 0) (by rw [LX.out]; exact hlt)
                injection hAu with hAu
                injection hAu with q1 q2
                subst q1 q2
                injection hAv with hAv
                injection hAv with q3 q4
                subst q3 q4
                obtain ⟨u, hgu⟩ : ∃ u, T.getD k evZ = u := ⟨_, rfl⟩
                rw [hgu] at hu
                rw [HYY.out] at hv
                have hct := count_take (l := T) (k := k) (by rw [LT.out]; exact hlk) y
                rw [hgu] at hct
                have HCT := Lib.hid hct
                clear hgu hct
                obtain ⟨p0, p1, p2, p3, p4, p5⟩ := hu
                obtain ⟨r0, r1, r2, r3, r4, r5⟩ := hv
                by_cases huy : u = y
                · subst huy
                  have hq := fun w => eql_same u w
                  unfold Ev.val at hq
                  go_wp2_with fail
                  go_quiet (fail)
                  go_wp2_with fail
                  refine ⟨⟨k + 1, m + 1, by omega, by go_num, by go_num, ?_, ⟨hby.os, hby.tape, hby.output, hby.size, hby.block⟩⟩, by simp [intOf]; omega⟩
                  have h5 := HCT.out
                  have h6 := HMm.out
                  first
                    | omega
                    | (rw [if_pos trivial] at h5; omega)
                · have hq := fun w => eql_other u y huy w
                  have HUY := Lib.hid huy
                  unfold Ev.val at hq
                  clear huy
                  go_wp2_with fail
                  go_quiet (fail)
                  go_wp2_with fail
                  refine ⟨⟨k + 1, m, by omega, by go_num, by first | rfl | simp, ?_, ⟨hby.os, hby.tape, hby.output, hby.size, hby.block⟩⟩, by simp [intOf]; omega⟩
                  have h5 := HCT.out
                  have h6 := HMm.out
                  first
                    | (rw [if_neg HUY.out] at h5; omega)
                    | omega
              · obtain rfl : k = nT := by omega
                have hm1 : m = 1 := by
                  have h5 := HMm.out
                  rw [← LT.out, List.take_length] at h5
                  rw [h5]
                  refine count_one NT.out (PT.out.mem_iff.1 ?_)
                  rw [← HYY.out, getD_at M4 0 (by rw [LX.out]; exact hlt)]
                  exact List.getElem_mem _
                have HM1 := Lib.hid hm1
                clear hm1
                go_wp2_with fail
                refine ⟨⟨0 + 1, by omega, by go_num, by rw [HM1.out], hby⟩, by simp [intOf]; omega⟩
          · obtain ⟨m0, rfl⟩ : ∃ m, i = m + 1 := ⟨i - 1, by omega⟩
            obtain ⟨bz, oz, hAz, hz⟩ := HXX.out.ev hbx (k := m0) (by rw [LX.out]; omega)
            obtain ⟨bv, ov, hAv, hv⟩ := HXX.out.ev hbx (k := m0 + 1) (by rw [LX.out]; exact hlt)
            injection hAz with hAz
            injection hAz with q1 q2
            subst q1 q2
            injection hAv with hAv
            injection hAv with q3 q4
            subst q3 q4
            have hord : ordE (M4.getD m0 evZ) (M4.getD (m0 + 1) evZ) < 0 := by
              rw [getD_at M4 m0 (by rw [LX.out]; omega), getD_at M4 (m0 + 1) (by rw [LX.out]; exact hlt)]
              exact lt_ord ((List.pairwise_iff_getElem.1 S1.out) m0 (m0 + 1) (by rw [LX.out]; omega) (by rw [LX.out]; exact hlt) (by omega))
            obtain ⟨zz, hzz⟩ : ∃ z, M4.getD m0 evZ = z := ⟨_, rfl⟩
            rw [HYY.out, hzz] at hord
            rw [hzz, Nat.zero_add] at hz
            rw [HYY.out, Nat.zero_add] at hv
            clear hzz hi0
            obtain ⟨d0, d1, d2, d3, d4, d5⟩ := hz
            obtain ⟨f0, f1, f2, f3, f4, f5⟩ := hv
            have d0' := fun p : Later (fun _ => False) wo => p.cell d0 (fun h => h)
            have d1' := fun p : Later (fun _ => False) wo => p.cell d1 (fun h => h)
            have d2' := fun p : Later (fun _ => False) wo => p.cell d2 (fun h => h)
            have d3' := fun p : Later (fun _ => False) wo => p.cell d3 (fun h => h)
            have d4' := fun p : Later (fun _ => False) wo => p.cell d4 (fun h => h)
            have d5' := fun p : Later (fun _ => False) wo => p.cell d5 (fun h => h)
            have f0' := fun p : Later (fun _ => False) wo => p.cell f0 (fun h => h)
            have f1' := fun p : Later (fun _ => False) wo => p.cell f1 (fun h => h)
            have f2' := fun p : Later (fun _ => False) wo => p.cell f2 (fun h => h)
            have f3' := fun p : Later (fun _ => False) wo => p.cell f3 (fun h => h)
            have f4' := fun p : Later (fun _ => False) wo => p.cell f4 (fun h => h)
            have f5' := fun p : Later (fun _ => False) wo => p.cell f5 (fun h => h)
            clear d0 d1 d2 d3 d4 d5 f0 f1 f2 f3 f4 f5
            have HO := Lib.hid (fun (W : World) => r3_order W zz y)
            unfold Ev.val at HO
            go_wp2_with fail
            refine L.region_ (fun _ => False) (by kernel_rfl) ?_
            refine L.seg_ [0, 1, 2, 3, 4, 5, 6, 7, 8, 9, 10, 11] 3 _ (by kernel_rfl) (by kernel_rfl) (by kernel_rfl) (by simp only [pickOps, mask, plain, List.getElem?_toArray, List.getElem?_cons_zero, List.getElem?_cons_succ, if_true]; rfl) ?_
            repeat (go_big_quiet_step (fail))
            refine wpQuiet_nil ?_
            clear d0' d1' d2' d3' d4' d5' f0' f1' f2' f3' f4' f5'
            refine L.call_ (i := 12) rfl (by kernel_rfl) (by kernel_rfl) ?_
            intro wa2 sa2
            unfold Oper.does
            go_simp
            refine (HO.out wa2).mono ?_
            rintro e wb2 ⟨he, hb'⟩
            refine ⟨_, he, same_ sa2 (Save.of_below hb') ?_⟩
            have hB : Below wc.heap.size wc wb2 := (hbx.trans (sa2.all.mono hbx.size)).trans (hb'.mono (by have := hbx.size; have := sa2.size; omega))
            clear he sa2 hb'
            refine L.seg_ [13, 14] 0 _ (by kernel_rfl) (by kernel_rfl) (by kernel_rfl) (by simp only [pickOps, mask, plain, List.getElem?_toArray, List.getElem?_cons_zero, List.getElem?_cons_succ, if_true]; rfl) ?_
            repeat (go_big_quiet_step (fail))
            refine wpQuiet_nil ?_
            refine L.end_ (by kernel_rfl) ?_
            intro wc2 sc2
            have HBY := Lib.hid (hB.trans (sc2.all.mono hB.size))
            clear hB sc2 hbx HO
            go_wp2_with fail
            go_loopw [15, 18] (fun n kk wy => ∃ k m : Nat, k ≤ nT ∧ kk = .int .i64 k ∧ n = .int .i64 (((m0 + 1 + m : Nat)) : Int) ∧ m = (T.take k).count y ∧ Below wc.heap.size wc wy) (fun _ kk _ => nT - (intOf kk).toNat)
            case atStart => exact ⟨0, 0, Nat.zero_le _, rfl, rfl, by simp, HBY.out⟩
            case round =>
              obtain ⟨k, m, hk, rfl, rfl, hm, hby⟩ := hrel
              have HMm := Lib.hid hm
              have hmk : m ≤ k := by rw [hm]; exact Nat.le_trans List.count_le_length (by rw [List.length_take]; omega)
              clear hm
              by_cases hlk : k < nT
              · obtain ⟨bu, ou, hAu, hu⟩ := HAL2.out.ev hby (k := k) (by rw [LT.out]; exact hlk)
                obtain ⟨bv, ov, hAv, hv⟩ := HXX.out.ev hby (k := m0 + 1) (by rw [LX.out]; exact hlt)
                injection hAu with hAu
                injection hAu with q1 q2
                subst q1 q2
                injection hAv with hAv
                injection hAv with q3 q4
                subst q3 q4
                obtain ⟨u, hgu⟩ : ∃ u, T.getD k evZ = u := ⟨_, rfl⟩
                rw [hgu] at hu
                rw [HYY.out, Nat.zero_add] at hv
                have hct := count_take (l := T) (k := k) (by rw [LT.out]; exact hlk) y
                rw [hgu] at hct
                have HCT := Lib.hid hct
                clear hgu hct
                obtain ⟨p0, p1, p2, p3, p4, p5⟩ := hu
                obtain ⟨r0, r1, r2, r3, r4, r5⟩ := hv
                by_cases huy : u = y
                · subst huy
                  have hq := fun w => eql_same u w
                  unfold Ev.val at hq
                  go_wp2_with fail
                  go_quiet (fail)
                  go_wp2_with fail
                  refine ⟨⟨k + 1, m + 1, by omega, by go_num, by go_num, ?_, ⟨hby.os, hby.tape, hby.output, hby.size, hby.block⟩⟩, by simp [intOf]; omega⟩
                  have h5 := HCT.out
                  have h6 := HMm.out
                  first
                    | omega
                    | (rw [if_pos trivial] at h5; omega)
                · have hq := fun w => eql_other u y huy w
                  have HUY := Lib.hid huy
                  unfold Ev.val at hq
                  clear huy
                  go_wp2_with fail
                  go_quiet (fail)
                  go_wp2_with fail
                  refine ⟨⟨k + 1, m, by omega, by go_num, by first | rfl | simp, ?_, ⟨hby.os, hby.tape, hby.output, hby.size, hby.block⟩⟩, by simp [intOf]; omega⟩
                  have h5 := HCT.out
                  have h6 := HMm.out
                  first
                    | (rw [if_neg HUY.out] at h5; omega)
                    | omega
              · obtain rfl : k = nT := by omega
                have hm1 : m = 1 := by
                  have h5 := HMm.out
                  rw [← LT.out, List.take_length] at h5
                  rw [h5]
                  refine count_one NT.out (PT.out.mem_iff.1 ?_)
                  rw [← HYY.out, getD_at M4 (m0 + 1) (by rw [LX.out]; exact hlt)]
                  exact List.getElem_mem _
                have HM1 := Lib.hid hm1
                clear hm1
                go_wp2_with fail
                refine ⟨⟨m0 + 1 + 1, by omega, by go_num, by rw [HM1.out], hby⟩, by simp [intOf]; omega⟩
        · obtain rfl : i = nT := by omega
          go_wp2_with fail
          go_ret
          exact ⟨rfl, BC.out.trans (hbx.mono BC.out.size)⟩
    case neg =>
      have hLL1 := new_ll w5 [⟨a1, c1, l1⟩, ⟨a2, c2, l2⟩, ⟨a3, c3, l3⟩] (all3 (at_later x0 B5.out) (at_later y0 B5.out) (at_later z0 B5.out)) (by show 3 ≤ maxLen; decide) (.cells #[.slice a1 l1.length c1, .slice a2 l2.length c2, .slice a3 l3.length c3] 25) rfl
      have hm1 := merge_any _ 3 _ _ hLL1 (by show 3 ≤ 1099511627776; decide)
      refine hm1.mono ?_
      rintro e w6 hmt
      obtain ⟨b, hr1⟩ := merge_ok hmt (all3 (p := fun x => chk x.l = 0) (K1.out) (K2.out) (K3.out)) (by show (l1 ++ (l2 ++ (l3 ++ []))).length ≤ 4194304; simp only [List.length_append, List.length_nil]; omega)
      have hb1 : Below w5.heap.size w5 w6 := ((Below.refl _ _).alloc (Nat.le_refl _) _).trans (b.mono (by simp))
      have B6 := Lib.hid (B5.out.trans (hb1.mono B5.out.size))
      clear hLL1 hm1 hmt b
      rcases hr1 with ⟨_, rfl⟩ | ⟨h, _⟩
      rotate_left
      · exact absurd h hN
      go_wp2_with fail
      have hLL2 := new_ll w6 [⟨a3, c3, l3⟩, ⟨a1, c1, l1⟩, ⟨a2, c2, l2⟩] (all3 (at_later z0 B6.out) (at_later x0 B6.out) (at_later y0 B6.out)) (by show 3 ≤ maxLen; decide) (.cells #[.slice a3 l3.length c3, .slice a1 l1.length c1, .slice a2 l2.length c2] 25) rfl
      have hm2 := merge_any _ 3 _ _ hLL2 (by show 3 ≤ 1099511627776; decide)
      refine hm2.mono ?_
      rintro e w7 hmt
      obtain ⟨b, hr2⟩ := merge_ok hmt (all3 (p := fun x => chk x.l = 0) (K3.out) (K1.out) (K2.out)) (by show (l3 ++ (l1 ++ (l2 ++ []))).length ≤ 4194304; simp only [List.length_append, List.length_nil]; omega)
      have hb2 : Below w6.heap.size w6 w7 := ((Below.refl _ _).alloc (Nat.le_refl _) _).trans (b.mono (by simp))
      have B7 := Lib.hid (B6.out.trans (hb2.mono B6.out.size))
      clear hLL2 hm2 hmt b
      have hN2 : ¬ (l3 ++ (l1 ++ (l2 ++ []))).Nodup := fun h => hN ((perm_312 l1 l2 l3).nodup h)
      rcases hr2 with ⟨_, rfl⟩ | ⟨h, _⟩
      rotate_left
      · exact absurd h hN2
      go_wp2_with fail
      have hLL3 := new_ll w7 [⟨a1, c1, l1⟩, ⟨a2, c2, l2⟩] (all2 (at_later x0 B7.out) (at_later y0 B7.out)) (by show 2 ≤ maxLen; decide) (.cells #[.slice a1 l1.length c1, .slice a2 l2.length c2] 25) rfl
      have hm3 := merge_any _ 2 _ _ hLL3 (by show 2 ≤ 1099511627776; decide)
      refine hm3.mono ?_
      rintro e w8 hmt
      obtain ⟨b, hr3⟩ := merge_ok hmt (all2 (p := fun x => chk x.l = 0) (K1.out) (K2.out)) (by show (l1 ++ (l2 ++ [])).length ≤ 4194304; simp only [List.length_append, List.length_nil]; omega)
      have hb3 : Below w7.heap.size w7 w8 := ((Below.refl _ _).alloc (Nat.le_refl _) _).trans (b.mono (by simp))
      have B8 := Lib.hid (B7.out.trans (hb3.mono B7.out.size))
      clear hLL3 hm3 hmt b
      rcases hr3 with ⟨h12, rfl⟩ | ⟨h12, M3, g3, d3, s3, p3, rfl, o3⟩
      · go_wp2_with fail
        have hLL4 := new_ll w8 [⟨none, 0, []⟩, ⟨a3, c3, l3⟩] (all2 (nil_ls _ _) (at_later z0 B8.out)) (by show 2 ≤ maxLen; decide) (.cells #[.slice none 0 0, .slice a3 l3.length c3] 25) rfl
        have hm4 := merge_any _ 2 _ _ hLL4 (by show 2 ≤ 1099511627776; decide)
        refine hm4.mono ?_
        rintro e w9 hmt
        obtain ⟨b, hr4⟩ := merge_ok hmt (all2 (p := fun x => chk x.l = 0) (show chk [] = 0 by decide +kernel) (K3.out)) (by show (([] : List Ev) ++ (l3 ++ [])).length ≤ 4194304; simp only [List.length_append, List.length_nil]; omega)
        have hb4 : Below w8.heap.size w8 w9 := ((Below.refl _ _).alloc (Nat.le_refl _) _).trans (b.mono (by simp))
        have B9 := Lib.hid (B8.out.trans (hb4.mono B8.out.size))
        clear hLL4 hm4 hmt b
        have hz : (([] : List Ev) ++ (l3 ++ [])).Nodup := by
          have := Hp.sorted_nodup (good_sorted (chk_good K3.out).1)
          simpa using this
        rcases hr4 with ⟨h, _⟩ | ⟨_, M4, g4, d4, s4, p4, rfl, o4⟩
        · exact absurd hz h
        clear s4 p4 o4 hz h12 hN2 hN
        have he1 := events_any w9 _ _ (nil_ls w9 _) (nil_ls w9 _)
        rw [decide_eq_true rfl] at he1
        have HE1 := Lib.hid he1
        unfold Ls.val at HE1
        clear he1
        go_wp2_with fail
        refine HE1.out.mono ?_
        rintro e w10 ⟨rfl, b10⟩
        have B10 := Lib.hid (B9.out.trans (b10.mono B9.out.size))
        clear b10 HE1
        go_wp2_with fail
        go_ret
        exact ⟨rfl, B10.out⟩
      · have p3 : M3.Perm (l1 ++ (l2 ++ [])) := p3
        have KM : chk M3 = 0 := chk_merged s3 p3 (may_12 K1.out K2.out) (by simp only [List.length_append, List.length_nil]; omega)
        have hM3 : M3.length = l1.length + l2.length := by rw [p3.length_eq]; simp
        have HM3 := Lib.hid hM3
        clear hM3
        go_wp2_with fail
        have hLL4 := new_ll w8 [⟨some ⟨g3, 0, none⟩, d3, M3⟩, ⟨a3, c3, l3⟩] (all2 (o3) (at_later z0 B8.out)) (by show 2 ≤ maxLen; decide) (.cells #[.slice (some ⟨g3, 0, none⟩) M3.length d3, .slice a3 l3.length c3] 25) rfl
        have hm4 := merge_any _ 2 _ _ hLL4 (by show 2 ≤ 1099511627776; decide)
        refine hm4.mono ?_
        rintro e w9 hmt
        obtain ⟨b, hr4⟩ := merge_ok hmt (all2 (p := fun x => chk x.l = 0) (KM) (K3.out)) (by show (M3 ++ (l3 ++ [])).length ≤ 4194304; have h5 := HM3.out; simp only [List.length_append, List.length_nil]; omega)
        have hb4 : Below w8.heap.size w8 w9 := ((Below.refl _ _).alloc (Nat.le_refl _) _).trans (b.mono (by simp))
        have B9 := Lib.hid (B8.out.trans (hb4.mono B8.out.size))
        clear hLL4 hm4 hmt b
        have p34 : (M3 ++ (l3 ++ [])).Perm (l1 ++ (l2 ++ (l3 ++ []))) := by
          have := p3.append_right (l3 ++ [])
          simpa using this
        rcases hr4 with ⟨_, rfl⟩ | ⟨h, _⟩
        rotate_left
        · exact absurd (p34.nodup h) hN
        clear s3 p3 p34 KM o3 h12 hN2 hN
        have he1 := events_any w9 _ _ (nil_ls w9 _) (nil_ls w9 _)
        rw [decide_eq_true rfl] at he1
        have HE1 := Lib.hid he1
        unfold Ls.val at HE1
        clear he1
        go_wp2_with fail
        refine HE1.out.mono ?_
        rintro e w10 ⟨rfl, b10⟩
        have B10 := Lib.hid (B9.out.trans (b10.mono B9.out.size))
        clear b10 HE1
        go_wp2_with fail
        go_ret
        exact ⟨rfl, B10.out⟩
end Go.Proofs.Ytcmaehgeifogaaa
