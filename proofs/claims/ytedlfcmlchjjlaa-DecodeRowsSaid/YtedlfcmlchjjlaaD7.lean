
/- Instructions (chapter 9): Bytes. -/
import Derived.Test.YtedlfcmlchjjlaaD6
namespace Go.Proofs.Ytedlfcmlchjjlaa
open Go.RowKit
set_option linter.unusedSimpArgs false
set_option linter.unusedVariables false
set_option maxRecDepth 100000

def midB (i : In) : List Int := if i.s = 3 then [i.d % 256, i.o] else if needD i.s i.x i.o = true then [i.o, i.d % 256] else [i.o]
/-- The bytes of an immediate, the low one first. -/
def immL (m : Int) (k : Int) : List Int := if k = 0 then [] else if k = 1 then [m % 256] else [m % 256, m / 256 % 256]
def bytesI (i : In) : List Int := aheadB i ++ midB i ++ immL i.m (needN i.s i.x i.o)

theorem one_cases {s x o : Int} (h : isOneI s x o = true) : (s = 0 ∨ s = 1 ∨ s = 2 ∨ s = 3) ∧ (x = 0 ∨ x = 1 ∨ x = 2) ∧ 0 ≤ o ∧ o < 256 := by
  have hb := isOneI_byte h
  unfold isOneI at h
  simp only [Bool.and_eq_true] at h
  have h1 := h.2
  refine ⟨?_, ?_, hb⟩
  · by_cases h0 : s = 0
    · omega
    · rw [if_neg h0] at h1
      by_cases h2 : s = 1 ∨ s = 2
      · omega
      · rw [if_neg h2] at h1
        simp only [Bool.and_eq_true, beq_iff_eq] at h1
        omega
  · by_cases h0 : s = 0
    · rw [if_pos h0] at h1
      by_cases h2 : x = 1 ∨ x = 2
      · omega
      · rw [if_neg h2] at h1
        simp only [Bool.and_eq_true, beq_iff_eq] at h1
        omega
    · rw [if_neg h0] at h1
      by_cases h2 : s = 1 ∨ s = 2
      · rw [if_pos h2] at h1
        simp only [beq_iff_eq] at h1
        omega
      · rw [if_neg h2] at h1
        simp only [Bool.and_eq_true, Bool.or_eq_true, beq_iff_eq] at h1
        omega
theorem may_one {i : In} (h : i.may = true) : isOneI i.s i.x i.o = true ∧ i.n = i.len ∧ i.ops = true := by
  unfold In.may at h
  simp only [Bool.and_eq_true, beq_iff_eq] at h
  exact ⟨h.1, h.2.1, h.2.2⟩
theorem aheadB_len (i : In) : (aheadB i).length ≤ 2 := by
  unfold aheadB preB setB
  repeat' split
  all_goals simp
theorem midB_len (i : In) : (midB i).length ≤ 2 := by
  unfold midB
  repeat' split
  all_goals simp

set_option maxHeartbeats 2000000 in
theorem c9_bytes_no (i : In) (hi : i.Wf) (hm : ¬ i.may = true) (w : World) : Calls Try.prog 37 #[i.val] w fun e w' => e = .returned (.tuple #[.slice none 0 0, .int .i64 2]) ∧ Below w.heap.size w w' := by
  have HC := Lib.hid (fun w => c9_check i hi w)
  rw [if_neg hm] at HC
  have HL := Lib.hid (InW.laid w i)
  have hb0 : Below w.heap.size w (w.alloc (inO i)) := (Below.refl _ _).alloc (Nat.le_refl _) _
  rw [in_val]
  go_enter Try.func37, Try.ntmps37
  go_wp2_with (refine wpList_load_row rfl 44 _ rfl w.heap.size rfl _ _ (0, 0) _ HL.out Try.underlying44 rfl in_info ?_)
  refine (HC.out _).mono ?_
  rintro e w3 ⟨rfl, hb⟩
  go_wp2
  go_ret2
  exact ⟨rfl, hb0.trans (hb.mono hb0.size)⟩

theorem RB.lit2 (w : World) (u v : Int) (h0 : 0 ≤ u) (h1 : u < 256) (k0 : 0 ≤ v) (k1 : v < 256) : RB (w.alloc (.cells #[.int .u8 u, .int .u8 v] 5)) (w.heap.size + 1) (some ⟨w.heap.size, 0, none⟩) 2 [u, v] :=
  (OB.lit w [u, v] (AllB.cons h0 h1 (AllB.one k0 k1)) (by unfold maxLen; simp)).rb.more (by simp)
theorem immL_len (m k : Int) : (immL m k).length ≤ 2 := by
  unfold immL
  split
  · simp
  · split <;> simp
theorem OB.save {w w' : World} {B : Nat} {A : Option Addr} {c : Nat} {l : List Int} (h : OB w B A c l) (hs : Save (fun _ => False) w w') : OB w' B A c l := h.below hs.all (Nat.le_refl _)
theorem closed_ob (b : World) (N : Nat) (A : Option Addr) (c : Nat) (l : List Int) : M.Closed (fun w' => (M.Base b w' ∧ N ≤ w'.heap.size) ∧ OB w' N A c l) := fun w w1 h hs => ⟨⟨M.closed_base b w w1 h.1.1 hs, Nat.le_trans h.1.2 hs.size⟩, h.2.save hs⟩

set_option maxHeartbeats 8000000 in
theorem c9_bytes_may (i : In) (hi : i.Wf) (hm : i.may = true) (w : World) : Calls Try.prog 37 #[i.val] w fun e w' => (∃ A c, e = .returned (.tuple #[.slice A (bytesI i).length c, .int .i64 0]) ∧ OB w' w.heap.size A c (bytesI i)) ∧ Below w.heap.size w w' := by
  obtain ⟨iB, hiB, hz0, hz1, hz2⟩ := info_parts infoB
  have HC := Lib.hid (fun w => c9_check i hi w)
  rw [if_pos hm] at HC
  obtain ⟨m1, m2, m3⟩ := may_one hm
  obtain ⟨hs, hx, ho0, ho1⟩ := one_cases m1
  have hLn := lenI_in i.s i.x i.o
  rw [show lenI i.s i.x i.o = i.len from rfl, ← m2] at hLn
  obtain ⟨-, hn0, hn1⟩ := hLn
  have HN := Lib.hid (fun w => c9_needs i.s i.x i.o w)
  have HA := Lib.hid (fun (base : Nat) (w : World) (N : Nat) (hN : base ≤ w.heap.size) (A : Option Addr) (c : Nat) (h : OB w base A c []) => c9_ahead base A c 0 [] i w rfl h (by simp) hN hs hx)
  have hk := needN_in i.s i.x i.o
  have hX : bytesI i = aheadB i ++ midB i ++ immL i.m (needN i.s i.x i.o) := rfl
  have hM : midB i = if i.s = 3 then [i.d % 256, i.o] else if needD i.s i.x i.o = true then [i.o, i.d % 256] else [i.o] := rfl
  have hla := aheadB_len i
  have hlm := midB_len i
  generalize bytesI i = X at *
  generalize aheadB i = L0 at *
  generalize midB i = M0 at *
  obtain ⟨dd, hdd⟩ : ∃ d, needD i.s i.x i.o = d := ⟨_, rfl⟩
  rw [hdd] at HN hM
  generalize needN i.s i.x i.o = kk at *
  have HX := Lib.hid hX
  clear hX hdd m1 m2 m3 hm
  have HL := Lib.hid (InW.laid w i)
  have hb0 : Below w.heap.size w (w.alloc (inO i)) := (Below.refl _ _).alloc (Nat.le_refl _) _
  have hd8 : IntKind.u8.wrap i.d = i.d % 256 := wrap_u8 _
  have ho8 : IntKind.u8.wrap i.o = i.o := by rw [wrap_u8]; omega
  rw [in_val]
  go_enter Try.func37, Try.ntmps37
  go_wp2_with (refine wpList_load_row rfl 44 _ rfl w.heap.size rfl _ _ (0, 0) _ HL.out Try.underlying44 rfl in_info ?_)
  refine (HC.out _).mono ?_
  rintro e w2 ⟨rfl, hb⟩
  have hL2 := HL.out.below hb HL.out.lt
  have hB2 := hb0.trans (hb.mono hb0.size)
  clear hb hb0 HL HC
  have g0 := hL2.gs
  have g1 := hL2.gx
  have g2 := hL2.go
  have hlt := hL2.lt
  have g5 : ∀ p : M.Of (M.Base w2), p.w.cell? ⟨w.heap.size, 5, none⟩ = some (.int .i64 i.n) := fun p => (hL2.below p.ok.2 hlt).gn
  have HL := Lib.hid hL2
  obtain ⟨nn, hnn⟩ : ∃ n : Nat, i.n = n := ⟨i.n.toNat, by omega⟩
  clear hL2
  go_upto_region 5 with (go_at_call 69; (with_reducible refine (HN.out _).mono ?_); rintro e w' ⟨rfl, rfl⟩)
  refine M.region_ (by kernel_rfl) ?_
  refine M.seg_ [0, 1] 4 _ _ (M.Base.refl _) (by kernel_rfl) (by kernel_rfl) (by kernel_rfl) (by simp only [pickOps, mask, plain, List.getElem?_toArray, List.getElem?_cons_zero, List.getElem?_cons_succ, if_true, Bool.false_eq_true, if_false]; rfl) ?_
  repeat (go_big_quiet_step (fail))
  refine wpQuiet_nil ?_
  clear g0 g1 g2 g5
  refine M.calm_ (i := 3) i.val rfl (by kernel_rfl) (by kernel_rfl) (by kernel_rfl) (by kernel_rfl) ?_ ?_
  · intro wz sz
    exact does_load_ins 44 _ rfl _ rfl _ _ (0, 0) _ (HL.out.below sz.2 HL.out.lt) Try.underlying44 rfl in_info ⟨rfl, Save.refl _ _⟩
  go_simp
  refine M.call_ (i := 2) rfl (by kernel_rfl) (by kernel_rfl) ?_
  intro wz sz
  obtain ⟨w3, hrun, r1, r2⟩ := run_make_own (P := Try.prog) wz wz.heap.size 25 5 iB (.int .u8 0) 1 Try.underlying25 hiB hz0 hz1 .i64 .i64 nn (by rw [hz2]; omega) (by unfold maxLen; omega) (Nat.le_refl _)
  have ho3 : OB w3 wz.heap.size (some ⟨wz.heap.size, 0, none⟩) nn [] := ⟨r1, AllB.nil⟩
  have hb3 : Below wz.heap.size wz w3 := (Below.refl _ _).grown r2 (Nat.le_refl _) (fun _ h => by cases h)

  unfold Oper.does
  go_simp
  refine ⟨fun w' => (M.Base w2 w' ∧ wz.heap.size ≤ w'.heap.size) ∧ OB w' wz.heap.size (some ⟨wz.heap.size, 0, none⟩) nn [], ⟨⟨M.Base.below sz (hb3.mono sz.1), hb3.size⟩, ho3⟩, closed_ob _ _ _ _ _, fun _ h => h.1.1, ?_⟩
  have hNz : w2.heap.size ≤ wz.heap.size := sz.1
  clear sz hrun r1 r2 ho3 hb3
  generalize wz.heap.size = N at *
  go_simp
  refine M.call_ (i := 4) rfl (by kernel_rfl) (by kernel_rfl) ?_
  intro wy sy
  unfold Oper.does
  go_simp
  refine (HA.out N wy N sy.1.2 _ nn sy.2).mono ?_
  rintro e w4 ⟨⟨A4, c4, rfl, ho4⟩, hb4⟩
  rw [List.nil_append] at ho4 ⊢
  refine ⟨_, rfl, fun w' => (M.Base w2 w' ∧ N ≤ w'.heap.size) ∧ OB w' N A4 c4 L0, ⟨⟨M.Base.below sy.1.1 (hb4.mono hNz), Nat.le_trans sy.1.2 hb4.size⟩, ho4⟩, closed_ob _ _ _ _ _, fun _ h => h.1.1, ?_⟩
  clear sy hb4 ho4
  go_simp
  refine M.seg_ [5] 0 _ _ (M.Base.refl _) (by kernel_rfl) (by kernel_rfl) (by kernel_rfl) (by simp only [pickOps, mask, plain, List.getElem?_toArray, List.getElem?_cons_zero, List.getElem?_cons_succ, if_true, Bool.false_eq_true, if_false]; rfl) ?_
  repeat (go_big_quiet_step (fail))
  refine wpQuiet_nil ?_
  refine M.end_ (by kernel_rfl) ?_
  intro wc sc
  have hO := sc.2
  have hN6 := sc.1.2
  have hL6 := HL.out.below sc.1.1.2 HL.out.lt
  have hB6 := hB2.trans (sc.1.1.2.mono hB2.size)
  have hltN : w.heap.size < N := by omega
  have q0 := hL6.gs
  have q2 := hL6.go
  have q3 := hL6.gd
  clear sc HL hB2 HA HN hnn
  have d0 : 0 ≤ i.d % 256 := by omega
  have d1 : i.d % 256 < 256 := by omega
  have HL6 := Lib.hid hL6
  have HB6 := Lib.hid hB6
  have HO := Lib.hid hO
  clear hL6 hB6 hO
  by_cases h3 : i.s = 3
  · rw [if_pos h3] at hM
    rw [h3] at q0
    have HM := Lib.hid (show L0 ++ M0 = L0 ++ [i.d % 256, i.o] from by rw [hM])
    obtain ⟨L1, hL1⟩ : ∃ L, L0 ++ [i.d % 256, i.o] = L := ⟨_, rfl⟩
    rw [hL1] at HM
    have hl1 : L1.length ≤ 4 := by rw [← hL1]; simp; omega
    have H1 := Lib.hid hL1
    clear hL1 hM hlm
    go_upto_region 12 with (at_builtin; refine wpList_append_rb _ rfl _ _ rfl N _ A4 _ c4 L0 rfl rfl (HO.out.alloc _) _ _ _ [i.d % 256, i.o] rfl rfl (RB.lit2 _ _ _ d0 d1 ho0 ho1) (by simp; omega) (by simp; omega) ?_; intro A7 c7 w7 hO7' hbel7 hne; rw [H1.out])
    have hO7 : OB w7 N A7 c7 L1 := by rw [← H1.out]; exact hO7'
    have hb7 : Below N wc w7 := ((Below.refl N wc).alloc hN6 (.cells #[.int .u8 (i.d % 256), .int .u8 (i.o)] 5)).trans hbel7
    clear hbel7
    have hL7 := HL6.out.below hb7 hltN
    have hB7 := HB6.out.trans (hb7.mono (Nat.le_of_lt hltN))
    have hN7 : N ≤ w7.heap.size := Nat.le_trans hN6 hb7.size
    clear HL6 HB6 HO hb7 q0 q2 q3 hO7' hne
    obtain hk0 | hk0 | hk0 : kk = 0 ∨ kk = 1 ∨ kk = 2 := by omega
    · subst hk0
      go_wp2_with fail
      go_loopw [7, 58] (fun v j wr => ∃ (q : Int) (A : Option Addr) (c : Nat), (q = 0) ∧ j = .int .i64 q ∧ v = .slice A (L1 ++ immL i.m q).length c ∧ OB wr N A c (L1 ++ immL i.m q) ∧ InW wr w.heap.size i ∧ Below w.heap.size w wr ∧ N ≤ wr.heap.size) (fun _ j _ => 0 - (intOf j).toNat)
      case atStart => exact ⟨0, A7, c7, by simp, rfl, by simp [immL], by simpa [immL] using hO7, hL7, hB7, hN7⟩
      case round =>
        clear hO7 hL7 hB7 hN7
        obtain ⟨q, A, c, hq, rfl, rfl, ho, hL, hB, hN⟩ := hrel
        have hsl : (L1 ++ immL i.m q).length ≤ 6 := by rw [List.length_append]; have := immL_len i.m q; omega
        have q4 := hL.gm
        obtain rfl := hq
        · have HO := Lib.hid ho
          have HXe := Lib.hid (show L1 ++ immL i.m 0 = X from by rw [HX.out, ← HM.out])
          rw [HXe.out] at HO ⊢
          clear ho
          go_wp2_with fail
          go_ret2
          exact ⟨⟨A, c, rfl, HO.out.mono (Nat.le_of_lt hltN)⟩, hB⟩
    · subst hk0
      go_wp2_with fail
      go_loopw [7, 58] (fun v j wr => ∃ (q : Int) (A : Option Addr) (c : Nat), (q = 0 ∨ q = 1) ∧ j = .int .i64 q ∧ v = .slice A (L1 ++ immL i.m q).length c ∧ OB wr N A c (L1 ++ immL i.m q) ∧ InW wr w.heap.size i ∧ Below w.heap.size w wr ∧ N ≤ wr.heap.size) (fun _ j _ => 1 - (intOf j).toNat)
      case atStart => exact ⟨0, A7, c7, by simp, rfl, by simp [immL], by simpa [immL] using hO7, hL7, hB7, hN7⟩
      case round =>
        clear hO7 hL7 hB7 hN7
        obtain ⟨q, A, c, hq, rfl, rfl, ho, hL, hB, hN⟩ := hrel
        have hsl : (L1 ++ immL i.m q).length ≤ 6 := by rw [List.length_append]; have := immL_len i.m q; omega
        have q4 := hL.gm
        obtain rfl | rfl := hq
        · have hS := Lib.hid (show L1 ++ immL i.m 0 ++ [i.m % 256] = L1 ++ immL i.m 1 from by simp [immL])
          have h8 : IntKind.u8.wrap i.m = i.m % 256 := wrap_u8 _
          obtain ⟨K, hK⟩ : ∃ K, L1 ++ immL i.m 0 = K := ⟨_, rfl⟩
          rw [hK] at ho hsl hS ⊢
          clear hK
          have HO := Lib.hid ho
          have HLr := Lib.hid hL
          have HBr := Lib.hid hB
          clear ho hL hB
          go_wp2_with (at_builtin; refine wpList_append_rb _ rfl _ _ rfl N _ A _ c K rfl rfl (HO.out.alloc _) _ _ _ [i.m % 256] rfl rfl (RB.lit1 _ _ (by omega) (by omega)) (by simp; omega) (by simp; omega) ?_; intro A' c' w8 hob hbel hne)
          have hbg : Below N wr w8 := ((Below.refl N wr).alloc hN _).trans hbel
          go_roundw
          case rel => exact ⟨1, A', c', by simp, by go_num, (by rw [← hS.out, List.length_append]; rfl), by rw [← hS.out]; exact hob, HLr.out.below hbg hltN, HBr.out.trans (hbg.mono (Nat.le_of_lt hltN)), Nat.le_trans hN hbg.size⟩
          case measure => simp [intOf]
        · have HO := Lib.hid ho
          have HXe := Lib.hid (show L1 ++ immL i.m 1 = X from by rw [HX.out, ← HM.out])
          rw [HXe.out] at HO ⊢
          clear ho
          go_wp2_with fail
          go_ret2
          exact ⟨⟨A, c, rfl, HO.out.mono (Nat.le_of_lt hltN)⟩, hB⟩
    · subst hk0
      go_wp2_with fail
      go_loopw [7, 58] (fun v j wr => ∃ (q : Int) (A : Option Addr) (c : Nat), (q = 0 ∨ q = 1 ∨ q = 2) ∧ j = .int .i64 q ∧ v = .slice A (L1 ++ immL i.m q).length c ∧ OB wr N A c (L1 ++ immL i.m q) ∧ InW wr w.heap.size i ∧ Below w.heap.size w wr ∧ N ≤ wr.heap.size) (fun _ j _ => 2 - (intOf j).toNat)
      case atStart => exact ⟨0, A7, c7, by simp, rfl, by simp [immL], by simpa [immL] using hO7, hL7, hB7, hN7⟩
      case round =>
        clear hO7 hL7 hB7 hN7
        obtain ⟨q, A, c, hq, rfl, rfl, ho, hL, hB, hN⟩ := hrel
        have hsl : (L1 ++ immL i.m q).length ≤ 6 := by rw [List.length_append]; have := immL_len i.m q; omega
        have q4 := hL.gm
        obtain rfl | rfl | rfl := hq
        · have hS := Lib.hid (show L1 ++ immL i.m 0 ++ [i.m % 256] = L1 ++ immL i.m 1 from by simp [immL])
          have h8 : IntKind.u8.wrap i.m = i.m % 256 := wrap_u8 _
          obtain ⟨K, hK⟩ : ∃ K, L1 ++ immL i.m 0 = K := ⟨_, rfl⟩
          rw [hK] at ho hsl hS ⊢
          clear hK
          have HO := Lib.hid ho
          have HLr := Lib.hid hL
          have HBr := Lib.hid hB
          clear ho hL hB
          go_wp2_with (at_builtin; refine wpList_append_rb _ rfl _ _ rfl N _ A _ c K rfl rfl (HO.out.alloc _) _ _ _ [i.m % 256] rfl rfl (RB.lit1 _ _ (by omega) (by omega)) (by simp; omega) (by simp; omega) ?_; intro A' c' w8 hob hbel hne)
          have hbg : Below N wr w8 := ((Below.refl N wr).alloc hN _).trans hbel
          go_roundw
          case rel => exact ⟨1, A', c', by simp, by go_num, (by rw [← hS.out, List.length_append]; rfl), by rw [← hS.out]; exact hob, HLr.out.below hbg hltN, HBr.out.trans (hbg.mono (Nat.le_of_lt hltN)), Nat.le_trans hN hbg.size⟩
          case measure => simp [intOf]
        · have hS := Lib.hid (show L1 ++ immL i.m 1 ++ [i.m / 256 % 256] = L1 ++ immL i.m 2 from by simp [immL])
          have h8 : IntKind.u8.wrap (i.m / 256) = i.m / 256 % 256 := wrap_u8 _
          obtain ⟨K, hK⟩ : ∃ K, L1 ++ immL i.m 1 = K := ⟨_, rfl⟩
          rw [hK] at ho hsl hS ⊢
          clear hK
          have HO := Lib.hid ho
          have HLr := Lib.hid hL
          have HBr := Lib.hid hB
          clear ho hL hB
          go_wp2_with (at_builtin; refine wpList_append_rb _ rfl _ _ rfl N _ A _ c K rfl rfl (HO.out.alloc _) _ _ _ [i.m / 256 % 256] rfl rfl (RB.lit1 _ _ (by omega) (by omega)) (by simp; omega) (by simp; omega) ?_; intro A' c' w8 hob hbel hne)
          have hbg : Below N wr w8 := ((Below.refl N wr).alloc hN _).trans hbel
          go_roundw
          case rel => exact ⟨2, A', c', by simp, by go_num, (by rw [← hS.out, List.length_append]; rfl), by rw [← hS.out]; exact hob, HLr.out.below hbg hltN, HBr.out.trans (hbg.mono (Nat.le_of_lt hltN)), Nat.le_trans hN hbg.size⟩
          case measure => simp [intOf]
        · have HO := Lib.hid ho
          have HXe := Lib.hid (show L1 ++ immL i.m 2 = X from by rw [HX.out, ← HM.out])
          rw [HXe.out] at HO ⊢
          clear ho
          go_wp2_with fail
          go_ret2
          exact ⟨⟨A, c, rfl, HO.out.mono (Nat.le_of_lt hltN)⟩, hB⟩
  · rw [if_neg h3] at hM
    have h3' : (i.s == 3) = false := beq_eq_false_iff_ne.2 h3
    cases dd with
    | true =>
      rw [if_pos rfl] at hM
      have HM := Lib.hid (show L0 ++ M0 = L0 ++ [i.o, i.d % 256] from by rw [hM])
      obtain ⟨L1, hL1⟩ : ∃ L, L0 ++ [i.o, i.d % 256] = L := ⟨_, rfl⟩
      rw [hL1] at HM
      have hl1 : L1.length ≤ 4 := by rw [← hL1]; simp; omega
      have H1 := Lib.hid hL1
      clear hL1 hM hlm
      go_upto_region 12 with (at_builtin; refine wpList_append_rb _ rfl _ _ rfl N _ A4 _ c4 L0 rfl rfl (HO.out.alloc _) _ _ _ [i.o, i.d % 256] rfl rfl (RB.lit2 _ _ _ ho0 ho1 d0 d1) (by simp; omega) (by simp; omega) ?_; intro A7 c7 w7 hO7' hbel7 hne; rw [H1.out])
      have hO7 : OB w7 N A7 c7 L1 := by rw [← H1.out]; exact hO7'
      have hb7 : Below N wc w7 := ((Below.refl N wc).alloc hN6 (.cells #[.int .u8 (i.o), .int .u8 (i.d % 256)] 5)).trans hbel7
      clear hbel7
      have hL7 := HL6.out.below hb7 hltN
      have hB7 := HB6.out.trans (hb7.mono (Nat.le_of_lt hltN))
      have hN7 : N ≤ w7.heap.size := Nat.le_trans hN6 hb7.size
      clear HL6 HB6 HO hb7 q0 q2 q3 hO7' hne
      obtain hk0 | hk0 | hk0 : kk = 0 ∨ kk = 1 ∨ kk = 2 := by omega
      · subst hk0
        go_wp2_with fail
        go_loopw [7, 58] (fun v j wr => ∃ (q : Int) (A : Option Addr) (c : Nat), (q = 0) ∧ j = .int .i64 q ∧ v = .slice A (L1 ++ immL i.m q).length c ∧ OB wr N A c (L1 ++ immL i.m q) ∧ InW wr w.heap.size i ∧ Below w.heap.size w wr ∧ N ≤ wr.heap.size) (fun _ j _ => 0 - (intOf j).toNat)
        case atStart => exact ⟨0, A7, c7, by simp, rfl, by simp [immL], by simpa [immL] using hO7, hL7, hB7, hN7⟩
        case round =>
          clear hO7 hL7 hB7 hN7
          obtain ⟨q, A, c, hq, rfl, rfl, ho, hL, hB, hN⟩ := hrel
          have hsl : (L1 ++ immL i.m q).length ≤ 6 := by rw [List.length_append]; have := immL_len i.m q; omega
          have q4 := hL.gm
          obtain rfl := hq
          · have HO := Lib.hid ho
            have HXe := Lib.hid (show L1 ++ immL i.m 0 = X from by rw [HX.out, ← HM.out])
            rw [HXe.out] at HO ⊢
            clear ho
            go_wp2_with fail
            go_ret2
            exact ⟨⟨A, c, rfl, HO.out.mono (Nat.le_of_lt hltN)⟩, hB⟩
      · subst hk0
        go_wp2_with fail
        go_loopw [7, 58] (fun v j wr => ∃ (q : Int) (A : Option Addr) (c : Nat), (q = 0 ∨ q = 1) ∧ j = .int .i64 q ∧ v = .slice A (L1 ++ immL i.m q).length c ∧ OB wr N A c (L1 ++ immL i.m q) ∧ InW wr w.heap.size i ∧ Below w.heap.size w wr ∧ N ≤ wr.heap.size) (fun _ j _ => 1 - (intOf j).toNat)
        case atStart => exact ⟨0, A7, c7, by simp, rfl, by simp [immL], by simpa [immL] using hO7, hL7, hB7, hN7⟩
        case round =>
          clear hO7 hL7 hB7 hN7
          obtain ⟨q, A, c, hq, rfl, rfl, ho, hL, hB, hN⟩ := hrel
          have hsl : (L1 ++ immL i.m q).length ≤ 6 := by rw [List.length_append]; have := immL_len i.m q; omega
          have q4 := hL.gm
          obtain rfl | rfl := hq
          · have hS := Lib.hid (show L1 ++ immL i.m 0 ++ [i.m % 256] = L1 ++ immL i.m 1 from by simp [immL])
            have h8 : IntKind.u8.wrap i.m = i.m % 256 := wrap_u8 _
            obtain ⟨K, hK⟩ : ∃ K, L1 ++ immL i.m 0 = K := ⟨_, rfl⟩
            rw [hK] at ho hsl hS ⊢
            clear hK
            have HO := Lib.hid ho
            have HLr := Lib.hid hL
            have HBr := Lib.hid hB
            clear ho hL hB
            go_wp2_with (at_builtin; refine wpList_append_rb _ rfl _ _ rfl N _ A _ c K rfl rfl (HO.out.alloc _) _ _ _ [i.m % 256] rfl rfl (RB.lit1 _ _ (by omega) (by omega)) (by simp; omega) (by simp; omega) ?_; intro A' c' w8 hob hbel hne)
            have hbg : Below N wr w8 := ((Below.refl N wr).alloc hN _).trans hbel
            go_roundw
            case rel => exact ⟨1, A', c', by simp, by go_num, (by rw [← hS.out, List.length_append]; rfl), by rw [← hS.out]; exact hob, HLr.out.below hbg hltN, HBr.out.trans (hbg.mono (Nat.le_of_lt hltN)), Nat.le_trans hN hbg.size⟩
            case measure => simp [intOf]
          · have HO := Lib.hid ho
            have HXe := Lib.hid (show L1 ++ immL i.m 1 = X from by rw [HX.out, ← HM.out])
            rw [HXe.out] at HO ⊢
            clear ho
            go_wp2_with fail
            go_ret2
            exact ⟨⟨A, c, rfl, HO.out.mono (Nat.le_of_lt hltN)⟩, hB⟩
      · subst hk0
        go_wp2_with fail
        go_loopw [7, 58] (fun v j wr => ∃ (q : Int) (A : Option Addr) (c : Nat), (q = 0 ∨ q = 1 ∨ q = 2) ∧ j = .int .i64 q ∧ v = .slice A (L1 ++ immL i.m q).length c ∧ OB wr N A c (L1 ++ immL i.m q) ∧ InW wr w.heap.size i ∧ Below w.heap.size w wr ∧ N ≤ wr.heap.size) (fun _ j _ => 2 - (intOf j).toNat)
        case atStart => exact ⟨0, A7, c7, by simp, rfl, by simp [immL], by simpa [immL] using hO7, hL7, hB7, hN7⟩
        case round =>
          clear hO7 hL7 hB7 hN7
          obtain ⟨q, A, c, hq, rfl, rfl, ho, hL, hB, hN⟩ := hrel
          have hsl : (L1 ++ immL i.m q).length ≤ 6 := by rw [List.length_append]; have := immL_len i.m q; omega
          have q4 := hL.gm
          obtain rfl | rfl | rfl := hq
          · have hS := Lib.hid (show L1 ++ immL i.m 0 ++ [i.m % 256] = L1 ++ immL i.m 1 from by simp [immL])
            have h8 : IntKind.u8.wrap i.m = i.m % 256 := wrap_u8 _
            obtain ⟨K, hK⟩ : ∃ K, L1 ++ immL i.m 0 = K := ⟨_, rfl⟩
            rw [hK] at ho hsl hS ⊢
            clear hK
            have HO := Lib.hid ho
            have HLr := Lib.hid hL
            have HBr := Lib.hid hB
            clear ho hL hB
            go_wp2_with (at_builtin; refine wpList_append_rb _ rfl _ _ rfl N _ A _ c K rfl rfl (HO.out.alloc _) _ _ _ [i.m % 256] rfl rfl (RB.lit1 _ _ (by omega) (by omega)) (by simp; omega) (by simp; omega) ?_; intro A' c' w8 hob hbel hne)
            have hbg : Below N wr w8 := ((Below.refl N wr).alloc hN _).trans hbel
            go_roundw
            case rel => exact ⟨1, A', c', by simp, by go_num, (by rw [← hS.out, List.length_append]; rfl), by rw [← hS.out]; exact hob, HLr.out.below hbg hltN, HBr.out.trans (hbg.mono (Nat.le_of_lt hltN)), Nat.le_trans hN hbg.size⟩
            case measure => simp [intOf]
          · have hS := Lib.hid (show L1 ++ immL i.m 1 ++ [i.m / 256 % 256] = L1 ++ immL i.m 2 from by simp [immL])
            have h8 : IntKind.u8.wrap (i.m / 256) = i.m / 256 % 256 := wrap_u8 _
            obtain ⟨K, hK⟩ : ∃ K, L1 ++ immL i.m 1 = K := ⟨_, rfl⟩
            rw [hK] at ho hsl hS ⊢
            clear hK
            have HO := Lib.hid ho
            have HLr := Lib.hid hL
            have HBr := Lib.hid hB
            clear ho hL hB
            go_wp2_with (at_builtin; refine wpList_append_rb _ rfl _ _ rfl N _ A _ c K rfl rfl (HO.out.alloc _) _ _ _ [i.m / 256 % 256] rfl rfl (RB.lit1 _ _ (by omega) (by omega)) (by simp; omega) (by simp; omega) ?_; intro A' c' w8 hob hbel hne)
            have hbg : Below N wr w8 := ((Below.refl N wr).alloc hN _).trans hbel
            go_roundw
            case rel => exact ⟨2, A', c', by simp, by go_num, (by rw [← hS.out, List.length_append]; rfl), by rw [← hS.out]; exact hob, HLr.out.below hbg hltN, HBr.out.trans (hbg.mono (Nat.le_of_lt hltN)), Nat.le_trans hN hbg.size⟩
            case measure => simp [intOf]
          · have HO := Lib.hid ho
            have HXe := Lib.hid (show L1 ++ immL i.m 2 = X from by rw [HX.out, ← HM.out])
            rw [HXe.out] at HO ⊢
            clear ho
            go_wp2_with fail
            go_ret2
            exact ⟨⟨A, c, rfl, HO.out.mono (Nat.le_of_lt hltN)⟩, hB⟩
    | false =>
      rw [if_neg (by decide)] at hM
      have HM := Lib.hid (show L0 ++ M0 = L0 ++ [i.o] from by rw [hM])
      obtain ⟨L1, hL1⟩ : ∃ L, L0 ++ [i.o] = L := ⟨_, rfl⟩
      rw [hL1] at HM
      have hl1 : L1.length ≤ 4 := by rw [← hL1]; simp; omega
      have H1 := Lib.hid hL1
      clear hL1 hM hlm
      go_upto_region 12 with (at_builtin; refine wpList_append_rb _ rfl _ _ rfl N _ A4 _ c4 L0 rfl rfl (HO.out.alloc _) _ _ _ [i.o] rfl rfl (RB.lit1 _ _ ho0 ho1) (by simp; omega) (by simp; omega) ?_; intro A7 c7 w7 hO7' hbel7 hne; rw [H1.out])
      have hO7 : OB w7 N A7 c7 L1 := by rw [← H1.out]; exact hO7'
      have hb7 : Below N wc w7 := ((Below.refl N wc).alloc hN6 (.cells #[.int .u8 (i.o)] 5)).trans hbel7
      clear hbel7
      have hL7 := HL6.out.below hb7 hltN
      have hB7 := HB6.out.trans (hb7.mono (Nat.le_of_lt hltN))
      have hN7 : N ≤ w7.heap.size := Nat.le_trans hN6 hb7.size
      clear HL6 HB6 HO hb7 q0 q2 q3 hO7' hne
      obtain hk0 | hk0 | hk0 : kk = 0 ∨ kk = 1 ∨ kk = 2 := by omega
      · subst hk0
        go_wp2_with fail
        go_loopw [7, 58] (fun v j wr => ∃ (q : Int) (A : Option Addr) (c : Nat), (q = 0) ∧ j = .int .i64 q ∧ v = .slice A (L1 ++ immL i.m q).length c ∧ OB wr N A c (L1 ++ immL i.m q) ∧ InW wr w.heap.size i ∧ Below w.heap.size w wr ∧ N ≤ wr.heap.size) (fun _ j _ => 0 - (intOf j).toNat)
        case atStart => exact ⟨0, A7, c7, by simp, rfl, by simp [immL], by simpa [immL] using hO7, hL7, hB7, hN7⟩
        case round =>
          clear hO7 hL7 hB7 hN7
          obtain ⟨q, A, c, hq, rfl, rfl, ho, hL, hB, hN⟩ := hrel
          have hsl : (L1 ++ immL i.m q).length ≤ 6 := by rw [List.length_append]; have := immL_len i.m q; omega
          have q4 := hL.gm
          obtain rfl := hq
          · have HO := Lib.hid ho
            have HXe := Lib.hid (show L1 ++ immL i.m 0 = X from by rw [HX.out, ← HM.out])
            rw [HXe.out] at HO ⊢
            clear ho
            go_wp2_with fail
            go_ret2
            exact ⟨⟨A, c, rfl, HO.out.mono (Nat.le_of_lt hltN)⟩, hB⟩
      · subst hk0
        go_wp2_with fail
        go_loopw [7, 58] (fun v j wr => ∃ (q : Int) (A : Option Addr) (c : Nat), (q = 0 ∨ q = 1) ∧ j = .int .i64 q ∧ v = .slice A (L1 ++ immL i.m q).length c ∧ OB wr N A c (L1 ++ immL i.m q) ∧ InW wr w.heap.size i ∧ Below w.heap.size w wr ∧ N ≤ wr.heap.size) (fun _ j _ => 1 - (intOf j).toNat)
        case atStart => exact ⟨0, A7, c7, by simp, rfl, by simp [immL], by simpa [immL] using hO7, hL7, hB7, hN7⟩
        case round =>
          clear hO7 hL7 hB7 hN7
          obtain ⟨q, A, c, hq, rfl, rfl, ho, hL, hB, hN⟩ := hrel
          have hsl : (L1 ++ immL i.m q).length ≤ 6 := by rw [List.length_append]; have := immL_len i.m q; omega
          have q4 := hL.gm
          obtain rfl | rfl := hq
          · have hS := Lib.hid (show L1 ++ immL i.m 0 ++ [i.m % 256] = L1 ++ immL i.m 1 from by simp [immL])
            have h8 : IntKind.u8.wrap i.m = i.m % 256 := wrap_u8 _
            obtain ⟨K, hK⟩ : ∃ K, L1 ++ immL i.m 0 = K := ⟨_, rfl⟩
            rw [hK] at ho hsl hS ⊢
            clear hK
            have HO := Lib.hid ho
            have HLr := Lib.hid hL
            have HBr := Lib.hid hB
            clear ho hL hB
            go_wp2_with (at_builtin; refine wpList_append_rb _ rfl _ _ rfl N _ A _ c K rfl rfl (HO.out.alloc _) _ _ _ [i.m % 256] rfl rfl (RB.lit1 _ _ (by omega) (by omega)) (by simp; omega) (by simp; omega) ?_; intro A' c' w8 hob hbel hne)
            have hbg : Below N wr w8 := ((Below.refl N wr).alloc hN _).trans hbel
            go_roundw
            case rel => exact ⟨1, A', c', by simp, by go_num, (by rw [← hS.out, List.length_append]; rfl), by rw [← hS.out]; exact hob, HLr.out.below hbg hltN, HBr.out.trans (hbg.mono (Nat.le_of_lt hltN)), Nat.le_trans hN hbg.size⟩
            case measure => simp [intOf]
          · have HO := Lib.hid ho
            have HXe := Lib.hid (show L1 ++ immL i.m 1 = X from by rw [HX.out, ← HM.out])
            rw [HXe.out] at HO ⊢
            clear ho
            go_wp2_with fail
            go_ret2
            exact ⟨⟨A, c, rfl, HO.out.mono (Nat.le_of_lt hltN)⟩, hB⟩
      · subst hk0
        go_wp2_with fail
        go_loopw [7, 58] (fun v j wr => ∃ (q : Int) (A : Option Addr) (c : Nat), (q = 0 ∨ q = 1 ∨ q = 2) ∧ j = .int .i64 q ∧ v = .slice A (L1 ++ immL i.m q).length c ∧ OB wr N A c (L1 ++ immL i.m q) ∧ InW wr w.heap.size i ∧ Below w.heap.size w wr ∧ N ≤ wr.heap.size) (fun _ j _ => 2 - (intOf j).toNat)
        case atStart => exact ⟨0, A7, c7, by simp, rfl, by simp [immL], by simpa [immL] using hO7, hL7, hB7, hN7⟩
        case round =>
          clear hO7 hL7 hB7 hN7
          obtain ⟨q, A, c, hq, rfl, rfl, ho, hL, hB, hN⟩ := hrel
          have hsl : (L1 ++ immL i.m q).length ≤ 6 := by rw [List.length_append]; have := immL_len i.m q; omega
          have q4 := hL.gm
          obtain rfl | rfl | rfl := hq
          · have hS := Lib.hid (show L1 ++ immL i.m 0 ++ [i.m % 256] = L1 ++ immL i.m 1 from by simp [immL])
            have h8 : IntKind.u8.wrap i.m = i.m % 256 := wrap_u8 _
            obtain ⟨K, hK⟩ : ∃ K, L1 ++ immL i.m 0 = K := ⟨_, rfl⟩
            rw [hK] at ho hsl hS ⊢
            clear hK
            have HO := Lib.hid ho
            have HLr := Lib.hid hL
            have HBr := Lib.hid hB
            clear ho hL hB
            go_wp2_with (at_builtin; refine wpList_append_rb _ rfl _ _ rfl N _ A _ c K rfl rfl (HO.out.alloc _) _ _ _ [i.m % 256] rfl rfl (RB.lit1 _ _ (by omega) (by omega)) (by simp; omega) (by simp; omega) ?_; intro A' c' w8 hob hbel hne)
            have hbg : Below N wr w8 := ((Below.refl N wr).alloc hN _).trans hbel
            go_roundw
            case rel => exact ⟨1, A', c', by simp, by go_num, (by rw [← hS.out, List.length_append]; rfl), by rw [← hS.out]; exact hob, HLr.out.below hbg hltN, HBr.out.trans (hbg.mono (Nat.le_of_lt hltN)), Nat.le_trans hN hbg.size⟩
            case measure => simp [intOf]
          · have hS := Lib.hid (show L1 ++ immL i.m 1 ++ [i.m / 256 % 256] = L1 ++ immL i.m 2 from by simp [immL])
            have h8 : IntKind.u8.wrap (i.m / 256) = i.m / 256 % 256 := wrap_u8 _
            obtain ⟨K, hK⟩ : ∃ K, L1 ++ immL i.m 1 = K := ⟨_, rfl⟩
            rw [hK] at ho hsl hS ⊢
            clear hK
            have HO := Lib.hid ho
            have HLr := Lib.hid hL
            have HBr := Lib.hid hB
            clear ho hL hB
            go_wp2_with (at_builtin; refine wpList_append_rb _ rfl _ _ rfl N _ A _ c K rfl rfl (HO.out.alloc _) _ _ _ [i.m / 256 % 256] rfl rfl (RB.lit1 _ _ (by omega) (by omega)) (by simp; omega) (by simp; omega) ?_; intro A' c' w8 hob hbel hne)
            have hbg : Below N wr w8 := ((Below.refl N wr).alloc hN _).trans hbel
            go_roundw
            case rel => exact ⟨2, A', c', by simp, by go_num, (by rw [← hS.out, List.length_append]; rfl), by rw [← hS.out]; exact hob, HLr.out.below hbg hltN, HBr.out.trans (hbg.mono (Nat.le_of_lt hltN)), Nat.le_trans hN hbg.size⟩
            case measure => simp [intOf]
          · have HO := Lib.hid ho
            have HXe := Lib.hid (show L1 ++ immL i.m 2 = X from by rw [HX.out, ← HM.out])
            rw [HXe.out] at HO ⊢
            clear ho
            go_wp2_with fail
            go_ret2
            exact ⟨⟨A, c, rfl, HO.out.mono (Nat.le_of_lt hltN)⟩, hB⟩
end Go.Proofs.Ytedlfcmlchjjlaa
