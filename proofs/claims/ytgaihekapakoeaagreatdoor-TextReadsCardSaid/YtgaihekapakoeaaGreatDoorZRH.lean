/-  -/
import Derived.Test.YtgaihekapakoeaaGreatDoorJ31
set_option linter.unusedVariables false
set_option linter.unusedSimpArgs false
namespace Go.Proofs.YtgaihekapakoeaaGreatDoor
open Go.RowKit


set_option maxRecDepth 100000

theorem fit_wf {s x o d m : Int} (s0 : 0 ≤ s) (s1 : s < 4) (x0 : 0 ≤ x) (x1 : x < 3) (o0 : 0 ≤ o) (o1 : o < 256) (hd : -1000000 < d ∧ d < 1000000) (hm : -1000000 < m ∧ m < 1000000) : (fitIn s x o d m).Wf := by
 have hn := needN_in s x o
 have hl : 0 ≤ lenI s x o ∧ lenI s x o ≤ 10 := by
  unfold lenI num1
  repeat' split
  all_goals omega
 have hw : ∀ v : Int, -1000000 < v → v < 1000000 → (Lit.int .i64 v).wf = true := fun v h0 h1 => by
  simp only [Lit.wf, Bool.and_eq_true, decide_eq_true_eq]
  have e1 : IntKind.i64.min = -9223372036854775808 := by decide
  have e2 : IntKind.i64.max = 9223372036854775807 := by decide
  omega
 have hD : -1000000 < (fitIn s x o d m).d ∧ (fitIn s x o d m).d < 1000000 := by
  show -1000000 < (if needD s x o = true then d else 0) ∧ (if needD s x o = true then d else 0) < 1000000
  split
  ·exact hd
  ·decide
 have hM : -1000000 < (fitIn s x o d m).m ∧ (fitIn s x o d m).m < 1000000 := by
  show -1000000 < (if 0 < needN s x o then m else 0) ∧ (if 0 < needN s x o then m else 0) < 1000000
  split
  ·exact hm
  ·decide
 exact ⟨hw s (by omega) (by omega), hw x (by omega) (by omega), hw o (by omega) (by omega), hw _ hD.1 hD.2, hw _ hM.1 hM.2, hw _ (by show -1000000 < lenI s x o; omega) (by show lenI s x o < 1000000; omega)⟩

theorem OI.own {w : World} {base c : Nat} {A : Option Addr} {l : List Int} (h : OI w base A c l) : w.ownsRow base 3 1 (.slice A l.length c) l.length (l.map (Value.int .i64)) := h
set_option maxHeartbeats 16000000 in
theorem parse10_find (hOf : OfR) (s : List UInt8) (hs : s.length ≤ 60) (hd : dbS s = false) (r : Option In) (K3 ja jb : Nat)
  (hja : ja < 4 ∧ ja ≤ (numM false none s).length) (hjb : jb < 4 ∧ jb ≤ (numM false none s).length) (hr0 : r = none ∨ K3 < 3072)
  (F1 : ∀ a b c d m : Int, isT (fitIn a b c d m) ⟨s.toArray⟩ = true → r = some (fitIn a b c d m))
  (F2 : ∀ a b c : Nat, a < 4 → b < 3 → c < 256 → (a * 3 + b) * 256 + c = K3 → likeB a b c ⟨(baldT s).toArray⟩ = true ∧ isT (fitIn a b c ((numM false none s ++ [0]).getD ja 0) ((numM false none s ++ [0]).getD jb 0)) ⟨s.toArray⟩ = true)
  (w : World) :
  Calls Tryz.prog 20 #[.string ⟨s.toArray⟩] w fun e w' => e = .returned (.tuple #[(r.getD zeroI).val, .int .i64 (optE r)]) ∧ Below w.heap.size w w' := by
 obtain ⟨i1, hi, hz0, hz1, hz2⟩ := info_parts info_int
 obtain ⟨w1, hw1⟩ : ∃ w1, w.alloc (inO zeroI) = w1 := ⟨_, rfl⟩
 have hb1 : Below w.heap.size w w1 := hw1 ▸ (Below.refl _ _).alloc (Nat.le_refl _) _
 have hr1 : InW w1 w.heap.size zeroI := hw1 ▸ InW.laid w zeroI
 have hsz : (⟨s.toArray⟩ : ByteArray).size = s.length := sz_len s
 have hN := d10_numbers ⟨s.toArray⟩ w1 (by omega)
 simp only [show (⟨s.toArray⟩ : ByteArray).data.toList = s from rfl] at hN
 have hBd := fun w => d10_bald ⟨s.toArray⟩ w (by omega)
 simp only [show (⟨s.toArray⟩ : ByteArray).data.toList = s from rfl] at hBd
 have hsm := num_small s false none (fun n hn => by cases hn)
 have hZl := num_len s false none
 rw [if_pos rfl] at hZl
 have hpre : s.length ≤ 3 ∨ (3 < s.length ∧ ((⟨s.toArray⟩ : ByteArray).extract 0 3).toList ≠ [68, 66, 32]) := by
  by_cases h3 : s.length ≤ 3
  ·exact .inl h3
  ·refine .inr ⟨by omega, fun e => ?_⟩
   rw [head_text, ByteArray.toList_eq] at e
   unfold dbS at hd
   simp only [Bool.and_eq_false_iff, decide_eq_false_iff_not] at hd
   rcases hd with h | h
   ·omega
   ·exact h e
 obtain ⟨Z, hZ⟩ : ∃ Z, numM false none s = Z := ⟨_, rfl⟩
 rw [hZ] at hN hZl hja hjb hsm
 simp only [hZ] at F2
 obtain ⟨S, hS⟩ : ∃ S : ByteArray, (⟨s.toArray⟩ : ByteArray) = S := ⟨_, rfl⟩
 obtain ⟨T, hT⟩ : ∃ T : ByteArray, (⟨(baldT s).toArray⟩ : ByteArray) = T := ⟨_, rfl⟩
 rw [hS] at hN hsz hpre ⊢
 simp only [hS, hT] at hBd F1 F2
 have t0 : ¬ (60 : Int) < S.size := by omega
 have hpre2 : ¬ (3 : Int) < S.size ∨ (3 : Int) < S.size ∧ ((S.extract 0 3).toList == [68, 66, 32]) = false := by
  rcases hpre with h | ⟨h, h2⟩
  ·exact .inl (by omega)
  ·exact .inr ⟨by omega, by simpa using h2⟩
 have HN := z_ hN
 have HB := z_ hb1
 have HR := z_ hr1
 have HBd := z_ hBd
 have HF1 := z_ F1
 have HF2 := z_ F2
 have HSm := z_ hsm
 unfold inO zeroI at hw1
 clear hb1 hr1 hN hS hT hZ hd hsz hpre hBd F1 F2 hsm
 go_enter Tryz.func20, Tryz.ntmps20
 go_upto_region 4 with (go_at_call 41; (with_reducible refine HN.out.mono ?_); rintro e w2 ⟨⟨A, c, rfl, ho2⟩, hb2⟩)
 have HO2 := z_ ho2
 have HB2 := z_ hb2
 have hs1 := HB.out.size
 have hs2 := hb2.size
 clear ho2 hb2 HN
 go_cut [31] from 24 to 31 (fun v wx => v = .bool false ∧ wx = w2)
 case first =>
  rcases hpre2 with h | ⟨h, h2⟩
  ·go_wp2_with fail
   go_meet
   case rel => exact ⟨rfl, rfl⟩
  ·have h3 : 3 ≤ S.size := by omega
   go_wp2_with fail
   go_meet
   case rel => exact ⟨rfl, rfl⟩
 case rest =>
  obtain ⟨rfl, rfl⟩ := hcut
  go_upto_region 24 with (first
   | (at_builtin; refine wpList_append_own _ rfl (.tmp 87) (.tmp 88) 61 rfl w1.heap.size 3 i1 (.int .i64 0) 1 8 Tryz.underlying61 hi hz0 hz1 hz2 rfl (by decide) _ Z.length (Z.map (Value.int .i64)) rfl ((OI.own HO2.out).alloc _) ⟨wc.heap.size, 0, none⟩ 1 1 [.int .i64 0] rfl rfl (new_text wc _ _) (fun u hu => by obtain rfl := List.mem_singleton.1 hu; rfl) (by unfold maxLen; omega) (by omega) (by simp; omega) ?_; intro v' w3 hown hg3 _)
   | (go_at_call 42; (with_reducible refine (HBd.out _).mono ?_); rintro e w6 ⟨rfl, rfl⟩))
  -- THE LOOPS
  have hS3 := hown.lt
  have hb13 : Below w1.heap.size w1 w3 := (HB2.out.alloc hs2 _).grown hg3 (by simp; omega) (fun k hk => ((OI.own HO2.out).lt k hk).1)
  obtain ⟨N, hN⟩ : ∃ N, Z ++ [0] = N := ⟨_, rfl⟩
  have hNl : N.length = Z.length + 1 := by rw [← hN]; simp
  have hOI : w3.ownsRow w1.heap.size 3 1 v' N.length (N.map (Value.int .i64)) := by
   rw [hNl, ← hN, List.map_append]
   exact hown
  obtain ⟨A3, c3, rfl⟩ := OI.shape hOI
  obtain ⟨q1, q2, q3⟩ := OI.at_ (l := N) hOI
  obtain ⟨b3, o3, rfl, hb3, hat⟩ := q3 (by omega)
  unfold maxLen at q2
  have hNs : ∀ k, k < N.length → -1000000 < N.getD k 0 ∧ N.getD k 0 < 1000000 := by
   intro k hk
   have hm : N.getD k 0 ∈ N := by rw [List.getD_eq_getElem?_getD, List.getElem?_eq_getElem hk]; exact List.getElem_mem hk
   rw [← hN] at hm
   rcases List.mem_append.1 hm with h | h
   ·rw [hN] at h; exact HSm.out _ h
   ·rw [hN] at h
    have h0 : N.getD k 0 = 0 := by simpa using h
    rw [h0]; decide
  have F2 := HF2.out
  simp only [hN] at F2
  have HF2b := z_ F2
  have hlt := HR.out.lt
  have hr3 : InW w3 w.heap.size zeroI := HR.out.below hb13 hlt
  have hb03 : Below w.heap.size w w3 := HB.out.trans (hb13.mono hs1)
  have hs13 := hb13.size
  have HR3 := z_ hr3
  have HB3 := z_ hb03
  have HAt := z_ hat
  have HNs := z_ hNs
  have hja2 : ja < 4 ∧ ja < N.length := ⟨hja.1, by rw [hNl]; exact Nat.lt_succ_of_le hja.2⟩
  have hjb2 : jb < 4 ∧ jb < N.length := ⟨hjb.1, by rw [hNl]; exact Nat.lt_succ_of_le hjb.2⟩
  clear hNl hZl hja hjb hown hg3 hb13 hOI hr3 hb03 hat F2 hN hNs HSm HF2 HO2 HB2 hpre2 t0 q3
  go_loopw [11] (fun i wr => ∃ a : Nat, i = .int .i64 a ∧ a ≤ 4 ∧ a * 768 ≤ K3 ∧ Below w3.heap.size w3 wr) (fun i _ => 4 - (intOf i).toNat)
  case atStart => exact ⟨0, rfl, by omega, by omega, Below.refl _ _⟩
  case round =>
   rename World => wr
   obtain ⟨a, rfl, ha4, hK1, hb⟩ := hrel
   have HBa := z_ hb
   clear hb
   by_cases ha : a < 4
   ·have ta : (a : Int) < 4 := by omega
    go_wp2_with fail
    go_loopw [12] (fun i wr => ∃ b : Nat, i = .int .i64 b ∧ b ≤ 3 ∧ (a * 3 + b) * 256 ≤ K3 ∧ Below w3.heap.size w3 wr) (fun i _ => 3 - (intOf i).toNat)
    case atStart => exact ⟨0, rfl, by omega, by omega, HBa.out⟩
    case round =>
     rename World => wr
     obtain ⟨b, rfl, hb4, hK2, hb⟩ := hrel
     have HBb := z_ hb
     clear hb
     by_cases hbq : b < 3
     ·have tb : (b : Int) < 3 := by omega
      go_wp2_with fail
      go_loopw [13] (fun i wr => ∃ c : Nat, i = .int .i64 c ∧ c ≤ 256 ∧ (a * 3 + b) * 256 + c ≤ K3 ∧ Below w3.heap.size w3 wr) (fun i _ => 256 - (intOf i).toNat)
      case atStart => exact ⟨0, rfl, by omega, by omega, HBb.out⟩
      case round =>
       rename World => wr
       obtain ⟨c, rfl, hc4, hK4, hb⟩ := hrel
       have HBc := z_ hb
       clear hb
       by_cases hc : c < 256
       ·have tc : (c : Int) < 256 := by omega
        have hq := HF2b.out a b c ha hbq hc
        have hlk := fun w => d10_like a b c T hOf (by omega) (fit_wf (by omega) (by omega) (by omega) (by omega) (by omega) (by omega) (by decide) (by decide)) w
        obtain ⟨q, hqq⟩ : ∃ q, likeB (a : Int) (b : Int) (c : Int) T = q := ⟨_, rfl⟩
        rw [hqq] at hq
        simp only [hqq] at hlk
        obtain ⟨K, hK⟩ : ∃ K, (a * 3 + b) * 256 + c = K := ⟨_, rfl⟩
        rw [hK] at hq hK4
        have HQ := z_ hq
        have HLk := z_ hlk
        have HK := z_ hK
        clear hq hlk hqq hK
        go_wp2_with fail
        go_loopw [14] (fun i wr => ∃ x : Nat, i = .int .i64 x ∧ x ≤ N.length ∧ x ≤ 4 ∧ (K < K3 ∨ (K = K3 ∧ x ≤ ja)) ∧ Below w3.heap.size w3 wr) (fun i _ => 4 - (intOf i).toNat)
        case atStart => exact ⟨0, rfl, by omega, by omega, by omega, HBc.out⟩
        case round =>
         rename World => wr
         obtain ⟨x, rfl, hxl, hx4, hxK, hb⟩ := hrel
         have HBx := z_ hb
         clear hb
         by_cases hx : x < N.length
         ·have tx : (x : Int) < N.length := by omega
          by_cases hx5 : x < 4
          ·have tx4 : (x : Int) < 4 := by omega
           cases q with
           | false =>
            have hne : K ≠ K3 := fun h => by have := (HQ.out h).1; cases this
            go_wp2_with (go_at_call 43; (with_reducible refine (HLk.out _).mono ?_); rintro e w6 ⟨rfl, hb6⟩; have HB6 := z_ (HBx.out.trans (hb6.mono HBx.out.size)); clear hb6)
            go_roundw
            case rel => exact ⟨c + 1, by go_num, by omega, by have := HK.out; omega, HB6.out⟩
            case measure => simp [intOf]; omega
           | true =>
            go_wp2_with (go_at_call 43; (with_reducible refine (HLk.out _).mono ?_); rintro e w6 ⟨rfl, hb6⟩; have HB6 := z_ (HBx.out.trans (hb6.mono HBx.out.size)); clear hb6)
            go_loopw [15] (fun i wr => ∃ y : Nat, i = .int .i64 y ∧ y ≤ N.length ∧ y ≤ 4 ∧ (K < K3 ∨ (K = K3 ∧ (x < ja ∨ (x = ja ∧ y ≤ jb)))) ∧ Below w3.heap.size w3 wr) (fun i _ => 4 - (intOf i).toNat)
            case atStart => exact ⟨0, rfl, by omega, by omega, by omega, HB6.out⟩
            case round =>
             rename World => wr
             obtain ⟨y, rfl, hyl, hy4, hyK, hb⟩ := hrel
             have HBy := z_ hb
             clear hb
             by_cases hy : y < N.length
             ·have ty : (y : Int) < N.length := by omega
              by_cases hy5 : y < 4
              ·have ty4 : (y : Int) < 4 := by omega
               have cx := (World.cell?_of_block (HBy.out.block b3 hb3)).trans (HAt.out x hx)
               have cy := (World.cell?_of_block (HBy.out.block b3 hb3)).trans (HAt.out y hy)
               have nx := HNs.out x hx
               have ny := HNs.out y hy
               have hF1 := HF1.out (a : Int) b c (N.getD x 0) (N.getD y 0)
               have hF2 : K = K3 → x = ja → y = jb → isT (fitIn a b c (N.getD x 0) (N.getD y 0)) S = true := fun h1 h2 h3 => by rw [h2, h3]; exact (HQ.out h1).2
               obtain ⟨d, hd⟩ : ∃ d, N.getD x 0 = d := ⟨_, rfl⟩
               obtain ⟨m, hm⟩ : ∃ m, N.getD y 0 = m := ⟨_, rfl⟩
               rw [hd] at cx nx hF1 hF2
               rw [hm] at cy ny hF1 hF2
               clear hd hm
               have hft := fun w => d10_fits a b c d m S hOf (by omega) (fit_wf (by omega) (by omega) (by omega) (by omega) (by omega) (by omega) nx ny) w
               obtain ⟨I, hI⟩ : ∃ I, fitIn (a : Int) b c d m = I := ⟨_, rfl⟩
               rw [hI] at hF1 hF2
               simp only [hI] at hft
               obtain ⟨q, hqq⟩ : ∃ q, isT I S = q := ⟨_, rfl⟩
               rw [hqq] at hF1 hF2
               simp only [hqq] at hft
               rw [in_val] at hft
               have HFt := z_ hft
               have HFa := z_ hF1
               have HFb := z_ hF2
               have h3r := HBy.out.size
               have hbl : b3 < wr.heap.size := by omega
               have g6 : ∀ p' : M.Of (M.Base wr), p'.w.cell? ⟨b3, o3 + x, none⟩ = some (.int .i64 d) := fun p' => ((p'.ok.2).cell (p := ⟨b3, o3 + x, none⟩) hbl).trans cx
               have g7 : ∀ p' : M.Of (M.Base wr), p'.w.cell? ⟨b3, o3 + y, none⟩ = some (.int .i64 m) := fun p' => ((p'.ok.2).cell (p := ⟨b3, o3 + y, none⟩) hbl).trans cy
               clear hft hF1 hF2 hqq hI cx cy nx ny
               go_upto_region 38 with fail
               refine M.rg ?_
               refine M.sg [0, 1, 2, 3, 4, 5, 6, 7, 8, 9, 10, 11] 7 ?_
               repeat (go_big_quiet_step (fail))
               refine wpQuiet_nil ?_
               clear g6 g7
               refine M.cm 12 (.tuple #[.agg #[.int .i64 I.s, .int .i64 I.x, .int .i64 I.o, .int .i64 I.d, .int .i64 I.m, .int .i64 I.n], .bool q]) ?_ ?_
               ·intro wz sz
                unfold Oper.does
                go_simp
                exact (HFt.out wz).mono fun e w' ⟨he, hw⟩ => ⟨_, he, rfl, Save.of_below hw⟩
               go_simp
               refine M.sg [13, 14, 15] 3 ?_
               repeat (go_big_quiet_step (fail))
               refine wpQuiet_nil ?_
               refine M.cl 16 ?_
               intro wz sz
               unfold Oper.does
               go_simp
               refine ⟨fun w' => M.Base wr w' ∧ InW w' wz.heap.size zeroI, ⟨M.Base.below sz ((Below.refl _ _).alloc sz.1 _), InW.laid wz zeroI⟩, closed_ins _ _ _, fun _ h => h.1, ?_⟩
               have hG : wr.heap.size ≤ wz.heap.size := sz.1
               clear sz
               generalize wz.heap.size = G at *
               refine M.cl 17 ?_
               intro wy sy
               refine does_store_ins 23 _ _ rfl G _ rfl rfl 23 _ sy.2 in_info rfl (in_one I) ?_
               refine ⟨fun w' => M.Base wr w' ∧ InW w' G I, ⟨M.Base.below sy.1 (below_setRow (Below.refl _ _) hG _), setRow_heap _ _ _ _ _ _ sy.2⟩, closed_ins _ _ _, fun _ h => h.1, ?_⟩
               clear sy
               go_simp
               refine M.sg [18] 0 ?_
               repeat (go_big_quiet_step (fail))
               refine wpQuiet_nil ?_
               refine M.en ?_
               intro wc sc
               obtain ⟨sc1, sc2⟩ := sc
               have hB9 : Below w3.heap.size w3 wc := HBy.out.trans (sc1.2.mono h3r)
               have HB9 := z_ hB9
               have HI9 := z_ sc2
               clear sc1 sc2 hB9
               cases q with
               | false =>
                have hno : ¬ (K = K3 ∧ x = ja ∧ y = jb) := fun h => by have := HFb.out h.1 h.2.1 h.2.2; cases this
                go_wp2_with fail
                go_roundw
                case rel => exact ⟨y + 1, by go_num, by omega, by omega, by omega, HB9.out⟩
                case measure => simp [intOf]; omega
               | true =>
                have hrs := HFa.out rfl
                subst hrs
                have hR9 : InW wc w.heap.size zeroI := HR3.out.below HB9.out (by omega)
                have HR9 := z_ hR9
                have hBw : Below w.heap.size w wc := HB3.out.trans (HB9.out.mono (by omega))
                have HBw := z_ hBw
                clear hR9 hBw
                go_wp2_with (first
                 | (refine lr G rfl rfl rfl HI9.out ?_)
                 | (refine sr w.heap.size rfl rfl rfl rfl HR9.out (in_one I) ?_))
                (try simp only [Exit.inBlock, Exit.then])
                exact bodyPost_ret (results_ins_tmp rfl _ _ _ I _ rfl rfl (setRow_heap _ _ _ _ _ _ HR9.out)) rfl ⟨rfl, below_setRow HBw.out (Nat.le_refl _) _⟩
              ·have ty4 : ¬ (y : Int) < 4 := by omega
               go_wp2_with fail
               go_roundw
               case rel => exact ⟨x + 1, by go_num, by omega, by omega, by omega, HBy.out⟩
               case measure => simp [intOf]; omega
             ·have ty : ¬ (y : Int) < N.length := by omega
              go_wp2_with fail
              go_roundw
              case rel => exact ⟨x + 1, by go_num, by omega, by omega, by omega, HBy.out⟩
              case measure => simp [intOf]; omega
          ·have tx4 : ¬ (x : Int) < 4 := by omega
           go_wp2_with fail
           go_roundw
           case rel => exact ⟨c + 1, by go_num, by omega, by have := HK.out; omega, HBx.out⟩
           case measure => simp [intOf]; omega
         ·have tx : ¬ (x : Int) < N.length := by omega
          go_wp2_with fail
          go_roundw
          case rel => exact ⟨c + 1, by go_num, by omega, by have := HK.out; omega, HBx.out⟩
          case measure => simp [intOf]; omega
       ·have tc : ¬ (c : Int) < 256 := by omega
        go_wp2_with fail
        go_roundw
        case rel => exact ⟨b + 1, by go_num, by omega, by omega, HBc.out⟩
        case measure => simp [intOf]; omega
     ·have tb : ¬ (b : Int) < 3 := by omega
      go_wp2_with fail
      go_roundw
      case rel => exact ⟨a + 1, by go_num, by omega, by omega, HBb.out⟩
      case measure => simp [intOf]; omega
   ·have ta : ¬ (a : Int) < 4 := by omega
    have hrn : r = none := by
     rcases hr0 with h | h
     ·exact h
     ·omega
    subst hrn
    have hRr : InW wr w.heap.size zeroI := HR3.out.below HBa.out (by omega)
    have HRr := z_ hRr
    have hBr : Below w.heap.size w wr := HB3.out.trans (HBa.out.mono (by omega))
    have HBr := z_ hBr
    clear hRr hBr
    go_wp2_with (refine sr w.heap.size rfl rfl rfl rfl HRr.out (in_one zeroI) ?_)
    (try simp only [Exit.inBlock, Exit.then])
    exact bodyPost_ret (results_ins_tmp rfl _ _ _ zeroI _ rfl rfl (setRow_heap _ _ _ _ _ _ HRr.out)) rfl ⟨rfl, below_setRow HBr.out (Nat.le_refl _) _⟩
end Go.Proofs.YtgaihekapakoeaaGreatDoor
