/-   -/
import Derived.Test.YtofenjloieagaaaZT18
import Derived.Test.YtofenjloieagaaaZT42
import Derived.BigRegion
namespace Go.Proofs.Ytofenjloieagaaa
open Go.RowKit
set_option linter.unusedSimpArgs false
set_option linter.unusedVariables false
set_option maxRecDepth 100000

/-- A row of bytes lies in no block of another type. -/
theorem OB.unlike {w : World} {B c N : Nat} {A : Option Addr} {l : List Int} {cs : Array Value} {t : TypeId} {fr : Nat × Nat} (h : OB w B A c l) (hN : w.heap[N]? = some (.cells cs t fr)) (ht : t ≠ 5) : some N ≠ (Value.slice A l.length c).ownBlock := by
  rcases h.own.2 with ⟨h1, h2⟩ | ⟨g, cap, cur, h1, hb, hg, hx⟩
  · rw [h1]; intro e; cases e
  · rw [h1]
    intro e
    obtain rfl : N = g := Option.some.inj e
    rw [hg] at hN
    injection hN with hN
    injection hN with h3 h4 h5
    exact ht h4.symm
theorem blk_lt {w : World} {N : Nat} {o : Obj} (h : w.heap[N]? = some o) : N < w.heap.size := (Array.getElem?_eq_some_iff.1 h).1
theorem blk_kept {w w1 w2 : World} {B c N : Nat} {A : Option Addr} {l : List Int} {cs : Array Value} {t : TypeId} {fr : Nat × Nat} (hN : w.heap[N]? = some (.cells cs t fr)) (ht : t ≠ 5) (hk : w1.heap[N]? = w.heap[N]?) (ho : OB w1 B A c l) (hg : w1.grownBy w2 (Value.slice A l.length c).ownBlock) : w2.heap[N]? = w.heap[N]? := by
  have h1 : w1.heap[N]? = some (.cells cs t fr) := hk.trans hN
  exact (hg.block N (blk_lt h1) (ho.unlike h1 ht)).trans hk

set_option maxHeartbeats 1000000 in
theorem refNumber_smallK (A : Option Addr) (n c : Nat) (l : List Int) (x : Nat) (w : World) (B : Nat) (hn : n = l.length) (h : OB w B A c l) (hB : B ≤ w.heap.size) (hlen : l.length ≤ 70368744177664) (hx : x ≤ 247) (N : Nat) (cs : Array Value) (t : TypeId) (fr : Nat × Nat) (hN : w.heap[N]? = some (.cells cs t fr)) (ht : t ≠ 5) :
    Calls Try.prog 32 #[.slice A n c, .int .u64 x] w fun e w' => FreshFrom B w (l ++ numB x) e w' ∧ w'.heap[N]? = w.heap[N]? := by
  subst hn
  have hnb : numB x = [(x : Int)] := by simp [numB, hx]
  have HN := Lib.hid hnb
  have HK := Lib.hid hN
  clear hnb hN
  go_enter Try.func32, Try.ntmps32
  go_wp2_with (at_builtin; refine wpList_append_rbg _ rfl _ _ rfl B _ _ _ _ l rfl rfl (h.alloc _) _ _ _ [_] rfl rfl (RB.lit1 _ _ (by omega) (by omega)) (by simp; omega) (by simp; omega) ?_; intro A' c' w2 hob hbel hgr)
  go_ret
  rw [HN.out]
  exact ⟨⟨A', c', by simp, hob, ((Below.refl _ _).alloc hB _).trans hbel⟩, blk_kept HK.out ht (heap_alloc_old _ _ (blk_lt HK.out)) (h.alloc _) hgr⟩

set_option maxHeartbeats 1000000 in
theorem refNumber_greatK (A : Option Addr) (n c : Nat) (l : List Int) (x : Nat) (w : World) (B : Nat) (hn : n = l.length) (h : OB w B A c l) (hB : B ≤ w.heap.size) (hlen : l.length ≤ 70368744177664) (hx : 247 < x) (hx2 : x < 18446744073709551616) (N : Nat) (cs : Array Value) (t : TypeId) (fr : Nat × Nat) (hN : w.heap[N]? = some (.cells cs t fr)) (ht : t ≠ 5) :
    Calls Try.prog 32 #[.slice A n c, .int .u64 x] w fun e w' => FreshFrom B w (l ++ numB x) e w' ∧ w'.heap[N]? = w.heap[N]? := by
  subst hn
  have HK := Lib.hid hN
  clear hN
  have hl8 := dig_length x
  have hn : numB x = (247 + ((dig x).length : Int)) :: dig x := by unfold numB; rw [if_neg (by omega)]; congr 1
  have HN := Lib.hid hn
  have hlt : ∀ k, (Value.slice A l.length c).ownBlock = some k → k < w.heap.size := fun k hk => (h.own.lt k hk).2
  have HL := Lib.hid hlt
  clear hn hlt
  go_enter Try.func32, Try.ntmps32
  go_wp2_with fail
  go_loopw [5, 6] (fun v t wr => ∃ (y f : Nat) (acc : List Int) (A : Option Addr) (c : Nat), t = .int .u64 y ∧ v = .slice A acc.length c ∧ y < 256 ^ f ∧ f ≤ 8 ∧ acc ++ digF f y = dig x ∧ OB wr w.heap.size A c acc ∧ Below w.heap.size w wr) (fun _ t _ => (intOf t).toNat)
  case atStart => exact ⟨x, 8, [], none, 0, rfl, rfl, hx2, Nat.le_refl _, rfl, OB.nil _ _, Below.refl _ _⟩
  case round =>
    obtain ⟨y, f, acc, A1, c1, rfl, rfl, hy, hf, hacc, ho, hbl⟩ := hrel
    have hal : acc.length ≤ 8 := by rw [← hacc, List.length_append] at hl8; omega
    by_cases h0 : y = 0
    · subst h0
      rw [digF_zero, List.append_nil] at hacc
      subst hacc
      have hA := h.below hbl (Nat.le_refl _)
      go_wp2_with (first
        | (at_builtin; refine wpList_append_rbg _ rfl (.tmp 25) (.tmp 30) rfl B _ _ _ _ l rfl rfl (hA.alloc _) _ _ _ [_] rfl rfl (RB.lit1 _ _ (by omega) (by omega)) (by simp; omega) (by have := hbl.size; simp; omega) ?_; intro A' c' w2 hob hbel hgr)
        | (at_builtin; refine wpList_append_rbg _ rfl (.tmp 31) (.tmp 32) rfl B _ _ _ _ _ rfl (by simp) hob _ _ _ (dig x) rfl rfl (((ho.alloc _).grown hgr HL.out).rb) (by simp; omega) (by have := hbl.size; have := hbel.size; simp at *; omega) ?_; intro A'' c'' w3 hob' hbel' hgr')
        | fail)
      go_ret
      rw [HN.out]
      rw [List.append_assoc] at hob'
      have hk1 := hbl.block N (blk_lt HK.out)
      have hk2 := blk_kept HK.out ht ((heap_alloc_old _ _ (by have := blk_lt HK.out; have := hbl.size; omega)).trans hk1) (hA.alloc _) hgr
      refine ⟨⟨A'', c'', by simp, hob', (hbl.mono hB).trans ((((Below.refl _ _).alloc (by have := hbl.size; omega) _).trans hbel).trans hbel')⟩, blk_kept HK.out ht hk2 hob (by first | exact hgr' | simpa using hgr')⟩
    · cases f with
      | zero => simp at hy; omega
      | succ f =>
        rw [digF_pos f y h0] at hacc
        have HA := Lib.hid hacc
        have hy' : y / 256 < 256 ^ f := by rw [Nat.pow_succ] at hy; omega
        have HY := Lib.hid hy'
        have hyb : y < 18446744073709551616 := Nat.lt_of_lt_of_le hy (Nat.le_trans (Nat.pow_le_pow_right (by decide) hf) (by decide))
        have hpos : 0 < (y : Int) := by omega
        clear hacc hy hy'
        go_wp2_with (at_builtin; refine wpList_append_rb _ rfl _ _ rfl w.heap.size _ _ _ _ acc rfl rfl (ho.alloc _) _ _ _ [_] rfl rfl (RB.lit1 _ _ (by first | omega | (simp only [wrap8]; omega)) (by first | omega | (simp only [wrap8]; omega))) (by simp; omega) (by have := hbl.size; simp; omega) ?_; intro A' c' w2 hob hbel hne)
        go_roundw
        case rel =>
          have e : (y : Int) % 256 = ((y % 256 : Nat) : Int) := by omega
          rw [e] at hob
          have e2 : (y : Int) / 256 = ((y / 256 : Nat) : Int) := by omega
          refine ⟨y / 256, f, _, A', c', by rw [e2], by simp, HY.out, by omega, ?_, hob, hbl.trans (((Below.refl _ _).alloc hbl.size _).trans hbel)⟩
          rw [List.append_assoc]; exact HA.out
        case measure => simp [intOf]; omega

theorem refNumber_kept (A : Option Addr) (n c : Nat) (l : List Int) (x : Nat) (w : World) (B : Nat) (hn : n = l.length) (h : OB w B A c l) (hB : B ≤ w.heap.size) (hlen : l.length ≤ 70368744177664) (hx : x < 18446744073709551616) (N : Nat) (cs : Array Value) (t : TypeId) (fr : Nat × Nat) (hN : w.heap[N]? = some (.cells cs t fr)) (ht : t ≠ 5) :
    Calls Try.prog 32 #[.slice A n c, .int .u64 x] w fun e w' => FreshFrom B w (l ++ numB x) e w' ∧ w'.heap[N]? = w.heap[N]? := by
  by_cases h1 : x ≤ 247
  · exact refNumber_smallK A n c l x w B hn h hB hlen h1 N cs t fr hN ht
  · exact refNumber_greatK A n c l x w B hn h hB hlen (by omega) hx N cs t fr hN ht
end Go.Proofs.Ytofenjloieagaaa
namespace Go.Proofs.Ytofenjloieagaaa
open Go.RowKit
set_option linter.unusedSimpArgs false
set_option linter.unusedVariables false
set_option maxRecDepth 100000

/-- A touch's four numbers. -/
def tcN (x : Tc) : List Nat := [x.time.toNat, x.what.toNat, x.key.toNat, if x.on then 1 else 0]
def tcP (x : Tc) (k : Nat) : List Int := ((tcN x).take k).flatMap numB
theorem tcP_zero (x : Tc) : tcP x 0 = [] := rfl
theorem tcP_next (x : Tc) (k : Nat) (hk : k < 4) : tcP x (k + 1) = tcP x k ++ numB ((tcN x).getD k 0) := by
  unfold tcP
  have hl : k < (tcN x).length := hk
  rw [List.take_add_one, List.getElem?_eq_getElem hl, List.flatMap_append, List.getD_eq_getElem?_getD, List.getElem?_eq_getElem hl]
  simp
theorem tcP_all (x : Tc) : tcP x 4 = tcB x := by
  unfold tcP tcN tcB
  simp [List.append_assoc]
theorem tcP_le (x : Tc) (k : Nat) (hk : k ≤ 4) : (tcP x k).length ≤ 36 := by
  have h : tcB x = tcP x k ++ ((tcN x).drop k).flatMap numB := by
    rw [← tcP_all]
    unfold tcP
    rw [← List.flatMap_append]
    have e : (tcN x).take 4 = tcN x := rfl
    rw [e, List.take_append_drop]
  have := tcB_le x
  rw [h, List.length_append] at this
  omega
abbrev tcNO (x : Tc) : Obj := .cells #[.int .u64 x.time, .int .u64 x.what, .int .u64 x.key, .int .u64 (if x.on then 1 else 0)] 50
theorem tcNO_at {w : World} {N : Nat} {x : Tc} (h : w.heap[N]? = some (tcNO x)) (hx : x.Low) (k : Nat) (hk : k < 4) : w.cell? ⟨N, k, none⟩ = some (.int .u64 ((tcN x).getD k 0 : Nat)) := by
  obtain ⟨a, -, b, -, c, -⟩ := hx
  rw [cell_of_row _ _ _ _ _ _ h]
  match k, hk with
  | 0, _ => show some (Value.int .u64 x.time) = some (.int .u64 (x.time.toNat : Nat)); rw [Int.toNat_of_nonneg a]
  | 1, _ => show some (Value.int .u64 x.what) = some (.int .u64 (x.what.toNat : Nat)); rw [Int.toNat_of_nonneg b]
  | 2, _ => show some (Value.int .u64 x.key) = some (.int .u64 (x.key.toNat : Nat)); rw [Int.toNat_of_nonneg c]
  | 3, _ => show some (Value.int .u64 (if x.on then 1 else 0)) = some (.int .u64 ((if x.on then 1 else 0 : Nat) : Int)); cases x.on <;> rfl
theorem tcN_lt {x : Tc} (hx : x.Low) (k : Nat) : (tcN x).getD k 0 < 18446744073709551616 := by
  obtain ⟨a, a1, b, b1, c, c1⟩ := hx
  match k with
  | 0 => show x.time.toNat < _; omega
  | 1 => show x.what.toNat < _; omega
  | 2 => show x.key.toNat < _; omega
  | 3 => show (if x.on then 1 else 0) < _; split <;> omega
  | k + 4 => show (0 : Nat) < _; omega

/-- A touch that came in, a row of bytes of the call's own. -/
def KB (b o B : Nat) (x : Tc) (w0 : World) (A : Option Addr) (c : Nat) (D : List Int) (w : World) : Prop := KT b o B x w ∧ OB w B A c D ∧ Below B w0 w
theorem KB.step {b o B : Nat} {x : Tc} {w0 : World} {A : Option Addr} {c : Nat} {D : List Int} {w w' : World} (h : KB b o B x w0 A c D w) (hs : Save (fun _ => False) w w') : KB b o B x w0 A c D w' :=
  ⟨h.1.step hs, ⟨h.2.1.own.kept (w' := w') (row := none) ⟨hs.os, hs.tape, hs.output, hs.size, fun i hi _ => hs.block i hi (fun h => h)⟩ (by cases hv : (Value.slice A D.length c).ownBlock <;> simp), h.2.1.bytes⟩, h.2.2.trans (hs.all.mono h.1.2.2)⟩

set_option maxHeartbeats 8000000 in
theorem rbytes17_any (w : World) (A : Option Addr) (c : Nat) (l : List Tc) (hl : TsAt w w.heap.size A l) (hc : l.length ≤ c ∧ c ≤ maxLen) : Calls Try.prog 8 #[.slice A l.length c] w (BytesE w l) := by
  have HCK := Lib.hid (rcheck17_any w A c l hl (Nat.le_trans hc.1 hc.2))
  have HErr := Lib.hid (@errL_zero l)
  have HL := Lib.hid hl
  have HBM : Hid (∀ z, errL l = z → bytesM l = if z = 0 then numB l.length ++ tcsB l else []) := Lib.hid (fun z hz => by subst hz; rfl)
  have HTs := Lib.hid (tcsB_take l)
  have HTa : Hid (tcsB (l.take l.length) = tcsB l) := Lib.hid (by rw [List.take_length])
  have HLow := Lib.hid (fun (hg : Good l) (k : Nat) (hk : k < l.length) => good_lows hg hk)
  clear hl
  obtain ⟨hc1, hc2⟩ := hc
  unfold maxLen at hc2
  unfold BytesE
  have hg0 := HErr.out
  clear HErr
  generalize bytesM l = bm at *
  generalize errL l = er at *
  by_cases hz : er = 0
  · subst hz
    have hg := hg0.1 rfl
    have h16 : l.length ≤ 65536 := hg.1
    have HLo := Lib.hid (HLow.out hg)
    have HB := Lib.hid ((HBM.out 0 rfl).trans (if_pos rfl))
    have HNB := Lib.hid (fun (w1 : World) (hb : Below w.heap.size w w1) => refNumber_any none 0 0 [] l.length w1 w.heap.size rfl (OB.nil _ _) hb.size (by simp) (by omega))
    clear hg0 HBM hg HLow
    go_enter Try.func8, Try.ntmps8
    go_wp2_with fail
    refine HCK.out.mono ?_
    rintro e w1 ⟨rfl, hb⟩
    have HB1 := Lib.hid hb
    clear hb HCK
    go_wp2_with fail
    refine (HNB.out w1 HB1.out).mono ?_
    rintro e w2 ⟨A2, c2, rfl, ho, hb⟩
    have HO2 := Lib.hid ho
    have HB2 := Lib.hid (HB1.out.trans hb)
    clear ho hb HB1 HNB
    go_wp2_with fail
    go_loopw [5, 6] (fun v i wr => ∃ k : Nat, k ≤ l.length ∧ i = .int .i64 k ∧ (∃ A c, v = .slice A (numB l.length ++ tcsB (l.take k)).length c ∧ OB wr w.heap.size A c (numB l.length ++ tcsB (l.take k))) ∧ Below w.heap.size w wr) (fun _ i _ => l.length - (intOf i).toNat)
    case atStart => exact ⟨0, Nat.zero_le _, rfl, ⟨A2, c2, by simp [tcsB], by simpa [tcsB] using HO2.out⟩, HB2.out⟩
    case round =>
      rename World => wr
      obtain ⟨k, hk, rfl, ⟨A1, c1, rfl, ho⟩, hb⟩ := hrel
      have HO := Lib.hid ho
      have HBr := Lib.hid hb
      clear ho hb HO2 HB2
      by_cases hlt : k < l.length
      · obtain ⟨b, o, hA, hb1, hat⟩ := HL.out.at_ (by omega)
        have hu := (hat k hlt).below HBr.out hb1
        have htk := HTs.out k hlt
        have hlo := HLo.out k hlt
        have hlen := tcsB_le (l.take k)
        have hnl := (numB_length l.length).2
        have htl : (l.take k).length ≤ 65536 := by simp; omega
        have hdl : (numB l.length ++ tcsB (l.take k)).length ≤ 3000000 := by rw [List.length_append]; omega
        obtain ⟨D, hD⟩ : ∃ D, numB l.length ++ tcsB (l.take k) = D := ⟨_, rfl⟩
        have HTk : Hid (numB l.length ++ tcsB (l.take (k + 1)) = D ++ tcB (l.getD k tcZ)) := Lib.hid (by rw [htk, ← List.append_assoc, hD])
        rw [hD] at HO hdl ⊢
        clear hat htk hlen hnl htl hD HTs HTa HLo HB
        subst hA
        generalize l.getD k tcZ = y at *
        have HAt := Lib.hid (fun (w1 : World) (N : Nat) (h : w1.heap[N]? = some (tcNO y)) (j : Nat) (hj : j < 4) => tcNO_at h hlo j hj)
        have HNl := Lib.hid (tcN_lt hlo)
        have HPz := Lib.hid (tcP_zero y)
        have HPn := Lib.hid (tcP_next y)
        have HPa := Lib.hid (tcP_all y)
        have HPl := Lib.hid (tcP_le y)
        have hp1 := hlo.1
        have hp2 := hlo.2.1
        have hp3 := hlo.2.2.1
        have hp4 := hlo.2.2.2.1
        have hp5 := hlo.2.2.2.2.1
        have hp6 := hlo.2.2.2.2.2
        clear hlo
        have HU := Lib.hid hu
        obtain ⟨d0, d1, d2, d3⟩ := hu
        have hs3 : w.heap.size ≤ wr.heap.size := HBr.out.size
        unfold tcNO at HAt
        cases hon : y.on with
        | false =>
          rw [hon] at d3 HAt
          simp only [if_false, Bool.false_eq_true] at HAt
          clear hon
          have hk3 : KT b (o + k * 4) w.heap.size y wr := ⟨HU.out, hb1, hs3⟩
          have HR3 := Lib.hid (show KB b (o + k * 4) w.heap.size y w A1 c1 D wr from ⟨hk3, HO.out, HBr.out⟩)
          have g0 : ∀ q : M.Of (KT b (o + k * 4) w.heap.size y), q.w.cell? ⟨b, o + k * 4, none⟩ = some (.int .i64 y.time) := fun q => q.ok.1.c0
          have g1 : ∀ q : M.Of (KT b (o + k * 4) w.heap.size y), q.w.cell? ⟨b, o + k * 4 + 1, none⟩ = some (.int .i64 y.what) := fun q => q.ok.1.c1
          have g2 : ∀ q : M.Of (KT b (o + k * 4) w.heap.size y), q.w.cell? ⟨b, o + k * 4 + 2, none⟩ = some (.int .i64 y.key) := fun q => q.ok.1.c2
          have HK3 := Lib.hid hk3
          haveI : Nonempty (M.Of (KT b (o + k * 4) w.heap.size y)) := ⟨⟨wr, hk3⟩⟩
          clear hk3 HO HBr HU
          go_upto_region 11 with fail
          clear d0 d1 d2 d3
          refine M.region42_ (KT b (o + k * 4) w.heap.size y) (KB b (o + k * 4) w.heap.size y w A1 c1 D) (fun w1 w2 h hs => h.step hs) (fun _ h => h.1) (fun n => HR3.out.step (Save.drawn _ _ n)) (by kernel_rfl) ?_
          refine M.seg_ [0, 1, 2, 3, 4, 5, 6, 7, 8, 9, 10, 11, 12, 13, 14, 15, 16, 17, 18] 2 _ _ HK3.out (by kernel_rfl) (by kernel_rfl) (by kernel_rfl) (by simp only [pickOps, mask, plain, List.getElem?_toArray, List.getElem?_cons_zero, List.getElem?_cons_succ, if_true, Bool.false_eq_true, if_false]; rfl) ?_
          repeat (go_big_quiet_step (fail))
          refine wpQuiet_nil ?_
          clear g0 g1 g2
          refine M.call_ (i := 19) rfl (by kernel_rfl) (by kernel_rfl) ?_
          intro wz sz
          unfold Oper.does
          go_simp
          have hSv : Save (fun _ => False) wz (wz.alloc (.cells #[.int .u64 y.time, .int .u64 y.what, .int .u64 y.key, .int .u64 0] 50)) := Save.of_below ((Below.refl wz.heap.size wz).alloc (Nat.le_refl _) _)
          refine ⟨fun w' => KB b (o + k * 4) w.heap.size y w A1 c1 D w' ∧ w'.heap[wz.heap.size]? = some (.cells #[.int .u64 y.time, .int .u64 y.what, .int .u64 y.key, .int .u64 0] 50) ∧ wz.heap.size < w'.heap.size, ⟨sz.step hSv, heap_alloc_new _ _, by simp⟩, fun w1 w2 h hs => ⟨h.1.step hs, (hs.block _ h.2.2 (fun h => h)).trans h.2.1, Nat.lt_of_lt_of_le h.2.2 hs.size⟩, fun _ h => h.1.1, ?_⟩
          clear hSv sz
          generalize wz.heap.size = N2 at *
          go_simp
          refine M.seg_ [20] 0 _ _ HK3.out (by kernel_rfl) (by kernel_rfl) (by kernel_rfl) (by simp only [pickOps, mask, plain, List.getElem?_toArray, List.getElem?_cons_zero, List.getElem?_cons_succ, if_true, Bool.false_eq_true, if_false]; rfl) ?_
          repeat (go_big_quiet_step (fail))
          refine wpQuiet_nil ?_
          refine M.end_ (by kernel_rfl) ?_
          intro wc sc
          obtain ⟨⟨-, hoc, hbc⟩, hNc, -⟩ := sc
          have HOc := Lib.hid hoc
          have HBc := Lib.hid hbc
          have HNc := Lib.hid hNc
          have HNb := Lib.hid (fun (w1 : World) (h : w1.heap[N2]? = wc.heap[N2]?) (A : Option Addr) (c : Nat) (L : List Int) (x : Nat) (ho : OB w1 w.heap.size A c L) (hs : w.heap.size ≤ w1.heap.size) (hL : L.length ≤ 4000000) (hx : x < 18446744073709551616) => refNumber_kept A L.length c L x w1 w.heap.size rfl ho hs (by omega) hx N2 _ _ _ (h.trans hNc) (by decide))
          have HCell := Lib.hid (fun (w1 : World) (h : w1.heap[N2]? = wc.heap[N2]?) (j : Nat) (hj : j < 4) => HAt.out w1 N2 (h.trans hNc) j hj)
          clear hoc hbc hNc HK3 HR3 HAt
          go_wp2_with fail
          go_loopw [5, 9] (fun v i wr => ∃ j : Nat, j ≤ 4 ∧ i = .int .i64 j ∧ (∃ A c, v = .slice A (D ++ tcP y j).length c ∧ OB wr w.heap.size A c (D ++ tcP y j)) ∧ Below w.heap.size w wr ∧ wr.heap[N2]? = wc.heap[N2]?) (fun _ i _ => 4 - (intOf i).toNat)
          case atStart => exact ⟨0, by omega, rfl, ⟨A1, c1, by rw [HPz.out, List.append_nil], by rw [HPz.out, List.append_nil]; exact HOc.out⟩, HBc.out, rfl⟩
          case round =>
            rename World => wi
            obtain ⟨j, hj, rfl, ⟨A4, c4, rfl, ho⟩, hb, hn⟩ := hrel
            have HOi := Lib.hid ho
            have HBi := Lib.hid hb
            have HNi := Lib.hid hn
            clear ho hb hn HOc HBc
            by_cases hlj : j < 4
            · have hc0 := HCell.out wi HNi.out j hlj
              have hpn := HPn.out j hlj
              have hpl := HPl.out j (by omega)
              have hDl : (D ++ tcP y j).length ≤ 4000000 := by rw [List.length_append]; omega
              obtain ⟨E, hE⟩ : ∃ E, D ++ tcP y j = E := ⟨_, rfl⟩
              have HPE : Hid (D ++ tcP y (j + 1) = E ++ numB ((tcN y).getD j 0)) := Lib.hid (by rw [hpn, ← List.append_assoc, hE])
              rw [hE] at HOi hDl ⊢
              have HC1 := Lib.hid (HNb.out wi HNi.out A4 c4 E ((tcN y).getD j 0) HOi.out HBi.out.size hDl (HNl.out j))
              clear hpn hpl hE HPn HPl HPa HPz HTk HNl
              generalize (tcN y).getD j 0 = m at *
              go_wp2_with fail
              refine HC1.out.mono ?_
              rintro e w5 ⟨⟨A5, c5, rfl, ho5, hb5⟩, hn5⟩
              have HO5 := Lib.hid ho5
              have HB5 := Lib.hid (HBi.out.trans hb5)
              have HN5 := Lib.hid (hn5.trans HNi.out)
              clear ho5 hb5 hn5 HOi HBi HNi HC1
              go_wp2_with fail
              exact ⟨⟨j + 1, by omega, by go_num, ⟨A5, c5, by rw [HPE.out, List.length_append], by rw [HPE.out]; exact HO5.out⟩, HB5.out, HN5.out⟩, by simp [intOf]; omega⟩
            · obtain rfl : j = 4 := by omega
              have hpa := HPa.out
              rw [hpa, ← HTk.out] at HOi
              rw [hpa, ← HTk.out]
              clear HPa HPn HPl HPz HTk HCell HNb hpa
              go_wp2_with fail
              exact ⟨⟨k + 1, by omega, by go_num, ⟨A4, c4, rfl, HOi.out⟩, HBi.out⟩, by simp [intOf]; omega⟩
        | true =>
          rw [hon] at d3 HAt
          simp only [if_true] at HAt
          clear hon
          have hk3 : KT b (o + k * 4) w.heap.size y wr := ⟨HU.out, hb1, hs3⟩
          have HR3 := Lib.hid (show KB b (o + k * 4) w.heap.size y w A1 c1 D wr from ⟨hk3, HO.out, HBr.out⟩)
          have g0 : ∀ q : M.Of (KT b (o + k * 4) w.heap.size y), q.w.cell? ⟨b, o + k * 4, none⟩ = some (.int .i64 y.time) := fun q => q.ok.1.c0
          have g1 : ∀ q : M.Of (KT b (o + k * 4) w.heap.size y), q.w.cell? ⟨b, o + k * 4 + 1, none⟩ = some (.int .i64 y.what) := fun q => q.ok.1.c1
          have g2 : ∀ q : M.Of (KT b (o + k * 4) w.heap.size y), q.w.cell? ⟨b, o + k * 4 + 2, none⟩ = some (.int .i64 y.key) := fun q => q.ok.1.c2
          have HK3 := Lib.hid hk3
          haveI : Nonempty (M.Of (KT b (o + k * 4) w.heap.size y)) := ⟨⟨wr, hk3⟩⟩
          clear hk3 HO HBr HU
          go_upto_region 11 with fail
          clear d0 d1 d2 d3
          refine M.region42_ (KT b (o + k * 4) w.heap.size y) (KB b (o + k * 4) w.heap.size y w A1 c1 D) (fun w1 w2 h hs => h.step hs) (fun _ h => h.1) (fun n => HR3.out.step (Save.drawn _ _ n)) (by kernel_rfl) ?_
          refine M.seg_ [0, 1, 2, 3, 4, 5, 6, 7, 8, 9, 10, 11, 12, 13, 14, 15, 16, 17, 18] 2 _ _ HK3.out (by kernel_rfl) (by kernel_rfl) (by kernel_rfl) (by simp only [pickOps, mask, plain, List.getElem?_toArray, List.getElem?_cons_zero, List.getElem?_cons_succ, if_true, Bool.false_eq_true, if_false]; rfl) ?_
          repeat (go_big_quiet_step (fail))
          refine wpQuiet_nil ?_
          clear g0 g1 g2
          refine M.call_ (i := 19) rfl (by kernel_rfl) (by kernel_rfl) ?_
          intro wz sz
          unfold Oper.does
          go_simp
          have hSv : Save (fun _ => False) wz (wz.alloc (.cells #[.int .u64 y.time, .int .u64 y.what, .int .u64 y.key, .int .u64 1] 50)) := Save.of_below ((Below.refl wz.heap.size wz).alloc (Nat.le_refl _) _)
          refine ⟨fun w' => KB b (o + k * 4) w.heap.size y w A1 c1 D w' ∧ w'.heap[wz.heap.size]? = some (.cells #[.int .u64 y.time, .int .u64 y.what, .int .u64 y.key, .int .u64 1] 50) ∧ wz.heap.size < w'.heap.size, ⟨sz.step hSv, heap_alloc_new _ _, by simp⟩, fun w1 w2 h hs => ⟨h.1.step hs, (hs.block _ h.2.2 (fun h => h)).trans h.2.1, Nat.lt_of_lt_of_le h.2.2 hs.size⟩, fun _ h => h.1.1, ?_⟩
          clear hSv sz
          generalize wz.heap.size = N2 at *
          go_simp
          refine M.seg_ [20] 0 _ _ HK3.out (by kernel_rfl) (by kernel_rfl) (by kernel_rfl) (by simp only [pickOps, mask, plain, List.getElem?_toArray, List.getElem?_cons_zero, List.getElem?_cons_succ, if_true, Bool.false_eq_true, if_false]; rfl) ?_
          repeat (go_big_quiet_step (fail))
          refine wpQuiet_nil ?_
          refine M.end_ (by kernel_rfl) ?_
          intro wc sc
          obtain ⟨⟨-, hoc, hbc⟩, hNc, -⟩ := sc
          have HOc := Lib.hid hoc
          have HBc := Lib.hid hbc
          have HNc := Lib.hid hNc
          have HNb := Lib.hid (fun (w1 : World) (h : w1.heap[N2]? = wc.heap[N2]?) (A : Option Addr) (c : Nat) (L : List Int) (x : Nat) (ho : OB w1 w.heap.size A c L) (hs : w.heap.size ≤ w1.heap.size) (hL : L.length ≤ 4000000) (hx : x < 18446744073709551616) => refNumber_kept A L.length c L x w1 w.heap.size rfl ho hs (by omega) hx N2 _ _ _ (h.trans hNc) (by decide))
          have HCell := Lib.hid (fun (w1 : World) (h : w1.heap[N2]? = wc.heap[N2]?) (j : Nat) (hj : j < 4) => HAt.out w1 N2 (h.trans hNc) j hj)
          clear hoc hbc hNc HK3 HR3 HAt
          go_wp2_with fail
          go_loopw [5, 9] (fun v i wr => ∃ j : Nat, j ≤ 4 ∧ i = .int .i64 j ∧ (∃ A c, v = .slice A (D ++ tcP y j).length c ∧ OB wr w.heap.size A c (D ++ tcP y j)) ∧ Below w.heap.size w wr ∧ wr.heap[N2]? = wc.heap[N2]?) (fun _ i _ => 4 - (intOf i).toNat)
          case atStart => exact ⟨0, by omega, rfl, ⟨A1, c1, by rw [HPz.out, List.append_nil], by rw [HPz.out, List.append_nil]; exact HOc.out⟩, HBc.out, rfl⟩
          case round =>
            rename World => wi
            obtain ⟨j, hj, rfl, ⟨A4, c4, rfl, ho⟩, hb, hn⟩ := hrel
            have HOi := Lib.hid ho
            have HBi := Lib.hid hb
            have HNi := Lib.hid hn
            clear ho hb hn HOc HBc
            by_cases hlj : j < 4
            · have hc0 := HCell.out wi HNi.out j hlj
              have hpn := HPn.out j hlj
              have hpl := HPl.out j (by omega)
              have hDl : (D ++ tcP y j).length ≤ 4000000 := by rw [List.length_append]; omega
              obtain ⟨E, hE⟩ : ∃ E, D ++ tcP y j = E := ⟨_, rfl⟩
              have HPE : Hid (D ++ tcP y (j + 1) = E ++ numB ((tcN y).getD j 0)) := Lib.hid (by rw [hpn, ← List.append_assoc, hE])
              rw [hE] at HOi hDl ⊢
              have HC1 := Lib.hid (HNb.out wi HNi.out A4 c4 E ((tcN y).getD j 0) HOi.out HBi.out.size hDl (HNl.out j))
              clear hpn hpl hE HPn HPl HPa HPz HTk HNl
              generalize (tcN y).getD j 0 = m at *
              go_wp2_with fail
              refine HC1.out.mono ?_
              rintro e w5 ⟨⟨A5, c5, rfl, ho5, hb5⟩, hn5⟩
              have HO5 := Lib.hid ho5
              have HB5 := Lib.hid (HBi.out.trans hb5)
              have HN5 := Lib.hid (hn5.trans HNi.out)
              clear ho5 hb5 hn5 HOi HBi HNi HC1
              go_wp2_with fail
              exact ⟨⟨j + 1, by omega, by go_num, ⟨A5, c5, by rw [HPE.out, List.length_append], by rw [HPE.out]; exact HO5.out⟩, HB5.out, HN5.out⟩, by simp [intOf]; omega⟩
            · obtain rfl : j = 4 := by omega
              have hpa := HPa.out
              rw [hpa, ← HTk.out] at HOi
              rw [hpa, ← HTk.out]
              clear HPa HPn HPl HPz HTk HCell HNb hpa
              go_wp2_with fail
              exact ⟨⟨k + 1, by omega, by go_num, ⟨A4, c4, rfl, HOi.out⟩, HBi.out⟩, by simp [intOf]; omega⟩
      · obtain rfl : k = l.length := by omega
        have hB := HB.out
        have hta := HTa.out
        rw [hta, ← hB] at HO
        have hlen : (numB l.length ++ tcsB (l.take l.length)).length = bm.length := by rw [hta, hB]
        rw [hlen]
        clear HB HTa HTs HLo hB hta hlen
        go_wp2_with fail
        go_ret2
        exact ⟨⟨A1, c1, rfl, HO.out⟩, HBr.out⟩
  · have hzb : (er != 0) = true := by simpa using hz
    have HBe := Lib.hid ((HBM.out er rfl).trans (if_neg hz))
    clear HBM hg0 HLow HTs HTa
    go_enter Try.func8, Try.ntmps8
    go_wp2_with fail
    refine HCK.out.mono ?_
    rintro e w1 ⟨rfl, hb⟩
    have HB1 := Lib.hid hb
    clear hb HCK
    go_wp2_with fail
    go_ret2
    rw [HBe.out]
    exact ⟨⟨none, 0, rfl, OB.nil _ _⟩, HB1.out⟩
end Go.Proofs.Ytofenjloieagaaa
