/-   -/
import Derived.Test.YthnbpdcjooifbaaZK51
import Derived.Test.YthnbpdcjooifbaaJ20
namespace Go.Proofs.Ythnbpdcjooifbaa
open Go.RowKit
set_option linter.unusedSimpArgs false
set_option linter.unusedVariables false

def nums (x : Ev) : List Nat := [x.kind.toNat, x.time.toNat, x.seq.toNat, x.a.toNat, x.b.toNat]
theorem evB_nums (x : Ev) : evB x = (nums x).flatMap numB := by simp [evB, nums]
theorem nums_take (x : Ev) (k : Nat) (hk : k < 5) : ((nums x).take (k + 1)).flatMap numB = ((nums x).take k).flatMap numB ++ numB ((nums x).getD k 0) := by
  have h : k < (nums x).length := hk
  rw [List.take_succ_eq_append_getElem h, List.flatMap_append, List.getD_eq_getElem?_getD, List.getElem?_eq_getElem h]
  simp
theorem nums_len (x : Ev) (k : Nat) : (((nums x).take k).flatMap numB).length ≤ 45 := by
  have h : ∀ L : List Nat, (L.flatMap numB).length ≤ L.length * 9 := by
    intro L
    induction L with
    | nil => simp
    | cons a t ih =>
      have := (numB_length a).2
      rw [List.flatMap_cons, List.length_append, List.length_cons]; omega
  have h2 := h ((nums x).take k)
  have h3 : ((nums x).take k).length ≤ 5 := by rw [List.length_take]; show min k 5 ≤ 5; omega
  omega

def R3Bytes (w : World) (x : Ev) (e : Ending) (w' : World) : Prop :=
  ((x.May ∧ ∃ A c, e = .returned (.tuple #[.slice A (evB x).length c, .int .i64 0]) ∧ OB w' w.heap.size A c (evB x)) ∨ (¬ x.May ∧ e = .returned (.tuple #[.slice none 0 0, .int .i64 2]))) ∧ Below w.heap.size w w'

set_option maxRecDepth 100000 in
set_option maxHeartbeats 4000000 in
theorem r3bytes_any (w : World) (x : Ev) : Calls Try.prog 58 #[x.val] w (R3Bytes w x) := by
  have hb0 : Below w.heap.size w (w.alloc (evO x)) := (Below.refl _ _).alloc (Nat.le_refl _) _
  obtain ⟨s0, s1, s2, s3, s4, s5⟩ := EV.laid w x
  have HC := Lib.hid (r3check_any (w.alloc (evO x)) x)
  have HL := Lib.hid (EV.laid w x)
  have HB0 := Lib.hid hb0
  clear hb0
  unfold evO at s0 s1 s2 s3 s4 s5
  unfold evO Ev.val at HC
  unfold Ev.val
  go_enter Try.func58, Try.ntmps58
  go_wp2_with fail
  refine HC.out.mono ?_
  rintro e w1 ⟨hc, b1⟩
  have hb1 : Below w.heap.size w w1 := HB0.out.trans (b1.mono (by simp))
  rcases hc with ⟨rfl, hmay⟩ | ⟨rfl, hmay⟩
  case inr =>
    have HM := Lib.hid hmay
    clear hmay
    go_wp2_with fail
    go_ret2
    exact ⟨.inr ⟨HM.out, rfl⟩, hb1⟩
  obtain ⟨t0, t1, t2, t3, t4, t5⟩ := HL.out.below b1 (by simp)
  have HM := Lib.hid hmay
  have hn : ∀ i, i < 5 → (nums x).getD i 0 ≤ 1099511627776 := fun i hi => by
    have hk := May.kind hmay
    obtain ⟨-, -, a0, a1, b0, b1', c0, c1, d0, d1⟩ := hmay
    match i, hi with
    | 0, _ => show x.kind.toNat ≤ _; omega
    | 1, _ => show x.time.toNat ≤ _; omega
    | 2, _ => show x.seq.toNat ≤ _; omega
    | 3, _ => show x.a.toNat ≤ _; omega
    | 4, _ => show x.b.toNat ≤ _; omega
  have HN := Lib.hid hn
  have hi0 : ∀ i, i < 5 → (w1.alloc (.cells #[.int .i64 x.kind, .int .i64 x.time, .int .i64 x.seq, .int .i64 x.a, .int .i64 x.b] 2)).cell? ⟨w1.heap.size, i, none⟩ = some (.int .i64 ((nums x).getD i 0 : Nat)) := fun i hi => by
    have hk := May.kind hmay
    obtain ⟨-, -, a0, a1, b0, b1', c0, c1, d0, d1⟩ := hmay
    rw [World.cell?_alloc_at _ _ _ _ rfl]
    match i, hi with
    | 0, _ => show some (Value.int .i64 x.kind) = some (.int .i64 (x.kind.toNat : Nat)); rw [Int.toNat_of_nonneg (by omega)]
    | 1, _ => show some (Value.int .i64 x.time) = some (.int .i64 (x.time.toNat : Nat)); rw [Int.toNat_of_nonneg (by omega)]
    | 2, _ => show some (Value.int .i64 x.seq) = some (.int .i64 (x.seq.toNat : Nat)); rw [Int.toNat_of_nonneg (by omega)]
    | 3, _ => show some (Value.int .i64 x.a) = some (.int .i64 (x.a.toNat : Nat)); rw [Int.toNat_of_nonneg (by omega)]
    | 4, _ => show some (Value.int .i64 x.b) = some (.int .i64 (x.b.toNat : Nat)); rw [Int.toNat_of_nonneg (by omega)]
  have hsz1 := hb1.size
  have hb2 : Below w.heap.size w (w1.alloc (.cells #[.int .i64 x.kind, .int .i64 x.time, .int .i64 x.seq, .int .i64 x.a, .int .i64 x.b] 2)) := hb1.alloc hsz1 _
  have HI := Lib.hid hi0
  have HB2 := Lib.hid hb2
  clear hn hi0 hb2 hmay s0 s1 s2 s3 s4 s5 b1
  go_wp2_with fail
  obtain ⟨W, hW⟩ : ∃ W, (w1.alloc (.cells #[.int .i64 x.kind, .int .i64 x.time, .int .i64 x.seq, .int .i64 x.a, .int .i64 x.b] 2)) = W := ⟨_, rfl⟩
  have hsW : W.heap.size = w1.heap.size + 1 := by rw [← hW]; simp
  rw [hW] at HI HB2 ⊢
  clear hW t0 t1 t2 t3 t4 t5
  go_loopw [5, 6] (fun v i wr => ∃ k : Nat, k ≤ 5 ∧ i = .int .i64 k ∧ (∃ A c, v = .slice A (((nums x).take k).flatMap numB).length c ∧ OB wr W.heap.size A c (((nums x).take k).flatMap numB)) ∧ Below W.heap.size W wr) (fun _ i _ => 5 - (intOf i).toNat)
  case atStart => exact ⟨0, by omega, rfl, ⟨none, 0, rfl, OB.nil _ _⟩, Below.refl _ _⟩
  case round =>
    obtain ⟨k, hk, rfl, ⟨A, c, rfl, ho⟩, hb⟩ := hrel
    by_cases hlt : k < 5
    · have hcell := (hb.cell (p := ⟨w1.heap.size, k, none⟩) (show w1.heap.size < W.heap.size by omega)).trans (HI.out k hlt)
      have hnt := nums_take x k hlt
      have hnl := HN.out k hlt
      have hll := nums_len x k
      obtain ⟨m, hm⟩ : ∃ m, (nums x).getD k 0 = m := ⟨_, rfl⟩
      rw [hm] at hcell hnt hnl
      obtain ⟨D, hD⟩ : ∃ D, ((nums x).take k).flatMap numB = D := ⟨_, rfl⟩
      rw [hD] at ho hnt hll ⊢
      have HNT := Lib.hid hnt
      have HNU := Lib.hid (refNumber_any A D.length c D m wr W.heap.size rfl ho hb.size (by omega) (by omega))
      clear hm hD hnt ho
      go_wp2_with fail
      refine HNU.out.mono ?_
      rintro e w2 ⟨A2, c2, rfl, ho2, hb3⟩
      have HO2 := Lib.hid ho2
      clear ho2
      go_wp2_with fail
      refine ⟨⟨k + 1, by omega, by go_num, ⟨A2, c2, ?_, ?_⟩, hb.trans hb3⟩, by simp [intOf]; omega⟩
      · rw [HNT.out, List.length_append]
      · rw [HNT.out]; exact HO2.out
    · obtain rfl : k = 5 := by omega
      have e5 : ((nums x).take 5).flatMap numB = evB x := by rw [evB_nums, List.take_of_length_le (by show (nums x).length ≤ 5; exact Nat.le_refl 5)]
      rw [e5] at ho ⊢
      have HF := Lib.hid (show R3Bytes w x (.returned (.tuple #[.slice A (evB x).length c, .int .i64 0])) wr from ⟨.inl ⟨HM.out, A, c, rfl, ho.mono (by omega)⟩, HB2.out.trans (hb.mono (by omega))⟩)
      clear e5 ho
      go_wp2_with fail
      go_ret2
      exact HF.out
end Go.Proofs.Ythnbpdcjooifbaa
namespace Go.Proofs.Ythnbpdcjooifbaa
open Go.RowKit
set_option linter.unusedSimpArgs false
set_option linter.unusedVariables false

/-- A slice reads the same where its block is kept. -/
theorem RB.one {w w' : World} {D : Nat} {X : Option Addr} {c : Nat} {m : List Int} (h : RB w D X c m) (hk : ∀ a, X = some a → w'.heap[a.block]? = w.heap[a.block]?) : RB w' D X c m := by
  refine ⟨h.le, h.cap, h.bytes, ?_⟩
  rcases h.at_ with h1 | ⟨a, h1, h2⟩
  · exact .inl h1
  · refine .inr ⟨a, h1, fun h0 => ?_⟩
    obtain ⟨q1, q2, q3⟩ := h2 h0
    exact ⟨q1, q2, fun i hi => (World.cell?_of_block (a := ⟨a.block, a.off + i, none⟩) (hk a h1)).trans (q3 i hi)⟩

set_option maxRecDepth 100000 in
set_option maxHeartbeats 1000000 in
theorem refNumber_one (A : Option Addr) (c : Nat) (l : List Int) (x : Nat) (w : World) (B : Nat) (h : OB w B A c l) (hB : B ≤ w.heap.size) (hlen : l.length ≤ 70368744177664) (hx : x ≤ 247) :
    Calls Try.prog 57 #[.slice A l.length c, .int .u64 x] w fun e w' => ∃ A' c', e = .returned (.slice A' (l ++ numB x).length c') ∧ OB w' B A' c' (l ++ numB x) ∧ Below B w w' ∧ ∀ k, k < w.heap.size → (Value.slice A l.length c).ownBlock ≠ some k → w'.heap[k]? = w.heap[k]? := by
  have hnb : numB x = [(x : Int)] := by unfold numB; rw [if_pos hx]
  rw [hnb]
  go_enter Try.func57, Try.ntmps57
  go_wp2_with (at_builtin; refine wpList_append_rbg _ rfl _ _ rfl B (w.heap.size + 1) _ _ _ l rfl rfl (h.alloc _) _ _ _ [(x : Int)] rfl rfl (RB.lit1 _ _ (by omega) (by omega)) (by simp; omega) (by simp; omega) ?_; intro A' c' w1 ho1 hb1 hg1; have HO := Lib.hid ho1; have HB := Lib.hid hb1; have HG := Lib.hid hg1; clear ho1 hb1 hg1)
  go_ret
  refine ⟨A', c', by simp, HO.out, ((Below.refl B w).alloc hB _).trans HB.out, fun k hk hne => ?_⟩
  exact (HG.out.block k (by simp; omega) (fun e => hne e.symm)).trans (((Below.refl w.heap.size w).alloc (Nat.le_refl _) _).block k hk)

set_option maxRecDepth 100000 in
set_option maxHeartbeats 1000000 in
theorem refBlock_one (A X : Option Addr) (c cx : Nat) (l m : List Int) (w : World) (B : Nat) (h : OB w B A c l) (hx : RB w w.heap.size X cx m) (hap : ∀ a, X = some a → (Value.slice A l.length c).ownBlock ≠ some a.block) (hB : B ≤ w.heap.size) (hlen : l.length ≤ 70368744177664) (hm : m.length ≤ 247) :
    Calls Try.prog 59 #[.slice A l.length c, .slice X m.length cx] w (FreshOk B w (l ++ blkB m)) := by
  have hl := (numB_length m.length).2
  have HN := Lib.hid (refNumber_one A c l m.length w B h hB hlen hm)
  have HX := Lib.hid hx
  clear h hx
  go_enter Try.func59, Try.ntmps59
  go_wp2_with fail
  refine HN.out.mono ?_
  rintro e w1 ⟨A1, c1, rfl, ho1, hb1, hk1⟩
  have hx1 : RB w1 w1.heap.size X cx m := by
    by_cases h0 : 0 < m.length
    · refine RB.more (RB.one HX.out fun a ha => ?_) hb1.size
      obtain ⟨b, off, e, hbb, _⟩ := HX.out.pos h0
      have hab : a.block < w.heap.size := by
        rw [ha] at e
        obtain rfl := Option.some.inj e
        exact hbb
      exact hk1 a.block hab (hap a ha)
    · have hm0 : m = [] := List.eq_nil_of_length_eq_zero (by omega)
      subst hm0
      cases hX : X with
      | none =>
        have := HX.out
        rw [hX] at this
        obtain ⟨hc0, _⟩ := this.none_nil
        rw [hc0]; exact RB.nil _ _
      | some a => exact RB.empty _ _ a cx HX.out.cap
  have hs1 := hb1.size
  have HO1 := Lib.hid ho1
  have HX1 := Lib.hid hx1
  have HB1 := Lib.hid hb1
  clear ho1 hx1 hb1 hk1
  go_wp2_with (at_builtin; refine wpList_append_rb _ rfl (.tmp 13) (.tmp 14) rfl B w1.heap.size A1 _ c1 (l ++ numB m.length) rfl (by simp) HO1.out X _ cx m rfl rfl HX1.out (by rw [List.length_append]; omega) (by omega) ?_; intro A' c' w2 ho2 hb2 hne; have HO2 := Lib.hid ho2; have HB2 := Lib.hid hb2; clear ho2 hb2)
  go_ret2
  have ho := HO2.out
  rw [List.append_assoc] at ho
  exact ⟨A', c', by simp [blkB], ho, HB1.out.trans HB2.out⟩

set_option maxRecDepth 100000 in
set_option maxHeartbeats 2000000 in
theorem r4bytes_any (w : World) (x : Ls) (h : LsAt w w.heap.size x) (hN : x.l.length ≤ 1048576) : Calls Try.prog 24 #[x.val] w (BytesTo w x.l) := by
  have hcap := h.cap
  have hle := h.le
  unfold maxLen at hcap
  have HCK := Lib.hid ((rmcheck_any w x h).mono fun e w' hc => hc.chk)
  have HL := Lib.hid h
  clear h
  unfold Ls.val at HCK ⊢
  go_enter Try.func24, Try.ntmps24
  go_wp2_with fail
  refine HCK.out.mono ?_
  rintro e w1 ⟨rfl, b1⟩
  by_cases hck : chk x.l = 0
  case neg =>
    have hb : (chk x.l != 0) = true := by simpa using hck
    have HC := Lib.hid hck
    clear hck
    go_wp2_with fail
    go_ret2
    exact ⟨.inl ⟨HC.out, rfl⟩, b1⟩
  have hb : (chk x.l != 0) = false := by simpa using hck
  have HC := Lib.hid hck
  have HG := Lib.hid (chk_good hck).1
  have HNB := Lib.hid (refNumber_any none 0 0 [] x.l.length w1 w1.heap.size rfl (OB.nil _ _) (Nat.le_refl _) (Nat.zero_le _) (by omega))
  have h1 := b1.size
  clear hck
  go_wp2_with fail
  refine HNB.out.mono ?_
  rintro e w2 ⟨A, c, rfl, ho, b2⟩
  rw [List.nil_append] at ho ⊢
  have b12 := b1.trans (b2.mono h1)
  have HO := Lib.hid (ho.mono h1)
  have B12 := Lib.hid b12
  clear ho b12 b2 b1
  go_wp2_with fail
  go_loopw [5, 6] (fun v i wr => ∃ k : Nat, k ≤ x.l.length ∧ i = .int .i64 k ∧ (∃ A c, v = .slice A (numB x.l.length ++ evsB (x.l.take k)).length c ∧ OB wr w.heap.size A c (numB x.l.length ++ evsB (x.l.take k))) ∧ Below w.heap.size w wr) (fun _ i _ => x.l.length - (intOf i).toNat)
  case atStart => exact ⟨0, Nat.zero_le _, rfl, ⟨A, c, by simp [evsB], by simpa [evsB] using HO.out⟩, B12.out⟩
  case round =>
    clear HO B12
    obtain ⟨k, hk, rfl, ⟨A1, c1, rfl, ho⟩, hb2⟩ := hrel
    by_cases hlt : k < x.l.length
    · obtain ⟨b, o, hA, hb1, hat⟩ := HL.out.at_ (by omega)
      have hu := (hat k hlt).keep (hb2.block b hb1)
      obtain ⟨y, hy⟩ : ∃ y, x.l.getD k evZ = y := ⟨_, rfl⟩
      rw [show x.l.getD k ⟨0, 0, 0, 0, 0, 0⟩ = y from hy] at hu
      have hmay : y.May := by rw [← hy]; exact HG.out.1 k hlt
      have htk := evsB_take x.l k hlt
      rw [hy] at htk
      have hlen := evsB_le (x.l.take k)
      have hnl := (numB_length x.l.length).2
      have htl : (x.l.take k).length ≤ 1048576 := by simp; omega
      have hel := evB_le y
      obtain ⟨d0, d1, d2, d3, d4, d5⟩ := hu
      have hsz := hb2.size
      have HMB := Lib.hid (r3bytes_any wr y)
      have HMAY := Lib.hid hmay
      have HO := Lib.hid ho
      have HTK := Lib.hid htk
      have hdl : (numB x.l.length ++ evsB (x.l.take k)).length ≤ 56623113 := by rw [List.length_append]; omega
      obtain ⟨D, hD⟩ : ∃ D, numB x.l.length ++ evsB (x.l.take k) = D := ⟨_, rfl⟩
      rw [hD] at HO hdl ⊢
      have HD := Lib.hid hD
      unfold Ev.val at HMB
      clear hat hy hmay htk hlen hnl htl ho hD
      rw [hA]
      go_wp2_with fail
      refine HMB.out.mono ?_
      rintro e w3 ⟨hcase, b3⟩
      rcases hcase with ⟨_, A2, c2, rfl, ho2⟩ | ⟨hno, _⟩
      case inr => exact absurd HMAY.out hno
      have hb3 : Below w.heap.size w w3 := hb2.trans (b3.mono hsz)
      have hlA : ∀ j, (Value.slice A1 D.length c1).ownBlock = some j → j < wr.heap.size := fun j hj => (HO.out.own.lt j hj).2
      have hBK := Lib.hid (refBlock_one A1 A2 c1 c2 D (evB y) w3 w.heap.size (HO.out.below b3 (Nat.le_refl _)) ho2.rb (fun a ha e => by have h1 := hlA _ e; have h2 := ho2.from_ a ha; omega) hb3.size (by omega) (by omega))
      have HB3 := Lib.hid hb3
      have h3 := hb3.size
      clear ho2 b3 hb3 d0 d1 d2 d3 d4 d5 hlA
      go_wp2_with fail
      refine hBK.out.mono ?_
      rintro e w4 ⟨A3, c3, rfl, ho4, hb4⟩
      have HO4 := Lib.hid ho4
      have HB4 := Lib.hid (HB3.out.trans hb4)
      clear ho4 hb4
      go_wp2_with fail
      refine ⟨⟨k + 1, by omega, by go_num, ⟨A3, c3, ?_, ?_⟩, HB4.out⟩, by simp [intOf]; omega⟩
      · rw [HTK.out, ← List.append_assoc, HD.out, List.length_append]
      · rw [HTK.out, ← List.append_assoc, HD.out]; exact HO4.out
    · obtain rfl : k = x.l.length := by omega
      rw [List.take_length] at ho ⊢
      have HF := Lib.hid (show BytesTo w x.l (.returned (.tuple #[.slice A1 (histB x.l).length c1, .int .i64 0])) wr from ⟨.inr ⟨HC.out, A1, c1, rfl, ho⟩, hb2⟩)
      clear ho
      go_wp2_with fail
      go_ret2
      exact HF.out
end Go.Proofs.Ythnbpdcjooifbaa
