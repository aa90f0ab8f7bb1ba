/- The walk of OctetSees. -/
import Derived.Test.YtbjhdmhligjplaaV
import Derived.Deep.DeepCutAuto
import Derived.OpenShut
import Derived.Test.YtbjhdmhligjplaaY
import Derived.Test.YtbjhdmhligjplaaE
import Derived.Laws.OwnMore
import Derived.Test.YtbjhdmhligjplaaX3
namespace Go.Proofs.Ytbjhdmhligjplaa
open Go.RowKit

theorem OB.set {w : World} {B c g : Nat} {l : List Int} (h : OB w B (some ⟨g, 0, none⟩) c l) (j : Nat) (x : Int) (h0 : 0 ≤ x) (h1 : x < 256) :
    OB (w.setCell ⟨g, j, none⟩ (.int .u8 x)) B (some ⟨g, 0, none⟩) c (l.set j x) ∧ w.grownBy (w.setCell ⟨g, j, none⟩ (.int .u8 x)) (some g) := by
  have h2 := h.own.stored j (.int .u8 x)
  refine ⟨⟨?_, ?_⟩, h2.2⟩
  · have := h2.1
    rw [List.length_set, List.map_set]
    exact this
  · intro n hn
    rcases List.mem_or_eq_of_mem_set hn with h1' | rfl
    · exact h.bytes n h1'
    · exact ⟨h0, h1⟩

theorem OB.pos {w : World} {B c : Nat} {A : Option Addr} {l : List Int} (h : OB w B A c l) (hl : 0 < l.length) : ∃ g, A = some ⟨g, 0, none⟩ ∧ B ≤ g ∧ g < w.heap.size := by
  have hlt := h.own.lt
  rcases h.own.2 with ⟨_, h2⟩ | ⟨g, cap, cur, h1, hb, _⟩
  · omega
  · injection h1 with h3 h4 h5
    exact ⟨g, h3, hb, (hlt g (by rw [h3]; rfl)).2⟩

theorem sum1c (g : Nat) (A1 : Option Addr) (c1 n1 : Nat) (l1 : List Int) (w : World) (hn1 : n1 = l1.length) (hc0 : w.cell? ⟨g, 0, none⟩ = some (.slice A1 n1 c1)) (h1 : RB w w.heap.size A1 c1 l1) (hlen : l1.length ≤ 140737488355328) :
    Calls Try.prog 25 #[.slice (some ⟨g, 0, none⟩) 1 1] w fun e w' => e = .returned (.int .u16 (sumL l1).toNat) ∧ w = w' := by
  subst hn1
  refine (sum_any g 1 [⟨A1, c1, l1⟩] _ (by simp) ?_ ?_ (by simp [flat]; omega)).mono fun e w' h => ?_
  · intro i hi
    obtain rfl : i = 0 := by simp at hi; omega
    exact hc0
  · intro i hi
    obtain rfl : i = 0 := by simp at hi; omega
    exact h1
  · simpa [flat] using h
theorem row1 {w w' : World} (v0 : Value) (h : Below (w.heap.size + 1) (w.alloc (.cells #[v0] 24)) w') : w'.cell? ⟨w.heap.size, 0, none⟩ = some v0 := by
  rw [h.cell (by simp), World.cell?_alloc_at _ _ _ _ rfl]; rfl

theorem row1g {w w' : World} {v0 : Value} {g : Nat} (hg : g = w.heap.size) (h : Below (w.heap.size + 1) (w.alloc (.cells #[v0] 24)) w') : w'.cell? ⟨g, 0, none⟩ = some v0 := by
  subst hg; exact row1 v0 h
theorem row2a {w w' : World} {v0 v1 : Value} {g : Nat} (hg : g = w.heap.size) (h : Below (w.heap.size + 1) (w.alloc (.cells #[v0, v1] 24)) w') : w'.cell? ⟨g, 0, none⟩ = some v0 := by
  subst hg; exact (row2 v0 v1 h).1
theorem row2b {w w' : World} {v0 v1 : Value} {g : Nat} (hg : g = w.heap.size) (h : Below (w.heap.size + 1) (w.alloc (.cells #[v0, v1] 24)) w') : w'.cell? ⟨g, 1, none⟩ = some v1 := by
  subst hg; exact (row2 v0 v1 h).2

/-- Pick: in reach, whatever comes in. -/
theorem pick_any (n m : Int) (w : World) (_ : -9223372036854775808 ≤ n) (_ : n < 9223372036854775808) (hm0 : 0 < m) (hm1 : m < 1000000000) :
    Calls Try.prog 32 #[.int .i64 n, .int .i64 m] w fun e w' => (∃ r : Nat, (r : Int) < m ∧ e = .returned (.int .i64 r)) ∧ w = w' := by
  have hr0 := Int.tmod_lt_of_pos n hm0
  have hr1 : -m < n.tmod m := by
    have := Int.tmod_lt_of_pos (-n) hm0
    rw [Int.neg_tmod] at this; omega
  go_enter Try.func32, Try.ntmps32
  by_cases hneg : n.tmod m < 0
  · go_wp2_with fail
    go_ret
    exact ⟨⟨(n.tmod m + m).toNat, by omega, by rw [Int.toNat_of_nonneg (by omega)]; rfl⟩, rfl⟩
  · go_wp2_with fail
    go_ret
    exact ⟨⟨(n.tmod m).toNat, by omega, by rw [Int.toNat_of_nonneg (by omega)]; rfl⟩, rfl⟩

set_option maxHeartbeats 1000000 in
theorem sees_long (w : World) (A : Option Addr) (c n : Nat) (a ch u : Int) (h1 : 3000 < n) : Calls Try.prog 8 #[.slice A n c, .int .i64 a, .int .u16 ch, .int .i64 u] w fun e w' => e = .returned (.bool true) ∧ Below w.heap.size w w' := by
  go_enter Try.func8, Try.ntmps8
  go_wp2_with fail
  refine (lives_any _).mono ?_
  rintro e w1 ⟨rfl, hb⟩
  go_wp2_with fail
  go_ret
  exact ⟨rfl, hb⟩
set_option maxHeartbeats 1000000 in
theorem sees_short (w : World) (A : Option Addr) (c n : Nat) (a ch u : Int) (h1 : n < 3) : Calls Try.prog 8 #[.slice A n c, .int .i64 a, .int .u16 ch, .int .i64 u] w fun e w' => e = .returned (.bool true) ∧ Below w.heap.size w w' := by
  go_enter Try.func8, Try.ntmps8
  go_wp2_with fail
  refine (lives_any _).mono ?_
  rintro e w1 ⟨rfl, hb⟩
  go_wp2_with fail
  go_ret
  exact ⟨rfl, hb⟩
set_option maxHeartbeats 1000000 in
theorem sees_none (w : World) (A : Option Addr) (c n : Nat) (a u : Int) (h1 : ¬ 3000 < n) (h2 : ¬ n < 3) : Calls Try.prog 8 #[.slice A n c, .int .i64 a, .int .u16 0, .int .i64 u] w fun e w' => e = .returned (.bool true) ∧ Below w.heap.size w w' := by
  go_enter Try.func8, Try.ntmps8
  go_wp2_with fail
  refine (lives_any _).mono ?_
  rintro e w1 ⟨rfl, hb⟩
  go_wp2_with fail
  go_ret
  exact ⟨rfl, hb⟩

set_option maxHeartbeats 4000000 in
set_option maxRecDepth 100000 in
theorem walk_OctetSees (w : World) (A : Option Addr) (c n : Nat) (l : List Int) (hn : n = l.length) (h : RB w w.heap.size A c l) (a : Int) (ha : (Lit.int .i64 a).wf = true) (ch : Int) (hch : (Lit.int .u16 ch).wf = true) (u : Int) (hu : (Lit.int .i64 u).wf = true) : Calls Try.prog 8 #[.slice A n c, .int .i64 a, .int .u16 ch, .int .i64 u] w fun e w' => e = .returned (.bool true) ∧ Below w.heap.size w w' := by
  by_cases h1 : 3000 < n
  · exact sees_long w A c n a ch u h1
  by_cases h2 : n < 3
  · exact sees_short w A c n a ch u h2
  by_cases h3 : ch = 0
  · subst h3; exact sees_none w A c n a u h1 h2
  have ha' := bounds_i64 ha
  have hu' := bounds_i64 hu
  have hch' := bounds_u16 hch
  obtain ⟨d, rfl⟩ : ∃ d : Nat, ch = (d : Int) := ⟨ch.toNat, by omega⟩
  have hd : d < 65536 := by omega
  have hd0 : d ≠ 0 := by omega
  clear ha hu hch hch' h3
  subst hn
  obtain ⟨b, off, rfl, hbb, hcc⟩ := h.pos (by omega)
  have hall := h.bytes
  have hd1 : ((d : Int) == 0) = false := by simp; omega
  go_enter Try.func8, Try.ntmps8
  go_wp2_with fail
  refine (lives_any _).mono ?_
  rintro e w1 ⟨rfl, hB1⟩
  go_wp2_with fail
  refine (own_any _ c _ l w1 _ rfl (h.below hB1) hB1.size (by omega)).mono ?_
  rintro e w2 ⟨A2, c2, rfl, ho2, hb2⟩
  have hB2 := hB1.trans (hb2.mono hB1.size)
  replace ho2 := ho2.mono hB1.size
  obtain ⟨g, rfl, hg0, hg1⟩ := ho2.pos (by omega)
  clear hb2 hB1 hcc
  go_wp2_with fail
  refine (pick_any a _ w2 (by omega) (by omega) (by omega) (by omega)).mono ?_
  rintro e w' ⟨⟨k, hk, rfl⟩, rfl⟩
  have hk8 : k + 16 ≤ 8 * l.length := by omega
  have hsee := sum_sees l k d hall hd hd0 hk8
  have HSEE := Lib.hid hsee
  clear hsee
  go_wp2_with fail
  go_loopw [11] (fun i wr => ∃ j : Nat, j ≤ 16 ∧ i = .int .i64 j ∧ OB wr w.heap.size (some ⟨g, 0, none⟩) c2 (flips l k d j) ∧ Below w.heap.size w wr) (fun i _ => 16 - (intOf i).toNat)
  case atStart => exact ⟨0, by omega, rfl, ho2, hB2⟩
  case round =>
    obtain ⟨j, hj, rfl, ho, hbl⟩ := hrel
    clear ho2 hB2
    by_cases hj16 : j < 16
    · have hfl := flips_length l k d j
      have hxa := (flips_all l k d j hall).getD ((k + j) / 8)
      have hstep : flips l k d (j + 1) = if d / 2 ^ j % 2 = 1 then flip1 (flips l k d j) (k + j) else flips l k d j := rfl
      generalize flips l k d j = m at *
      have hql : (k + j) / 8 < m.length := by omega
      have hcell := ho.own.cellAt ((k + j) / 8) (by omega)
      have hfro := ho.own.frozenAt ((k + j) / 8)
      rw [List.getElem?_map, List.getElem?_eq_getElem hql] at hcell
      simp only [Option.map_some] at hcell
      rw [← getD_lt hql] at hcell
      generalize hx : m.getD ((k + j) / 8) 0 = x at *
      have HX := Lib.hid hx
      clear hx
      have hdj : ∀ z : Nat, z = d / 2 ^ j % 2 → ((((d : Int) / 2 ^ j).tmod 2) == 1) = ((z : Int) == 1) := fun z hz => by
        have e : ((d : Int) / 2 ^ j) = ((d / 2 ^ j : Nat) : Int) := by push_cast; rfl
        rw [e, Int.tmod_eq_emod_of_nonneg (Int.natCast_nonneg _), hz]; norm_cast
      by_cases hbit : d / 2 ^ j % 2 = 1
      · have hb1 : ((((d : Int) / 2 ^ j).tmod 2) == 1) = true := hdj 1 hbit.symm
        rw [if_pos hbit] at hstep
        have HS := Lib.hid hstep
        clear hstep hdj
        go_wp2_with fail
        have hm := bits_xor_u8 x (msk ((k + j) % 8)) hxa.1 hxa.2 (msk_lt _)
        have hmi : ((msk ((k + j) % 8) : Nat) : Int) = 128 / 2 ^ ((k + j) % 8) := by unfold msk; push_cast; rfl
        have hlt : x.toNat ^^^ msk ((k + j) % 8) < 256 := Nat.xor_lt_two_pow (n := 8) (by omega) (msk_lt _)
        have hst := ho.set ((k + j) / 8) (bits .xor .u8 x (msk ((k + j) % 8) : Nat)) (by omega) (by omega)
        rw [hmi] at hst
        go_roundw
        case rel =>
          refine ⟨j + 1, by omega, by go_num, ?_, hbl.grown hst.2 hbl.size (by rintro i ⟨⟩; exact hg0)⟩
          rw [HS.out]
          unfold flip1
          rw [HX.out, hmi]
          exact hst.1
        case measure => simp [intOf]; omega
      · have hb1 : ((((d : Int) / 2 ^ j).tmod 2) == 1) = false := hdj 0 (by have := Nat.mod_lt (d / 2 ^ j) (show 2 > 0 by decide); omega)
        rw [if_neg hbit] at hstep
        have HS := Lib.hid hstep
        clear hstep hdj
        go_wp2_with fail
        go_roundw
        case rel => exact ⟨j + 1, by omega, by go_num, by rw [HS.out]; exact ho, hbl⟩
        case measure => simp [intOf]; omega
    · obtain rfl : j = 16 := by omega
      have hbo := ho.rb
      have hfl := flips_length l k d 16
      have hxl := HSEE.out
      generalize flips l k d 16 = m at *
      have hrl := (h.below hbl).more hbl.size
      obtain ⟨s1, hs1⟩ : ∃ s : Int, ((sumL m).toNat : Int) = s := ⟨_, rfl⟩
      obtain ⟨s2, hs2⟩ : ∃ s : Int, ((sumL l).toNat : Int) = s := ⟨_, rfl⟩
      have hne : s1 ≠ s2 := by
        intro he; apply hxl; apply BitVec.eq_of_toNat_eq; omega
      have HS1 := Lib.hid hs1
      have HS2 := Lib.hid hs2
      have hne1 : (s1 == s2) = false := by simpa using hne
      have hne2 : (s1 != s2) = true := by simpa using hne
      clear hs1 hs2 hxl ho HSEE
      go_wp2_with fail
      refine (pick_any u _ wr (by omega) (by omega) (by omega) (by omega)).mono ?_
      rintro e w' ⟨⟨p, hp, rfl⟩, rfl⟩
      have hpl : p ≤ l.length := by omega
      have hrp := hrl.pre p hpl
      obtain ⟨Q, hQ⟩ : ∃ Q : Option Addr, (if c = p then some ⟨b, off, none⟩ else some ⟨b, off + p, none⟩) = Q := ⟨_, rfl⟩
      have hrs : RB wr wr.heap.size Q (c - p) (l.drop p) := by
        have hle := h.le
        have hcap := h.cap
        by_cases hcp : c = p
        · rw [if_pos hcp] at hQ
          have : l.drop p = [] := List.drop_eq_nil_of_le (by omega)
          rw [this, ← hQ]
          exact RB.empty _ _ _ _ (by omega)
        · rw [if_neg hcp] at hQ
          rw [← hQ]
          have := hrl.sub p (l.length - p) (by omega)
          rwa [List.take_of_length_le (by rw [List.length_drop]; omega)] at this
      have HQ := Lib.hid hQ
      clear hQ
      have hcut2 := List.take_append_drop p l
      have HCUT := Lib.hid hcut2
      have hlp : (l.take p).length = p := by rw [List.length_take]; omega
      have hld : (l.drop p).length = l.length - p := by rw [List.length_drop]
      have HLP := Lib.hid hlp
      have HLD := Lib.hid hld
      have hlc := h.le
      have hcm : c ≤ 9223372036854775807 := by have := h.cap; unfold maxLen at this; omega
      clear hcut2 hlp hld hall
      generalize hA1 : l.take p = la at *
      generalize hA2 : l.drop p = lb at *
      clear hA1 hA2
      go_upto_region 13 with fail
      go_cut [8] (fun s wc => s = .bool true ∧ Below wr.heap.size wr wc)
      case first =>
        have H0 : Below wr.heap.size wr wr := Below.refl _ _
        refine region_ (fun _ => False) (by kernel_rfl) ?_
        refine seg_ [0, 3] 20 _ (by kernel_rfl) (by kernel_rfl) (by kernel_rfl) (by simp only [pickOps, mask, plain, List.getElem?_toArray, List.getElem?_cons_zero, List.getElem?_cons_succ, if_true]; rfl) ?_
        repeat (go_big_quiet_step (fail))
        refine wpQuiet_nil ?_
        refine fork_ (i := 1) (j := 4) rfl rfl (by kernel_rfl) (by kernel_rfl) (by kernel_rfl) ?_ ?_
        · intro ka
          have Ha := H0.trans (below_drawn _ _ ka)
          unfold Oper.does
          go_simp
          refine same_ (Save.drawn _ _ ka) (Save.of_below ((Below.refl _ _).alloc (Nat.le_refl _) _)) ?_
          have Hb := Ha.alloc Ha.size (.cells #[(.slice (some ⟨g, 0, none⟩) l.length c2)] 24)
          refine calm_ (i := 2) (.int .u16 s1) rfl (by kernel_rfl) (by kernel_rfl) (by kernel_rfl) (by kernel_rfl) ?_ ?_
          · intro wz sz
            have Hz := Hb.trans (sz.all.mono Hb.size)
            unfold Oper.does
            go_simp
            refine (sum1c _ _ c2 l.length m wz hfl.symm ?_ ((hbo.below Hz).more Hz.size) (by omega)).mono ?_
            · exact row1g (by simp) (sz.all.mono (by simp))
            rintro e w' ⟨he, rfl⟩
            rw [HS1.out] at he
            exact ⟨_, he, rfl, _, rfl⟩
          refine call_ (i := 4) rfl (by kernel_rfl) (by kernel_rfl) ?_
          intro wc sc
          have Hc := Hb.trans (sc.all.mono Hb.size)
          unfold Oper.does
          go_simp
          refine same_ sc (Save.of_below ((Below.refl _ _).alloc (Nat.le_refl _) _)) ?_
          have Hd := Hc.alloc Hc.size (.cells #[(.slice (some ⟨b, off, none⟩) l.length c)] 24)
          refine calm_ (i := 5) (.int .u16 s2) rfl (by kernel_rfl) (by kernel_rfl) (by kernel_rfl) (by kernel_rfl) ?_ ?_
          · intro wz sz
            have Hz := Hd.trans (sz.all.mono Hd.size)
            unfold Oper.does
            go_simp
            refine (sum1c _ _ c l.length l wz rfl ?_ ((hrl.below Hz).more Hz.size) (by omega)).mono ?_
            · exact row1g (by simp) (sz.all.mono (by simp))
            rintro e w' ⟨he, rfl⟩
            rw [HS2.out] at he
            exact ⟨_, he, rfl, _, rfl⟩
          go_simp
          refine seg_ [6, 7, 8, 9, 10, 11, 12, 13, 16] 7 _ (by kernel_rfl) (by kernel_rfl) (by kernel_rfl) (by simp only [pickOps, mask, plain, List.getElem?_toArray, List.getElem?_cons_zero, List.getElem?_cons_succ, if_true]; rfl) ?_
          repeat (go_big_quiet_step (fail))
          refine wpQuiet_nil ?_
          rw [HQ.out]
          refine fork_ (i := 14) (j := 17) rfl rfl (by kernel_rfl) (by kernel_rfl) (by kernel_rfl) ?_ ?_
          · intro kx
            have Hx := Hd.trans (below_drawn _ _ kx)
            unfold Oper.does
            go_simp
            refine same_ (Save.drawn _ _ kx) (Save.of_below ((Below.refl _ _).alloc (Nat.le_refl _) _)) ?_
            have Hp := Hx.alloc Hx.size (.cells #[(.slice (some ⟨b, off, none⟩) p c), (.slice Q (l.length - p) (c - p))] 24)
            refine calm_ (i := 15) (.int .u16 s2) rfl (by kernel_rfl) (by kernel_rfl) (by kernel_rfl) (by kernel_rfl) ?_ ?_
            · intro wz sz
              have Hz := Hp.trans (sz.all.mono Hp.size)
              unfold Oper.does
              go_simp
              refine (sum2c _ _ _ c (c - p) p (l.length - p) la lb wz HLP.out.symm HLD.out.symm ?_ ?_ ((hrp.below Hz).more Hz.size) ((hrs.below Hz).more Hz.size) (by rw [HLP.out, HLD.out]; omega)).mono ?_
              · exact row2a (by simp) (sz.all.mono (by simp))
              · exact row2b (by simp) (sz.all.mono (by simp))
              rintro e w' ⟨he, rfl⟩
              rw [HCUT.out, HS2.out] at he
              exact ⟨_, he, rfl, _, rfl⟩
            refine call_ (i := 17) rfl (by kernel_rfl) (by kernel_rfl) ?_
            intro wq sq
            have Hq := Hp.trans (sq.all.mono Hp.size)
            unfold Oper.does
            go_simp
            refine same_ sq (Save.of_below ((Below.refl _ _).alloc (Nat.le_refl _) _)) ?_
            have Hr := Hq.alloc Hq.size (.cells #[(.slice (some ⟨b, off, none⟩) l.length c)] 24)
            refine calm_ (i := 18) (.int .u16 s2) rfl (by kernel_rfl) (by kernel_rfl) (by kernel_rfl) (by kernel_rfl) ?_ ?_
            · intro wz sz
              have Hz := Hr.trans (sz.all.mono Hr.size)
              unfold Oper.does
              go_simp
              refine (sum1c _ _ c l.length l wz rfl ?_ ((hrl.below Hz).more Hz.size) (by omega)).mono ?_
              · exact row1g (by simp) (sz.all.mono (by simp))
              rintro e w' ⟨he, rfl⟩
              rw [HS2.out] at he
              exact ⟨_, he, rfl, _, rfl⟩
            go_simp
            refine seg_ [19, 20, 21] 0 _ (by kernel_rfl) (by kernel_rfl) (by kernel_rfl) (by simp only [pickOps, mask, plain, List.getElem?_toArray, List.getElem?_cons_zero, List.getElem?_cons_succ, if_true]; rfl) ?_
            repeat (go_big_quiet_step (fail))
            refine wpQuiet_nil ?_
            refine end_ (by kernel_rfl) ?_
            intro wE hE
            go_wp2_with fail
            go_meet
            exact ⟨rfl, Hr.trans (hE.all.mono Hr.size)⟩
          · intro kx
            have Hx := Hd.trans (below_drawn _ _ kx)
            unfold Oper.does
            go_simp
            refine same_ (Save.drawn _ _ kx) (Save.of_below ((Below.refl _ _).alloc (Nat.le_refl _) _)) ?_
            have Hp := Hx.alloc Hx.size (.cells #[(.slice (some ⟨b, off, none⟩) l.length c)] 24)
            refine call_ (i := 14) rfl (by kernel_rfl) (by kernel_rfl) ?_
            intro wq sq
            have Hq := Hp.trans (sq.all.mono Hp.size)
            unfold Oper.does
            go_simp
            refine same_ sq (Save.of_below ((Below.refl _ _).alloc (Nat.le_refl _) _)) ?_
            have Hr := Hq.alloc Hq.size (.cells #[(.slice (some ⟨b, off, none⟩) p c), (.slice Q (l.length - p) (c - p))] 24)
            refine calm_ (i := 15) (.int .u16 s2) rfl (by kernel_rfl) (by kernel_rfl) (by kernel_rfl) (by kernel_rfl) ?_ ?_
            · intro wz sz
              have Hz := Hr.trans (sz.all.mono Hr.size)
              unfold Oper.does
              go_simp
              refine (sum2c _ _ _ c (c - p) p (l.length - p) la lb wz HLP.out.symm HLD.out.symm ?_ ?_ ((hrp.below Hz).more Hz.size) ((hrs.below Hz).more Hz.size) (by rw [HLP.out, HLD.out]; omega)).mono ?_
              · exact row2a (by simp) (sz.all.mono (by simp))
              · exact row2b (by simp) (sz.all.mono (by simp))
              rintro e w' ⟨he, rfl⟩
              rw [HCUT.out, HS2.out] at he
              exact ⟨_, he, rfl, _, rfl⟩
            refine calm_ (i := 18) (.int .u16 s2) rfl (by kernel_rfl) (by kernel_rfl) (by kernel_rfl) (by kernel_rfl) ?_ ?_
            · intro wz sz
              have Hz := Hr.trans (sz.all.mono Hr.size)
              unfold Oper.does
              go_simp
              refine (sum1c _ _ c l.length l wz rfl ?_ ((hrl.below Hz).more Hz.size) (by omega)).mono ?_
              · exact row1g (by simp) ((sq.all.trans ((((Below.refl _ _).alloc (Nat.le_refl _) _).trans (sz.all.mono (by simp))).mono sq.size)).mono (by simp))
              rintro e w' ⟨he, rfl⟩
              rw [HS2.out] at he
              exact ⟨_, he, rfl, _, rfl⟩
            go_simp
            refine seg_ [19, 20, 21] 0 _ (by kernel_rfl) (by kernel_rfl) (by kernel_rfl) (by simp only [pickOps, mask, plain, List.getElem?_toArray, List.getElem?_cons_zero, List.getElem?_cons_succ, if_true]; rfl) ?_
            repeat (go_big_quiet_step (fail))
            refine wpQuiet_nil ?_
            refine end_ (by kernel_rfl) ?_
            intro wE hE
            go_wp2_with fail
            go_meet
            exact ⟨rfl, Hr.trans (hE.all.mono Hr.size)⟩
        · intro ka
          have Ha := H0.trans (below_drawn _ _ ka)
          unfold Oper.does
          go_simp
          refine same_ (Save.drawn _ _ ka) (Save.of_below ((Below.refl _ _).alloc (Nat.le_refl _) _)) ?_
          have Hb := Ha.alloc Ha.size (.cells #[(.slice (some ⟨b, off, none⟩) l.length c)] 24)
          refine call_ (i := 1) rfl (by kernel_rfl) (by kernel_rfl) ?_
          intro wc sc
          have Hc := Hb.trans (sc.all.mono Hb.size)
          unfold Oper.does
          go_simp
          refine same_ sc (Save.of_below ((Below.refl _ _).alloc (Nat.le_refl _) _)) ?_
          have Hd := Hc.alloc Hc.size (.cells #[(.slice (some ⟨g, 0, none⟩) l.length c2)] 24)
          refine calm_ (i := 2) (.int .u16 s1) rfl (by kernel_rfl) (by kernel_rfl) (by kernel_rfl) (by kernel_rfl) ?_ ?_
          · intro wz sz
            have Hz := Hd.trans (sz.all.mono Hd.size)
            unfold Oper.does
            go_simp
            refine (sum1c _ _ c2 l.length m wz hfl.symm ?_ ((hbo.below Hz).more Hz.size) (by omega)).mono ?_
            · exact row1g (by simp) (sz.all.mono (by simp))
            rintro e w' ⟨he, rfl⟩
            rw [HS1.out] at he
            exact ⟨_, he, rfl, _, rfl⟩
          refine calm_ (i := 5) (.int .u16 s2) rfl (by kernel_rfl) (by kernel_rfl) (by kernel_rfl) (by kernel_rfl) ?_ ?_
          · intro wz sz
            have Hz := Hd.trans (sz.all.mono Hd.size)
            unfold Oper.does
            go_simp
            refine (sum1c _ _ c l.length l wz rfl ?_ ((hrl.below Hz).more Hz.size) (by omega)).mono ?_
            · exact row1g (by simp) ((sc.all.trans ((((Below.refl _ _).alloc (Nat.le_refl _) _).trans (sz.all.mono (by simp))).mono sc.size)).mono (by simp))
            rintro e w' ⟨he, rfl⟩
            rw [HS2.out] at he
            exact ⟨_, he, rfl, _, rfl⟩
          go_simp
          refine seg_ [6, 7, 8, 9, 10, 11, 12, 13, 16] 7 _ (by kernel_rfl) (by kernel_rfl) (by kernel_rfl) (by simp only [pickOps, mask, plain, List.getElem?_toArray, List.getElem?_cons_zero, List.getElem?_cons_succ, if_true]; rfl) ?_
          repeat (go_big_quiet_step (fail))
          refine wpQuiet_nil ?_
          rw [HQ.out]
          refine fork_ (i := 14) (j := 17) rfl rfl (by kernel_rfl) (by kernel_rfl) (by kernel_rfl) ?_ ?_
          · intro kx
            have Hx := Hd.trans (below_drawn _ _ kx)
            unfold Oper.does
            go_simp
            refine same_ (Save.drawn _ _ kx) (Save.of_below ((Below.refl _ _).alloc (Nat.le_refl _) _)) ?_
            have Hp := Hx.alloc Hx.size (.cells #[(.slice (some ⟨b, off, none⟩) p c), (.slice Q (l.length - p) (c - p))] 24)
            refine calm_ (i := 15) (.int .u16 s2) rfl (by kernel_rfl) (by kernel_rfl) (by kernel_rfl) (by kernel_rfl) ?_ ?_
            · intro wz sz
              have Hz := Hp.trans (sz.all.mono Hp.size)
              unfold Oper.does
              go_simp
              refine (sum2c _ _ _ c (c - p) p (l.length - p) la lb wz HLP.out.symm HLD.out.symm ?_ ?_ ((hrp.below Hz).more Hz.size) ((hrs.below Hz).more Hz.size) (by rw [HLP.out, HLD.out]; omega)).mono ?_
              · exact row2a (by simp) (sz.all.mono (by simp))
              · exact row2b (by simp) (sz.all.mono (by simp))
              rintro e w' ⟨he, rfl⟩
              rw [HCUT.out, HS2.out] at he
              exact ⟨_, he, rfl, _, rfl⟩
            refine call_ (i := 17) rfl (by kernel_rfl) (by kernel_rfl) ?_
            intro wq sq
            have Hq := Hp.trans (sq.all.mono Hp.size)
            unfold Oper.does
            go_simp
            refine same_ sq (Save.of_below ((Below.refl _ _).alloc (Nat.le_refl _) _)) ?_
            have Hr := Hq.alloc Hq.size (.cells #[(.slice (some ⟨b, off, none⟩) l.length c)] 24)
            refine calm_ (i := 18) (.int .u16 s2) rfl (by kernel_rfl) (by kernel_rfl) (by kernel_rfl) (by kernel_rfl) ?_ ?_
            · intro wz sz
              have Hz := Hr.trans (sz.all.mono Hr.size)
              unfold Oper.does
              go_simp
              refine (sum1c _ _ c l.length l wz rfl ?_ ((hrl.below Hz).more Hz.size) (by omega)).mono ?_
              · exact row1g (by simp) (sz.all.mono (by simp))
              rintro e w' ⟨he, rfl⟩
              rw [HS2.out] at he
              exact ⟨_, he, rfl, _, rfl⟩
            go_simp
            refine seg_ [19, 20, 21] 0 _ (by kernel_rfl) (by kernel_rfl) (by kernel_rfl) (by simp only [pickOps, mask, plain, List.getElem?_toArray, List.getElem?_cons_zero, List.getElem?_cons_succ, if_true]; rfl) ?_
            repeat (go_big_quiet_step (fail))
            refine wpQuiet_nil ?_
            refine end_ (by kernel_rfl) ?_
            intro wE hE
            go_wp2_with fail
            go_meet
            exact ⟨rfl, Hr.trans (hE.all.mono Hr.size)⟩
          · intro kx
            have Hx := Hd.trans (below_drawn _ _ kx)
            unfold Oper.does
            go_simp
            refine same_ (Save.drawn _ _ kx) (Save.of_below ((Below.refl _ _).alloc (Nat.le_refl _) _)) ?_
            have Hp := Hx.alloc Hx.size (.cells #[(.slice (some ⟨b, off, none⟩) l.length c)] 24)
            refine call_ (i := 14) rfl (by kernel_rfl) (by kernel_rfl) ?_
            intro wq sq
            have Hq := Hp.trans (sq.all.mono Hp.size)
            unfold Oper.does
            go_simp
            refine same_ sq (Save.of_below ((Below.refl _ _).alloc (Nat.le_refl _) _)) ?_
            have Hr := Hq.alloc Hq.size (.cells #[(.slice (some ⟨b, off, none⟩) p c), (.slice Q (l.length - p) (c - p))] 24)
            refine calm_ (i := 15) (.int .u16 s2) rfl (by kernel_rfl) (by kernel_rfl) (by kernel_rfl) (by kernel_rfl) ?_ ?_
            · intro wz sz
              have Hz := Hr.trans (sz.all.mono Hr.size)
              unfold Oper.does
              go_simp
              refine (sum2c _ _ _ c (c - p) p (l.length - p) la lb wz HLP.out.symm HLD.out.symm ?_ ?_ ((hrp.below Hz).more Hz.size) ((hrs.below Hz).more Hz.size) (by rw [HLP.out, HLD.out]; omega)).mono ?_
              · exact row2a (by simp) (sz.all.mono (by simp))
              · exact row2b (by simp) (sz.all.mono (by simp))
              rintro e w' ⟨he, rfl⟩
              rw [HCUT.out, HS2.out] at he
              exact ⟨_, he, rfl, _, rfl⟩
            refine calm_ (i := 18) (.int .u16 s2) rfl (by kernel_rfl) (by kernel_rfl) (by kernel_rfl) (by kernel_rfl) ?_ ?_
            · intro wz sz
              have Hz := Hr.trans (sz.all.mono Hr.size)
              unfold Oper.does
              go_simp
              refine (sum1c _ _ c l.length l wz rfl ?_ ((hrl.below Hz).more Hz.size) (by omega)).mono ?_
              · exact row1g (by simp) ((sq.all.trans ((((Below.refl _ _).alloc (Nat.le_refl _) _).trans (sz.all.mono (by simp))).mono sq.size)).mono (by simp))
              rintro e w' ⟨he, rfl⟩
              rw [HS2.out] at he
              exact ⟨_, he, rfl, _, rfl⟩
            go_simp
            refine seg_ [19, 20, 21] 0 _ (by kernel_rfl) (by kernel_rfl) (by kernel_rfl) (by simp only [pickOps, mask, plain, List.getElem?_toArray, List.getElem?_cons_zero, List.getElem?_cons_succ, if_true]; rfl) ?_
            repeat (go_big_quiet_step (fail))
            refine wpQuiet_nil ?_
            refine end_ (by kernel_rfl) ?_
            intro wE hE
            go_wp2_with fail
            go_meet
            exact ⟨rfl, Hr.trans (hE.all.mono Hr.size)⟩
      case rest =>
        obtain ⟨rfl, hbE⟩ := hcut
        go_wp2_with fail
        go_ret
        exact ⟨rfl, hbl.trans (hbE.mono hbl.size)⟩
end Go.Proofs.Ytbjhdmhligjplaa
