
/- Package contend: ContendRows. -/
import Derived.Test.YtljgpaiojeffcaaMA
namespace Go.Proofs.Ytljgpaiojeffcaa
open Go.RowKit
set_option linter.unusedSimpArgs false
set_option linter.unusedVariables false
set_option maxRecDepth 100000

/-- What ContendRows goes through, but for its requests. -/
def RowsIn (s : Scr) (l : List Rq) (m : List Bool) (t u : Int) : Prop := (l.length ≤ 40 ∧ m.length ≤ 40) ∧ s.May ∧ 0 ≤ t ∧ t ≤ u ∧ u ≤ 549755813888

set_option maxHeartbeats 2000000 in
theorem rows_out (w : World) (s : Scr) (A : Option Addr) (c : Nat) (l : List Rq) (A2 : Option Addr) (c2 : Nat) (m : List Bool) (t u : Int) (h : ¬ RowsIn s l m t u) :
    Calls Try.prog 4 #[s.val, .slice A l.length c, .slice A2 m.length c2, .int .i64 t, .int .i64 u] w fun e w' => e = .returned (.bool true) ∧ Below w.heap.size w w' := by
  by_cases hlen : l.length ≤ 40 ∧ m.length ≤ 40
  · obtain ⟨h40, h41⟩ := hlen
    have HX := Lib.hid (fun w2 hb => SB.boxed (w := w) (w2 := w2) (s := s) hb)
    by_cases hm : s.May
    · have HC := Lib.hid (fun w => rcheck_yes s hm w)
      have ht : t < 0 ∨ (0 ≤ t ∧ u < t) ∨ (0 ≤ t ∧ t ≤ u ∧ 549755813888 < u) := by
        by_cases a : t < 0
        · exact .inl a
        · by_cases b : u < t
          · exact .inr (.inl ⟨by omega, b⟩)
          · refine .inr (.inr ⟨by omega, by omega, ?_⟩)
            refine Int.lt_of_not_ge fun hu => h ⟨⟨h40, h41⟩, hm, by omega, by omega, hu⟩
      clear h hm
      unfold Scr.val at *
      rcases ht with t0 | ⟨t0, t1⟩ | ⟨t0, t1, t2⟩
      all_goals (
        go_enter Try.func4, Try.ntmps4
        go_wp2_with fail
        refine (lives16_any _).mono ?_
        rintro e w2 ⟨rfl, hb⟩
        obtain ⟨hB, hS, hlt⟩ := HX.out w2 hb
        clear hb
        obtain ⟨c0, c1, c2, c3, c4, c5, c6⟩ := hS
        go_wp2_with fail
        refine (HC.out _).mono ?_
        rintro e w3 ⟨rfl, hb⟩
        have hB := hB.trans (hb.mono hB.size)
        clear hb c0 c1 c2 c3 c4 c5 c6
        go_wp2_with fail
        go_ret
        exact ⟨rfl, hB⟩)
    · have HC := Lib.hid (fun w => rcheck_no s hm w)
      clear hm h
      unfold Scr.val at *
      go_enter Try.func4, Try.ntmps4
      go_wp2_with fail
      refine (lives16_any _).mono ?_
      rintro e w2 ⟨rfl, hb⟩
      obtain ⟨hB, hS, hlt⟩ := HX.out w2 hb
      clear hb
      obtain ⟨c0, c1, c2, c3, c4, c5, c6⟩ := hS
      go_wp2_with fail
      refine (HC.out _).mono ?_
      rintro e w3 ⟨rfl, hb⟩
      have hB := hB.trans (hb.mono hB.size)
      clear hb c0 c1 c2 c3 c4 c5 c6
      go_wp2_with fail
      go_ret
      exact ⟨rfl, hB⟩
  · clear h
    unfold Scr.val at *
    by_cases h40 : l.length ≤ 40
    · have h41 : 40 < m.length := by omega
      clear hlen
      go_enter Try.func4, Try.ntmps4
      go_wp2_with fail
      refine (lives16_any _).mono ?_
      rintro e w2 ⟨rfl, hb⟩
      have hB := (SB.boxed (s := s) hb).1
      clear hb
      go_wp2_with fail
      go_ret
      exact ⟨rfl, hB⟩
    · clear hlen
      go_enter Try.func4, Try.ntmps4
      go_wp2_with fail
      refine (lives16_any _).mono ?_
      rintro e w2 ⟨rfl, hb⟩
      have hB := (SB.boxed (s := s) hb).1
      clear hb
      go_wp2_with fail
      go_ret
      exact ⟨rfl, hB⟩

/-- What is true of a row's requests, one behind the other. -/
structure Steps (s : Scr) (l : List Rq) (f g : Nat → Int) (k : Nat) : Prop where
  low : 0 ≤ f k
  high : f k ≤ 549755999999
  at0 : f k ≤ g k
  at1 : g k < f (k + 1)
  end0 : f k + (l.getD k rqZ).ts ≤ f (k + 1)
  end1 : f (k + 1) ≤ f k + ((l.getD k rqZ).ts + mostI s (l.getD k rqZ))
  ts : 1 ≤ (l.getD k rqZ).ts ∧ (l.getD k rqZ).ts ≤ 7
  most : 0 ≤ mostI s (l.getD k rqZ) ∧ mostI s (l.getD k rqZ) ≤ 24
theorem steps_row (s : Scr) (l : List Rq) (m : List Bool) (t : Int) (h : RowOk l) (hl : l.length ≤ 40) (h0 : 0 ≤ t) (h1 : t ≤ 549755813888) (k : Nat) (hk : k < l.length) : Steps s l (rowE s l m t) (rowA s l m t) k := by
  have h2 := rowE_le s l m t h k (by omega)
  have hq := (h k hk).1
  have h3 := req_in s (l.getD k rqZ) hq (m.getD k false) (rowE s l m t k)
  exact ⟨by omega, by omega, h3.1, h3.2.1, h3.2.2.1, by have := h3.2.2.2; simp only [rowE]; omega, hq.ts, mostI_le _ _⟩

set_option maxHeartbeats 8000000 in
theorem rows_in (w : World) (s : Scr) (A : Option Addr) (c : Nat) (l : List Rq) (A2 : Option Addr) (c2 : Nat) (m : List Bool) (t u : Int) (hl : QsAt w w.heap.size A l) (hb : BlAt w w.heap.size A2 m) (hw : ∀ x ∈ l, x.wf) (h : RowsIn s l m t u) :
    Calls Try.prog 4 #[s.val, .slice A l.length c, .slice A2 m.length c2, .int .i64 t, .int .i64 u] w fun e w' => e = .returned (.bool true) ∧ Below w.heap.size w w' := by
  obtain ⟨⟨h40, h41⟩, hm, t0, t1, t2⟩ := h
  have HX := Lib.hid (fun w2 hb => SB.boxed (w := w) (w2 := w2) (s := s) hb)
  have HC := Lib.hid (fun w => rcheck_yes s hm w)
  have HQ := Lib.hid (fun (k : Nat) w => r11check_any (l.getD k rqZ) w)
  have HL := Lib.hid hl
  have HM := Lib.hid hb
  obtain ⟨hn, hn0, hn1⟩ := Scr.len_may hm
  have HOK : Hid ((∀ k, k < l.length → (l.getD k rqZ).May) → RowOk l) := Lib.hid fun h k hk => ⟨h k hk, hw _ (getD_mem rqZ l k hk)⟩
  have HRow := Lib.hid (fun (t' : Int) (a : 0 ≤ t') (b : t' ≤ 1099511000000) (hr : RowOk l) (w' : World) (hb' : Below w.heap.size w w') => row_yes w' s hm A c l A2 c2 m t' ((hl.below hb').more hb'.size) ((hb.below hb').more hb'.size) (by omega) (by omega) hr a b)
  have HLen := Lib.hid (fun w => rlen_any w s)
  have HReq := Lib.hid (fun (k : Nat) (hk : k < l.length) (hr : RowOk l) (w : World) => request_yes w s (l.getD k rqZ) (m.getD k false) (rowE s l m t k) (hr k hk).2 ⟨hm, (hr k hk).1, by have := rowE_le s l m t hr k (by omega); omega, by have := rowE_le s l m t hr k (by omega); omega⟩)
  have HMost := Lib.hid (fun (k : Nat) w => most_any s (l.getD k rqZ) w)
  have HSt := Lib.hid (fun (hr : RowOk l) => steps_row s l m t hr h40 t0 (by omega))
  have HMono := Lib.hid (fun (hr : RowOk l) => rowE_mono hm l m hr t0 t1 l.length (Nat.le_refl _))
  have HFr := Lib.hid (rowE_frame s l m t l.length)
  have HLn := Lib.hid (rowL_len s l m t l.length)
  have HLa := Lib.hid (fun i h => rowL_at s l m t l.length i h)
  clear hl hb hw hm hn
  unfold Scr.val at *
  go_enter Try.func4, Try.ntmps4
  go_wp2_with fail
  refine (lives16_any _).mono ?_
  rintro e w2 ⟨rfl, hb⟩
  obtain ⟨hB, hS, hlt⟩ := HX.out w2 hb
  clear hb HX
  obtain ⟨c0, c1, c2', c3, c4, c5, c6⟩ := hS
  have hS : SB w2 w.heap.size s := ⟨c0, c1, c2', c3, c4, c5, c6⟩
  go_wp2_with fail
  refine (HC.out _).mono ?_
  rintro e w3 ⟨rfl, hb⟩
  have hB3 := hB.trans (hb.mono hB.size)
  have hS3 := hS.below hb hlt
  have hlt3 : w.heap.size < w3.heap.size := by have := hb.size; omega
  have HB3 := Lib.hid hB3
  have HS3 := Lib.hid hS3
  clear hb c0 c1 c2' c3 c4 c5 c6 hS hlt hB HC hB3 hS3
  go_wp2_with fail
  go_loopw [11] (fun i wr => ∃ k : Nat, k ≤ l.length ∧ i = .int .i64 k ∧ (∀ j, j < k → (l.getD j rqZ).May) ∧ SB wr w.heap.size s ∧ w.heap.size < wr.heap.size ∧ Below w.heap.size w wr) (fun i _ => l.length - (intOf i).toNat)
  case atStart => exact ⟨0, Nat.zero_le _, rfl, fun j hj => by omega, HS3.out, hlt3, HB3.out⟩
  case round =>
    rename World => wr
    obtain ⟨k, hk, rfl, ha, hS, hlt, hB⟩ := hrel
    have HA := Lib.hid ha
    have HBl := Lib.hid hB
    have HSl := Lib.hid hS
    clear ha hB hS HB3 HS3 hlt3
    by_cases hkl : k < l.length
    · obtain ⟨b, o, hA, hb1, hat⟩ := HL.out.at_ (by omega)
      have hq := (hat k hkl).below HBl.out hb1
      have HQk := Lib.hid (HQ.out k)
      have HMk : Hid ((l.getD k rqZ).err = 0 → ∀ j, j < k + 1 → (l.getD j rqZ).May) := Lib.hid fun he j hj => by
        by_cases e : j = k
        · subst e
          unfold Rq.err at he
          split at he
          · assumption
          · cases he
        · exact HA.out j (by omega)
      have HEr : Hid ((l.getD k rqZ).err = 0 ∨ (l.getD k rqZ).err = 2) := Lib.hid (by unfold Rq.err; split <;> simp)
      clear hat HRow HReq HMost HSt HMono HFr HLn HLa HOK HLen HL HM HQ HA
      generalize (l.getD k rqZ).err = er at *
      generalize hqk : l.getD k rqZ = q at *
      clear hqk
      obtain ⟨kd, ad, va, ts⟩ := q
      unfold Rq.val at HQk
      simp only at HQk
      obtain ⟨d0, d1, d2, d3⟩ := hq
      simp only at d0 d1 d2 d3
      subst hA
      rcases HEr.out with rfl | rfl
      · go_wp2_with fail
        refine (HQk.out _).mono ?_
        rintro e w4 ⟨rfl, hb⟩
        have hB := HBl.out.trans (hb.mono HBl.out.size)
        have hS := HSl.out.below hb hlt
        have hl4 : w.heap.size < w4.heap.size := by have := hb.size; omega
        have hmay := HMk.out (by first | rfl | trivial)
        have HMay := Lib.hid hmay
        clear hb HBl HSl d0 d1 d2 d3 hmay
        go_wp2_with fail
        exact ⟨⟨k + 1, by omega, by go_num, HMay.out, hS, hl4, hB⟩, by simp [intOf]; omega⟩
      · go_wp2_with fail
        refine (HQk.out _).mono ?_
        rintro e w4 ⟨rfl, hb⟩
        have hB := HBl.out.trans (hb.mono HBl.out.size)
        clear hb HBl HSl d0 d1 d2 d3
        go_wp2_with fail
        go_ret
        exact ⟨rfl, hB⟩
    · obtain rfl : k = l.length := by omega
      have HR := Lib.hid (HOK.out HA.out)
      clear HA HOK HQ
      obtain ⟨c0, c1, c2', c3, c4, c5, c6⟩ := HSl.out
      go_wp2_with fail
      refine (HRow.out t t0 (by omega) HR.out wr HBl.out).mono ?_
      rintro e w5 ⟨⟨A3, ca3, rfl, hN⟩, hb⟩
      have HB5 := Lib.hid (HBl.out.trans (hb.mono HBl.out.size))
      have HS5 := Lib.hid (HSl.out.below hb hlt)
      have hl5 : w.heap.size < w5.heap.size := by have := hb.size; omega
      have HN5 := Lib.hid hN
      clear hb hN HBl HSl c0 c1 c2' c3 c4 c5 c6 hlt
      obtain ⟨c0, c1, c2', c3, c4, c5, c6⟩ := HS5.out
      go_wp2_with fail
      refine (HRow.out u (by omega) (by omega) HR.out w5 HB5.out).mono ?_
      rintro e w6 ⟨⟨A4, ca4, rfl, -⟩, hb⟩
      have HB6 := Lib.hid (HB5.out.trans (hb.mono HB5.out.size))
      have HS6 := Lib.hid (HS5.out.below hb hl5)
      have hl6 : w.heap.size < w6.heap.size := by have := hb.size; omega
      have hN6 := (HN5.out.below hb).more hb.size
      have HN6 := Lib.hid hN6
      clear hb HB5 HS5 c0 c1 c2' c3 c4 c5 c6 hl5 HN5 hN6
      obtain ⟨c0, c1, c2', c3, c4, c5, c6⟩ := HS6.out
      go_wp2_with fail
      refine (HLen.out w6).mono ?_
      rintro e w7 ⟨rfl, hb⟩
      have HB7 := Lib.hid (HB6.out.trans (hb.mono HB6.out.size))
      have HS7 := Lib.hid (HS6.out.below hb hl6)
      have hl7 : w.heap.size < w7.heap.size := by have := hb.size; omega
      have hN7 := (HN6.out.below hb).more hb.size
      have HN7 := Lib.hid hN7
      clear hb HB6 HS6 c0 c1 c2' c3 c4 c5 c6 hl6 HN6 hN7
      obtain ⟨c0, c1, c2', c3, c4, c5, c6⟩ := HS7.out
      have HRow3 := Lib.hid (HRow.out (t + s.len) (by omega) (by omega) HR.out w7 HB7.out)
      unfold RowTo at HRow3
      rw [HFr.out] at HRow3
      generalize s.len = n at *
      go_wp2_with fail
      refine HRow3.out.mono ?_
      rintro e w8 ⟨⟨A5, ca5, rfl, -⟩, hb⟩
      have HB8 := Lib.hid (HB7.out.trans (hb.mono HB7.out.size))
      have HS8 := Lib.hid (HS7.out.below hb hl7)
      have hl8 : w.heap.size < w8.heap.size := by have := hb.size; omega
      have hN8 := (HN7.out.below hb).more hb.size
      have HN8 := Lib.hid hN8
      have hm1 := HMono.out HR.out
      have HSt := Lib.hid (HSt.out HR.out)
      have HReq := Lib.hid (fun k hk w => HReq.out k hk HR.out w)
      have hend := rowE_le s l m t HR.out l.length (Nat.le_refl _)
      clear hb HB7 HS7 c0 c1 c2' c3 c4 c5 c6 hl7 HN7 hN8 HRow HRow3 HFr HLen HMono
      have hz0 : rowE s l m t 0 = t := rfl
      have hs0 : ∀ k, rowE s l m t (k + 1) = reqEnd s (l.getD k rqZ) (m.getD k false) (rowE s l m t k) := fun k => rfl
      have ha0 : ∀ k, rowA s l m t k = reqAt s (l.getD k rqZ) (m.getD k false) (rowE s l m t k) := fun k => rfl
      have HZ := Lib.hid hz0
      have HS0 := Lib.hid hs0
      have HA0 := Lib.hid ha0
      clear hz0 hs0 ha0 HR
      generalize rowE s l m t = f at *
      generalize rowE s l m u = fu at *
      generalize hga : rowA s l m t = ga at *
      generalize hgl : rowL s l m t l.length = gl at *
      generalize hfe : f l.length = fe at *
      have HFe := Lib.hid hfe
      clear hfe
      generalize fu l.length = fue at *
      clear hga hgl
      have hm2 : ¬ fue < fe := by omega
      go_wp2_with fail
      go_loopw [22, 23] (fun x i wr => ∃ k : Nat, k ≤ l.length ∧ i = .int .i64 k ∧ x = .int .i64 (f k) ∧ Below w8.heap.size w8 wr) (fun _ i _ => l.length - (intOf i).toNat)
      case atStart => exact ⟨0, Nat.zero_le _, rfl, by rw [HZ.out], Below.refl _ _⟩
      case round =>
        rename World => wz
        obtain ⟨k, hk, rfl, rfl, hbz⟩ := hrel
        have HBz := Lib.hid hbz
        clear hbz
        by_cases hkl : k < l.length
        · obtain ⟨b, o, hA, hb1, hat⟩ := HL.out.at_ (by omega)
          have hq8 := (hat k hkl).below HB8.out hb1
          have hH := HReq.out k hkl
          rw [← HA0.out k, ← HS0.out k] at hH
          have HH := Lib.hid hH
          have HMo := Lib.hid (HMost.out k)
          obtain ⟨g0, g1, g2, g3, g4, g5, ⟨g6, g7⟩, ⟨g8, g9⟩⟩ := HSt.out k hkl
          obtain ⟨b3, o3, hA3, hb3, hat3⟩ := HN8.out.at_ (by rw [HLn.out]; omega)
          have hn3 := hat3 k (by rw [HLn.out]; exact hkl)
          rw [HLa.out k hkl] at hn3
          have Nc : Hid (∀ wc, Below w8.heap.size w8 wc → wc.cell? ⟨b3, o3 + k, none⟩ = some (.int .i64 (ga k))) := Lib.hid fun wc hb => (hb.cell hb3).trans hn3
          have h8z := HBz.out.size
          have hbz : b < wz.heap.size := by have := HB8.out.size; omega
          have hlz : w.heap.size < wz.heap.size := by omega
          clear hat hat3 hn3 hH HReq HS0 HA0 HMost HSt HLa HN8 hend hm1 hm2
          generalize ga k = ra at *
          generalize hre : f (k + 1) = re at *
          have HRe := Lib.hid hre
          generalize f k = fk at *
          generalize hmo : mostI s (l.getD k rqZ) = mo at *
          generalize l.getD k rqZ = q at *
          clear hre hmo HZ HFe
          obtain ⟨kd, ad, va, ts⟩ := q
          unfold Rq.val at HH HMo
          simp only at HH HMo g4 g5 g6 g7
          subst hA
          subst hA3
          have hSz := HS8.out.below HBz.out hl8
          have hqz := hq8.below HBz.out (by omega)
          have x0 := fun p : M.Of (M.Base wz) => (hSz.below p.ok.2 hlz).c0
          have x1 := fun p : M.Of (M.Base wz) => (hSz.below p.ok.2 hlz).c1
          have x2 := fun p : M.Of (M.Base wz) => (hSz.below p.ok.2 hlz).c2
          have x3 := fun p : M.Of (M.Base wz) => (hSz.below p.ok.2 hlz).c3
          have x4 := fun p : M.Of (M.Base wz) => (hSz.below p.ok.2 hlz).c4
          have x5 := fun p : M.Of (M.Base wz) => (hSz.below p.ok.2 hlz).c5
          have x6 := fun p : M.Of (M.Base wz) => (hSz.below p.ok.2 hlz).c6
          have y0 := fun p : M.Of (M.Base wz) => (hqz.below p.ok.2 hbz).c0
          have y1 := fun p : M.Of (M.Base wz) => (hqz.below p.ok.2 hbz).c1
          have y2 := fun p : M.Of (M.Base wz) => (hqz.below p.ok.2 hbz).c2
          have y3 := fun p : M.Of (M.Base wz) => (hqz.below p.ok.2 hbz).c3
          simp only at y0 y1 y2 y3
          clear hSz hqz
          have e1 : decide (ra < fk) = false := decide_eq_false (by omega)
          have e2 : decide (re ≤ ra) = false := decide_eq_false (by omega)
          have e3 : decide (re < fk + ts) = false := decide_eq_false (by omega)
          have e4 : decide (fk + (ts + mo) < re) = false := decide_eq_false (by omega)
          by_cases hkm : k < m.length
          · obtain ⟨b2, o2, hA2, hb2, hat2⟩ := HM.out.at_ (by omega)
            have hl2 : b2 < wz.heap.size := by have := HB8.out.size; omega
            have hb28 : b2 < w8.heap.size := by have := HB8.out.size; omega
            have ZZ0 := fun p : M.Of (M.Base wz) => (p.ok.2.cell hl2).trans ((HBz.out.cell hb28).trans ((HB8.out.cell hb2).trans (hat2 k hkm)))
            clear hat2
            generalize m.getD k false = mk at *
            subst hA2
            have hkd : decide (k < m.length) = true := decide_eq_true hkm
            go_upto_region 20 with fail
            refine M.region_ (by kernel_rfl) ?_
            refine M.seg_ [0, 1, 2, 3, 4, 5, 6, 7, 8, 9, 10, 11, 12, 13, 14, 15] 8 _ _ (M.Base.refl _) (by kernel_rfl) (by kernel_rfl) (by kernel_rfl) (by simp only [pickOps, mask, plain, List.getElem?_toArray, List.getElem?_cons_zero, List.getElem?_cons_succ, if_true, Bool.false_eq_true, if_false]; rfl) ?_
            repeat (go_big_quiet_step (fail))
            refine wpQuiet_nil ?_
            refine M.calm_ (i := 16) (.tuple #[.int .i64 ra, .int .i64 re, .int .i64 0]) rfl (by kernel_rfl) (by kernel_rfl) (by kernel_rfl) (by kernel_rfl) ?_ ?_
            · intro wz sz
              unfold Oper.does
              go_simp
              exact (HH.out wz).mono fun e w' ⟨he, hw⟩ => ⟨_, he, rfl, Save.of_below hw⟩
            go_simp
            refine M.seg_ [17, 18, 19, 20, 21, 22, 23] 0 _ _ (M.Base.refl _) (by kernel_rfl) (by kernel_rfl) (by kernel_rfl) (by simp only [pickOps, mask, plain, List.getElem?_toArray, List.getElem?_cons_zero, List.getElem?_cons_succ, if_true, Bool.false_eq_true, if_false]; rfl) ?_
            repeat (go_big_quiet_step (fail))
            refine wpQuiet_nil ?_
            refine M.end_ (by kernel_rfl) ?_
            intro wc sc
            have HBc := Lib.hid (HBz.out.trans (sc.2.mono HBz.out.size))
            clear x0 x1 x2 x3 x4 x5 x6 y0 y1 y2 y3 HH ZZ0
            have hlc : w.heap.size < wc.heap.size := by have := HBc.out.size; omega
            have hlb : b < wc.heap.size := by omega
            have hl3 : b3 < wc.heap.size := by have := HBc.out.size; omega
            have hSc := HS8.out.below HBc.out hl8
            have hqc := hq8.below HBc.out (by omega)
            have x0 := fun p : M.Of (M.Base wc) => (hSc.below p.ok.2 hlc).c0
            have x1 := fun p : M.Of (M.Base wc) => (hSc.below p.ok.2 hlc).c1
            have x2 := fun p : M.Of (M.Base wc) => (hSc.below p.ok.2 hlc).c2
            have x3 := fun p : M.Of (M.Base wc) => (hSc.below p.ok.2 hlc).c3
            have x4 := fun p : M.Of (M.Base wc) => (hSc.below p.ok.2 hlc).c4
            have x5 := fun p : M.Of (M.Base wc) => (hSc.below p.ok.2 hlc).c5
            have x6 := fun p : M.Of (M.Base wc) => (hSc.below p.ok.2 hlc).c6
            have y0 := fun p : M.Of (M.Base wc) => (hqc.below p.ok.2 hlb).c0
            have y1 := fun p : M.Of (M.Base wc) => (hqc.below p.ok.2 hlb).c1
            have y2 := fun p : M.Of (M.Base wc) => (hqc.below p.ok.2 hlb).c2
            have y3 := fun p : M.Of (M.Base wc) => (hqc.below p.ok.2 hlb).c3
            have n0 := fun p : M.Of (M.Base wc) => (p.ok.2.cell hl3).trans (Nc.out wc HBc.out)
            simp only at y0 y1 y2 y3
            clear hSc hqc sc
            go_upto_region 21 with fail
            refine M.region_ (by kernel_rfl) ?_
            refine M.seg_ [0, 1, 2, 3, 4, 5, 6, 7, 8, 9, 10, 11, 12, 13, 14, 15, 16, 17, 18, 19, 20, 21, 22, 23, 24, 25, 26, 27, 28, 29, 30, 31, 32, 33, 34, 35, 36, 37, 38, 39, 40, 41, 42, 43] 5 _ _ (M.Base.refl _) (by kernel_rfl) (by kernel_rfl) (by kernel_rfl) (by simp only [pickOps, mask, plain, List.getElem?_toArray, List.getElem?_cons_zero, List.getElem?_cons_succ, if_true, Bool.false_eq_true, if_false]; rfl) ?_
            repeat (go_big_quiet_step (fail))
            refine wpQuiet_nil ?_
            refine M.calm_ (i := 44) (.int .i64 mo) rfl (by kernel_rfl) (by kernel_rfl) (by kernel_rfl) (by kernel_rfl) ?_ ?_
            · intro wz sz
              unfold Oper.does
              go_simp
              exact (HMo.out wz).mono fun e w' ⟨he, hw⟩ => ⟨_, he, rfl, Save.of_below hw⟩
            go_simp
            refine M.seg_ [45, 46, 47, 48] 0 _ _ (M.Base.refl _) (by kernel_rfl) (by kernel_rfl) (by kernel_rfl) (by simp only [pickOps, mask, plain, List.getElem?_toArray, List.getElem?_cons_zero, List.getElem?_cons_succ, if_true, Bool.false_eq_true, if_false]; rfl) ?_
            repeat (go_big_quiet_step (fail))
            refine wpQuiet_nil ?_
            refine M.end_ (by kernel_rfl) ?_
            intro wd sd
            have HBd := Lib.hid (HBc.out.trans (sd.2.mono HBc.out.size))
            clear x0 x1 x2 x3 x4 x5 x6 y0 y1 y2 y3 n0 HMo Nc sd
            go_wp2_with fail
            exact ⟨⟨k + 1, by omega, by go_num, by rw [HRe.out], HBd.out⟩, by simp [intOf]; omega⟩
          · have hmk : m.getD k false = false := by rw [List.getD_eq_getElem?_getD, List.getElem?_eq_none (by omega)]; rfl
            rw [hmk] at HH
            have hkd : decide (k < m.length) = false := decide_eq_false hkm
            have ZZ0 := hkd
            go_upto_region 20 with fail
            refine M.region_ (by kernel_rfl) ?_
            refine M.seg_ [0, 1, 2, 3, 4, 5, 6, 7, 8, 9, 10, 11, 12, 13, 14, 15] 8 _ _ (M.Base.refl _) (by kernel_rfl) (by kernel_rfl) (by kernel_rfl) (by simp only [pickOps, mask, plain, List.getElem?_toArray, List.getElem?_cons_zero, List.getElem?_cons_succ, if_true, Bool.false_eq_true, if_false]; rfl) ?_
            repeat (go_big_quiet_step (fail))
            refine wpQuiet_nil ?_
            refine M.calm_ (i := 16) (.tuple #[.int .i64 ra, .int .i64 re, .int .i64 0]) rfl (by kernel_rfl) (by kernel_rfl) (by kernel_rfl) (by kernel_rfl) ?_ ?_
            · intro wz sz
              unfold Oper.does
              go_simp
              exact (HH.out wz).mono fun e w' ⟨he, hw⟩ => ⟨_, he, rfl, Save.of_below hw⟩
            go_simp
            refine M.seg_ [17, 18, 19, 20, 21, 22, 23] 0 _ _ (M.Base.refl _) (by kernel_rfl) (by kernel_rfl) (by kernel_rfl) (by simp only [pickOps, mask, plain, List.getElem?_toArray, List.getElem?_cons_zero, List.getElem?_cons_succ, if_true, Bool.false_eq_true, if_false]; rfl) ?_
            repeat (go_big_quiet_step (fail))
            refine wpQuiet_nil ?_
            refine M.end_ (by kernel_rfl) ?_
            intro wc sc
            have HBc := Lib.hid (HBz.out.trans (sc.2.mono HBz.out.size))
            clear x0 x1 x2 x3 x4 x5 x6 y0 y1 y2 y3 HH ZZ0
            have hlc : w.heap.size < wc.heap.size := by have := HBc.out.size; omega
            have hlb : b < wc.heap.size := by omega
            have hl3 : b3 < wc.heap.size := by have := HBc.out.size; omega
            have hSc := HS8.out.below HBc.out hl8
            have hqc := hq8.below HBc.out (by omega)
            have x0 := fun p : M.Of (M.Base wc) => (hSc.below p.ok.2 hlc).c0
            have x1 := fun p : M.Of (M.Base wc) => (hSc.below p.ok.2 hlc).c1
            have x2 := fun p : M.Of (M.Base wc) => (hSc.below p.ok.2 hlc).c2
            have x3 := fun p : M.Of (M.Base wc) => (hSc.below p.ok.2 hlc).c3
            have x4 := fun p : M.Of (M.Base wc) => (hSc.below p.ok.2 hlc).c4
            have x5 := fun p : M.Of (M.Base wc) => (hSc.below p.ok.2 hlc).c5
            have x6 := fun p : M.Of (M.Base wc) => (hSc.below p.ok.2 hlc).c6
            have y0 := fun p : M.Of (M.Base wc) => (hqc.below p.ok.2 hlb).c0
            have y1 := fun p : M.Of (M.Base wc) => (hqc.below p.ok.2 hlb).c1
            have y2 := fun p : M.Of (M.Base wc) => (hqc.below p.ok.2 hlb).c2
            have y3 := fun p : M.Of (M.Base wc) => (hqc.below p.ok.2 hlb).c3
            have n0 := fun p : M.Of (M.Base wc) => (p.ok.2.cell hl3).trans (Nc.out wc HBc.out)
            simp only at y0 y1 y2 y3
            clear hSc hqc sc
            go_upto_region 21 with fail
            refine M.region_ (by kernel_rfl) ?_
            refine M.seg_ [0, 1, 2, 3, 4, 5, 6, 7, 8, 9, 10, 11, 12, 13, 14, 15, 16, 17, 18, 19, 20, 21, 22, 23, 24, 25, 26, 27, 28, 29, 30, 31, 32, 33, 34, 35, 36, 37, 38, 39, 40, 41, 42, 43] 5 _ _ (M.Base.refl _) (by kernel_rfl) (by kernel_rfl) (by kernel_rfl) (by simp only [pickOps, mask, plain, List.getElem?_toArray, List.getElem?_cons_zero, List.getElem?_cons_succ, if_true, Bool.false_eq_true, if_false]; rfl) ?_
            repeat (go_big_quiet_step (fail))
            refine wpQuiet_nil ?_
            refine M.calm_ (i := 44) (.int .i64 mo) rfl (by kernel_rfl) (by kernel_rfl) (by kernel_rfl) (by kernel_rfl) ?_ ?_
            · intro wz sz
              unfold Oper.does
              go_simp
              exact (HMo.out wz).mono fun e w' ⟨he, hw⟩ => ⟨_, he, rfl, Save.of_below hw⟩
            go_simp
            refine M.seg_ [45, 46, 47, 48] 0 _ _ (M.Base.refl _) (by kernel_rfl) (by kernel_rfl) (by kernel_rfl) (by simp only [pickOps, mask, plain, List.getElem?_toArray, List.getElem?_cons_zero, List.getElem?_cons_succ, if_true, Bool.false_eq_true, if_false]; rfl) ?_
            repeat (go_big_quiet_step (fail))
            refine wpQuiet_nil ?_
            refine M.end_ (by kernel_rfl) ?_
            intro wd sd
            have HBd := Lib.hid (HBc.out.trans (sd.2.mono HBc.out.size))
            clear x0 x1 x2 x3 x4 x5 x6 y0 y1 y2 y3 n0 HMo Nc sd
            go_wp2_with fail
            exact ⟨⟨k + 1, by omega, by go_num, by rw [HRe.out], HBd.out⟩, by simp [intOf]; omega⟩
        · obtain rfl : k = l.length := by omega
          have hfe := HFe.out
          have HBE := Lib.hid (HB8.out.trans (HBz.out.mono HB8.out.size))
          clear HReq HS0 HA0 HMost HSt HLa HN8 hend hm1 hm2 HZ HFe HLn HB8 HBz HS8 HL HM hn0 hn1
          go_wp2_with fail
          go_ret
          exact ⟨rfl, HBE.out⟩

theorem walk_ContendRows (w : World) (s : Scr) (bs : s.wf) (A : Option Addr) (c n : Nat) (l : List Rq) (hn : n = l.length) (hl : QsAt w w.heap.size A l ∧ n ≤ c ∧ c ≤ maxLen ∧ ∀ x ∈ l, x.wf)
    (A2 : Option Addr) (c2 n2 : Nat) (m : List Bool) (hn2 : n2 = m.length) (hm : BlAt w w.heap.size A2 m ∧ n2 ≤ c2 ∧ c2 ≤ maxLen) (t : Int) (wt : (Lit.int .i64 t).wf = true) (u : Int) (wu : (Lit.int .i64 u).wf = true) :
    Calls Try.prog 4 #[s.val, .slice A n c, .slice A2 n2 c2, .int .i64 t, .int .i64 u] w fun e w' => e = .returned (.bool true) ∧ Below w.heap.size w w' := by
  subst hn hn2
  by_cases h : RowsIn s l m t u
  · exact rows_in w s A c l A2 c2 m t u hl.1 hm.1 hl.2.2.2 h
  · exact rows_out w s A c l A2 c2 m t u h
end Go.Proofs.Ytljgpaiojeffcaa
