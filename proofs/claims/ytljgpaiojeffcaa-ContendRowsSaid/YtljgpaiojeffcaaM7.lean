
/- Package contend: a request that came in; ContendPorts. -/
import Derived.Test.YtljgpaiojeffcaaM6
import Derived.Test.YtljgpaiojeffcaaO
namespace Go.Proofs.Ytljgpaiojeffcaa
open Go.RowKit Go.ChangeShapes Go.WideShapes Go.ChangeAt
set_option linter.unusedSimpArgs false
set_option linter.unusedVariables false
set_option maxRecDepth 100000

theorem open_rq {H : Type} {enc : TypeId × Value → H} {W : World} {r : Reach} {b0 : Nat} {v : Value} {d : DataW H} {p : List MemPlace}
    (hv : Value.okWide Try.prog W r b0 30 v) (h : DataW.Trod enc Try.prog W 0 (fun _ => true) true 30 v d p) : ∃ q : Rq, v = q.val ∧ q.wf := by
  obtain ⟨cs, rfl, hsz⟩ := okWide_struct Try.underlying30 hv
  have hC : Try.prog.cellsOf 30 = 4 := by kernel_rfl
  have h1 : Try.prog.cellsOf 3 = 1 := by kernel_rfl
  have h2 : Try.prog.cellsOf 28 = 1 := by kernel_rfl
  have h3 : Try.prog.cellsOf 5 = 1 := by kernel_rfl
  rw [hC] at hsz
  obtain ⟨l⟩ := cs
  match l, hsz with
  | [c0, c1, c2, c3], _ =>
  obtain ⟨fuel, hf⟩ := h
  obtain ⟨xs, n, _, _, hl, hlen, hfi⟩ := DataW.trod_struct Try.underlying30 hf
  match xs, hlen with
  | [y0, y1, y2, y3], _ =>
  have t0 := hfi 0 _ rfl
  have t1 := hfi 1 _ rfl
  have t2 := hfi 2 _ rfl
  have t3 := hfi 3 _ rfl
  simp [h1, h2, h3, Value.cells] at t0 t1 t2 t3
  obtain ⟨x0, e0, _, w0⟩ := DataW.trod_int Try.underlying3 t0
  obtain ⟨x1, e1, _, w1⟩ := DataW.trod_int Try.underlying28 t1
  obtain ⟨x2, e2, _, w2⟩ := DataW.trod_int Try.underlying5 t2
  obtain ⟨x3, e3, _, w3⟩ := DataW.trod_int Try.underlying3 t3
  simp at e0 e1 e2 e3
  subst e0 e1 e2 e3
  have b0 := bounds_i64 w0
  have b1 := bounds_u16 w1
  have b2 := bounds_u8 w2
  have b3 := bounds_i64 w3
  exact ⟨⟨x0, x1, x2, x3⟩, rfl, ⟨by dsimp only; omega, by dsimp only; omega, by dsimp only; omega, by dsimp only; omega⟩⟩

/-- A screen and a request, boxed at a call's beginning, as they are later. -/
structure Kp (w : World) (s : Scr) (q : Rq) (w2 : World) : Prop where
  below : Below w.heap.size w w2
  scr : SB w2 w.heap.size s
  req : QB w2 (w.heap.size + 1) 0 q
  lt : w.heap.size + 1 < w2.heap.size
theorem Kp.mk0 {w w2 : World} {s : Scr} {q : Rq} (hb : Below ((w.alloc (scO s)).alloc (rqO q)).heap.size ((w.alloc (scO s)).alloc (rqO q)) w2) : Kp w s q w2 :=
  ⟨(two_boxes hb).1, (two_boxes hb).2.1, (two_boxes hb).2.2.1, (two_boxes hb).2.2.2⟩
theorem Kp.next {w w1 w2 : World} {s : Scr} {q : Rq} (h : Kp w s q w1) (hb : Below w1.heap.size w1 w2) : Kp w s q w2 :=
  ⟨h.below.trans (hb.mono h.below.size), h.scr.below hb (by have := h.lt; omega), h.req.below hb h.lt, by have := hb.size; have := h.lt; omega⟩

theorem andNot16_1 (a : Int) (h0 : 0 ≤ a) (h1 : a < 65536) : 0 ≤ bits .andNot .u16 a 1 ∧ bits .andNot .u16 a 1 < 65536 ∧ bits .andNot .u16 a 1 % 2 = 0 := by
  rw [u16_andNot a 1 h0 h1 (by decide) (by decide)]
  have h := Nat.and_le_right (n := a.toNat) (m := 65535 - (1 : Int).toNat)
  have h2 : (a.toNat &&& (65535 - (1 : Int).toNat)) % 2 = 0 := by
    rw [← Nat.and_one_is_mod, Nat.and_assoc, show ((65535 - (1 : Int).toNat) &&& 1) = 0 by decide, Nat.and_zero]
  have h3 : (65535 - (1 : Int).toNat) = 65534 := rfl
  omega
theorem or16_1 (n m : Int) (h0 : 0 ≤ n) (h1 : n < 65536) (h2 : n % 2 = 0) (h3 : m = 0 ∨ m = 1) : 0 ≤ bits .or .u16 n m ∧ bits .or .u16 n m < 65536 ∧ bits .or .u16 n m % 2 = m := by
  rw [u16_or n m h0 h1 (by omega) (by omega)]
  have hl : (n.toNat ||| m.toNat) < 65536 := Nat.or_lt_two_pow (n := 16) (by omega) (by omega)
  have h4 : (n.toNat ||| m.toNat) % 2 = m.toNat % 2 := by
    have h5 : n.toNat % 2 = 0 := by omega
    rw [← Nat.and_one_is_mod, Nat.and_or_distrib_right, Nat.and_one_is_mod, Nat.and_one_is_mod, h5, Nat.zero_or]
  omega
theorem addr_mixed (o a : Int) (ho : 0 ≤ o ∧ o < 65536) (ha : 0 ≤ a ∧ a < 65536) : ∃ n r, bits .andNot .u16 o 1 = n ∧ bits .and .u16 a 1 = a % 2 ∧ bits .or .u16 n (a % 2) = r ∧ 0 ≤ r ∧ r < 65536 ∧ r % 2 = a % 2 := by
  obtain ⟨h1, h2, h3⟩ := andNot16_1 o ho.1 ho.2
  obtain ⟨h4, h5, h6⟩ := or16_1 _ (a % 2) h1 h2 h3 (by omega)
  exact ⟨_, _, rfl, and16_1 a ha.1 ha.2, rfl, h4, h5, h6⟩

/-- What ContendPorts goes through. -/
def PortsIn (s : Scr) (q : Rq) (t : Int) : Prop := s.May ∧ q.May ∧ 0 ≤ t ∧ t ≤ 549755813888

set_option maxHeartbeats 2000000 in
theorem ports_out (w : World) (s : Scr) (q : Rq) (o t : Int) (h : ¬ PortsIn s q t) : Calls Try.prog 6 #[s.val, q.val, .int .u16 o, .int .i64 t] w fun e w' => e = .returned (.bool true) ∧ Below w.heap.size w w' := by
  have HX := Lib.hid (fun w2 hb => Kp.mk0 (w := w) (w2 := w2) (s := s) (q := q) hb)
  by_cases hm : s.May
  · have HC := Lib.hid (fun w => rcheck_yes s hm w)
    have HQ := Lib.hid (fun w => r11check_any q w)
    by_cases hq : q.May
    · rw [show q.err = 0 from if_pos hq] at HQ
      have ht : ¬ (0 ≤ t ∧ t ≤ 549755813888) := fun ht => h ⟨hm, hq, ht⟩
      obtain ⟨k, ad, v, ts⟩ := q
      clear hq hm h
      unfold Scr.val Rq.val at *
      simp only at *
      go_enter Try.func6, Try.ntmps6
      go_wp2_with fail
      refine (lives16_any _).mono ?_
      rintro e w2 ⟨rfl, hb⟩
      have hK := HX.out w2 hb
      clear hb HX
      obtain ⟨c0, c1, c2, c3, c4, c5, c6⟩ := hK.scr
      go_wp2_with fail
      clear c0 c1 c2 c3 c4 c5 c6
      refine (HC.out _).mono ?_
      rintro e w3 ⟨rfl, hb⟩
      have hK := hK.next hb
      clear hb HC
      obtain ⟨d0, d1, d2, d3⟩ := hK.req
      simp only [Nat.zero_add] at d0 d1 d2 d3
      go_wp2_with fail
      clear d0 d1 d2 d3
      refine (HQ.out _).mono ?_
      rintro e w4 ⟨rfl, hb⟩
      have hB := (hK.next hb).below
      clear hb HQ hK
      rcases Int.lt_or_le t 0 with h0 | h0
      · go_wp2_with fail
        go_ret
        exact ⟨rfl, hB⟩
      · have h1 : 549755813888 < t := by omega
        go_wp2_with fail
        go_ret
        exact ⟨rfl, hB⟩
    · rw [show q.err = 2 from if_neg hq] at HQ
      obtain ⟨k, ad, v, ts⟩ := q
      clear hq hm h
      unfold Scr.val Rq.val at *
      simp only at *
      go_enter Try.func6, Try.ntmps6
      go_wp2_with fail
      refine (lives16_any _).mono ?_
      rintro e w2 ⟨rfl, hb⟩
      have hK := HX.out w2 hb
      clear hb HX
      obtain ⟨c0, c1, c2, c3, c4, c5, c6⟩ := hK.scr
      go_wp2_with fail
      clear c0 c1 c2 c3 c4 c5 c6
      refine (HC.out _).mono ?_
      rintro e w3 ⟨rfl, hb⟩
      have hK := hK.next hb
      clear hb HC
      obtain ⟨d0, d1, d2, d3⟩ := hK.req
      simp only [Nat.zero_add] at d0 d1 d2 d3
      go_wp2_with fail
      clear d0 d1 d2 d3
      refine (HQ.out _).mono ?_
      rintro e w4 ⟨rfl, hb⟩
      have hB := (hK.next hb).below
      clear hb HQ hK
      go_wp2_with fail
      go_ret
      exact ⟨rfl, hB⟩
  · have HC := Lib.hid (fun w => rcheck_no s hm w)
    obtain ⟨k, ad, v, ts⟩ := q
    clear hm h
    unfold Scr.val Rq.val at *
    simp only at *
    go_enter Try.func6, Try.ntmps6
    go_wp2_with fail
    refine (lives16_any _).mono ?_
    rintro e w2 ⟨rfl, hb⟩
    have hK := HX.out w2 hb
    clear hb HX
    obtain ⟨c0, c1, c2, c3, c4, c5, c6⟩ := hK.scr
    go_wp2_with fail
    clear c0 c1 c2 c3 c4 c5 c6
    refine (HC.out _).mono ?_
    rintro e w3 ⟨rfl, hb⟩
    have hB := (hK.next hb).below
    clear hb HC hK
    go_wp2_with fail
    go_ret
    exact ⟨rfl, hB⟩

theorem reqEnd_plain (s : Scr) (q : Rq) (t : Int) (h : ¬ q.port) : reqEnd s q false t = t + q.ts := by
  unfold reqEnd
  rw [if_neg h, show q.waits false = false from rfl, stF_no]
theorem reqEnd_idle (s : Scr) (q : Rq) (slow : Bool) (t : Int) (h : q.kind = 6) : reqEnd s q slow t = t + q.ts := by
  unfold reqEnd
  rw [if_neg (by unfold Rq.port; omega), show q.waits slow = false by unfold Rq.waits; simp [h], stF_no]
theorem reqEnd_port (s : Scr) (q r : Rq) (slow : Bool) (t : Int) (hq : q.port) (hr : r.port) (ho : q.addr % 2 = r.addr % 2) : reqEnd s r slow t = reqEnd s q slow t := by
  unfold reqEnd
  rw [if_pos hq, if_pos hr, show r.odd = q.odd by unfold Rq.odd; rw [ho]]
theorem reqEnd_odd (s : Scr) (q : Rq) (t : Int) (hq : q.port) (ho : q.addr % 2 = 1) : reqEnd s q false t = t + 4 := by
  unfold reqEnd
  rw [if_pos hq, show q.odd = true by unfold Rq.odd; simp [ho], portT_odd]
  rfl

set_option maxHeartbeats 4000000 in
theorem walk_ContendPorts (w : World) (s : Scr) (bs : s.wf) (q : Rq) (bq : q.wf) (o : Int) (wo : (Lit.int .u16 o).wf = true) (t : Int) (wt : (Lit.int .i64 t).wf = true) : Calls Try.prog 6 #[s.val, q.val, .int .u16 o, .int .i64 t] w fun e w' => e = .returned (.bool true) ∧ Below w.heap.size w w' := by
  by_cases hin : PortsIn s q t
  · obtain ⟨hm, hq, h0, h1⟩ := hin
    have ho := bounds_u16 wo
    have HC := Lib.hid (fun w => rcheck_yes s hm w)
    have HQ := Lib.hid (fun w => r11check_any q w)
    rw [show q.err = 0 from if_pos hq] at HQ
    have HX := Lib.hid (fun w2 hb => Kp.mk0 (w := w) (w2 := w2) (s := s) (q := q) hb)
    have HR := Lib.hid (fun (r : Rq) (a : r.wf) (b : r.May) (slow : Bool) (w : World) => request_yes w s r slow t a ⟨hm, b, h0, by omega⟩)
    have HY1 := Lib.hid (HR.out q bq hq false)
    have HY2 := Lib.hid (HR.out q bq hq true)
    have HI1 := Lib.hid (reqEnd_idle s q false t)
    have HI2 := Lib.hid (reqEnd_idle s q true t)
    have HPo1 := Lib.hid (fun r => reqEnd_port s q r false t)
    have HPo2 := Lib.hid (fun r => reqEnd_port s q r true t)
    have hmo := reqEnd_more hm q h0
    have HPl := Lib.hid (reqEnd_plain s q t)
    have HOd := Lib.hid (reqEnd_odd s q t)
    have hin1 := req_in s q hq false t
    have hin2 := req_in s q hq true t
    have hts := hq.ts
    have HMx := Lib.hid <| addr_mixed o q.addr ⟨ho.1, by omega⟩ bq.addr
    have HM := Lib.hid hq
    have HW := Lib.hid bq
    clear hq bq bs wo wt ho hm
    obtain ⟨k, ad, v, ts⟩ := q
    generalize reqAt s ⟨k, ad, v, ts⟩ false t = a1 at *
    generalize reqEnd s ⟨k, ad, v, ts⟩ false t = x1 at *
    generalize reqAt s ⟨k, ad, v, ts⟩ true t = a2 at *
    generalize reqEnd s ⟨k, ad, v, ts⟩ true t = x2 at *
    unfold Scr.val Rq.val at *
    simp only at *
    go_enter Try.func6, Try.ntmps6
    go_wp2_with fail
    refine (lives16_any _).mono ?_
    rintro e w2 ⟨rfl, hb⟩
    have hK := HX.out w2 hb
    clear hb HX
    obtain ⟨c0, c1, c2, c3, c4, c5, c6⟩ := hK.scr
    go_wp2_with fail
    clear c0 c1 c2 c3 c4 c5 c6
    refine (HC.out _).mono ?_
    rintro e w3 ⟨rfl, hb⟩
    have hK := hK.next hb
    clear hb HC
    obtain ⟨d0, d1, d2, d3⟩ := hK.req
    simp only [Nat.zero_add] at d0 d1 d2 d3
    go_wp2_with fail
    clear d0 d1 d2 d3
    refine (HQ.out _).mono ?_
    rintro e w4 ⟨rfl, hb⟩
    have hK := hK.next hb
    clear hb HQ
    have t0 : ¬ t < 0 := by omega
    have t1 : ¬ 549755813888 < t := by omega
    obtain ⟨c0, c1, c2, c3, c4, c5, c6⟩ := hK.scr
    obtain ⟨d0, d1, d2, d3⟩ := hK.req
    simp only [Nat.zero_add] at d0 d1 d2 d3
    go_wp2_with fail
    refine (HY1.out _).mono ?_
    rintro e w5 ⟨rfl, hb⟩
    have hK5 := hK.next hb
    clear hb HY1 hK c0 c1 c2 c3 c4 c5 c6 d0 d1 d2 d3 t0 t1
    obtain ⟨c0, c1, c2, c3, c4, c5, c6⟩ := hK5.scr
    obtain ⟨d0, d1, d2, d3⟩ := hK5.req
    simp only [Nat.zero_add] at d0 d1 d2 d3
    go_wp2_with fail
    refine (HY2.out _).mono ?_
    rintro e w6 ⟨rfl, hb⟩
    have hK := hK5.next hb
    clear hb HY2 hK5 c0 c1 c2 c3 c4 c5 c6 d0 d1 d2 d3
    obtain ⟨c0, c1, c2, c3, c4, c5, c6⟩ := hK.scr
    obtain ⟨d0, d1, d2, d3⟩ := hK.req
    simp only [Nat.zero_add] at d0 d1 d2 d3
    have hlt : ¬ x2 < x1 := by omega
    by_cases h6 : k = 6
    · subst h6
      have e1 : x1 = t + ts := HI1.out rfl
      have e2 : x2 = t + ts := HI2.out rfl
      subst e1
      subst e2
      clear HI1 HI2 HPl HPo1 HPo2 HOd HMx HM HW hmo hin1 hin2 c0 c1 c2 c3 c4 c5 c6
      have hB := hK.below
      clear hK
      go_wp2_with fail
      go_ret
      exact ⟨rfl, hB⟩
    · have h6b : (k == 6) = false := by simpa using h6
      by_cases hp : k = 4 ∨ k = 5
      · have hB := hK.below
        obtain ⟨n, r, em, en, er, r0, r1, r2⟩ := HMx.out
        clear HI1 HI2 HPl HMx hmo hin1 hin2
        rcases hp with rfl | rfl
        · have hm2 : Rq.May ⟨4, r, v, ts⟩ := by have := HM.out; simpa [Rq.May] using this
          have hw2 : Rq.wf ⟨4, r, v, ts⟩ := ⟨HW.out.kind, ⟨r0, r1⟩, HW.out.value, HW.out.ts⟩
          have HZ1 := Lib.hid (HR.out ⟨4, r, v, ts⟩ hw2 hm2 false)
          have HZ2 := Lib.hid (HR.out ⟨4, r, v, ts⟩ hw2 hm2 true)
          rw [HPo1.out ⟨4, r, v, ts⟩ (by simp [Rq.port]) (by simp [Rq.port]) r2.symm] at HZ1
          rw [HPo2.out ⟨4, r, v, ts⟩ (by simp [Rq.port]) (by simp [Rq.port]) r2.symm] at HZ2
          generalize reqAt s ⟨4, r, v, ts⟩ false t = a3 at *
          generalize reqAt s ⟨4, r, v, ts⟩ true t = a4 at *
          have hod : ad % 2 = 1 → x1 = t + 4 := fun h => HOd.out (by simp [Rq.port]) h
          have HO := Lib.hid hod
          have HAd := Lib.hid HW.out.addr
          clear HR HPo1 HPo2 HOd HM HW hm2 hw2 hod r0 r1 r2
          have hl6 := hK.lt
          have hl5 : w.heap.size < w6.heap.size := by omega
          go_wp2_with fail
          clear hl5 hl6 em en er c0 c1 c2 c3 c4 c5 c6 d0 d1 d2 d3
          refine (HZ1.out _).mono ?_
          rintro e w7 ⟨rfl, hb⟩
          have hb6 : Below w6.heap.size w6 w7 := ((Below.refl _ _).alloc (Nat.le_refl _) _).trans (hb.mono (by simp))
          have hK7 := hK.next hb6
          have hQ7 := QB.laid ⟨4, r, v, ts⟩ (hb.mono (by simp))
          have hl7 : w6.heap.size < w7.heap.size := by have := hb.size; simp at this; omega
          clear hb hb6 hK HZ1 hB
          obtain ⟨c0, c1, c2, c3, c4, c5, c6⟩ := hK7.scr
          obtain ⟨d0, d1, d2, d3⟩ := hQ7
          simp only [Nat.zero_add] at d0 d1 d2 d3
          go_wp2_with fail
          clear c0 c1 c2 c3 c4 c5 c6 d0 d1 d2 d3
          refine (HZ2.out _).mono ?_
          rintro e w8 ⟨rfl, hb⟩
          have hK8 := hK7.next hb
          clear hb hK7 HZ2 hl7
          have hB := hK8.below
          obtain ⟨d0, d1, d2, d3⟩ := hK8.req
          simp only [Nat.zero_add] at d0 d1 d2 d3
          have had := HAd.out
          clear hK8
          rcases (show ad % 2 = 0 ∨ ad % 2 = 1 by omega) with hm0 | hm0
          · have hm1 : (ad % 2 == 0) = true := by simp [hm0]
            have hm2 : ad.tmod 2 = 0 := (Int.tmod_eq_emod_of_nonneg had.1).trans hm0
            go_wp2_with fail
            go_ret
            exact ⟨rfl, hB⟩
          · have hm1 : (ad % 2 == 0) = false := by simp [hm0]
            have hm2 : ad.tmod 2 = 1 := (Int.tmod_eq_emod_of_nonneg had.1).trans hm0
            have hx := HO.out hm0
            subst hx
            go_wp2_with fail
            go_ret
            exact ⟨rfl, hB⟩
        · have hm2 : Rq.May ⟨5, r, v, ts⟩ := by have := HM.out; simpa [Rq.May] using this
          have hw2 : Rq.wf ⟨5, r, v, ts⟩ := ⟨HW.out.kind, ⟨r0, r1⟩, HW.out.value, HW.out.ts⟩
          have HZ1 := Lib.hid (HR.out ⟨5, r, v, ts⟩ hw2 hm2 false)
          have HZ2 := Lib.hid (HR.out ⟨5, r, v, ts⟩ hw2 hm2 true)
          rw [HPo1.out ⟨5, r, v, ts⟩ (by simp [Rq.port]) (by simp [Rq.port]) r2.symm] at HZ1
          rw [HPo2.out ⟨5, r, v, ts⟩ (by simp [Rq.port]) (by simp [Rq.port]) r2.symm] at HZ2
          generalize reqAt s ⟨5, r, v, ts⟩ false t = a3 at *
          generalize reqAt s ⟨5, r, v, ts⟩ true t = a4 at *
          have hod : ad % 2 = 1 → x1 = t + 4 := fun h => HOd.out (by simp [Rq.port]) h
          have HO := Lib.hid hod
          have HAd := Lib.hid HW.out.addr
          clear HR HPo1 HPo2 HOd HM HW hm2 hw2 hod r0 r1 r2
          have hl6 := hK.lt
          have hl5 : w.heap.size < w6.heap.size := by omega
          go_wp2_with fail
          clear hl5 hl6 em en er c0 c1 c2 c3 c4 c5 c6 d0 d1 d2 d3
          refine (HZ1.out _).mono ?_
          rintro e w7 ⟨rfl, hb⟩
          have hb6 : Below w6.heap.size w6 w7 := ((Below.refl _ _).alloc (Nat.le_refl _) _).trans (hb.mono (by simp))
          have hK7 := hK.next hb6
          have hQ7 := QB.laid ⟨5, r, v, ts⟩ (hb.mono (by simp))
          have hl7 : w6.heap.size < w7.heap.size := by have := hb.size; simp at this; omega
          clear hb hb6 hK HZ1 hB
          obtain ⟨c0, c1, c2, c3, c4, c5, c6⟩ := hK7.scr
          obtain ⟨d0, d1, d2, d3⟩ := hQ7
          simp only [Nat.zero_add] at d0 d1 d2 d3
          go_wp2_with fail
          clear c0 c1 c2 c3 c4 c5 c6 d0 d1 d2 d3
          refine (HZ2.out _).mono ?_
          rintro e w8 ⟨rfl, hb⟩
          have hK8 := hK7.next hb
          clear hb hK7 HZ2 hl7
          have hB := hK8.below
          obtain ⟨d0, d1, d2, d3⟩ := hK8.req
          simp only [Nat.zero_add] at d0 d1 d2 d3
          have had := HAd.out
          clear hK8
          rcases (show ad % 2 = 0 ∨ ad % 2 = 1 by omega) with hm0 | hm0
          · have hm1 : (ad % 2 == 0) = true := by simp [hm0]
            have hm2 : ad.tmod 2 = 0 := (Int.tmod_eq_emod_of_nonneg had.1).trans hm0
            go_wp2_with fail
            go_ret
            exact ⟨rfl, hB⟩
          · have hm1 : (ad % 2 == 0) = false := by simp [hm0]
            have hm2 : ad.tmod 2 = 1 := (Int.tmod_eq_emod_of_nonneg had.1).trans hm0
            have hx := HO.out hm0
            subst hx
            go_wp2_with fail
            go_ret
            exact ⟨rfl, hB⟩
      · have k4 : (k != 4) = true := by simp; omega
        have k5 : (k != 5) = true := by simp; omega
        have e1 : x1 = t + ts := HPl.out hp
        subst e1
        clear HI1 HI2 HPl HPo1 HPo2 HOd HMx HM HW hmo hin1 hin2 c0 c1 c2 c3 c4 c5 c6 hp
        have hB := hK.below
        clear hK
        go_wp2_with fail
        go_ret
        exact ⟨rfl, hB⟩
  · exact ports_out w s q o t hin
end Go.Proofs.Ytljgpaiojeffcaa
