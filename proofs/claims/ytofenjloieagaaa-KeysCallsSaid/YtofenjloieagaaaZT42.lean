/-  -/
import Derived.Deep.RegionLaw
import Derived.BigQuiet
import Derived.Test.YtofenjloieagaaaJ8
namespace Go.Proofs.Ytofenjloieagaaa
open Go.RowKit
set_option linter.unusedSimpArgs false
set_option linter.unusedVariables false
set_option maxRecDepth 100000

theorem M.region42_ {P : Program} {ops : Array Oper} {id : Nat} {Q : Exit → Act → World → Prop} {a : Act} {w : World} (C0 C : World → Prop) (hc : M.Closed C) (hsub : ∀ w, C w → C0 w) (h0 : ∀ n, C { w with drawn := n }) (hm : P.follows .mixedOrders = true)
    (H : M.wpAnyM P .any ops C0 (fun a' C => ∀ w', C w' → Q .normal a' w') ops.size (Array.replicate ops.size false) a C) : (Code.region id ops true).wp P Q a w :=
  wp_region_any hm (M.wpAny_of_m (C0 := C0) (fun _ _ w' hw' hF => hF w' hw') _ _ _ _ _ (h0 _) hc hsub H)

theorem run_append_tc (w : World) (ty t : TypeId) (h1 : Try.prog.underlying t = some (.slice 45))
    (base : Nat) (v : Value) (M : List Tc) (hown : OwnT w base v M) (g : Nat) (y : Tc) (hy : TB w g 0 y)
    (b1 : M.length ≤ 1000000) (hbase : base ≤ w.heap.size) :
    ∃ v' w', (Builtin.append_ #[t, t] ty #[v, .slice (some ⟨g, 0, none⟩) 1 1]).run Try.prog w = .ok v' w' ∧ OwnT w' base v' (M ++ [y]) ∧ w.grownBy w' v.ownBlock := by
  obtain ⟨i0, hi, hz0, hz1, hz2⟩ := info_parts info_tc
  have hc : ∀ j u, (y.cells)[j]? = some u → w.cell? ((⟨g, 0, none⟩ : Addr).add j) = some u := by
    intro j u hu
    have hj : j < 4 := (List.getElem?_eq_some_iff.1 hu).1
    have hadd : (⟨g, 0, none⟩ : Addr).add j = ⟨g, j, none⟩ := by unfold Addr.add; split <;> simp_all
    rw [hadd]
    have := hy.cell hj
    rw [Nat.zero_add] at this
    rw [this]
    exact hu
  obtain ⟨v', w', hrun, r1, r2, _⟩ := run_append_own (P := Try.prog) w base t ty 45 i0 _ 4 32 h1 hi hz0 hz1 hz2 rfl (by decide) _ M.length (rowT M) hown ⟨g, 0, none⟩ 1 1 y.cells rfl hc (cells_one y) (by unfold maxLen; omega) (by omega) hbase
  refine ⟨v', w', hrun, ?_, r2⟩
  unfold OwnT
  rw [rowT_snoc, List.length_append]
  exact r1
theorem does_append_tc {P : Program} {o : Oper} {a : Act} {w w' : World} {next : Value → World → Prop} (s x : Operand) {ts : Array TypeId} {vs vx v : Value}
    (hop : o.op = .call { callee := .builtin .append, args := #[s, x], argTypes := ts }) (hs : a.eval s = vs) (hx : a.eval x = vx) (hr : (Builtin.append_ ts o.type #[vs, vx]).run P w = .ok v w') (h : next v w') : Oper.does P o a w next := by
  unfold Oper.does execOp
  simp only [hop, resolve, invoke, builtin, Sem.run_bind, Sem.run_pure, Result.andThen_ok, List.map_toArray, List.map_cons, List.map_nil, hs, hx, hr]
  exact h

/-- A touch that came in. -/
def KT (b o B : Nat) (x : Tc) (w : World) : Prop := TB w b o x ∧ b < B ∧ B ≤ w.heap.size
theorem KT.step {b o B : Nat} {x : Tc} {w w' : World} (h : KT b o B x w) (hs : Save (fun _ => False) w w') : KT b o B x w' :=
  ⟨h.1.below (hs.all.mono h.2.2) h.2.1, h.2.1, Nat.le_trans h.2.2 hs.size⟩
/-- .. and the row is the call's own. -/
def KO (b o B : Nat) (x : Tc) (w0 : World) (v : Value) (M : List Tc) (w : World) : Prop := KT b o B x w ∧ OwnT w B v M ∧ Below B w0 w
theorem KO.step {b o B : Nat} {x : Tc} {w0 : World} {v : Value} {M : List Tc} {w w' : World} (h : KO b o B x w0 v M w) (hs : Save (fun _ => False) w w') : KO b o B x w0 v M w' :=
  ⟨h.1.step hs, h.2.1.kept (w' := w') (row := none) ⟨hs.os, hs.tape, hs.output, hs.size, fun i hi _ => hs.block i hi (fun h => h)⟩ (by cases hv : v.ownBlock <;> simp), h.2.2.trans (hs.all.mono h.1.2.2)⟩

def lenV : Value → Nat
  | .slice _ n _ => n
  | _ => 0

/-- What is behind a list's first touch. -/
theorem TsAt.tail {w : World} {B b o c : Nat} {x : Tc} {l : List Tc} (h : TsAt w B (some ⟨b, o, none⟩) (x :: l)) (hc : l.length + 1 ≤ c) : TsAt w B (if c = 1 then some ⟨b, o, none⟩ else some ⟨b, o + 4, none⟩) l := by
  refine ⟨fun h0 => ?_⟩
  obtain ⟨b', o', h1, h2, h3⟩ := h.at_ (by simp)
  obtain ⟨rfl, rfl, -⟩ := Addr.mk.inj (Option.some.inj h1)
  refine ⟨b, o + 4, by rw [if_neg (by omega)], h2, fun i hi => ?_⟩
  have := h3 (i + 1) (by simp; omega)
  rw [show o + 4 + i * 4 = o + (i + 1) * 4 by omega]
  simpa using this

set_option maxHeartbeats 8000000 in
theorem rmerge17_any (w : World) (A1 A2 : Option Addr) (c1 c2 : Nat) (l1 l2 : List Tc) (h1 : TsAt w w.heap.size A1 l1) (h2 : TsAt w w.heap.size A2 l2) (k1 : l1.length ≤ c1 ∧ c1 ≤ maxLen) (k2 : l2.length ≤ c2 ∧ c2 ≤ maxLen) :
    Calls Try.prog 6 #[.slice A1 l1.length c1, .slice A2 l2.length c2] w (ListE w (errM l1 l2) (mergeL l1 l2)) := by
  obtain ⟨i0, hi, hz0, hz1, hz2⟩ := info_parts info_tc
  have HC1 := Lib.hid (fun (w1 : World) (hb : Below w.heap.size w w1) => rcheck17_any w1 A1 c1 l1 (h1.on hb hb.size) (Nat.le_trans k1.1 k1.2))
  have HC2 := Lib.hid (fun (w1 : World) (hb : Below w.heap.size w w1) => rcheck17_any w1 A2 c2 l2 (h2.on hb hb.size) (Nat.le_trans k2.1 k2.2))
  have HL1 := Lib.hid h1
  have HL2 := Lib.hid h2
  have HM0 := Lib.hid (show mergeL l1 l2 = [] ++ mergeL l1 l2 from rfl)
  obtain ⟨k11, k12⟩ := k1
  obtain ⟨k21, k22⟩ := k2
  clear h1 h2
  unfold maxLen at k12 k22
  unfold ListE
  by_cases he1 : errL l1 = 0
  · simp only [he1] at HC1
    by_cases he2 : errL l2 = 0
    · simp only [he2] at HC2
      have g1 : l1.length ≤ 65536 := (errL_zero.1 he1).1
      have g2 : l2.length ≤ 65536 := (errL_zero.1 he2).1
      by_cases hlong : 65536 < l1.length + l2.length
      · have he : errM l1 l2 = 3 := by unfold errM; rw [if_pos he1, if_pos he2, if_pos hlong]
        rw [he]
        clear he he1 he2 HL1 HL2 HM0
        go_enter Try.func6, Try.ntmps6
        go_wp2_with fail
        refine (HC1.out w (Below.refl _ _)).mono ?_
        rintro e w1 ⟨rfl, hb⟩
        have HB1 := Lib.hid hb
        clear hb HC1
        go_wp2_with fail
        refine (HC2.out w1 HB1.out).mono ?_
        rintro e w2 ⟨rfl, hb⟩
        have HB2 := Lib.hid (HB1.out.trans (hb.mono HB1.out.size))
        clear hb HB1 HC2
        go_wp2_with fail
        go_ret2
        exact ⟨⟨_, rfl, World.ownsRow_nil _ _ _ _⟩, HB2.out⟩
      · have he : errM l1 l2 = 0 := by unfold errM; rw [if_pos he1, if_pos he2, if_neg hlong]
        rw [he]
        clear he he1 he2
        generalize hD : mergeL l1 l2 = D at *
        obtain ⟨n1, hn1⟩ : ∃ n, l1.length = n := ⟨_, rfl⟩
        obtain ⟨n2, hn2⟩ : ∃ n, l2.length = n := ⟨_, rfl⟩
        have HN : Hid (l1.length = n1 ∧ l2.length = n2) := Lib.hid ⟨hn1, hn2⟩
        have HDD := Lib.hid hD
        rw [hn1] at k11 hlong HC1 g1 ⊢
        rw [hn2] at k21 hlong HC2 g2 ⊢
        clear hn1 hn2 hD
        go_enter Try.func6, Try.ntmps6
        go_wp2_with fail
        refine (HC1.out w (Below.refl _ _)).mono ?_
        rintro e w1 ⟨rfl, hb⟩
        have HB1 := Lib.hid hb
        clear hb HC1
        go_wp2_with fail
        refine (HC2.out w1 HB1.out).mono ?_
        rintro e w2 ⟨rfl, hb⟩
        have HB2 := Lib.hid (HB1.out.trans (hb.mono HB1.out.size))
        clear hb HB1 HC2
        go_wp2_with fail
        go_loopw [0, 1, 7] (fun sa sb so wr => ∃ (a b out : List Tc) (A1 A2 : Option Addr) (c1 c2 : Nat), sa = .slice A1 a.length c1 ∧ sb = .slice A2 b.length c2 ∧ Hid (D = out ++ mergeL a b ∧ TsAt w w.heap.size A1 a ∧ TsAt w w.heap.size A2 b) ∧ a.length ≤ c1 ∧ c1 ≤ 9223372036854775807 ∧ b.length ≤ c2 ∧ c2 ≤ 9223372036854775807 ∧ out.length + a.length + b.length ≤ 65536 ∧ OwnT wr w.heap.size so out ∧ Below w.heap.size w wr) (fun sa sb _ _ => lenV sa + lenV sb)
        case atStart =>
          obtain ⟨e1, e2⟩ := HN.out
          exact ⟨l1, l2, [], A1, A2, c1, c2, by rw [e1], by rw [e2], Lib.hid ⟨by rw [HDD.out]; rfl, HL1.out, HL2.out⟩, by omega, by omega, by omega, by omega, by simp; omega, World.ownsRow_nil _ _ _ _, HB2.out⟩
        case round =>
          rename World => wr
          clear HB2 HDD HN HL1 HL2 HM0 k11 k21 k12 k22 hlong g1 g2
          obtain ⟨a, b, out, A3, A4, c3, c4, rfl, rfl, HD, q1, q2, q3, q4, q5, ho, hb⟩ := hrel
          have HO := Lib.hid ho
          have HB := Lib.hid hb
          clear ho hb
          cases b with
          | nil =>
            cases a with
            | nil =>
              have HF : Hid (D = out) := Lib.hid (by rw [HD.out.1, mergeL_nil, List.append_nil])
              clear HD q1 q2 q3 q4
              go_wp2_with fail
              go_ret2
              exact ⟨⟨_, rfl, by rw [HF.out]; exact HO.out⟩, HB.out⟩
            | cons x t =>
              obtain ⟨bb, oo, hA, hb1, hat⟩ := HD.out.2.1.at_ (by simp)
              subst hA
              have hU := (hat 0 (by simp)).below HB.out hb1
              have HT := Lib.hid (HD.out.2.1.tail (by simpa using q1))
              have HE : Hid (D = (out ++ [x]) ++ mergeL t []) := Lib.hid (by rw [HD.out.1, mergeL_none, mergeL_none, List.append_assoc]; rfl)
              have HT2 := Lib.hid HD.out.2.2
              have hs : w.heap.size ≤ wr.heap.size := HB.out.size
              clear hat HD
              obtain ⟨u0, u1, u2, u3⟩ := hU
              simp only [Nat.zero_mul, Nat.add_zero, List.getD_cons_zero] at u0 u1 u2 u3
              simp only [List.length_cons, List.length_nil] at q1 q2 q3 q4 q5 ⊢
              obtain ⟨A0, c0, rfl, -, -⟩ := HO.out.shape
              have hk3 : KT bb oo w.heap.size x wr := ⟨⟨u0, u1, u2, u3⟩, hb1, hs⟩
              have HR3 := Lib.hid (show KO bb oo w.heap.size x w (.slice A0 out.length c0) out wr from ⟨hk3, HO.out, HB.out⟩)
              have g0 : ∀ q : M.Of (KT bb oo w.heap.size x), q.w.cell? ⟨bb, oo, none⟩ = some (.int .i64 x.time) := fun q => q.ok.1.c0
              have g1 : ∀ q : M.Of (KT bb oo w.heap.size x), q.w.cell? ⟨bb, oo + 1, none⟩ = some (.int .i64 x.what) := fun q => q.ok.1.c1
              have g2 : ∀ q : M.Of (KT bb oo w.heap.size x), q.w.cell? ⟨bb, oo + 2, none⟩ = some (.int .i64 x.key) := fun q => q.ok.1.c2
              have g3 : ∀ q : M.Of (KT bb oo w.heap.size x), q.w.cell? ⟨bb, oo + 3, none⟩ = some (.bool x.on) := fun q => q.ok.1.c3
              have HK3 := Lib.hid hk3
              haveI : Nonempty (M.Of (KT bb oo w.heap.size x)) := ⟨⟨wr, hk3⟩⟩
              clear hk3 HO HB
              go_upto_region 10 with fail
              go_quiet (fail)
              go_upto_region 11 with fail
              clear u0 u1 u2 u3
              refine M.region42_ (KT bb oo w.heap.size x) (KO bb oo w.heap.size x w (.slice A0 out.length c0) out) (fun w1 w2 h hs => h.step hs) (fun _ h => h.1) (fun n => HR3.out.step (Save.drawn _ _ n)) (by kernel_rfl) ?_
              refine M.seg_ [0, 1, 2, 3, 6, 7] 4 _ _ HK3.out (by kernel_rfl) (by kernel_rfl) (by kernel_rfl) (by simp only [pickOps, mask, plain, List.getElem?_toArray, List.getElem?_cons_zero, List.getElem?_cons_succ, if_true, Bool.false_eq_true, if_false]; rfl) ?_
              repeat (go_big_quiet_step (fail))
              refine wpQuiet_nil ?_
              clear g0 g1 g2 g3
              refine M.call_ (i := 4) rfl (by kernel_rfl) (by kernel_rfl) ?_
              intro wz sz
              unfold Oper.does
              go_simp
              have hnew : TB (wz.alloc (tcO x)) wz.heap.size 0 x := TB.now wz x
              have hSv : Save (fun _ => False) wz (wz.alloc (tcO x)) := Save.of_below ((Below.refl wz.heap.size wz).alloc (Nat.le_refl _) _)
              refine ⟨fun w' => KO bb oo w.heap.size x w (.slice A0 out.length c0) out w' ∧ TB w' wz.heap.size 0 x ∧ wz.heap.size < w'.heap.size, ⟨sz.step hSv, hnew, by simp⟩, fun w1 w2 h hs => ⟨h.1.step hs, h.2.1.below hs.all h.2.2, Nat.lt_of_lt_of_le h.2.2 hs.size⟩, fun _ h => h.1.1, ?_⟩
              clear hnew hSv sz
              generalize wz.heap.size = N2 at *
              go_simp
              refine M.call_ (i := 5) rfl (by kernel_rfl) (by kernel_rfl) ?_
              intro wy sy
              obtain ⟨sy1, sy2, sy3⟩ := sy
              obtain ⟨v5, w5, hrun, ho5, hg5⟩ := run_append_tc wy 22 22 Try.underlying22 w.heap.size (.slice A0 out.length c0) out sy1.2.1 N2 x sy2 (by omega) sy1.1.2.2
              have hb5 : Below w.heap.size w w5 := sy1.2.2.grown hg5 sy1.1.2.2 (fun q hq => (sy1.2.1.lt q hq).1)
              have hk5 : KT bb oo w.heap.size x w5 := ⟨sy1.1.1.below ((Below.refl w.heap.size wy).grown hg5 sy1.1.2.2 (fun q hq => (sy1.2.1.lt q hq).1)) sy1.1.2.1, sy1.1.2.1, Nat.le_trans sy1.1.2.2 hg5.size⟩
              have hr5 : KO bb oo w.heap.size x w v5 (out ++ [x]) w5 := ⟨hk5, ho5, hb5⟩
              refine does_append_tc (vs := .slice A0 out.length c0) (vx := .slice (some ⟨N2, 0, none⟩) 1 1) (v := v5) _ _ rfl rfl rfl hrun ?_
              refine ⟨KO bb oo w.heap.size x w v5 (out ++ [x]), hr5, fun w1 w2 h hs => h.step hs, fun _ h => h.1, ?_⟩
              clear hr5 hb5 hk5 hrun ho5 hg5 sy1 sy2 sy3
              go_simp
              refine M.seg_ [8, 9] 0 _ _ HK3.out (by kernel_rfl) (by kernel_rfl) (by kernel_rfl) (by simp only [pickOps, mask, plain, List.getElem?_toArray, List.getElem?_cons_zero, List.getElem?_cons_succ, if_true, Bool.false_eq_true, if_false]; rfl) ?_
              repeat (go_big_quiet_step (fail))
              refine wpQuiet_nil ?_
              refine M.end_ (by kernel_rfl) ?_
              intro wc sc
              obtain ⟨-, so, sb⟩ := sc
              go_wp2_with fail
              refine ⟨⟨t, [], out ++ [x], _, A4, c3 - 1, c4, by go_num, rfl, Lib.hid ⟨HE.out, HT.out, HT2.out⟩, by omega, by omega, by simp, by omega, by simp; omega, so, sb⟩, by simp [lenV]⟩
          | cons y s =>
            cases a with
            | nil =>
              obtain ⟨bb, oo, hA, hb1, hat⟩ := HD.out.2.2.at_ (by simp)
              subst hA
              have hU := (hat 0 (by simp)).below HB.out hb1
              have HT := Lib.hid (HD.out.2.2.tail (by simpa using q3))
              have HE : Hid (D = (out ++ [y]) ++ mergeL [] s) := Lib.hid (by rw [HD.out.1, mergeL_nil, mergeL_nil, List.append_assoc]; rfl)
              have HT2 := Lib.hid HD.out.2.1
              have hs : w.heap.size ≤ wr.heap.size := HB.out.size
              clear hat HD
              have hcn : (((s.length + 1 : Nat) : Int) == 0) = false := by rw [beq_eq_false_iff_ne]; omega
              have hcm : (((s.length : Nat) : Int) + 1 == 0) = false := by rw [beq_eq_false_iff_ne]; omega
              obtain ⟨u0, u1, u2, u3⟩ := hU
              simp only [Nat.zero_mul, Nat.add_zero, List.getD_cons_zero] at u0 u1 u2 u3
              simp only [List.length_cons, List.length_nil] at q1 q2 q3 q4 q5 ⊢
              obtain ⟨A0, c0, rfl, -, -⟩ := HO.out.shape
              have hk3 : KT bb oo w.heap.size y wr := ⟨⟨u0, u1, u2, u3⟩, hb1, hs⟩
              have HR3 := Lib.hid (show KO bb oo w.heap.size y w (.slice A0 out.length c0) out wr from ⟨hk3, HO.out, HB.out⟩)
              have g0 : ∀ q : M.Of (KT bb oo w.heap.size y), q.w.cell? ⟨bb, oo, none⟩ = some (.int .i64 y.time) := fun q => q.ok.1.c0
              have g1 : ∀ q : M.Of (KT bb oo w.heap.size y), q.w.cell? ⟨bb, oo + 1, none⟩ = some (.int .i64 y.what) := fun q => q.ok.1.c1
              have g2 : ∀ q : M.Of (KT bb oo w.heap.size y), q.w.cell? ⟨bb, oo + 2, none⟩ = some (.int .i64 y.key) := fun q => q.ok.1.c2
              have g3 : ∀ q : M.Of (KT bb oo w.heap.size y), q.w.cell? ⟨bb, oo + 3, none⟩ = some (.bool y.on) := fun q => q.ok.1.c3
              have HK3 := Lib.hid hk3
              haveI : Nonempty (M.Of (KT bb oo w.heap.size y)) := ⟨⟨wr, hk3⟩⟩
              clear hk3 HO HB
              go_upto_region 10 with fail
              go_quiet (fail)
              go_upto_region 12 with fail
              clear u0 u1 u2 u3
              refine M.region42_ (KT bb oo w.heap.size y) (KO bb oo w.heap.size y w (.slice A0 out.length c0) out) (fun w1 w2 h hs => h.step hs) (fun _ h => h.1) (fun n => HR3.out.step (Save.drawn _ _ n)) (by kernel_rfl) ?_
              refine M.seg_ [0, 1, 2, 3, 6, 7] 4 _ _ HK3.out (by kernel_rfl) (by kernel_rfl) (by kernel_rfl) (by simp only [pickOps, mask, plain, List.getElem?_toArray, List.getElem?_cons_zero, List.getElem?_cons_succ, if_true, Bool.false_eq_true, if_false]; rfl) ?_
              repeat (go_big_quiet_step (fail))
              refine wpQuiet_nil ?_
              clear g0 g1 g2 g3
              refine M.call_ (i := 4) rfl (by kernel_rfl) (by kernel_rfl) ?_
              intro wz sz
              unfold Oper.does
              go_simp
              have hnew : TB (wz.alloc (tcO y)) wz.heap.size 0 y := TB.now wz y
              have hSv : Save (fun _ => False) wz (wz.alloc (tcO y)) := Save.of_below ((Below.refl wz.heap.size wz).alloc (Nat.le_refl _) _)
              refine ⟨fun w' => KO bb oo w.heap.size y w (.slice A0 out.length c0) out w' ∧ TB w' wz.heap.size 0 y ∧ wz.heap.size < w'.heap.size, ⟨sz.step hSv, hnew, by simp⟩, fun w1 w2 h hs => ⟨h.1.step hs, h.2.1.below hs.all h.2.2, Nat.lt_of_lt_of_le h.2.2 hs.size⟩, fun _ h => h.1.1, ?_⟩
              clear hnew hSv sz
              generalize wz.heap.size = N2 at *
              go_simp
              refine M.call_ (i := 5) rfl (by kernel_rfl) (by kernel_rfl) ?_
              intro wy sy
              obtain ⟨sy1, sy2, sy3⟩ := sy
              obtain ⟨v5, w5, hrun, ho5, hg5⟩ := run_append_tc wy 22 22 Try.underlying22 w.heap.size (.slice A0 out.length c0) out sy1.2.1 N2 y sy2 (by omega) sy1.1.2.2
              have hb5 : Below w.heap.size w w5 := sy1.2.2.grown hg5 sy1.1.2.2 (fun q hq => (sy1.2.1.lt q hq).1)
              have hk5 : KT bb oo w.heap.size y w5 := ⟨sy1.1.1.below ((Below.refl w.heap.size wy).grown hg5 sy1.1.2.2 (fun q hq => (sy1.2.1.lt q hq).1)) sy1.1.2.1, sy1.1.2.1, Nat.le_trans sy1.1.2.2 hg5.size⟩
              have hr5 : KO bb oo w.heap.size y w v5 (out ++ [y]) w5 := ⟨hk5, ho5, hb5⟩
              refine does_append_tc (vs := .slice A0 out.length c0) (vx := .slice (some ⟨N2, 0, none⟩) 1 1) (v := v5) _ _ rfl rfl rfl hrun ?_
              refine ⟨KO bb oo w.heap.size y w v5 (out ++ [y]), hr5, fun w1 w2 h hs => h.step hs, fun _ h => h.1, ?_⟩
              clear hr5 hb5 hk5 hrun ho5 hg5 sy1 sy2 sy3
              go_simp
              refine M.seg_ [8, 9] 0 _ _ HK3.out (by kernel_rfl) (by kernel_rfl) (by kernel_rfl) (by simp only [pickOps, mask, plain, List.getElem?_toArray, List.getElem?_cons_zero, List.getElem?_cons_succ, if_true, Bool.false_eq_true, if_false]; rfl) ?_
              repeat (go_big_quiet_step (fail))
              refine wpQuiet_nil ?_
              refine M.end_ (by kernel_rfl) ?_
              intro wc sc
              obtain ⟨-, so, sb⟩ := sc
              go_wp2_with fail
              refine ⟨⟨[], s, out ++ [y], A3, _, c3, c4 - 1, rfl, by go_num, Lib.hid ⟨HE.out, HT2.out, HT.out⟩, by simp, by omega, by omega, by omega, by simp; omega, so, sb⟩, by simp [lenV]⟩
            | cons x t =>
              obtain ⟨bb, oo, hA, hb1, hat⟩ := HD.out.2.1.at_ (by simp)
              subst hA
              obtain ⟨be, oe, hA, he1, hbt⟩ := HD.out.2.2.at_ (by simp)
              subst hA
              have hU := (hat 0 (by simp)).below HB.out hb1
              have hV := (hbt 0 (by simp)).below HB.out he1
              have hs : w.heap.size ≤ wr.heap.size := HB.out.size
              clear hat hbt
              obtain ⟨u0, u1, u2, u3⟩ := hU
              obtain ⟨v0, v1, v2, v3⟩ := hV
              simp only [Nat.zero_mul, Nat.add_zero, List.getD_cons_zero] at u0 u1 u2 u3 v0 v1 v2 v3
              have hcn : (((s.length + 1 : Nat) : Int) == 0) = false := by rw [beq_eq_false_iff_ne]; omega
              have hcm : (((s.length : Nat) : Int) + 1 == 0) = false := by rw [beq_eq_false_iff_ne]; omega
              have hcons := mergeL_cons x y t s
              by_cases hle : x.time ≤ y.time
              · have hd : decide (x.time ≤ y.time) = true := decide_eq_true hle
                have HT := Lib.hid (HD.out.2.1.tail (by simpa using q1))
                have HT2 := Lib.hid HD.out.2.2
                rw [if_pos hle] at hcons
                have HE : Hid (D = (out ++ [x]) ++ mergeL t (y :: s)) := Lib.hid (by rw [HD.out.1, hcons, List.append_assoc]; rfl)
                clear HD hle hcons
                simp only [List.length_cons, List.length_nil] at q1 q2 q3 q4 q5 ⊢
                obtain ⟨A0, c0, rfl, -, -⟩ := HO.out.shape
                have hk3 : KT bb oo w.heap.size x wr := ⟨⟨u0, u1, u2, u3⟩, hb1, hs⟩
                have HR3 := Lib.hid (show KO bb oo w.heap.size x w (.slice A0 out.length c0) out wr from ⟨hk3, HO.out, HB.out⟩)
                have g0 : ∀ q : M.Of (KT bb oo w.heap.size x), q.w.cell? ⟨bb, oo, none⟩ = some (.int .i64 x.time) := fun q => q.ok.1.c0
                have g1 : ∀ q : M.Of (KT bb oo w.heap.size x), q.w.cell? ⟨bb, oo + 1, none⟩ = some (.int .i64 x.what) := fun q => q.ok.1.c1
                have g2 : ∀ q : M.Of (KT bb oo w.heap.size x), q.w.cell? ⟨bb, oo + 2, none⟩ = some (.int .i64 x.key) := fun q => q.ok.1.c2
                have g3 : ∀ q : M.Of (KT bb oo w.heap.size x), q.w.cell? ⟨bb, oo + 3, none⟩ = some (.bool x.on) := fun q => q.ok.1.c3
                have HK3 := Lib.hid hk3
                haveI : Nonempty (M.Of (KT bb oo w.heap.size x)) := ⟨⟨wr, hk3⟩⟩
                clear hk3 HO HB
                go_upto_region 10 with fail
                go_quiet (fail)
                go_upto_region 11 with fail
                clear u0 u1 u2 u3 v0 v1 v2 v3
                refine M.region42_ (KT bb oo w.heap.size x) (KO bb oo w.heap.size x w (.slice A0 out.length c0) out) (fun w1 w2 h hs => h.step hs) (fun _ h => h.1) (fun n => HR3.out.step (Save.drawn _ _ n)) (by kernel_rfl) ?_
                refine M.seg_ [0, 1, 2, 3, 6, 7] 4 _ _ HK3.out (by kernel_rfl) (by kernel_rfl) (by kernel_rfl) (by simp only [pickOps, mask, plain, List.getElem?_toArray, List.getElem?_cons_zero, List.getElem?_cons_succ, if_true, Bool.false_eq_true, if_false]; rfl) ?_
                repeat (go_big_quiet_step (fail))
                refine wpQuiet_nil ?_
                clear g0 g1 g2 g3
                refine M.call_ (i := 4) rfl (by kernel_rfl) (by kernel_rfl) ?_
                intro wz sz
                unfold Oper.does
                go_simp
                have hnew : TB (wz.alloc (tcO x)) wz.heap.size 0 x := TB.now wz x
                have hSv : Save (fun _ => False) wz (wz.alloc (tcO x)) := Save.of_below ((Below.refl wz.heap.size wz).alloc (Nat.le_refl _) _)
                refine ⟨fun w' => KO bb oo w.heap.size x w (.slice A0 out.length c0) out w' ∧ TB w' wz.heap.size 0 x ∧ wz.heap.size < w'.heap.size, ⟨sz.step hSv, hnew, by simp⟩, fun w1 w2 h hs => ⟨h.1.step hs, h.2.1.below hs.all h.2.2, Nat.lt_of_lt_of_le h.2.2 hs.size⟩, fun _ h => h.1.1, ?_⟩
                clear hnew hSv sz
                generalize wz.heap.size = N2 at *
                go_simp
                refine M.call_ (i := 5) rfl (by kernel_rfl) (by kernel_rfl) ?_
                intro wy sy
                obtain ⟨sy1, sy2, sy3⟩ := sy
                obtain ⟨v5, w5, hrun, ho5, hg5⟩ := run_append_tc wy 22 22 Try.underlying22 w.heap.size (.slice A0 out.length c0) out sy1.2.1 N2 x sy2 (by omega) sy1.1.2.2
                have hb5 : Below w.heap.size w w5 := sy1.2.2.grown hg5 sy1.1.2.2 (fun q hq => (sy1.2.1.lt q hq).1)
                have hk5 : KT bb oo w.heap.size x w5 := ⟨sy1.1.1.below ((Below.refl w.heap.size wy).grown hg5 sy1.1.2.2 (fun q hq => (sy1.2.1.lt q hq).1)) sy1.1.2.1, sy1.1.2.1, Nat.le_trans sy1.1.2.2 hg5.size⟩
                have hr5 : KO bb oo w.heap.size x w v5 (out ++ [x]) w5 := ⟨hk5, ho5, hb5⟩
                refine does_append_tc (vs := .slice A0 out.length c0) (vx := .slice (some ⟨N2, 0, none⟩) 1 1) (v := v5) _ _ rfl rfl rfl hrun ?_
                refine ⟨KO bb oo w.heap.size x w v5 (out ++ [x]), hr5, fun w1 w2 h hs => h.step hs, fun _ h => h.1, ?_⟩
                clear hr5 hb5 hk5 hrun ho5 hg5 sy1 sy2 sy3
                go_simp
                refine M.seg_ [8, 9] 0 _ _ HK3.out (by kernel_rfl) (by kernel_rfl) (by kernel_rfl) (by simp only [pickOps, mask, plain, List.getElem?_toArray, List.getElem?_cons_zero, List.getElem?_cons_succ, if_true, Bool.false_eq_true, if_false]; rfl) ?_
                repeat (go_big_quiet_step (fail))
                refine wpQuiet_nil ?_
                refine M.end_ (by kernel_rfl) ?_
                intro wc sc
                obtain ⟨-, so, sb⟩ := sc
                go_wp2_with fail
                refine ⟨⟨t, y :: s, out ++ [x], _, _, c3 - 1, c4, by go_num, rfl, Lib.hid ⟨HE.out, HT.out, HT2.out⟩, by omega, by omega, by simp; omega, by omega, by simp; omega, so, sb⟩, by simp [lenV]⟩
              · have hd : decide (x.time ≤ y.time) = false := decide_eq_false hle
                have HT := Lib.hid (HD.out.2.2.tail (by simpa using q3))
                have HT2 := Lib.hid HD.out.2.1
                rw [if_neg hle] at hcons
                have HE : Hid (D = (out ++ [y]) ++ mergeL (x :: t) s) := Lib.hid (by rw [HD.out.1, hcons, List.append_assoc]; rfl)
                clear HD hle hcons
                simp only [List.length_cons, List.length_nil] at q1 q2 q3 q4 q5 ⊢
                obtain ⟨A0, c0, rfl, -, -⟩ := HO.out.shape
                have hk3 : KT be oe w.heap.size y wr := ⟨⟨v0, v1, v2, v3⟩, he1, hs⟩
                have HR3 := Lib.hid (show KO be oe w.heap.size y w (.slice A0 out.length c0) out wr from ⟨hk3, HO.out, HB.out⟩)
                have g0 : ∀ q : M.Of (KT be oe w.heap.size y), q.w.cell? ⟨be, oe, none⟩ = some (.int .i64 y.time) := fun q => q.ok.1.c0
                have g1 : ∀ q : M.Of (KT be oe w.heap.size y), q.w.cell? ⟨be, oe + 1, none⟩ = some (.int .i64 y.what) := fun q => q.ok.1.c1
                have g2 : ∀ q : M.Of (KT be oe w.heap.size y), q.w.cell? ⟨be, oe + 2, none⟩ = some (.int .i64 y.key) := fun q => q.ok.1.c2
                have g3 : ∀ q : M.Of (KT be oe w.heap.size y), q.w.cell? ⟨be, oe + 3, none⟩ = some (.bool y.on) := fun q => q.ok.1.c3
                have HK3 := Lib.hid hk3
                haveI : Nonempty (M.Of (KT be oe w.heap.size y)) := ⟨⟨wr, hk3⟩⟩
                clear hk3 HO HB
                go_upto_region 10 with fail
                go_quiet (fail)
                go_upto_region 12 with fail
                clear u0 u1 u2 u3 v0 v1 v2 v3
                refine M.region42_ (KT be oe w.heap.size y) (KO be oe w.heap.size y w (.slice A0 out.length c0) out) (fun w1 w2 h hs => h.step hs) (fun _ h => h.1) (fun n => HR3.out.step (Save.drawn _ _ n)) (by kernel_rfl) ?_
                refine M.seg_ [0, 1, 2, 3, 6, 7] 4 _ _ HK3.out (by kernel_rfl) (by kernel_rfl) (by kernel_rfl) (by simp only [pickOps, mask, plain, List.getElem?_toArray, List.getElem?_cons_zero, List.getElem?_cons_succ, if_true, Bool.false_eq_true, if_false]; rfl) ?_
                repeat (go_big_quiet_step (fail))
                refine wpQuiet_nil ?_
                clear g0 g1 g2 g3
                refine M.call_ (i := 4) rfl (by kernel_rfl) (by kernel_rfl) ?_
                intro wz sz
                unfold Oper.does
                go_simp
                have hnew : TB (wz.alloc (tcO y)) wz.heap.size 0 y := TB.now wz y
                have hSv : Save (fun _ => False) wz (wz.alloc (tcO y)) := Save.of_below ((Below.refl wz.heap.size wz).alloc (Nat.le_refl _) _)
                refine ⟨fun w' => KO be oe w.heap.size y w (.slice A0 out.length c0) out w' ∧ TB w' wz.heap.size 0 y ∧ wz.heap.size < w'.heap.size, ⟨sz.step hSv, hnew, by simp⟩, fun w1 w2 h hs => ⟨h.1.step hs, h.2.1.below hs.all h.2.2, Nat.lt_of_lt_of_le h.2.2 hs.size⟩, fun _ h => h.1.1, ?_⟩
                clear hnew hSv sz
                generalize wz.heap.size = N2 at *
                go_simp
                refine M.call_ (i := 5) rfl (by kernel_rfl) (by kernel_rfl) ?_
                intro wy sy
                obtain ⟨sy1, sy2, sy3⟩ := sy
                obtain ⟨v5, w5, hrun, ho5, hg5⟩ := run_append_tc wy 22 22 Try.underlying22 w.heap.size (.slice A0 out.length c0) out sy1.2.1 N2 y sy2 (by omega) sy1.1.2.2
                have hb5 : Below w.heap.size w w5 := sy1.2.2.grown hg5 sy1.1.2.2 (fun q hq => (sy1.2.1.lt q hq).1)
                have hk5 : KT be oe w.heap.size y w5 := ⟨sy1.1.1.below ((Below.refl w.heap.size wy).grown hg5 sy1.1.2.2 (fun q hq => (sy1.2.1.lt q hq).1)) sy1.1.2.1, sy1.1.2.1, Nat.le_trans sy1.1.2.2 hg5.size⟩
                have hr5 : KO be oe w.heap.size y w v5 (out ++ [y]) w5 := ⟨hk5, ho5, hb5⟩
                refine does_append_tc (vs := .slice A0 out.length c0) (vx := .slice (some ⟨N2, 0, none⟩) 1 1) (v := v5) _ _ rfl rfl rfl hrun ?_
                refine ⟨KO be oe w.heap.size y w v5 (out ++ [y]), hr5, fun w1 w2 h hs => h.step hs, fun _ h => h.1, ?_⟩
                clear hr5 hb5 hk5 hrun ho5 hg5 sy1 sy2 sy3
                go_simp
                refine M.seg_ [8, 9] 0 _ _ HK3.out (by kernel_rfl) (by kernel_rfl) (by kernel_rfl) (by simp only [pickOps, mask, plain, List.getElem?_toArray, List.getElem?_cons_zero, List.getElem?_cons_succ, if_true, Bool.false_eq_true, if_false]; rfl) ?_
                repeat (go_big_quiet_step (fail))
                refine wpQuiet_nil ?_
                refine M.end_ (by kernel_rfl) ?_
                intro wc sc
                obtain ⟨-, so, sb⟩ := sc
                go_wp2_with fail
                refine ⟨⟨x :: t, s, out ++ [y], _, _, c3, c4 - 1, rfl, by go_num, Lib.hid ⟨HE.out, HT2.out, HT.out⟩, by simp; omega, by omega, by omega, by omega, by simp; omega, so, sb⟩, by simp [lenV]⟩
    · have he : errM l1 l2 = errL l2 := by unfold errM; rw [if_pos he1, if_neg he2]
      rw [he]
      clear he he1 HL1 HL2 HM0
      generalize mergeL l1 l2 = D at *
      generalize errL l2 = z at *
      have hzb : (z != 0) = true := by simpa using he2
      go_enter Try.func6, Try.ntmps6
      go_wp2_with fail
      refine (HC1.out w (Below.refl _ _)).mono ?_
      rintro e w1 ⟨rfl, hb⟩
      have HB1 := Lib.hid hb
      clear hb HC1
      go_wp2_with fail
      refine (HC2.out w1 HB1.out).mono ?_
      rintro e w2 ⟨rfl, hb⟩
      have HB2 := Lib.hid (HB1.out.trans (hb.mono HB1.out.size))
      clear hb HB1 HC2
      go_wp2_with fail
      go_ret2
      exact ⟨⟨_, rfl, by first | exact World.ownsRow_nil _ _ _ _ | (rw [if_neg he2]; exact World.ownsRow_nil _ _ _ _)⟩, HB2.out⟩
  · have he : errM l1 l2 = errL l1 := by unfold errM; rw [if_neg he1]
    rw [he]
    clear he HL1 HL2 HM0 HC2
    generalize mergeL l1 l2 = D at *
    generalize errL l1 = z at *
    have hzb : (z != 0) = true := by simpa using he1
    have hze : (z == 0) = false := by simpa using he1
    go_enter Try.func6, Try.ntmps6
    go_wp2_with fail
    refine (HC1.out w (Below.refl _ _)).mono ?_
    rintro e w1 ⟨rfl, hb⟩
    have HB1 := Lib.hid hb
    clear hb HC1
    go_wp2_with fail
    go_ret2
    exact ⟨⟨_, rfl, by first | exact World.ownsRow_nil _ _ _ _ | (rw [if_neg he1]; exact World.ownsRow_nil _ _ _ _)⟩, HB1.out⟩
end Go.Proofs.Ytofenjloieagaaa
