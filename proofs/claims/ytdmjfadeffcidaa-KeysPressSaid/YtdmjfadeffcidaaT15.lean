
/- KeysPress. -/
import Derived.Test.YtdmjfadeffcidaaT14
namespace Go.Proofs.Ytdmjfadeffcidaa
open Go.RowKit Go.ChangeShapes Go.WideShapes Go.ChangeAt Go.Deep
set_option linter.unusedSimpArgs false
set_option linter.unusedVariables false
set_option maxRecDepth 100000

theorem info_int : (Try.prog.info? 3).map (fun i => (i.zero, i.size, i.bytes)) = some (some (.int .i64 0), 1, 8) := by kernel_rfl
theorem NsAt.cells {w : World} {B : Nat} {A : Option Addr} {l : List Int} (h : NsAt w B A l) {ad : Addr} (hA : A = some ad) : ∀ j u, (l.map (Value.int .i64))[j]? = some u → w.cell? (ad.add j) = some u := by
  intro j u hu
  have hj : j < l.length := by
    have := (List.getElem?_eq_some_iff.1 hu).1
    simpa using this
  obtain ⟨b, o, h1, _, h3⟩ := h.at_ (by omega)
  rw [hA] at h1
  obtain rfl := Option.some.inj h1
  have hadd : (⟨b, o, none⟩ : Addr).add j = ⟨b, o + j, none⟩ := by unfold Addr.add; split <;> simp_all
  rw [hadd, h3 j hj]
  simp [hj] at hu
  rw [← hu]
  simp [List.getD_eq_getElem?_getD, hj]

/-- Ints appended to a row of the call's own that is empty. -/
theorem wpList_append_is {w : World} {ops : Array Oper} {rest : List Oper} {o : Oper} {a : Act} {Q : Exit → Act → World → Prop} (hg : o.guard = none) (s x : Operand) (t : TypeId)
    (hop : o.op = Op.call { callee := Callee.builtin Builtin.append, args := #[s, x], argTypes := #[t, t] }) (h1 : Try.prog.underlying t = some (.slice 3))
    (base : Nat) (v : Value) (hs : a.eval s = v) (hown : w.ownsRow base 3 1 v 0 []) (B : Nat) (A : Option Addr) (c : Nat) (l : List Int) (hx : a.eval x = .slice A l.length c) (hy : NsAt w B A l) (hn : A = none → c = 0)
    (b1 : l.length ≤ 1000000) (hbase : base ≤ w.heap.size)
    (hK : ∀ v' w', w'.ownsRow base 3 1 v' l.length (l.map (Value.int .i64)) → w.grownBy w' v.ownBlock → wpList Try.prog ops Q rest (a.put o.dst v') w') :
    wpList Try.prog ops Q (o :: rest) a w := by
  obtain ⟨i0, hi, hz0, hz1, hz2⟩ := info_parts info_int
  cases hA : A with
  | none =>
    have hl : l = [] := by
      by_cases h0 : 0 < l.length
      · obtain ⟨b, o, e, _⟩ := hy.at_ h0
        rw [hA] at e; cases e
      · exact List.eq_nil_of_length_eq_zero (by omega)
    refine wpList_append_own_none hg s x t hop base 3 i0 1 h1 hi v 0 [] hs hown (by rw [hx, hA, hl, hn hA]; rfl) ?_
    exact hK v w (by rw [hl]; exact hown) (World.grownBy.refl _ _)
  | some ad =>
    refine wpList_append_own w hg s x t hop base 3 i0 _ 1 8 h1 hi hz0 hz1 hz2 rfl (by decide) v 0 [] hs hown ad l.length c (l.map (Value.int .i64)) (by rw [hx, hA]) (by simp) (hy.cells hA) (fun u hu => by obtain ⟨y, _, rfl⟩ := List.mem_map.1 hu; rfl) (by unfold maxLen; omega) (by omega) hbase ?_
    intro v' w' q1 q2 _
    refine hK v' w' ?_ q2
    simpa using q1

theorem open_ints {H : Type} {enc : TypeId × Value → H} {W : World} {a : Option Addr} {len cap : Nat} {d : DataW H} {p : List MemPlace}
    (h : DataW.Trod enc Try.prog W 0 (fun _ => true) true 39 (.slice a len cap) d p) : ∃ xs : List Int, len = xs.length ∧ (NsAt W W.heap.size a xs ∧ len ≤ cap ∧ cap ≤ maxLen ∧ (a = none → cap = 0)) := by
  obtain ⟨fuel, hf⟩ := h
  have hC : Try.prog.cellsOf 3 = 1 := by kernel_rfl
  rcases open_slice Try.underlying39 hf with ⟨hcs, _⟩ | ⟨x, l, c, m, n, D, Pl, hcs, _, hl, hm, hmm, _, hi⟩
  · simp [Value.cells] at hcs
    obtain ⟨rfl, rfl, rfl⟩ := hcs
    exact ⟨[], rfl, ⟨fun h => absurd h (by simp)⟩, Nat.le_refl _, Nat.zero_le _, fun _ => rfl⟩
  · simp [Value.cells] at hcs
    obtain ⟨rfl, rfl, rfl⟩ := hcs
    have key : ∀ i, i < len → ∃ s : Int, W.cell? (x.add i) = some (.int .i64 s) := fun i hil => by
      have him : i < m := by
        have := hmm
        split at this <;> omega
      obtain ⟨cs', hc, ht⟩ := hi i him
      rw [hC] at hc
      obtain ⟨_, hcl, hat⟩ := World.cells?_some hc
      match cs', hcl with
      | [c0], _ =>
      obtain ⟨s, e0, _⟩ := DataW.trod_int Try.underlying3 ht
      simp at e0
      subst e0
      have h0 := hat 0 (by decide)
      refine ⟨s, ?_⟩
      simpa [Addr.add] using h0
    obtain ⟨ps, hll, hp⟩ := list_pick 0 len key
    refine ⟨ps, hll.symm, ⟨fun h0 => ?_⟩, hl, hm, fun h => (by cases h)⟩
    have h00 := hp 0 (by rw [← hll]; exact h0)
    have hspot : x.spot = none := by simpa [Addr.add] using World.cell?_spot h00
    obtain ⟨b, o, sp⟩ := x
    obtain rfl : sp = none := hspot
    refine ⟨b, o, rfl, ?_, fun i hil => ?_⟩
    · have h01 : W.cell? ⟨b, o, none⟩ = some (.int .i64 (ps.getD 0 0)) := by simpa [Addr.add] using h00
      exact World.block_lt_of_cell? _ _ h01
    · have := hp i (by rw [← hll]; exact hil)
      rwa [Addr.add_lit] at this

set_option maxHeartbeats 4000000 in
theorem walk_KeysPress (w : World) (t : Int) (wt : (Lit.int .i64 t).wf = true) (u : Int) (wu : (Lit.int .i64 u).wf = true) (A : Option Addr) (c n : Nat) (ks : List Int) (hn : n = ks.length) (hk : NsAt w w.heap.size A ks ∧ n ≤ c ∧ c ≤ maxLen ∧ (A = none → c = 0)) :
    Calls Try.prog 5 #[.int .i64 t, .int .i64 u, .slice A n c] w fun e w' => e = .returned (.bool true) ∧ Below w.heap.size w w' := by
  subst hn
  obtain ⟨hk, h1, h2, h3⟩ := hk
  have h4 : ks.length ≤ maxLen := by omega
  unfold maxLen at h4 h2
  have HL := Lib.hid (fun w => lives17_any w)
  by_cases hlong : 60 < ks.length
  · clear hk h3
    go_enter Try.func5, Try.ntmps5
    go_wp2_with fail
    refine (HL.out w).mono ?_
    rintro e w1 ⟨rfl, hb⟩
    go_wp2_with fail
    go_ret
    exact ⟨rfl, hb⟩
  · have HP := Lib.hid (fun (w1 : World) (A1 : Option Addr) (c1 : Nat) (hx : NsAt w1 w1.heap.size A1 ks) => press_any w1 A1 c1 ks t u hx (by unfold maxLen; omega))
    have HR := Lib.hid (fun (w1 : World) (hx : NsAt w1 w1.heap.size A ks) => rpress_any w1 A c ks t u hx (by omega))
    have HT := Lib.hid (fun (w1 : World) (A1 A2 : Option Addr) (c1 c2 : Nat) (m : List Tc) (hx : TsAt w1 w1.heap.size A1 m) (hy : TsAt w1 w1.heap.size A2 m) (hl : m.length ≤ maxLen) => touches_any w1 A1 A2 c1 c2 m m hx hy hl)
    have HPl := Lib.hid (pressL_len t u ks)
    have HKs := Lib.hid hk
    have HN := Lib.hid h3
    clear hk h3
    generalize errL (pressL t u ks) = er at *
    generalize pressL t u ks = pl at *
    have HM : Hid ((if er = 0 then pl else []).length ≤ maxLen) := Lib.hid (by
      have := HPl.out
      unfold maxLen
      split
      · omega
      · simp)
    unfold ListE at HP HR
    generalize (if er = 0 then pl else []) = m at *
    go_enter Try.func5, Try.ntmps5
    go_wp2_with fail
    refine (HL.out w).mono ?_
    rintro e w1 ⟨rfl, hb⟩
    have HB1 := Lib.hid hb
    clear hb HL
    go_wp2_with (at_builtin; refine wpList_append_is rfl (.tmp 19) (.tmp 20) 39 rfl Try.underlying39 w.heap.size _ rfl (ownsRow_base_a (World.ownsRow_made w1 #[] 0 (Nat.le_refl _) (by decide) rfl) HB1.out.size) w.heap.size A c ks rfl ((HKs.out.below HB1.out).below ((Below.refl w1.heap.size w1).alloc (Nat.le_refl _) _ |>.mono HB1.out.size)) HN.out (by omega) (by have := HB1.out.size; simp; omega) ?_; intro v2 w2 hown hg; have HO2 := Lib.hid hown; have HB2 := Lib.hid ((HB1.out.alloc HB1.out.size (.cells #[] 3)).grown hg (by have := HB1.out.size; simp; omega) (fun k hk => by obtain rfl := Option.some.inj hk; exact HB1.out.size)); clear hown hg)
    obtain ⟨A2, c2, rfl⟩ := row_shape HO2.out
    have HN2 := Lib.hid (NsAt.own HO2.out)
    clear HO2 HB1
    refine (HP.out w2 A2 c2 HN2.out).mono ?_
    rintro e w3 ⟨⟨v3, rfl, ho⟩, hb⟩
    obtain ⟨A3, c3, rfl, -, -, -⟩ := ho.shape0
    have HO3 := Lib.hid ho.ts
    have HB3 := Lib.hid (HB2.out.trans (hb.mono HB2.out.size))
    have HK3 := Lib.hid ((HKs.out.below HB3.out).more HB3.out.size)
    clear ho hb HN2 HB2 HP
    go_wp2_with fail
    refine (HR.out w3 HK3.out).mono ?_
    rintro e w4 ⟨⟨v4, rfl, ho⟩, hb⟩
    obtain ⟨A4, c4, rfl, -, -, -⟩ := ho.shape0
    have HO4 := Lib.hid ho.ts
    have HO34 := Lib.hid (HO3.out.on hb hb.size)
    have HB4 := Lib.hid (HB3.out.trans (hb.mono HB3.out.size))
    clear ho hb HO3 HB3 HR
    go_wp2_with fail
    refine (HT.out w4 A3 A4 c3 c4 m HO34.out HO4.out HM.out).mono ?_
    rintro e w5 ⟨rfl, hb⟩
    have HB5 := Lib.hid (HB4.out.trans (hb.mono HB4.out.size))
    clear hb HB4 HT
    go_wp2_with fail
    go_ret
    exact ⟨by simp, HB5.out⟩
end Go.Proofs.Ytdmjfadeffcidaa
