
/- Package bank: Patches, walked. -/
import Derived.Test.YtflbedomkeophaaSV
namespace Go.Proofs.Ytflbedomkeophaa
open Go.RowKit
set_option linter.unusedSimpArgs false
set_option linter.unusedVariables false
set_option maxRecDepth 100000

/-- A list of the call's own appended to another. -/
theorem w_append_ops {w : World} {ops : Array Oper} {rest : List Oper} {o : Oper} {a : Act} {Q : Exit → Act → World → Prop} (hg : o.guard = none) (s x : Operand)
    (hop : o.op = Op.call { callee := Callee.builtin Builtin.append, args := #[s, x], argTypes := #[30, 30] })
    (B : Nat) (v u : Value) (ps qs : List Pt) (hs : a.eval s = v) (hx : a.eval x = u) (hv : OPs w B v ps) (hu : OPs w B u qs) (b1 : ps.length + qs.length ≤ 1000000) (hB : B ≤ w.heap.size)
    (hK : ∀ v' w', OPs w' B v' (ps ++ qs) → w.grownBy w' v.ownBlock → wpList Try.prog ops Q rest (a.put o.dst v') w') : wpList Try.prog ops Q (o :: rest) a w := by
  obtain ⟨i, hi, hz0, hz1, hz2⟩ := info_parts info_patch
  rcases hu.row.2 with ⟨e1, e2⟩ | ⟨g, cap, cur, e1, hb, hgg, hn, hm, hs2, ht⟩
  · subst e1
    obtain rfl : qs = [] := List.eq_nil_of_length_eq_zero e2
    have hrun := run_append_owned_none (P := Try.prog) w B 30 o.type 29 i 3 Try.underlying30 hi _ _ _ hv.row
    refine wpList_plain hg fun K hK2 => ?_
    have := hK v w (by rw [List.append_nil]; exact hv) (World.grownBy.refl _ _)
    unfold Oper.wp
    simp [execOp, hop, resolve, invoke, builtin, hs, hx, hrun, Result.andThen]
    exact hK2 _ _ this
  · subst e1
    have hc : ∀ j u, (cellsP qs)[j]? = some u → w.cell? ((⟨g, 0, none⟩ : Addr).add j) = some u := hu.row.cells rfl
    refine w_append hg s x 30 hop B 29 i _ 3 40 Try.underlying30 hi hz0 hz1 hz2 rfl (by decide) v ps.length (cellsP ps) hs hv.row ⟨g, 0, none⟩ qs.length cap (cellsP qs) hx (cellsP_len qs) hc (cellsP_one qs) (by unfold maxLen; omega) (by omega) hB fun v' w' ho hg' => ?_
    exact hK v' w' (hv.pushed hu.own ho hg') hg'
theorem MC.below {w w' : World} {P : Nat → Prop} {x : Mo} {v : Value} (h : MC w P x v) (hb : Below w.heap.size w w') : MC w' P x v := h.other (gw_below hb none) (fun k e => by cases e)

set_option maxHeartbeats 4000000 in
theorem patches_any (w : World) (P : Nat → Prop) (x : Mo) (vs : Value) (h : MC w P x vs) :
    Calls Try.prog 17 #[ptrV x.m] w (PatTo w w.heap.size (pats x.L)) := by
  have HM := Lib.hid (made_mem _ P x _ h)
  obtain ⟨-, -, c3, -, -⟩ := h.page
  have HH := Lib.hid h
  have HS0 : Hid (Sw w w 0 0 [] (.slice none 0 0) [] []) := ⟨OPs.nil _ _, rfl, (fun x hx => by cases hx), Below.refl _ _⟩
  clear h
  unfold ptrV at HM ⊢
  go_enter Try.func17, Try.ntmps17
  go_wp2_with (go_at_call 26; (with_reducible refine HM.out.mono ?_); rintro e w' ⟨rfl, rfl⟩)
  go_loopw [3, 14] (fun v i wr => ∃ (k : Nat) (ps : List Pt), i = .int .i64 k ∧ k ≤ 12 ∧ Hid (Sw w wr 0 0 [] v ps (patsK x.L k))) (fun _ i _ => 12 - (intOf i).toNat)
  case atStart => exact ⟨0, [], rfl, by omega, HS0⟩
  case round =>
    rename World => wr
    obtain ⟨k, ps, rfl, hk, HS⟩ := hrel
    by_cases hlt : k < 12
    · have hmr := HH.out.below HS.out.bel
      have d1 := hmr.bs k hlt
      have HST := Lib.hid (stretches_any wr k (x.gs k) (x.L k) hlt (hmr.bk k hlt) (hmr.len k hlt) (hmr.all k hlt))
      have hpk := patsK_few x.L HH.out.len k hk
      have hpk1 := patsK_few x.L HH.out.len (k + 1) (by omega)
      have HSU := Lib.hid (patsK_succ x.L k)
      have hps : ps.length ≤ 98304 := by
        have h1 := congrArg List.length HS.out.data
        rw [List.length_map] at h1
        omega
      have hbk : (bankP k (x.L k)).length ≤ 98304 := by
        rw [HSU.out, List.length_append] at hpk1
        omega
      clear hmr hpk hpk1
      unfold ptrV at d1
      have hws := HS.out.bel.size
      go_wp2_with (first
        | (at_builtin; refine w_append_ops rfl (.tmp 19) (.tmp 22) rfl w.heap.size _ u ps qs rfl rfl HV.out HU.out (by omega) (by omega) ?_; intro v' w8 ho8 hg8; have HO8 := Lib.hid ho8; have HG8 := Lib.hid hg8; clear ho8 hg8)
        | (go_at_call 31; (with_reducible refine HST.out.mono ?_); rintro e w1 ⟨u, qs, rfl, hu, hqd, hqg, hb1⟩; have HU := Lib.hid (hu.mono hws); have HV := Lib.hid (HS.out.ops.below hb1); have hs1 := hb1.size; have hql : qs.length ≤ 98304 := (by { have h7 := congrArg List.length hqd; rw [List.length_map] at h7; omega }); have HB1 := Lib.hid hb1; have HQD := Lib.hid hqd; have HQG := Lib.hid hqg; clear hu hb1 hqd hqg))
      have hbw := HS.out.bel.trans (HB1.out.mono hws)
      have HF := Lib.hid (show Sw w w8 0 0 [] v' (ps ++ qs) (patsK x.L (k + 1)) from ⟨HO8.out, by rw [List.map_append, HS.out.data, HQD.out, HSU.out], fun y hy => by
        rcases List.mem_append.1 hy with h1 | h1
        · exact HS.out.good y h1
        · exact HQG.out y h1, hbw.grown HG8.out hbw.size (fun k e => (HV.out.row.lt k e).1)⟩)
      exact ⟨⟨k + 1, _, by go_num, by omega, HF⟩, by simp [intOf]; omega⟩
    · obtain rfl : k = 12 := by omega
      go_wp2_with fail
      go_ret
      exact ⟨_, ps, rfl, HS.out.ops, HS.out.data, HS.out.good, HS.out.bel⟩
end Go.Proofs.Ytflbedomkeophaa
