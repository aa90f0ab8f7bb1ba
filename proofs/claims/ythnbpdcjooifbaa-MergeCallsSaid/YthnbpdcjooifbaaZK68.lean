/-  -/
import Derived.Test.YthnbpdcjooifbaaJ13
import Derived.Test.YthnbpdcjooifbaaJ14
import Derived.Test.YthnbpdcjooifbaaZK51
import Derived.Test.YthnbpdcjooifbaaZK39
import Derived.Test.YthnbpdcjooifbaaJ20
namespace Go.Proofs.Ythnbpdcjooifbaa
open Go.RowKit
set_option linter.unusedSimpArgs false
set_option linter.unusedVariables false

def RMergeTo (w : World) (L : List Ls) (e : Ending) (w' : World) : Prop :=
  Below w.heap.size w w' ∧
  ((errs L ≠ 0 ∧ e = nilE (errs L)) ∨ (errs L = 0 ∧ 4194304 < (allOf L).length ∧ e = nilE 3) ∨ (errs L = 0 ∧ (allOf L).length ≤ 4194304 ∧ ¬ (allOf L).Nodup ∧ e = nilE 2) ∨
   (errs L = 0 ∧ (allOf L).length ≤ 4194304 ∧ (allOf L).Nodup ∧ ∃ y : Ls, y.l.Pairwise (Hp.lt' ole) ∧ y.l.Perm (allOf L) ∧ e = .returned (.tuple #[y.val, .int .i64 0]) ∧ LsAt w' w'.heap.size y))

theorem rmchk_any (w : World) (x : Ls) (h : LsAt w w.heap.size x) : Calls Try.prog 26 #[x.val] w fun e w' => e = .returned (.int .i64 (chk x.l)) ∧ Below w.heap.size w w' :=
  (rmcheck_any w x h).mono fun e w' hc => hc.chk

/-- The list that is being built: nil, or a block of its own. -/
def Built (w : World) (P : List Ev) (v : Value) (wx : World) : Prop :=
  ∃ M : List Ev, M.Pairwise ole ∧ M.Perm P ∧ Below w.heap.size w wx ∧ ((M = [] ∧ v = .slice none 0 0) ∨ ∃ g c, v = .slice (some ⟨g, 0, none⟩) M.length c ∧ 0 < M.length ∧ LsAt wx wx.heap.size ⟨some ⟨g, 0, none⟩, c, M⟩)
theorem Built.later {w wx wy : World} {P : List Ev} {v : Value} (h : Built w P v wx) (hb : Below wx.heap.size wx wy) : Built w P v wy := by
  obtain ⟨M, h1, h2, h3, h4⟩ := h
  refine ⟨M, h1, h2, h3.trans (hb.mono h3.size), ?_⟩
  rcases h4 with h4 | ⟨g, c, h5, h6, h7⟩
  · exact .inl h4
  · exact .inr ⟨g, c, h5, h6, (h7.keep hb.block).more hb.size⟩

theorem save_grown {S : Nat → Prop} {N : Nat} {w w' : World} {row : Option Nat} (hS : ∀ i, S i ↔ N ≤ i) (g : w.grownBy w' row) (hr : ∀ k, row = some k → N ≤ k) : Save S w w' :=
  ⟨g.os, g.tape, g.output, g.size, fun k hk hs => g.block k hk (fun e => hs ((hS k).2 (hr k e.symm)))⟩
theorem ev_keep {w w' : World} {q : Nat} {e : Ev} {row : Option Nat} (h : LsAt w (q + 1) ⟨some ⟨q, 0, none⟩, 1, [e]⟩) (g : w.grownBy w' row) (hr : row ≠ some q) (hq : q < w.heap.size) : LsAt w' (q + 1) ⟨some ⟨q, 0, none⟩, 1, [e]⟩ := by
  obtain ⟨b, o, h1, h2, h3⟩ := h.at_ (show 0 < 1 by decide)
  obtain ⟨rfl, rfl⟩ : q = b ∧ 0 = o := by simpa using h1
  exact ⟨h.le, h.cap, fun h0 => ⟨q, 0, rfl, h2, fun i hi => (h3 i hi).keep (g.block q hq (fun e => hr e.symm))⟩⟩
theorem built_of_own {w : World} {base : Nat} {v : Value} {M : List Ev} (h : w.ownsRow base 23 6 v M.length (rowV M)) (h0 : 0 < M.length) : ∃ g c, v = .slice (some ⟨g, 0, none⟩) M.length c ∧ LsAt w w.heap.size ⟨some ⟨g, 0, none⟩, c, M⟩ := by
  rcases h.2 with ⟨_, h2⟩ | ⟨g, cap, cur, e1, e2, e3, e4⟩
  · omega
  · subst e1
    have h3 := own_ls h M.length (Nat.le_refl _)
    rw [List.take_length] at h3
    exact ⟨g, cap, rfl, h3⟩
theorem all_may {L : List Ls} (h : ∀ i, i < L.length → chk (L.getD i Ls.none).l = 0) : ∀ e ∈ allOf L, e.May := by
  intro e he
  unfold allOf at he
  obtain ⟨l, hl, hel⟩ := List.mem_flatten.1 he
  obtain ⟨x, hx, rfl⟩ := List.mem_map.1 hl
  obtain ⟨i, hi, rfl⟩ := List.getElem_of_mem hx
  have hc := h i hi
  have hi2 : L.getD i Ls.none = L[i] := by rw [List.getD_eq_getElem?_getD, List.getElem?_eq_getElem hi]; rfl
  rw [hi2] at hc
  obtain ⟨j, hj, rfl⟩ := List.getElem_of_mem hel
  have h3 := (chk_good hc).1.1 j hj
  have hj2 : L[i].l.getD j evZ = L[i].l[j] := by rw [List.getD_eq_getElem?_getD, List.getElem?_eq_getElem hj]; rfl
  rw [hj2] at h3
  exact h3

set_option maxRecDepth 100000 in
set_option maxHeartbeats 8000000 in
theorem rmerge_any (w : World) (c : Nat) (O : Option Addr) (L : List Ls) (h : LL w w.heap.size O c L) (hn : L.length ≤ 1099511627776) :
    Calls Try.prog 16 #[.slice O L.length c] w (RMergeTo w L) := by
  have HL := Lib.hid h
  clear h
  go_enter Try.func16, Try.ntmps16
  go_wp2_with fail
  go_loopw [4, 5] (fun t i wr => ∃ (k : Nat) (T : Int), k ≤ L.length ∧ i = .int .i64 k ∧ t = .int .i64 T ∧ Checked w L k T wr) (fun _ i _ => L.length - (intOf i).toNat)
  case atStart => exact ⟨0, 0, Nat.zero_le _, rfl, rfl, rfl, fun i hi => by omega, Nat.le_refl _, Below.refl _ _⟩
  case round =>
    obtain ⟨k, T, hk, rfl, rfl, rfl, hc, hlen, hb⟩ := hrel
    have HC := Lib.hid hc
    clear hc
    by_cases hlt : k < L.length
    · obtain ⟨b, o, rfl, hb1, hc1⟩ := HL.out.at_ (by omega)
      have hcell : wr.cell? ⟨b, o + k, Option.none⟩ = some (L.getD k Ls.none).val := (World.cell?_of_block (hb.block b hb1)).trans (hc1 k hlt)
      have hmem : L.getD k Ls.none ∈ L := by rw [List.getD_eq_getElem?_getD, List.getElem?_eq_getElem hlt]; exact List.getElem_mem hlt
      have hrow := ((HL.out.rows _ hmem).keep (w' := wr) hb.block).more hb.size
      have htake := all_take hlt
      have hcr := rmchk_any wr _ hrow
      obtain ⟨x, hx⟩ : ∃ x, L.getD k Ls.none = x := ⟨_, rfl⟩
      rw [hx] at hcell hrow htake hcr
      have HX := Lib.hid hx
      have HT := Lib.hid htake
      have HCR := Lib.hid hcr
      unfold Ls.val at hcell HCR
      have hxl := hrow.le
      have hxc := hrow.cap
      unfold maxLen at hxc
      clear htake hcr hx hmem hc1
      generalize hgt : (allOf (L.take k)).length = t at *
      have HG := Lib.hid hgt
      clear hgt
      go_wp2_with fail
      refine HCR.out.mono ?_
      rintro e w1 ⟨rfl, hb2⟩
      have hb3 : Below w.heap.size w w1 := hb.trans (hb2.mono hb.size)
      have hcell1 : w1.cell? ⟨b, o + k, Option.none⟩ = some (.slice x.A x.l.length x.c) := (World.cell?_of_block (hb2.block b (by have := hb.size; omega))).trans hcell
      clear hb2
      by_cases h0 : chk x.l = 0
      · obtain ⟨_, hxl2⟩ := chk_good h0
        have H0 := Lib.hid h0
        rw [h0]
        clear h0
        go_wp2_with fail
        go_roundw
        case rel =>
          refine ⟨k + 1, _, by omega, by go_num, rfl, ?_, fun i hi => ?_, ?_, hb3⟩
          · rw [HT.out]; omega
          · by_cases e : i = k
            · subst e; rw [HX.out]; exact H0.out
            · exact HC.out i (by omega)
          · rw [HT.out]; omega
        case measure => simp [intOf]; omega
      · have hne : (chk x.l != 0) = true := by simpa using h0
        have hne2 : (chk x.l == 0) = false := by simpa using h0
        have H0 := Lib.hid h0
        clear h0
        go_wp2_with fail
        go_ret2
        have := errs_at L k hlt HC.out (by rw [HX.out]; exact H0.out)
        rw [HX.out] at this
        exact ⟨hb3, .inl ⟨by rw [this]; exact H0.out, by rw [this]; rfl⟩⟩
    · obtain rfl : k = L.length := by omega
      have he : errs L = 0 := errs_none L HC.out
      rw [List.take_length] at hlen ⊢
      have HE := Lib.hid he
      clear he hlt hk
      by_cases hlong : 4194304 < (allOf L).length
      · go_wp2_with fail
        go_ret2
        exact ⟨hb, .inr (.inl ⟨HE.out, hlong, rfl⟩)⟩
      · have hT : (allOf L).length ≤ 4194304 := by omega
        clear hlong hlen
        obtain ⟨t, ht⟩ : ∃ t, (allOf L).length = t := ⟨_, rfl⟩
        rw [ht] at hT ⊢
        have HT := Lib.hid ht
        clear ht
        have HB := Lib.hid hb
        have hwsz := hb.size
        go_wp2_with fail
        go_loopw [7, 8] (fun v i wx => ∃ k : Nat, k ≤ L.length ∧ i = .int .i64 k ∧ Built w (allOf (L.take k)) v wx) (fun _ i _ => L.length - (intOf i).toNat)
        case atStart => exact ⟨0, Nat.zero_le _, rfl, [], List.Pairwise.nil, List.Perm.refl _, hb, .inl ⟨rfl, rfl⟩⟩
        case round =>
          clear hb hwsz
          obtain ⟨k, hk, rfl, hbu⟩ := hrel
          by_cases hlt : k < L.length
          · obtain ⟨b, o, rfl, hb1, hc1⟩ := HL.out.at_ (by omega)
            have hcell : w.cell? ⟨b, o + k, Option.none⟩ = some (L.getD k Ls.none).val := hc1 k hlt
            have hmem : L.getD k Ls.none ∈ L := by rw [List.getD_eq_getElem?_getD, List.getElem?_eq_getElem hlt]; exact List.getElem_mem hlt
            have hrow := HL.out.rows _ hmem
            have htake : allOf (L.take (k + 1)) = allOf (L.take k) ++ (L.getD k Ls.none).l := by
              have : L.take (k + 1) = L.take k ++ [L.getD k Ls.none] := by
                rw [List.take_succ_eq_append_getElem hlt, List.getD_eq_getElem?_getD, List.getElem?_eq_getElem hlt]; rfl
              unfold allOf
              rw [this, List.map_append, List.flatten_append]
              simp
            have hck := HC.out k hlt
            obtain ⟨x, hx⟩ : ∃ x, L.getD k Ls.none = x := ⟨_, rfl⟩
            rw [hx] at hcell hrow htake hck
            have hxlen : x.l.length ≤ 4194304 := (chk_good hck).2
            obtain ⟨P, hP⟩ : ∃ P, allOf (L.take k) = P := ⟨_, rfl⟩
            rw [hP] at hbu htake
            have hPl : (P ++ x.l).length ≤ 4194304 := by
              rw [← htake]
              have h9 : (allOf (L.take (k + 1))).length ≤ (allOf L).length := by
                have h8 : L = L.take (k + 1) ++ L.drop (k + 1) := (List.take_append_drop _ _).symm
                have h7 : allOf L = allOf (L.take (k + 1)) ++ allOf (L.drop (k + 1)) := by
                  unfold allOf
                  rw [← List.flatten_append, ← List.map_append, ← h8]
                rw [h7, List.length_append]; omega
              have := HT.out
              omega
            have HTK := Lib.hid htake
            have HCELL := Lib.hid (show ∀ W, Below w.heap.size w W → W.cell? ⟨b, o + k, Option.none⟩ = some (.slice x.A x.l.length x.c) from fun W hW => (World.cell?_of_block (hW.block b hb1)).trans hcell)
            have HROW := Lib.hid hrow
            have HPL := Lib.hid hPl
            have hxc := hrow.cap
            have hxl := hrow.le
            unfold maxLen at hxc
            have hbw : Below w.heap.size w wr := by obtain ⟨_, _, _, h, _⟩ := hbu; exact h
            have hcw := HCELL.out wr hbw
            have HBU := Lib.hid hbu
            clear htake hcell hrow hck hx hmem hc1 hPl hP hbw hbu
            go_wp2_with fail
            go_loopw [7, 9] (fun v j wx => ∃ m : Nat, m ≤ x.l.length ∧ j = .int .i64 m ∧ Built w (P ++ x.l.take m) v wx) (fun _ j _ => x.l.length - (intOf j).toNat)
            case atStart => exact ⟨0, Nat.zero_le _, rfl, by simpa using HBU.out⟩
            case round =>
              clear HBU hcw
              obtain ⟨m, hm, rfl, hbu⟩ := hrel
              have hbw : Below w.heap.size w wr := by obtain ⟨_, _, _, h, _⟩ := hbu; exact h
              have hcw := HCELL.out wr hbw
              by_cases hltm : m < x.l.length
              · obtain ⟨bx, ox, hxA, hbx1, hxat⟩ := HROW.out.at_ (by omega)
                have hev := hxat m hltm
                obtain ⟨e, he⟩ : ∃ e, x.l.getD m ⟨0, 0, 0, 0, 0, 0⟩ = e := ⟨_, rfl⟩
                rw [he] at hev
                have hsn : P ++ x.l.take (m + 1) = P ++ x.l.take m ++ [e] := by
                  rw [List.take_succ_eq_append_getElem hltm, ← he, List.getD_eq_getElem?_getD, List.getElem?_eq_getElem hltm, List.append_assoc]; rfl
                obtain ⟨M, hs, hp, hbx, hform⟩ := hbu
                have hMl : M.length + 1 ≤ 4194304 := by
                  have h1 := hp.length_eq
                  have h2 := HPL.out
                  rw [List.length_append, List.length_take] at h1
                  rw [List.length_append] at h2
                  omega
                have HSN := Lib.hid hsn
                have HS := Lib.hid hs
                have HP := Lib.hid hp
                have HBX := Lib.hid hbx
                have HEV := Lib.hid (show ∀ W, Below w.heap.size w W → EvAt W bx (ox + m * 6) e from fun W hW => hev.keep (hW.block bx hbx1))
                rw [hxA] at hcw
                have HCELL2 := Lib.hid (show ∀ W, Below w.heap.size w W → W.cell? ⟨b, o + k, Option.none⟩ = some (.slice (some ⟨bx, ox, Option.none⟩) x.l.length x.c) from fun W hW => hxA ▸ HCELL.out W hW)
                clear hsn hs hp hbx hev hxat he hbw
                obtain ⟨W0, hW0⟩ : ∃ W0 : World, W0 = wr := ⟨_, rfl⟩
                subst hW0
                have hbsz := HBX.out.size
                rcases hform with ⟨hM0, rfl⟩ | ⟨g, c, rfl, hMp, hat⟩
                · subst hM0
                  go_wp2_with fail
                  go_loopw [10] (fun a wx => a = .int .i64 0 ∧ Below W0.heap.size W0 wx) (fun a _ => (intOf a).toNat)
                  case atStart => exact ⟨rfl, Below.refl _ _⟩
                  case round =>
                    obtain ⟨rfl, hbl⟩ := hrel
                    go_upto_region 19 with fail
                    refine Proofs.Ythnbpdcjooifbaa.L.region_ (fun _ => False) (by kernel_rfl) ?_
                    refine Proofs.Ythnbpdcjooifbaa.L.seg_ [0, 1, 2, 3, 4, 5, 6, 7, 8, 9, 10, 11, 12, 13, 14, 15, 16, 17] 0 _ (by kernel_rfl) (by kernel_rfl) (by kernel_rfl) (by simp only [pickOps, mask, plain, List.getElem?_toArray, List.getElem?_cons_zero, List.getElem?_cons_succ, if_true, Bool.false_eq_true, if_false]; rfl) ?_
                    repeat (go_big_quiet_step (fail))
                    refine wpQuiet_nil ?_
                    refine Proofs.Ythnbpdcjooifbaa.L.end_ (by kernel_rfl) ?_
                    intro wc sc
                    have hbc : Below W0.heap.size W0 wc := hbl.trans (sc.all.mono hbl.size)
                    clear sc hbl
                    have HBC := Lib.hid hbc
                    have hbcz := hbc.size
                    have hbW : Below w.heap.size w wc := HBX.out.trans (hbc.mono hbsz)
                    obtain ⟨q0, q1, q2, q3, q4, q5⟩ := HEV.out wc hbW
                    have qc := HCELL2.out wc hbW
                    obtain ⟨S, hS⟩ : ∃ S : Nat → Prop, ∀ i, S i ↔ wc.heap.size ≤ i := ⟨fun i => wc.heap.size ≤ i, fun _ => Iff.rfl⟩
                    have hnS : ∀ i, i < w.heap.size → ¬ S i := fun i hi h => by have := (hS i).1 h; omega
                    have d0 := fun p : Later S wc => p.cell q0 (hnS _ hbx1)
                    have d1 := fun p : Later S wc => p.cell q1 (hnS _ hbx1)
                    have d2 := fun p : Later S wc => p.cell q2 (hnS _ hbx1)
                    have d3 := fun p : Later S wc => p.cell q3 (hnS _ hbx1)
                    have d4 := fun p : Later S wc => p.cell q4 (hnS _ hbx1)
                    have d5 := fun p : Later S wc => p.cell q5 (hnS _ hbx1)
                    have dc := fun p : Later S wc => p.cell qc (hnS _ hb1)
                    have HSS := Lib.hid hS
                    clear q0 q1 q2 q3 q4 q5 qc hbW hbc hnS hS
                    go_upto_region 21 with fail
                    refine region_ S (by kernel_rfl) ?_
                    refine seg_ [1, 2, 3, 5, 6, 7, 8, 9, 10, 11, 14, 15, 16] 6 _ (by kernel_rfl) (by kernel_rfl) (by kernel_rfl) (by simp only [pickOps, mask, plain, List.getElem?_toArray, List.getElem?_cons_zero, List.getElem?_cons_succ, if_true, Bool.false_eq_true, if_false]; rfl) ?_
                    repeat (go_big_quiet_step (fail))
                    refine wpQuiet_nil ?_
                    clear d0 d1 d2 d3 d4 d5 dc
                    obtain ⟨Y1, hY1⟩ : ∃ Y1 : Ls, Ls.none = Y1 := ⟨_, rfl⟩
                    obtain ⟨Y2, hY2⟩ : ∃ Y2 : Ls, Ls.none = Y2 := ⟨_, rfl⟩
                    have hv1 : Value.slice none 0 0 = Y1.val := by rw [← hY1]; rfl
                    have hv2 : Value.slice none 0 0 = Y2.val := by rw [← hY2]; rfl
                    have hn1 : Y1.A = none → Y1.c = 0 := by rw [← hY1]; exact fun _ => rfl
                    have hn2 : Y2.A = none → Y2.c = 0 := by rw [← hY2]; exact fun _ => rfl
                    have hlY : (Y1.l ++ [e] ++ Y2.l) = put [] e 0 := by rw [← hY1, ← hY2]; rfl
                    have hlY1 : Y1.l.length + 1 + Y2.l.length = 1 := by rw [← hY1, ← hY2]; rfl
                    have HY1 := Lib.hid (show ∀ W, Below wc.heap.size wc W → LsAt W W0.heap.size Y1 from fun W hW => by rw [← hY1]; exact ⟨Nat.le_refl _, by decide, fun h => absurd h (by decide)⟩)
                    have HY2 := Lib.hid (show ∀ W, Below wc.heap.size wc W → LsAt W W0.heap.size Y2 from fun W hW => by rw [← hY2]; exact ⟨Nat.le_refl _, by decide, fun h => absurd h (by decide)⟩)
                    have HLY := Lib.hid hlY
                    have HV1 := Lib.hid hv1
                    have HV2 := Lib.hid hv2
                    clear hY1 hY2 hlY hv1 hv2
                    have HPA := Lib.hid (Past.all [] e)
                    have HZ0 := Lib.hid (show (0 = 0 ∨ ¬ 0 < ordE ([].getD (0 - 1) evZ) e) from .inl rfl)
                    have bz0 : Below wc.heap.size wc wc := Below.refl _ _
                    refine fork_ (i := 0) (j := 12) rfl rfl (by kernel_rfl) (by kernel_rfl) (by kernel_rfl) ?_ ?_
                    · intro n1
                      have hd1 := Save.drawn S wc n1
                      have bq1 : Below wc.heap.size wc { wc with drawn := n1 } := bz0.trans ((Save.drawn (fun _ => False) wc n1).all.mono bz0.size)
                      have sz1 : ({ wc with drawn := n1 } : World).heap.size = wc.heap.size := rfl
                      generalize ({ wc with drawn := n1 } : World) = Q1 at *
                      unfold Oper.does
                      go_simp
                      refine same_ hd1 (Save.of_below ((Below.refl _ _).alloc (Nat.le_refl _) (.cells #[] 23))) ?_
                      have o1 : (Q1.alloc (.cells #[] 23)).ownsRow wc.heap.size 23 6 (.slice (some ⟨Q1.heap.size, 0, none⟩) 0 0) ([] : List Ev).length (rowV []) := World.ownsRow_made Q1 #[] 0 bq1.size (by decide) rfl
                      have b1 := bq1.alloc bq1.size (.cells #[] 23)
                      have z1 : (Q1.alloc (.cells #[] 23)).heap.size = Q1.heap.size + 1 := by simp
                      generalize Q1.alloc (.cells #[] 23) = W1 at *
                      refine fork_ (i := 4) (j := 12) rfl rfl (by kernel_rfl) (by kernel_rfl) (by kernel_rfl) ?_ ?_
                      · intro n2
                        have hd2 := Save.drawn S W1 n2
                        have bq2 : Below wc.heap.size wc { W1 with drawn := n2 } := b1.trans ((Save.drawn (fun _ => False) W1 n2).all.mono b1.size)
                        have sz2 : ({ W1 with drawn := n2 } : World).heap.size = W1.heap.size := rfl
                        have oq2 : ({ W1 with drawn := n2 } : World).ownsRow wc.heap.size 23 6 (.slice (some ⟨Q1.heap.size, 0, none⟩) 0 0) (([] : List Ev)).length (rowV (([] : List Ev))) := o1
                        generalize ({ W1 with drawn := n2 } : World) = Q2 at *
                        refine does_append_ls (.tmp 71) (.tmp 74) 25 rfl rfl wc.heap.size (.slice (some ⟨Q1.heap.size, 0, none⟩) 0 0) (([] : List Ev)) (by simp [Act.eval, Act.put]) oq2 W0.heap.size Y1 (by rw [← HV1.out]; simp [Act.eval, Act.put]) (HY1.out _ bq2) hn1 (by simp only [List.length_append, List.length_cons, List.length_nil, List.nil_append]; omega) bq2.size ?_
                        intro v2 W2 o2 g2
                        rw [List.nil_append] at o2
                        refine same_ hd2 (save_grown HSS.out g2 (fun j h => (oq2.lt j h).1)) ?_
                        have b2 := bq2.grown g2 bq2.size (fun j h => (oq2.lt j h).1)
                        refine callx_ (i := 12) rfl (by kernel_rfl) (by kernel_rfl) ?_
                        intro n3
                        have hd3 := Save.drawn S W2 n3
                        have bq3 : Below wc.heap.size wc { W2 with drawn := n3 } := b2.trans ((Save.drawn (fun _ => False) W2 n3).all.mono b2.size)
                        have sz3 : ({ W2 with drawn := n3 } : World).heap.size = W2.heap.size := rfl
                        have oq3 : ({ W2 with drawn := n3 } : World).ownsRow wc.heap.size 23 6 v2 (Y1.l).length (rowV (Y1.l)) := o2
                        generalize ({ W2 with drawn := n3 } : World) = Q3 at *
                        unfold Oper.does
                        go_simp
                        refine same_ hd3 (Save.of_below ((Below.refl _ _).alloc (Nat.le_refl _) (evO e))) ?_
                        have b3 := bq3.alloc bq3.size (evO e)
                        have e3 := one_ls Q3 e
                        have z3 : (Q3.alloc (evO e)).heap.size = Q3.heap.size + 1 := by simp
                        have o3 := oq3.alloc (evO e)
                        unfold evO at o3 b3 e3 z3
                        generalize Q3.alloc (.cells #[.int .i64 e.time, .int .i64 e.chip, .int .i64 e.seq, .int .i64 e.kind, .int .i64 e.a, .int .i64 e.b] 23) = W3 at *
                        refine callx_ (i := 13) rfl (by kernel_rfl) (by kernel_rfl) ?_
                        intro n4
                        have hd4 := Save.drawn S W3 n4
                        have bq4 : Below wc.heap.size wc { W3 with drawn := n4 } := b3.trans ((Save.drawn (fun _ => False) W3 n4).all.mono b3.size)
                        have sz4 : ({ W3 with drawn := n4 } : World).heap.size = W3.heap.size := rfl
                        have oq4 : ({ W3 with drawn := n4 } : World).ownsRow wc.heap.size 23 6 v2 (Y1.l).length (rowV (Y1.l)) := o3
                        have eq4 : LsAt ({ W3 with drawn := n4 } : World) (Q3.heap.size + 1) ⟨some ⟨Q3.heap.size, 0, none⟩, 1, [e]⟩ := e3.keep (fun _ _ => rfl)
                        generalize ({ W3 with drawn := n4 } : World) = Q4 at *
                        refine does_append_ls (.tmp 75) (.tmp 83) 25 rfl rfl wc.heap.size v2 (Y1.l) (by simp [Act.eval, Act.put]) oq4 (Q3.heap.size + 1) ⟨some ⟨Q3.heap.size, 0, none⟩, 1, [e]⟩ (by simp [Act.eval, Act.put, Ls.val]) eq4 (fun h => by cases h) (by simp only [List.length_append, List.length_cons, List.length_nil, List.nil_append]; omega) bq4.size ?_
                        intro v4 W4 o4 g4
                        refine same_ hd4 (save_grown HSS.out g4 (fun j h => (oq4.lt j h).1)) ?_
                        have b4 := bq4.grown g4 bq4.size (fun j h => (oq4.lt j h).1)
                        refine callx_ (i := 17) rfl (by kernel_rfl) (by kernel_rfl) ?_
                        intro n5
                        have hd5 := Save.drawn S W4 n5
                        have bq5 : Below wc.heap.size wc { W4 with drawn := n5 } := b4.trans ((Save.drawn (fun _ => False) W4 n5).all.mono b4.size)
                        have sz5 : ({ W4 with drawn := n5 } : World).heap.size = W4.heap.size := rfl
                        have oq5 : ({ W4 with drawn := n5 } : World).ownsRow wc.heap.size 23 6 v4 (Y1.l ++ [e]).length (rowV (Y1.l ++ [e])) := o4
                        generalize ({ W4 with drawn := n5 } : World) = Q5 at *
                        refine does_append_ls (.tmp 84) (.tmp 87) 25 rfl rfl wc.heap.size v4 (Y1.l ++ [e]) (by simp [Act.eval, Act.put]) oq5 W0.heap.size Y2 (by rw [← HV2.out]; simp [Act.eval, Act.put]) (HY2.out _ bq5) hn2 (by simp only [List.length_append, List.length_cons, List.length_nil, List.nil_append]; omega) bq5.size ?_
                        intro v5 W5 o5 g5
                        refine turn_ (S1 := fun _ => False) hd5 (save_grown HSS.out g5 (fun j h => (oq5.lt j h).1)) (fun i hi h => h.elim) ?_
                        have b5 := bq5.grown g5 bq5.size (fun j h => (oq5.lt j h).1)
                        go_simp
                        refine seg_ [18] 0 _ (by kernel_rfl) (by kernel_rfl) (by kernel_rfl) (by simp only [pickOps, mask, plain, List.getElem?_toArray, List.getElem?_cons_zero, List.getElem?_cons_succ, if_true, Bool.false_eq_true, if_false]; rfl) ?_
                        repeat (go_big_quiet_step (fail))
                        refine wpQuiet_nil ?_
                        refine end_ (by kernel_rfl) ?_
                        intro wd sd
                        have hbf := b5.trans (sd.all.mono b5.size)
                        have hof := row_below o5 sd.all (Nat.le_refl _)
                        rw [HLY.out] at hof
                        obtain ⟨g9, c9, hv9, hat9⟩ := built_of_own hof (by rw [put_len]; omega)
                        have HF := Lib.hid (show Built w (P ++ x.l.take (m + 1)) v5 wd from ⟨put [] e 0, put_sorted HS.out HPA.out HZ0.out, (put_perm _ _ _).trans ((HP.out.append_right [e]).trans (by rw [HSN.out])), HBX.out.trans ((HBC.out.trans (hbf.mono hbcz)).mono hbsz), .inr ⟨g9, c9, hv9, by rw [put_len]; omega, hat9⟩⟩)
                        clear hof hv9 hat9 sd hbf
                        go_wp2_with fail
                        go_roundw
                        case rel => exact ⟨m + 1, by omega, by go_num, HF.out⟩
                        case measure => simp [intOf]; omega
                      · intro n6
                        have hd6 := Save.drawn S W1 n6
                        have bq6 : Below wc.heap.size wc { W1 with drawn := n6 } := b1.trans ((Save.drawn (fun _ => False) W1 n6).all.mono b1.size)
                        have sz6 : ({ W1 with drawn := n6 } : World).heap.size = W1.heap.size := rfl
                        have oq6 : ({ W1 with drawn := n6 } : World).ownsRow wc.heap.size 23 6 (.slice (some ⟨Q1.heap.size, 0, none⟩) 0 0) (([] : List Ev)).length (rowV (([] : List Ev))) := o1
                        generalize ({ W1 with drawn := n6 } : World) = Q6 at *
                        unfold Oper.does
                        go_simp
                        refine same_ hd6 (Save.of_below ((Below.refl _ _).alloc (Nat.le_refl _) (evO e))) ?_
                        have b6 := bq6.alloc bq6.size (evO e)
                        have e6 := one_ls Q6 e
                        have z6 : (Q6.alloc (evO e)).heap.size = Q6.heap.size + 1 := by simp
                        have o6 := oq6.alloc (evO e)
                        unfold evO at o6 b6 e6 z6
                        generalize Q6.alloc (.cells #[.int .i64 e.time, .int .i64 e.chip, .int .i64 e.seq, .int .i64 e.kind, .int .i64 e.a, .int .i64 e.b] 23) = W6 at *
                        refine callx_ (i := 4) rfl (by kernel_rfl) (by kernel_rfl) ?_
                        intro n7
                        have hd7 := Save.drawn S W6 n7
                        have bq7 : Below wc.heap.size wc { W6 with drawn := n7 } := b6.trans ((Save.drawn (fun _ => False) W6 n7).all.mono b6.size)
                        have sz7 : ({ W6 with drawn := n7 } : World).heap.size = W6.heap.size := rfl
                        have oq7 : ({ W6 with drawn := n7 } : World).ownsRow wc.heap.size 23 6 (.slice (some ⟨Q1.heap.size, 0, none⟩) 0 0) (([] : List Ev)).length (rowV (([] : List Ev))) := o6
                        have eq7 : LsAt ({ W6 with drawn := n7 } : World) (Q6.heap.size + 1) ⟨some ⟨Q6.heap.size, 0, none⟩, 1, [e]⟩ := e6.keep (fun _ _ => rfl)
                        generalize ({ W6 with drawn := n7 } : World) = Q7 at *
                        refine does_append_ls (.tmp 71) (.tmp 74) 25 rfl rfl wc.heap.size (.slice (some ⟨Q1.heap.size, 0, none⟩) 0 0) (([] : List Ev)) (by simp [Act.eval, Act.put]) oq7 W0.heap.size Y1 (by rw [← HV1.out]; simp [Act.eval, Act.put]) (HY1.out _ bq7) hn1 (by simp only [List.length_append, List.length_cons, List.length_nil, List.nil_append]; omega) bq7.size ?_
                        intro v7 W7 o7 g7
                        rw [List.nil_append] at o7
                        refine same_ hd7 (save_grown HSS.out g7 (fun j h => (oq7.lt j h).1)) ?_
                        have b7 := bq7.grown g7 bq7.size (fun j h => (oq7.lt j h).1)
                        have e7 : LsAt W7 (Q6.heap.size + 1) ⟨some ⟨Q6.heap.size, 0, none⟩, 1, [e]⟩ := ev_keep eq7 g7 (by intro h; have h9 : Q1.heap.size = Q6.heap.size := Option.some.inj h; omega) (by omega)
                        refine callx_ (i := 13) rfl (by kernel_rfl) (by kernel_rfl) ?_
                        intro n8
                        have hd8 := Save.drawn S W7 n8
                        have bq8 : Below wc.heap.size wc { W7 with drawn := n8 } := b7.trans ((Save.drawn (fun _ => False) W7 n8).all.mono b7.size)
                        have sz8 : ({ W7 with drawn := n8 } : World).heap.size = W7.heap.size := rfl
                        have oq8 : ({ W7 with drawn := n8 } : World).ownsRow wc.heap.size 23 6 v7 (Y1.l).length (rowV (Y1.l)) := o7
                        have eq8 : LsAt ({ W7 with drawn := n8 } : World) (Q6.heap.size + 1) ⟨some ⟨Q6.heap.size, 0, none⟩, 1, [e]⟩ := e7.keep (fun _ _ => rfl)
                        generalize ({ W7 with drawn := n8 } : World) = Q8 at *
                        refine does_append_ls (.tmp 75) (.tmp 83) 25 rfl rfl wc.heap.size v7 (Y1.l) (by simp [Act.eval, Act.put]) oq8 (Q6.heap.size + 1) ⟨some ⟨Q6.heap.size, 0, none⟩, 1, [e]⟩ (by simp [Act.eval, Act.put, Ls.val]) eq8 (fun h => by cases h) (by simp only [List.length_append, List.length_cons, List.length_nil, List.nil_append]; omega) bq8.size ?_
                        intro v8 W8 o8 g8
                        refine same_ hd8 (save_grown HSS.out g8 (fun j h => (oq8.lt j h).1)) ?_
                        have b8 := bq8.grown g8 bq8.size (fun j h => (oq8.lt j h).1)
                        refine callx_ (i := 17) rfl (by kernel_rfl) (by kernel_rfl) ?_
                        intro n9
                        have hd9 := Save.drawn S W8 n9
                        have bq9 : Below wc.heap.size wc { W8 with drawn := n9 } := b8.trans ((Save.drawn (fun _ => False) W8 n9).all.mono b8.size)
                        have sz9 : ({ W8 with drawn := n9 } : World).heap.size = W8.heap.size := rfl
                        have oq9 : ({ W8 with drawn := n9 } : World).ownsRow wc.heap.size 23 6 v8 (Y1.l ++ [e]).length (rowV (Y1.l ++ [e])) := o8
                        generalize ({ W8 with drawn := n9 } : World) = Q9 at *
                        refine does_append_ls (.tmp 84) (.tmp 87) 25 rfl rfl wc.heap.size v8 (Y1.l ++ [e]) (by simp [Act.eval, Act.put]) oq9 W0.heap.size Y2 (by rw [← HV2.out]; simp [Act.eval, Act.put]) (HY2.out _ bq9) hn2 (by simp only [List.length_append, List.length_cons, List.length_nil, List.nil_append]; omega) bq9.size ?_
                        intro v9 W9 o9 g9
                        refine turn_ (S1 := fun _ => False) hd9 (save_grown HSS.out g9 (fun j h => (oq9.lt j h).1)) (fun i hi h => h.elim) ?_
                        have b9 := bq9.grown g9 bq9.size (fun j h => (oq9.lt j h).1)
                        go_simp
                        refine seg_ [18] 0 _ (by kernel_rfl) (by kernel_rfl) (by kernel_rfl) (by simp only [pickOps, mask, plain, List.getElem?_toArray, List.getElem?_cons_zero, List.getElem?_cons_succ, if_true, Bool.false_eq_true, if_false]; rfl) ?_
                        repeat (go_big_quiet_step (fail))
                        refine wpQuiet_nil ?_
                        refine end_ (by kernel_rfl) ?_
                        intro wd sd
                        have hbf := b9.trans (sd.all.mono b9.size)
                        have hof := row_below o9 sd.all (Nat.le_refl _)
                        rw [HLY.out] at hof
                        obtain ⟨g9, c9, hv9, hat9⟩ := built_of_own hof (by rw [put_len]; omega)
                        have HF := Lib.hid (show Built w (P ++ x.l.take (m + 1)) v9 wd from ⟨put [] e 0, put_sorted HS.out HPA.out HZ0.out, (put_perm _ _ _).trans ((HP.out.append_right [e]).trans (by rw [HSN.out])), HBX.out.trans ((HBC.out.trans (hbf.mono hbcz)).mono hbsz), .inr ⟨g9, c9, hv9, by rw [put_len]; omega, hat9⟩⟩)
                        clear hof hv9 hat9 sd hbf
                        go_wp2_with fail
                        go_roundw
                        case rel => exact ⟨m + 1, by omega, by go_num, HF.out⟩
                        case measure => simp [intOf]; omega
                    · intro n10
                      have hd10 := Save.drawn S wc n10
                      have bq10 : Below wc.heap.size wc { wc with drawn := n10 } := bz0.trans ((Save.drawn (fun _ => False) wc n10).all.mono bz0.size)
                      have sz10 : ({ wc with drawn := n10 } : World).heap.size = wc.heap.size := rfl
                      generalize ({ wc with drawn := n10 } : World) = Q10 at *
                      unfold Oper.does
                      go_simp
                      refine same_ hd10 (Save.of_below ((Below.refl _ _).alloc (Nat.le_refl _) (evO e))) ?_
                      have b10 := bq10.alloc bq10.size (evO e)
                      have e10 := one_ls Q10 e
                      have z10 : (Q10.alloc (evO e)).heap.size = Q10.heap.size + 1 := by simp
                      unfold evO at b10 e10 z10
                      generalize Q10.alloc (.cells #[.int .i64 e.time, .int .i64 e.chip, .int .i64 e.seq, .int .i64 e.kind, .int .i64 e.a, .int .i64 e.b] 23) = W10 at *
                      refine callx_ (i := 0) rfl (by kernel_rfl) (by kernel_rfl) ?_
                      intro n11
                      have hd11 := Save.drawn S W10 n11
                      have bq11 : Below wc.heap.size wc { W10 with drawn := n11 } := b10.trans ((Save.drawn (fun _ => False) W10 n11).all.mono b10.size)
                      have sz11 : ({ W10 with drawn := n11 } : World).heap.size = W10.heap.size := rfl
                      have eq11 : LsAt ({ W10 with drawn := n11 } : World) (Q10.heap.size + 1) ⟨some ⟨Q10.heap.size, 0, none⟩, 1, [e]⟩ := e10.keep (fun _ _ => rfl)
                      generalize ({ W10 with drawn := n11 } : World) = Q11 at *
                      unfold Oper.does
                      go_simp
                      refine same_ hd11 (Save.of_below ((Below.refl _ _).alloc (Nat.le_refl _) (.cells #[] 23))) ?_
                      have o11 : (Q11.alloc (.cells #[] 23)).ownsRow wc.heap.size 23 6 (.slice (some ⟨Q11.heap.size, 0, none⟩) 0 0) ([] : List Ev).length (rowV []) := World.ownsRow_made Q11 #[] 0 bq11.size (by decide) rfl
                      have b11 := bq11.alloc bq11.size (.cells #[] 23)
                      have z11 : (Q11.alloc (.cells #[] 23)).heap.size = Q11.heap.size + 1 := by simp
                      have e11 := (eq11.keep (w' := Q11.alloc (.cells #[] 23)) ((Below.refl Q11.heap.size Q11).alloc (Nat.le_refl _) (.cells #[] 23) |>.mono (by omega)).block)
                      generalize Q11.alloc (.cells #[] 23) = W11 at *
                      refine callx_ (i := 4) rfl (by kernel_rfl) (by kernel_rfl) ?_
                      intro n12
                      have hd12 := Save.drawn S W11 n12
                      have bq12 : Below wc.heap.size wc { W11 with drawn := n12 } := b11.trans ((Save.drawn (fun _ => False) W11 n12).all.mono b11.size)
                      have sz12 : ({ W11 with drawn := n12 } : World).heap.size = W11.heap.size := rfl
                      have oq12 : ({ W11 with drawn := n12 } : World).ownsRow wc.heap.size 23 6 (.slice (some ⟨Q11.heap.size, 0, none⟩) 0 0) (([] : List Ev)).length (rowV (([] : List Ev))) := o11
                      have eq12 : LsAt ({ W11 with drawn := n12 } : World) (Q10.heap.size + 1) ⟨some ⟨Q10.heap.size, 0, none⟩, 1, [e]⟩ := e11.keep (fun _ _ => rfl)
                      generalize ({ W11 with drawn := n12 } : World) = Q12 at *
                      refine does_append_ls (.tmp 71) (.tmp 74) 25 rfl rfl wc.heap.size (.slice (some ⟨Q11.heap.size, 0, none⟩) 0 0) (([] : List Ev)) (by simp [Act.eval, Act.put]) oq12 W0.heap.size Y1 (by rw [← HV1.out]; simp [Act.eval, Act.put]) (HY1.out _ bq12) hn1 (by simp only [List.length_append, List.length_cons, List.length_nil, List.nil_append]; omega) bq12.size ?_
                      intro v12 W12 o12 g12
                      rw [List.nil_append] at o12
                      refine same_ hd12 (save_grown HSS.out g12 (fun j h => (oq12.lt j h).1)) ?_
                      have b12 := bq12.grown g12 bq12.size (fun j h => (oq12.lt j h).1)
                      have e12 : LsAt W12 (Q10.heap.size + 1) ⟨some ⟨Q10.heap.size, 0, none⟩, 1, [e]⟩ := ev_keep eq12 g12 (by intro h; have h9 : Q11.heap.size = Q10.heap.size := Option.some.inj h; omega) (by omega)
                      refine callx_ (i := 13) rfl (by kernel_rfl) (by kernel_rfl) ?_
                      intro n13
                      have hd13 := Save.drawn S W12 n13
                      have bq13 : Below wc.heap.size wc { W12 with drawn := n13 } := b12.trans ((Save.drawn (fun _ => False) W12 n13).all.mono b12.size)
                      have sz13 : ({ W12 with drawn := n13 } : World).heap.size = W12.heap.size := rfl
                      have oq13 : ({ W12 with drawn := n13 } : World).ownsRow wc.heap.size 23 6 v12 (Y1.l).length (rowV (Y1.l)) := o12
                      have eq13 : LsAt ({ W12 with drawn := n13 } : World) (Q10.heap.size + 1) ⟨some ⟨Q10.heap.size, 0, none⟩, 1, [e]⟩ := e12.keep (fun _ _ => rfl)
                      generalize ({ W12 with drawn := n13 } : World) = Q13 at *
                      refine does_append_ls (.tmp 75) (.tmp 83) 25 rfl rfl wc.heap.size v12 (Y1.l) (by simp [Act.eval, Act.put]) oq13 (Q10.heap.size + 1) ⟨some ⟨Q10.heap.size, 0, none⟩, 1, [e]⟩ (by simp [Act.eval, Act.put, Ls.val]) eq13 (fun h => by cases h) (by simp only [List.length_append, List.length_cons, List.length_nil, List.nil_append]; omega) bq13.size ?_
                      intro v13 W13 o13 g13
                      refine same_ hd13 (save_grown HSS.out g13 (fun j h => (oq13.lt j h).1)) ?_
                      have b13 := bq13.grown g13 bq13.size (fun j h => (oq13.lt j h).1)
                      refine callx_ (i := 17) rfl (by kernel_rfl) (by kernel_rfl) ?_
                      intro n14
                      have hd14 := Save.drawn S W13 n14
                      have bq14 : Below wc.heap.size wc { W13 with drawn := n14 } := b13.trans ((Save.drawn (fun _ => False) W13 n14).all.mono b13.size)
                      have sz14 : ({ W13 with drawn := n14 } : World).heap.size = W13.heap.size := rfl
                      have oq14 : ({ W13 with drawn := n14 } : World).ownsRow wc.heap.size 23 6 v13 (Y1.l ++ [e]).length (rowV (Y1.l ++ [e])) := o13
                      generalize ({ W13 with drawn := n14 } : World) = Q14 at *
                      refine does_append_ls (.tmp 84) (.tmp 87) 25 rfl rfl wc.heap.size v13 (Y1.l ++ [e]) (by simp [Act.eval, Act.put]) oq14 W0.heap.size Y2 (by rw [← HV2.out]; simp [Act.eval, Act.put]) (HY2.out _ bq14) hn2 (by simp only [List.length_append, List.length_cons, List.length_nil, List.nil_append]; omega) bq14.size ?_
                      intro v14 W14 o14 g14
                      refine turn_ (S1 := fun _ => False) hd14 (save_grown HSS.out g14 (fun j h => (oq14.lt j h).1)) (fun i hi h => h.elim) ?_
                      have b14 := bq14.grown g14 bq14.size (fun j h => (oq14.lt j h).1)
                      go_simp
                      refine seg_ [18] 0 _ (by kernel_rfl) (by kernel_rfl) (by kernel_rfl) (by simp only [pickOps, mask, plain, List.getElem?_toArray, List.getElem?_cons_zero, List.getElem?_cons_succ, if_true, Bool.false_eq_true, if_false]; rfl) ?_
                      repeat (go_big_quiet_step (fail))
                      refine wpQuiet_nil ?_
                      refine end_ (by kernel_rfl) ?_
                      intro wd sd
                      have hbf := b14.trans (sd.all.mono b14.size)
                      have hof := row_below o14 sd.all (Nat.le_refl _)
                      rw [HLY.out] at hof
                      obtain ⟨g9, c9, hv9, hat9⟩ := built_of_own hof (by rw [put_len]; omega)
                      have HF := Lib.hid (show Built w (P ++ x.l.take (m + 1)) v14 wd from ⟨put [] e 0, put_sorted HS.out HPA.out HZ0.out, (put_perm _ _ _).trans ((HP.out.append_right [e]).trans (by rw [HSN.out])), HBX.out.trans ((HBC.out.trans (hbf.mono hbcz)).mono hbsz), .inr ⟨g9, c9, hv9, by rw [put_len]; omega, hat9⟩⟩)
                      clear hof hv9 hat9 sd hbf
                      go_wp2_with fail
                      go_roundw
                      case rel => exact ⟨m + 1, by omega, by go_num, HF.out⟩
                      case measure => simp [intOf]; omega
                · have hcM := hat.le
                  have hcc := hat.cap
                  unfold maxLen at hcc
                  simp only at hcM hcc
                  have HAT := Lib.hid hat
                  clear hat
                  go_wp2_with fail
                  go_loopw [10] (fun a wx => ∃ n : Nat, a = .int .i64 n ∧ Past M e n ∧ Below W0.heap.size W0 wx) (fun a _ => (intOf a).toNat)
                  case atStart => exact ⟨M.length, rfl, Past.all _ _, Below.refl _ _⟩
                  case round =>
                    obtain ⟨n, rfl, hpa, hbl⟩ := hrel
                    have hnM0 := hpa.1
                    have HPA := Lib.hid hpa
                    clear hpa
                    rcases n with _ | n
                    · go_upto_region 19 with fail
                      refine Proofs.Ythnbpdcjooifbaa.L.region_ (fun _ => False) (by kernel_rfl) ?_
                      refine Proofs.Ythnbpdcjooifbaa.L.seg_ [0, 1, 2, 3, 4, 5, 6, 7, 8, 9, 10, 11, 12, 13, 14, 15, 16, 17] 0 _ (by kernel_rfl) (by kernel_rfl) (by kernel_rfl) (by simp only [pickOps, mask, plain, List.getElem?_toArray, List.getElem?_cons_zero, List.getElem?_cons_succ, if_true, Bool.false_eq_true, if_false]; rfl) ?_
                      repeat (go_big_quiet_step (fail))
                      refine wpQuiet_nil ?_
                      refine Proofs.Ythnbpdcjooifbaa.L.end_ (by kernel_rfl) ?_
                      intro wc sc
                      have hbc : Below W0.heap.size W0 wc := hbl.trans (sc.all.mono hbl.size)
                      clear sc hbl
                      have HBC := Lib.hid hbc
                      have hbcz := hbc.size
                      have hbW : Below w.heap.size w wc := HBX.out.trans (hbc.mono hbsz)
                      obtain ⟨q0, q1, q2, q3, q4, q5⟩ := HEV.out wc hbW
                      have qc := HCELL2.out wc hbW
                      obtain ⟨S, hS⟩ : ∃ S : Nat → Prop, ∀ i, S i ↔ wc.heap.size ≤ i := ⟨fun i => wc.heap.size ≤ i, fun _ => Iff.rfl⟩
                      have hnS : ∀ i, i < w.heap.size → ¬ S i := fun i hi h => by have := (hS i).1 h; omega
                      have d0 := fun p : Later S wc => p.cell q0 (hnS _ hbx1)
                      have d1 := fun p : Later S wc => p.cell q1 (hnS _ hbx1)
                      have d2 := fun p : Later S wc => p.cell q2 (hnS _ hbx1)
                      have d3 := fun p : Later S wc => p.cell q3 (hnS _ hbx1)
                      have d4 := fun p : Later S wc => p.cell q4 (hnS _ hbx1)
                      have d5 := fun p : Later S wc => p.cell q5 (hnS _ hbx1)
                      have dc := fun p : Later S wc => p.cell qc (hnS _ hb1)
                      have HSS := Lib.hid hS
                      clear q0 q1 q2 q3 q4 q5 qc hbW hbc hnS hS
                      go_upto_region 21 with fail
                      refine region_ S (by kernel_rfl) ?_
                      refine seg_ [1, 2, 3, 5, 6, 7, 8, 9, 10, 11, 14, 15, 16] 6 _ (by kernel_rfl) (by kernel_rfl) (by kernel_rfl) (by simp only [pickOps, mask, plain, List.getElem?_toArray, List.getElem?_cons_zero, List.getElem?_cons_succ, if_true, Bool.false_eq_true, if_false]; rfl) ?_
                      repeat (go_big_quiet_step (fail))
                      refine wpQuiet_nil ?_
                      clear d0 d1 d2 d3 d4 d5 dc
                      obtain ⟨Y1, hY1⟩ : ∃ Y1 : Ls, (⟨some ⟨g, 0, none⟩, c, []⟩ : Ls) = Y1 := ⟨_, rfl⟩
                      obtain ⟨Y2, hY2⟩ : ∃ Y2 : Ls, (⟨some ⟨g, 0, none⟩, c, M⟩ : Ls) = Y2 := ⟨_, rfl⟩
                      have hv1 : Value.slice (some ⟨g, 0, none⟩) 0 c = Y1.val := by rw [← hY1]; rfl
                      have hv2 : Value.slice (some ⟨g, 0, none⟩) M.length c = Y2.val := by rw [← hY2]; rfl
                      have hn1 : Y1.A = none → Y1.c = 0 := by rw [← hY1]; exact fun h => by cases h
                      have hn2 : Y2.A = none → Y2.c = 0 := by rw [← hY2]; exact fun h => by cases h
                      have hlY : (Y1.l ++ [e] ++ Y2.l) = put M e 0 := by rw [← hY1, ← hY2]; rfl
                      have hlY1 : Y1.l.length + 1 + Y2.l.length = M.length + 1 := by rw [← hY1, ← hY2]; simp only [List.length_nil]; omega
                      have HY1 := Lib.hid (show ∀ W, Below wc.heap.size wc W → LsAt W W0.heap.size Y1 from fun W hW => by rw [← hY1]; exact (HAT.out.keep (HBC.out.trans (hW.mono hbcz)).block).pre 0)
                      have HY2 := Lib.hid (show ∀ W, Below wc.heap.size wc W → LsAt W W0.heap.size Y2 from fun W hW => by rw [← hY2]; exact HAT.out.keep (HBC.out.trans (hW.mono hbcz)).block)
                      have HLY := Lib.hid hlY
                      have HV1 := Lib.hid hv1
                      have HV2 := Lib.hid hv2
                      clear hY1 hY2 hlY hv1 hv2
                      have HZ0 := Lib.hid (show (0 = 0 ∨ ¬ 0 < ordE (M.getD (0 - 1) evZ) e) from .inl rfl)
                      have bz0 : Below wc.heap.size wc wc := Below.refl _ _
                      refine fork_ (i := 0) (j := 12) rfl rfl (by kernel_rfl) (by kernel_rfl) (by kernel_rfl) ?_ ?_
                      · intro n1
                        have hd1 := Save.drawn S wc n1
                        have bq1 : Below wc.heap.size wc { wc with drawn := n1 } := bz0.trans ((Save.drawn (fun _ => False) wc n1).all.mono bz0.size)
                        have sz1 : ({ wc with drawn := n1 } : World).heap.size = wc.heap.size := rfl
                        generalize ({ wc with drawn := n1 } : World) = Q1 at *
                        unfold Oper.does
                        go_simp
                        refine same_ hd1 (Save.of_below ((Below.refl _ _).alloc (Nat.le_refl _) (.cells #[] 23))) ?_
                        have o1 : (Q1.alloc (.cells #[] 23)).ownsRow wc.heap.size 23 6 (.slice (some ⟨Q1.heap.size, 0, none⟩) 0 0) ([] : List Ev).length (rowV []) := World.ownsRow_made Q1 #[] 0 bq1.size (by decide) rfl
                        have b1 := bq1.alloc bq1.size (.cells #[] 23)
                        have z1 : (Q1.alloc (.cells #[] 23)).heap.size = Q1.heap.size + 1 := by simp
                        generalize Q1.alloc (.cells #[] 23) = W1 at *
                        refine fork_ (i := 4) (j := 12) rfl rfl (by kernel_rfl) (by kernel_rfl) (by kernel_rfl) ?_ ?_
                        · intro n2
                          have hd2 := Save.drawn S W1 n2
                          have bq2 : Below wc.heap.size wc { W1 with drawn := n2 } := b1.trans ((Save.drawn (fun _ => False) W1 n2).all.mono b1.size)
                          have sz2 : ({ W1 with drawn := n2 } : World).heap.size = W1.heap.size := rfl
                          have oq2 : ({ W1 with drawn := n2 } : World).ownsRow wc.heap.size 23 6 (.slice (some ⟨Q1.heap.size, 0, none⟩) 0 0) (([] : List Ev)).length (rowV (([] : List Ev))) := o1
                          generalize ({ W1 with drawn := n2 } : World) = Q2 at *
                          refine does_append_ls (.tmp 71) (.tmp 74) 25 rfl rfl wc.heap.size (.slice (some ⟨Q1.heap.size, 0, none⟩) 0 0) (([] : List Ev)) (by simp [Act.eval, Act.put]) oq2 W0.heap.size Y1 (by rw [← HV1.out]; simp [Act.eval, Act.put]) (HY1.out _ bq2) hn1 (by simp only [List.length_append, List.length_cons, List.length_nil, List.nil_append]; omega) bq2.size ?_
                          intro v2 W2 o2 g2
                          rw [List.nil_append] at o2
                          refine same_ hd2 (save_grown HSS.out g2 (fun j h => (oq2.lt j h).1)) ?_
                          have b2 := bq2.grown g2 bq2.size (fun j h => (oq2.lt j h).1)
                          refine callx_ (i := 12) rfl (by kernel_rfl) (by kernel_rfl) ?_
                          intro n3
                          have hd3 := Save.drawn S W2 n3
                          have bq3 : Below wc.heap.size wc { W2 with drawn := n3 } := b2.trans ((Save.drawn (fun _ => False) W2 n3).all.mono b2.size)
                          have sz3 : ({ W2 with drawn := n3 } : World).heap.size = W2.heap.size := rfl
                          have oq3 : ({ W2 with drawn := n3 } : World).ownsRow wc.heap.size 23 6 v2 (Y1.l).length (rowV (Y1.l)) := o2
                          generalize ({ W2 with drawn := n3 } : World) = Q3 at *
                          unfold Oper.does
                          go_simp
                          refine same_ hd3 (Save.of_below ((Below.refl _ _).alloc (Nat.le_refl _) (evO e))) ?_
                          have b3 := bq3.alloc bq3.size (evO e)
                          have e3 := one_ls Q3 e
                          have z3 : (Q3.alloc (evO e)).heap.size = Q3.heap.size + 1 := by simp
                          have o3 := oq3.alloc (evO e)
                          unfold evO at o3 b3 e3 z3
                          generalize Q3.alloc (.cells #[.int .i64 e.time, .int .i64 e.chip, .int .i64 e.seq, .int .i64 e.kind, .int .i64 e.a, .int .i64 e.b] 23) = W3 at *
                          refine callx_ (i := 13) rfl (by kernel_rfl) (by kernel_rfl) ?_
                          intro n4
                          have hd4 := Save.drawn S W3 n4
                          have bq4 : Below wc.heap.size wc { W3 with drawn := n4 } := b3.trans ((Save.drawn (fun _ => False) W3 n4).all.mono b3.size)
                          have sz4 : ({ W3 with drawn := n4 } : World).heap.size = W3.heap.size := rfl
                          have oq4 : ({ W3 with drawn := n4 } : World).ownsRow wc.heap.size 23 6 v2 (Y1.l).length (rowV (Y1.l)) := o3
                          have eq4 : LsAt ({ W3 with drawn := n4 } : World) (Q3.heap.size + 1) ⟨some ⟨Q3.heap.size, 0, none⟩, 1, [e]⟩ := e3.keep (fun _ _ => rfl)
                          generalize ({ W3 with drawn := n4 } : World) = Q4 at *
                          refine does_append_ls (.tmp 75) (.tmp 83) 25 rfl rfl wc.heap.size v2 (Y1.l) (by simp [Act.eval, Act.put]) oq4 (Q3.heap.size + 1) ⟨some ⟨Q3.heap.size, 0, none⟩, 1, [e]⟩ (by simp [Act.eval, Act.put, Ls.val]) eq4 (fun h => by cases h) (by simp only [List.length_append, List.length_cons, List.length_nil, List.nil_append]; omega) bq4.size ?_
                          intro v4 W4 o4 g4
                          refine same_ hd4 (save_grown HSS.out g4 (fun j h => (oq4.lt j h).1)) ?_
                          have b4 := bq4.grown g4 bq4.size (fun j h => (oq4.lt j h).1)
                          refine callx_ (i := 17) rfl (by kernel_rfl) (by kernel_rfl) ?_
                          intro n5
                          have hd5 := Save.drawn S W4 n5
                          have bq5 : Below wc.heap.size wc { W4 with drawn := n5 } := b4.trans ((Save.drawn (fun _ => False) W4 n5).all.mono b4.size)
                          have sz5 : ({ W4 with drawn := n5 } : World).heap.size = W4.heap.size := rfl
                          have oq5 : ({ W4 with drawn := n5 } : World).ownsRow wc.heap.size 23 6 v4 (Y1.l ++ [e]).length (rowV (Y1.l ++ [e])) := o4
                          generalize ({ W4 with drawn := n5 } : World) = Q5 at *
                          refine does_append_ls (.tmp 84) (.tmp 87) 25 rfl rfl wc.heap.size v4 (Y1.l ++ [e]) (by simp [Act.eval, Act.put]) oq5 W0.heap.size Y2 (by rw [← HV2.out]; simp [Act.eval, Act.put]) (HY2.out _ bq5) hn2 (by simp only [List.length_append, List.length_cons, List.length_nil, List.nil_append]; omega) bq5.size ?_
                          intro v5 W5 o5 g5
                          refine turn_ (S1 := fun _ => False) hd5 (save_grown HSS.out g5 (fun j h => (oq5.lt j h).1)) (fun i hi h => h.elim) ?_
                          have b5 := bq5.grown g5 bq5.size (fun j h => (oq5.lt j h).1)
                          go_simp
                          refine seg_ [18] 0 _ (by kernel_rfl) (by kernel_rfl) (by kernel_rfl) (by simp only [pickOps, mask, plain, List.getElem?_toArray, List.getElem?_cons_zero, List.getElem?_cons_succ, if_true, Bool.false_eq_true, if_false]; rfl) ?_
                          repeat (go_big_quiet_step (fail))
                          refine wpQuiet_nil ?_
                          refine end_ (by kernel_rfl) ?_
                          intro wd sd
                          have hbf := b5.trans (sd.all.mono b5.size)
                          have hof := row_below o5 sd.all (Nat.le_refl _)
                          rw [HLY.out] at hof
                          obtain ⟨g9, c9, hv9, hat9⟩ := built_of_own hof (by rw [put_len]; omega)
                          have HF := Lib.hid (show Built w (P ++ x.l.take (m + 1)) v5 wd from ⟨put M e 0, put_sorted HS.out HPA.out HZ0.out, (put_perm _ _ _).trans ((HP.out.append_right [e]).trans (by rw [HSN.out])), HBX.out.trans ((HBC.out.trans (hbf.mono hbcz)).mono hbsz), .inr ⟨g9, c9, hv9, by rw [put_len]; omega, hat9⟩⟩)
                          clear hof hv9 hat9 sd hbf
                          go_wp2_with fail
                          go_roundw
                          case rel => exact ⟨m + 1, by omega, by go_num, HF.out⟩
                          case measure => simp [intOf]; omega
                        · intro n6
                          have hd6 := Save.drawn S W1 n6
                          have bq6 : Below wc.heap.size wc { W1 with drawn := n6 } := b1.trans ((Save.drawn (fun _ => False) W1 n6).all.mono b1.size)
                          have sz6 : ({ W1 with drawn := n6 } : World).heap.size = W1.heap.size := rfl
                          have oq6 : ({ W1 with drawn := n6 } : World).ownsRow wc.heap.size 23 6 (.slice (some ⟨Q1.heap.size, 0, none⟩) 0 0) (([] : List Ev)).length (rowV (([] : List Ev))) := o1
                          generalize ({ W1 with drawn := n6 } : World) = Q6 at *
                          unfold Oper.does
                          go_simp
                          refine same_ hd6 (Save.of_below ((Below.refl _ _).alloc (Nat.le_refl _) (evO e))) ?_
                          have b6 := bq6.alloc bq6.size (evO e)
                          have e6 := one_ls Q6 e
                          have z6 : (Q6.alloc (evO e)).heap.size = Q6.heap.size + 1 := by simp
                          have o6 := oq6.alloc (evO e)
                          unfold evO at o6 b6 e6 z6
                          generalize Q6.alloc (.cells #[.int .i64 e.time, .int .i64 e.chip, .int .i64 e.seq, .int .i64 e.kind, .int .i64 e.a, .int .i64 e.b] 23) = W6 at *
                          refine callx_ (i := 4) rfl (by kernel_rfl) (by kernel_rfl) ?_
                          intro n7
                          have hd7 := Save.drawn S W6 n7
                          have bq7 : Below wc.heap.size wc { W6 with drawn := n7 } := b6.trans ((Save.drawn (fun _ => False) W6 n7).all.mono b6.size)
                          have sz7 : ({ W6 with drawn := n7 } : World).heap.size = W6.heap.size := rfl
                          have oq7 : ({ W6 with drawn := n7 } : World).ownsRow wc.heap.size 23 6 (.slice (some ⟨Q1.heap.size, 0, none⟩) 0 0) (([] : List Ev)).length (rowV (([] : List Ev))) := o6
                          have eq7 : LsAt ({ W6 with drawn := n7 } : World) (Q6.heap.size + 1) ⟨some ⟨Q6.heap.size, 0, none⟩, 1, [e]⟩ := e6.keep (fun _ _ => rfl)
                          generalize ({ W6 with drawn := n7 } : World) = Q7 at *
                          refine does_append_ls (.tmp 71) (.tmp 74) 25 rfl rfl wc.heap.size (.slice (some ⟨Q1.heap.size, 0, none⟩) 0 0) (([] : List Ev)) (by simp [Act.eval, Act.put]) oq7 W0.heap.size Y1 (by rw [← HV1.out]; simp [Act.eval, Act.put]) (HY1.out _ bq7) hn1 (by simp only [List.length_append, List.length_cons, List.length_nil, List.nil_append]; omega) bq7.size ?_
                          intro v7 W7 o7 g7
                          rw [List.nil_append] at o7
                          refine same_ hd7 (save_grown HSS.out g7 (fun j h => (oq7.lt j h).1)) ?_
                          have b7 := bq7.grown g7 bq7.size (fun j h => (oq7.lt j h).1)
                          have e7 : LsAt W7 (Q6.heap.size + 1) ⟨some ⟨Q6.heap.size, 0, none⟩, 1, [e]⟩ := ev_keep eq7 g7 (by intro h; have h9 : Q1.heap.size = Q6.heap.size := Option.some.inj h; omega) (by omega)
                          refine callx_ (i := 13) rfl (by kernel_rfl) (by kernel_rfl) ?_
                          intro n8
                          have hd8 := Save.drawn S W7 n8
                          have bq8 : Below wc.heap.size wc { W7 with drawn := n8 } := b7.trans ((Save.drawn (fun _ => False) W7 n8).all.mono b7.size)
                          have sz8 : ({ W7 with drawn := n8 } : World).heap.size = W7.heap.size := rfl
                          have oq8 : ({ W7 with drawn := n8 } : World).ownsRow wc.heap.size 23 6 v7 (Y1.l).length (rowV (Y1.l)) := o7
                          have eq8 : LsAt ({ W7 with drawn := n8 } : World) (Q6.heap.size + 1) ⟨some ⟨Q6.heap.size, 0, none⟩, 1, [e]⟩ := e7.keep (fun _ _ => rfl)
                          generalize ({ W7 with drawn := n8 } : World) = Q8 at *
                          refine does_append_ls (.tmp 75) (.tmp 83) 25 rfl rfl wc.heap.size v7 (Y1.l) (by simp [Act.eval, Act.put]) oq8 (Q6.heap.size + 1) ⟨some ⟨Q6.heap.size, 0, none⟩, 1, [e]⟩ (by simp [Act.eval, Act.put, Ls.val]) eq8 (fun h => by cases h) (by simp only [List.length_append, List.length_cons, List.length_nil, List.nil_append]; omega) bq8.size ?_
                          intro v8 W8 o8 g8
                          refine same_ hd8 (save_grown HSS.out g8 (fun j h => (oq8.lt j h).1)) ?_
                          have b8 := bq8.grown g8 bq8.size (fun j h => (oq8.lt j h).1)
                          refine callx_ (i := 17) rfl (by kernel_rfl) (by kernel_rfl) ?_
                          intro n9
                          have hd9 := Save.drawn S W8 n9
                          have bq9 : Below wc.heap.size wc { W8 with drawn := n9 } := b8.trans ((Save.drawn (fun _ => False) W8 n9).all.mono b8.size)
                          have sz9 : ({ W8 with drawn := n9 } : World).heap.size = W8.heap.size := rfl
                          have oq9 : ({ W8 with drawn := n9 } : World).ownsRow wc.heap.size 23 6 v8 (Y1.l ++ [e]).length (rowV (Y1.l ++ [e])) := o8
                          generalize ({ W8 with drawn := n9 } : World) = Q9 at *
                          refine does_append_ls (.tmp 84) (.tmp 87) 25 rfl rfl wc.heap.size v8 (Y1.l ++ [e]) (by simp [Act.eval, Act.put]) oq9 W0.heap.size Y2 (by rw [← HV2.out]; simp [Act.eval, Act.put]) (HY2.out _ bq9) hn2 (by simp only [List.length_append, List.length_cons, List.length_nil, List.nil_append]; omega) bq9.size ?_
                          intro v9 W9 o9 g9
                          refine turn_ (S1 := fun _ => False) hd9 (save_grown HSS.out g9 (fun j h => (oq9.lt j h).1)) (fun i hi h => h.elim) ?_
                          have b9 := bq9.grown g9 bq9.size (fun j h => (oq9.lt j h).1)
                          go_simp
                          refine seg_ [18] 0 _ (by kernel_rfl) (by kernel_rfl) (by kernel_rfl) (by simp only [pickOps, mask, plain, List.getElem?_toArray, List.getElem?_cons_zero, List.getElem?_cons_succ, if_true, Bool.false_eq_true, if_false]; rfl) ?_
                          repeat (go_big_quiet_step (fail))
                          refine wpQuiet_nil ?_
                          refine end_ (by kernel_rfl) ?_
                          intro wd sd
                          have hbf := b9.trans (sd.all.mono b9.size)
                          have hof := row_below o9 sd.all (Nat.le_refl _)
                          rw [HLY.out] at hof
                          obtain ⟨g9, c9, hv9, hat9⟩ := built_of_own hof (by rw [put_len]; omega)
                          have HF := Lib.hid (show Built w (P ++ x.l.take (m + 1)) v9 wd from ⟨put M e 0, put_sorted HS.out HPA.out HZ0.out, (put_perm _ _ _).trans ((HP.out.append_right [e]).trans (by rw [HSN.out])), HBX.out.trans ((HBC.out.trans (hbf.mono hbcz)).mono hbsz), .inr ⟨g9, c9, hv9, by rw [put_len]; omega, hat9⟩⟩)
                          clear hof hv9 hat9 sd hbf
                          go_wp2_with fail
                          go_roundw
                          case rel => exact ⟨m + 1, by omega, by go_num, HF.out⟩
                          case measure => simp [intOf]; omega
                      · intro n10
                        have hd10 := Save.drawn S wc n10
                        have bq10 : Below wc.heap.size wc { wc with drawn := n10 } := bz0.trans ((Save.drawn (fun _ => False) wc n10).all.mono bz0.size)
                        have sz10 : ({ wc with drawn := n10 } : World).heap.size = wc.heap.size := rfl
                        generalize ({ wc with drawn := n10 } : World) = Q10 at *
                        unfold Oper.does
                        go_simp
                        refine same_ hd10 (Save.of_below ((Below.refl _ _).alloc (Nat.le_refl _) (evO e))) ?_
                        have b10 := bq10.alloc bq10.size (evO e)
                        have e10 := one_ls Q10 e
                        have z10 : (Q10.alloc (evO e)).heap.size = Q10.heap.size + 1 := by simp
                        unfold evO at b10 e10 z10
                        generalize Q10.alloc (.cells #[.int .i64 e.time, .int .i64 e.chip, .int .i64 e.seq, .int .i64 e.kind, .int .i64 e.a, .int .i64 e.b] 23) = W10 at *
                        refine callx_ (i := 0) rfl (by kernel_rfl) (by kernel_rfl) ?_
                        intro n11
                        have hd11 := Save.drawn S W10 n11
                        have bq11 : Below wc.heap.size wc { W10 with drawn := n11 } := b10.trans ((Save.drawn (fun _ => False) W10 n11).all.mono b10.size)
                        have sz11 : ({ W10 with drawn := n11 } : World).heap.size = W10.heap.size := rfl
                        have eq11 : LsAt ({ W10 with drawn := n11 } : World) (Q10.heap.size + 1) ⟨some ⟨Q10.heap.size, 0, none⟩, 1, [e]⟩ := e10.keep (fun _ _ => rfl)
                        generalize ({ W10 with drawn := n11 } : World) = Q11 at *
                        unfold Oper.does
                        go_simp
                        refine same_ hd11 (Save.of_below ((Below.refl _ _).alloc (Nat.le_refl _) (.cells #[] 23))) ?_
                        have o11 : (Q11.alloc (.cells #[] 23)).ownsRow wc.heap.size 23 6 (.slice (some ⟨Q11.heap.size, 0, none⟩) 0 0) ([] : List Ev).length (rowV []) := World.ownsRow_made Q11 #[] 0 bq11.size (by decide) rfl
                        have b11 := bq11.alloc bq11.size (.cells #[] 23)
                        have z11 : (Q11.alloc (.cells #[] 23)).heap.size = Q11.heap.size + 1 := by simp
                        have e11 := (eq11.keep (w' := Q11.alloc (.cells #[] 23)) ((Below.refl Q11.heap.size Q11).alloc (Nat.le_refl _) (.cells #[] 23) |>.mono (by omega)).block)
                        generalize Q11.alloc (.cells #[] 23) = W11 at *
                        refine callx_ (i := 4) rfl (by kernel_rfl) (by kernel_rfl) ?_
                        intro n12
                        have hd12 := Save.drawn S W11 n12
                        have bq12 : Below wc.heap.size wc { W11 with drawn := n12 } := b11.trans ((Save.drawn (fun _ => False) W11 n12).all.mono b11.size)
                        have sz12 : ({ W11 with drawn := n12 } : World).heap.size = W11.heap.size := rfl
                        have oq12 : ({ W11 with drawn := n12 } : World).ownsRow wc.heap.size 23 6 (.slice (some ⟨Q11.heap.size, 0, none⟩) 0 0) (([] : List Ev)).length (rowV (([] : List Ev))) := o11
                        have eq12 : LsAt ({ W11 with drawn := n12 } : World) (Q10.heap.size + 1) ⟨some ⟨Q10.heap.size, 0, none⟩, 1, [e]⟩ := e11.keep (fun _ _ => rfl)
                        generalize ({ W11 with drawn := n12 } : World) = Q12 at *
                        refine does_append_ls (.tmp 71) (.tmp 74) 25 rfl rfl wc.heap.size (.slice (some ⟨Q11.heap.size, 0, none⟩) 0 0) (([] : List Ev)) (by simp [Act.eval, Act.put]) oq12 W0.heap.size Y1 (by rw [← HV1.out]; simp [Act.eval, Act.put]) (HY1.out _ bq12) hn1 (by simp only [List.length_append, List.length_cons, List.length_nil, List.nil_append]; omega) bq12.size ?_
                        intro v12 W12 o12 g12
                        rw [List.nil_append] at o12
                        refine same_ hd12 (save_grown HSS.out g12 (fun j h => (oq12.lt j h).1)) ?_
                        have b12 := bq12.grown g12 bq12.size (fun j h => (oq12.lt j h).1)
                        have e12 : LsAt W12 (Q10.heap.size + 1) ⟨some ⟨Q10.heap.size, 0, none⟩, 1, [e]⟩ := ev_keep eq12 g12 (by intro h; have h9 : Q11.heap.size = Q10.heap.size := Option.some.inj h; omega) (by omega)
                        refine callx_ (i := 13) rfl (by kernel_rfl) (by kernel_rfl) ?_
                        intro n13
                        have hd13 := Save.drawn S W12 n13
                        have bq13 : Below wc.heap.size wc { W12 with drawn := n13 } := b12.trans ((Save.drawn (fun _ => False) W12 n13).all.mono b12.size)
                        have sz13 : ({ W12 with drawn := n13 } : World).heap.size = W12.heap.size := rfl
                        have oq13 : ({ W12 with drawn := n13 } : World).ownsRow wc.heap.size 23 6 v12 (Y1.l).length (rowV (Y1.l)) := o12
                        have eq13 : LsAt ({ W12 with drawn := n13 } : World) (Q10.heap.size + 1) ⟨some ⟨Q10.heap.size, 0, none⟩, 1, [e]⟩ := e12.keep (fun _ _ => rfl)
                        generalize ({ W12 with drawn := n13 } : World) = Q13 at *
                        refine does_append_ls (.tmp 75) (.tmp 83) 25 rfl rfl wc.heap.size v12 (Y1.l) (by simp [Act.eval, Act.put]) oq13 (Q10.heap.size + 1) ⟨some ⟨Q10.heap.size, 0, none⟩, 1, [e]⟩ (by simp [Act.eval, Act.put, Ls.val]) eq13 (fun h => by cases h) (by simp only [List.length_append, List.length_cons, List.length_nil, List.nil_append]; omega) bq13.size ?_
                        intro v13 W13 o13 g13
                        refine same_ hd13 (save_grown HSS.out g13 (fun j h => (oq13.lt j h).1)) ?_
                        have b13 := bq13.grown g13 bq13.size (fun j h => (oq13.lt j h).1)
                        refine callx_ (i := 17) rfl (by kernel_rfl) (by kernel_rfl) ?_
                        intro n14
                        have hd14 := Save.drawn S W13 n14
                        have bq14 : Below wc.heap.size wc { W13 with drawn := n14 } := b13.trans ((Save.drawn (fun _ => False) W13 n14).all.mono b13.size)
                        have sz14 : ({ W13 with drawn := n14 } : World).heap.size = W13.heap.size := rfl
                        have oq14 : ({ W13 with drawn := n14 } : World).ownsRow wc.heap.size 23 6 v13 (Y1.l ++ [e]).length (rowV (Y1.l ++ [e])) := o13
                        generalize ({ W13 with drawn := n14 } : World) = Q14 at *
                        refine does_append_ls (.tmp 84) (.tmp 87) 25 rfl rfl wc.heap.size v13 (Y1.l ++ [e]) (by simp [Act.eval, Act.put]) oq14 W0.heap.size Y2 (by rw [← HV2.out]; simp [Act.eval, Act.put]) (HY2.out _ bq14) hn2 (by simp only [List.length_append, List.length_cons, List.length_nil, List.nil_append]; omega) bq14.size ?_
                        intro v14 W14 o14 g14
                        refine turn_ (S1 := fun _ => False) hd14 (save_grown HSS.out g14 (fun j h => (oq14.lt j h).1)) (fun i hi h => h.elim) ?_
                        have b14 := bq14.grown g14 bq14.size (fun j h => (oq14.lt j h).1)
                        go_simp
                        refine seg_ [18] 0 _ (by kernel_rfl) (by kernel_rfl) (by kernel_rfl) (by simp only [pickOps, mask, plain, List.getElem?_toArray, List.getElem?_cons_zero, List.getElem?_cons_succ, if_true, Bool.false_eq_true, if_false]; rfl) ?_
                        repeat (go_big_quiet_step (fail))
                        refine wpQuiet_nil ?_
                        refine end_ (by kernel_rfl) ?_
                        intro wd sd
                        have hbf := b14.trans (sd.all.mono b14.size)
                        have hof := row_below o14 sd.all (Nat.le_refl _)
                        rw [HLY.out] at hof
                        obtain ⟨g9, c9, hv9, hat9⟩ := built_of_own hof (by rw [put_len]; omega)
                        have HF := Lib.hid (show Built w (P ++ x.l.take (m + 1)) v14 wd from ⟨put M e 0, put_sorted HS.out HPA.out HZ0.out, (put_perm _ _ _).trans ((HP.out.append_right [e]).trans (by rw [HSN.out])), HBX.out.trans ((HBC.out.trans (hbf.mono hbcz)).mono hbsz), .inr ⟨g9, c9, hv9, by rw [put_len]; omega, hat9⟩⟩)
                        clear hof hv9 hat9 sd hbf
                        go_wp2_with fail
                        go_roundw
                        case rel => exact ⟨m + 1, by omega, by go_num, HF.out⟩
                        case measure => simp [intOf]; omega
                    · obtain ⟨bg, og, hg1, hg2, hgat⟩ := HAT.out.at_ hMp
                      obtain ⟨rfl, rfl⟩ : g = bg ∧ 0 = og := by simpa using hg1
                      have hyv := (hgat n (show n < M.length by omega)).keep (hbl.block g hg2)
                      obtain ⟨y, hy0⟩ : ∃ y, M.getD n ⟨0, 0, 0, 0, 0, 0⟩ = y := ⟨_, rfl⟩
                      have hyv2 : EvAt wr g (n * 6) y := by have h9 := hyv; simp only [Nat.zero_add] at h9; rw [hy0] at h9; exact h9
                      have HY := Lib.hid (show M.getD n evZ = y from hy0)
                      have hbW : Below w.heap.size w wr := HBX.out.trans (hbl.mono hbsz)
                      have hxv := HEV.out wr hbW
                      have qc := HCELL2.out wr hbW
                      obtain ⟨d0, d1, d2, d3, d4, d5⟩ := hyv2
                      obtain ⟨f0, f1, f2, f3, f4, f5⟩ := hxv
                      have d0' := fun p : Later (fun _ => False) wr => p.cell d0 (fun h => h)
                      have d1' := fun p : Later (fun _ => False) wr => p.cell d1 (fun h => h)
                      have d2' := fun p : Later (fun _ => False) wr => p.cell d2 (fun h => h)
                      have d3' := fun p : Later (fun _ => False) wr => p.cell d3 (fun h => h)
                      have d4' := fun p : Later (fun _ => False) wr => p.cell d4 (fun h => h)
                      have d5' := fun p : Later (fun _ => False) wr => p.cell d5 (fun h => h)
                      have f0' := fun p : Later (fun _ => False) wr => p.cell f0 (fun h => h)
                      have f1' := fun p : Later (fun _ => False) wr => p.cell f1 (fun h => h)
                      have f2' := fun p : Later (fun _ => False) wr => p.cell f2 (fun h => h)
                      have f3' := fun p : Later (fun _ => False) wr => p.cell f3 (fun h => h)
                      have f4' := fun p : Later (fun _ => False) wr => p.cell f4 (fun h => h)
                      have f5' := fun p : Later (fun _ => False) wr => p.cell f5 (fun h => h)
                      have qc' := fun p : Later (fun _ => False) wr => p.cell qc (fun h => h)
                      have hgt : (decide ((0 : Int) < (n : Int) + 1)) = true := decide_eq_true (by omega)
                      have HO := Lib.hid (fun (W : World) => r3_order W y e)
                      unfold Ev.val at HO
                      clear d0 d1 d2 d3 d4 d5 f0 f1 f2 f3 f4 f5 qc hyv hgat hg1 hbW hy0
                      go_upto_region 19 with fail
                      refine Proofs.Ythnbpdcjooifbaa.L.region_ (fun _ => False) (by kernel_rfl) ?_
                      refine Proofs.Ythnbpdcjooifbaa.L.seg_ [0, 1, 2, 3, 4, 5, 6, 7, 8, 9, 10, 11, 12, 13, 14] 3 _ (by kernel_rfl) (by kernel_rfl) (by kernel_rfl) (by simp only [pickOps, mask, plain, List.getElem?_toArray, List.getElem?_cons_zero, List.getElem?_cons_succ, if_true, Bool.false_eq_true, if_false]; rfl) ?_
                      repeat (go_big_quiet_step (fail))
                      refine wpQuiet_nil ?_
                      clear d0' d1' d2' d3' d4' d5' f0' f1' f2' f3' f4' f5' qc'
                      refine Proofs.Ythnbpdcjooifbaa.L.call_ (i := 15) rfl (by kernel_rfl) (by kernel_rfl) ?_
                      intro wa sa
                      unfold Oper.does
                      go_simp
                      refine (HO.out wa).mono ?_
                      rintro e9 w9 ⟨he9, hb9⟩
                      refine ⟨_, he9, same_ sa (Save.of_below hb9) ?_⟩
                      have hB : Below W0.heap.size W0 w9 := (hbl.trans (sa.all.mono hbl.size)).trans (hb9.mono (by have := hbl.size; have := sa.size; omega))
                      clear he9 sa hb9
                      go_simp
                      refine Proofs.Ythnbpdcjooifbaa.L.seg_ [16, 17] 0 _ (by kernel_rfl) (by kernel_rfl) (by kernel_rfl) (by simp only [pickOps, mask, plain, List.getElem?_toArray, List.getElem?_cons_zero, List.getElem?_cons_succ, if_true, Bool.false_eq_true, if_false]; rfl) ?_
                      repeat (go_big_quiet_step (fail))
                      refine wpQuiet_nil ?_
                      refine Proofs.Ythnbpdcjooifbaa.L.end_ (by kernel_rfl) ?_
                      intro wc sc
                      have hbc := hB.trans (sc.all.mono hB.size)
                      clear sc hB hbl
                      by_cases hg0 : 0 < ordE y e
                      · have HG := Lib.hid hg0
                        go_wp2_with fail
                        go_roundw
                        case rel => exact ⟨n, by go_num, HPA.out.down (by rw [HY.out]; exact HG.out), hbc⟩
                        case measure => simp [intOf]; try omega
                      · have hz1 : (n + 1 = 0 ∨ ¬ 0 < ordE (M.getD (n + 1 - 1) evZ) e) := .inr (by rw [Nat.add_sub_cancel, HY.out]; exact hg0)
                        have hpa := HPA.out
                        have hle0 : ordE y e ≤ 0 := by omega
                        clear hg0 HPA hgt
                        obtain ⟨q, hq⟩ : ∃ q : Nat, n + 1 = q := ⟨_, rfl⟩
                        have hqi : (n : Int) + 1 = (q : Int) := by omega
                        rw [hq] at hz1 hpa hnM0
                        rw [hqi]
                        have HPA := Lib.hid hpa
                        have HZ0 := Lib.hid hz1
                        clear hz1 hpa hq hqi
                        have HBC := Lib.hid hbc
                        have hbcz := hbc.size
                        have hbW : Below w.heap.size w wc := HBX.out.trans (hbc.mono hbsz)
                        obtain ⟨q0, q1, q2, q3, q4, q5⟩ := HEV.out wc hbW
                        have qc := HCELL2.out wc hbW
                        obtain ⟨S, hS⟩ : ∃ S : Nat → Prop, ∀ i, S i ↔ wc.heap.size ≤ i := ⟨fun i => wc.heap.size ≤ i, fun _ => Iff.rfl⟩
                        have hnS : ∀ i, i < w.heap.size → ¬ S i := fun i hi h => by have := (hS i).1 h; omega
                        have d0 := fun p : Later S wc => p.cell q0 (hnS _ hbx1)
                        have d1 := fun p : Later S wc => p.cell q1 (hnS _ hbx1)
                        have d2 := fun p : Later S wc => p.cell q2 (hnS _ hbx1)
                        have d3 := fun p : Later S wc => p.cell q3 (hnS _ hbx1)
                        have d4 := fun p : Later S wc => p.cell q4 (hnS _ hbx1)
                        have d5 := fun p : Later S wc => p.cell q5 (hnS _ hbx1)
                        have dc := fun p : Later S wc => p.cell qc (hnS _ hb1)
                        have HSS := Lib.hid hS
                        clear q0 q1 q2 q3 q4 q5 qc hbW hbc hnS hS
                        go_upto_region 21 with fail
                        refine region_ S (by kernel_rfl) ?_
                        refine seg_ [1, 2, 3, 5, 6, 7, 8, 9, 10, 11, 14, 15, 16] 6 _ (by kernel_rfl) (by kernel_rfl) (by kernel_rfl) (by simp only [pickOps, mask, plain, List.getElem?_toArray, List.getElem?_cons_zero, List.getElem?_cons_succ, if_true, Bool.false_eq_true, if_false]; rfl) ?_
                        repeat (go_big_quiet_step (fail))
                        refine wpQuiet_nil ?_
                        clear d0 d1 d2 d3 d4 d5 dc
                        have hnM := hnM0
                        obtain ⟨Y1, hY1⟩ : ∃ Y1 : Ls, (⟨some ⟨g, 0, none⟩, c, M.take q⟩ : Ls) = Y1 := ⟨_, rfl⟩
                        obtain ⟨Y2, hY2⟩ : ∃ Y2 : Ls, (⟨(if c = q then some ⟨g, 0, none⟩ else some ⟨g, q * 6, none⟩), c - q, M.drop q⟩ : Ls) = Y2 := ⟨_, rfl⟩
                        have hv1 : Value.slice (some ⟨g, 0, none⟩) q c = Y1.val := by rw [← hY1]; show _ = Value.slice (some ⟨g, 0, none⟩) (M.take q).length c; rw [List.length_take, Nat.min_eq_left hnM]
                        have hv2 : Value.slice (if c = q then some ⟨g, 0, none⟩ else some ⟨g, q * 6, none⟩) (M.length - q) (c - q) = Y2.val := by rw [← hY2]; show _ = Value.slice _ (M.drop q).length (c - q); rw [List.length_drop]
                        have hn1 : Y1.A = none → Y1.c = 0 := by rw [← hY1]; exact fun h => by cases h
                        have hn2 : Y2.A = none → Y2.c = 0 := by rw [← hY2]; intro h; simp only at h; split at h <;> cases h
                        have hlY : (Y1.l ++ [e] ++ Y2.l) = put M e q := by rw [← hY1, ← hY2]; rfl
                        have hlY1 : Y1.l.length + 1 + Y2.l.length = M.length + 1 := by rw [← hY1, ← hY2]; simp only [List.length_take, List.length_drop]; omega
                        have HY1 := Lib.hid (show ∀ W, Below wc.heap.size wc W → LsAt W W0.heap.size Y1 from fun W hW => by rw [← hY1]; exact (HAT.out.keep (HBC.out.trans (hW.mono hbcz)).block).pre q)
                        have HY2 := Lib.hid (show ∀ W, Below wc.heap.size wc W → LsAt W W0.heap.size Y2 from fun W hW => by rw [← hY2]; exact (HAT.out.keep (HBC.out.trans (hW.mono hbcz)).block).post q hnM)
                        have HLY := Lib.hid hlY
                        have HV1 := Lib.hid hv1
                        have HV2 := Lib.hid hv2
                        clear hY1 hY2 hlY hv1 hv2
                        have bz0 : Below wc.heap.size wc wc := Below.refl _ _
                        refine fork_ (i := 0) (j := 12) rfl rfl (by kernel_rfl) (by kernel_rfl) (by kernel_rfl) ?_ ?_
                        · intro n1
                          have hd1 := Save.drawn S wc n1
                          have bq1 : Below wc.heap.size wc { wc with drawn := n1 } := bz0.trans ((Save.drawn (fun _ => False) wc n1).all.mono bz0.size)
                          have sz1 : ({ wc with drawn := n1 } : World).heap.size = wc.heap.size := rfl
                          generalize ({ wc with drawn := n1 } : World) = Q1 at *
                          unfold Oper.does
                          go_simp
                          refine same_ hd1 (Save.of_below ((Below.refl _ _).alloc (Nat.le_refl _) (.cells #[] 23))) ?_
                          have o1 : (Q1.alloc (.cells #[] 23)).ownsRow wc.heap.size 23 6 (.slice (some ⟨Q1.heap.size, 0, none⟩) 0 0) ([] : List Ev).length (rowV []) := World.ownsRow_made Q1 #[] 0 bq1.size (by decide) rfl
                          have b1 := bq1.alloc bq1.size (.cells #[] 23)
                          have z1 : (Q1.alloc (.cells #[] 23)).heap.size = Q1.heap.size + 1 := by simp
                          generalize Q1.alloc (.cells #[] 23) = W1 at *
                          refine fork_ (i := 4) (j := 12) rfl rfl (by kernel_rfl) (by kernel_rfl) (by kernel_rfl) ?_ ?_
                          · intro n2
                            have hd2 := Save.drawn S W1 n2
                            have bq2 : Below wc.heap.size wc { W1 with drawn := n2 } := b1.trans ((Save.drawn (fun _ => False) W1 n2).all.mono b1.size)
                            have sz2 : ({ W1 with drawn := n2 } : World).heap.size = W1.heap.size := rfl
                            have oq2 : ({ W1 with drawn := n2 } : World).ownsRow wc.heap.size 23 6 (.slice (some ⟨Q1.heap.size, 0, none⟩) 0 0) (([] : List Ev)).length (rowV (([] : List Ev))) := o1
                            generalize ({ W1 with drawn := n2 } : World) = Q2 at *
                            refine does_append_ls (.tmp 71) (.tmp 74) 25 rfl rfl wc.heap.size (.slice (some ⟨Q1.heap.size, 0, none⟩) 0 0) (([] : List Ev)) (by simp [Act.eval, Act.put]) oq2 W0.heap.size Y1 (by rw [← HV1.out]; simp [Act.eval, Act.put]) (HY1.out _ bq2) hn1 (by simp only [List.length_append, List.length_cons, List.length_nil, List.nil_append]; omega) bq2.size ?_
                            intro v2 W2 o2 g2
                            rw [List.nil_append] at o2
                            refine same_ hd2 (save_grown HSS.out g2 (fun j h => (oq2.lt j h).1)) ?_
                            have b2 := bq2.grown g2 bq2.size (fun j h => (oq2.lt j h).1)
                            refine callx_ (i := 12) rfl (by kernel_rfl) (by kernel_rfl) ?_
                            intro n3
                            have hd3 := Save.drawn S W2 n3
                            have bq3 : Below wc.heap.size wc { W2 with drawn := n3 } := b2.trans ((Save.drawn (fun _ => False) W2 n3).all.mono b2.size)
                            have sz3 : ({ W2 with drawn := n3 } : World).heap.size = W2.heap.size := rfl
                            have oq3 : ({ W2 with drawn := n3 } : World).ownsRow wc.heap.size 23 6 v2 (Y1.l).length (rowV (Y1.l)) := o2
                            generalize ({ W2 with drawn := n3 } : World) = Q3 at *
                            unfold Oper.does
                            go_simp
                            refine same_ hd3 (Save.of_below ((Below.refl _ _).alloc (Nat.le_refl _) (evO e))) ?_
                            have b3 := bq3.alloc bq3.size (evO e)
                            have e3 := one_ls Q3 e
                            have z3 : (Q3.alloc (evO e)).heap.size = Q3.heap.size + 1 := by simp
                            have o3 := oq3.alloc (evO e)
                            unfold evO at o3 b3 e3 z3
                            generalize Q3.alloc (.cells #[.int .i64 e.time, .int .i64 e.chip, .int .i64 e.seq, .int .i64 e.kind, .int .i64 e.a, .int .i64 e.b] 23) = W3 at *
                            refine callx_ (i := 13) rfl (by kernel_rfl) (by kernel_rfl) ?_
                            intro n4
                            have hd4 := Save.drawn S W3 n4
                            have bq4 : Below wc.heap.size wc { W3 with drawn := n4 } := b3.trans ((Save.drawn (fun _ => False) W3 n4).all.mono b3.size)
                            have sz4 : ({ W3 with drawn := n4 } : World).heap.size = W3.heap.size := rfl
                            have oq4 : ({ W3 with drawn := n4 } : World).ownsRow wc.heap.size 23 6 v2 (Y1.l).length (rowV (Y1.l)) := o3
                            have eq4 : LsAt ({ W3 with drawn := n4 } : World) (Q3.heap.size + 1) ⟨some ⟨Q3.heap.size, 0, none⟩, 1, [e]⟩ := e3.keep (fun _ _ => rfl)
                            generalize ({ W3 with drawn := n4 } : World) = Q4 at *
                            refine does_append_ls (.tmp 75) (.tmp 83) 25 rfl rfl wc.heap.size v2 (Y1.l) (by simp [Act.eval, Act.put]) oq4 (Q3.heap.size + 1) ⟨some ⟨Q3.heap.size, 0, none⟩, 1, [e]⟩ (by simp [Act.eval, Act.put, Ls.val]) eq4 (fun h => by cases h) (by simp only [List.length_append, List.length_cons, List.length_nil, List.nil_append]; omega) bq4.size ?_
                            intro v4 W4 o4 g4
                            refine same_ hd4 (save_grown HSS.out g4 (fun j h => (oq4.lt j h).1)) ?_
                            have b4 := bq4.grown g4 bq4.size (fun j h => (oq4.lt j h).1)
                            refine callx_ (i := 17) rfl (by kernel_rfl) (by kernel_rfl) ?_
                            intro n5
                            have hd5 := Save.drawn S W4 n5
                            have bq5 : Below wc.heap.size wc { W4 with drawn := n5 } := b4.trans ((Save.drawn (fun _ => False) W4 n5).all.mono b4.size)
                            have sz5 : ({ W4 with drawn := n5 } : World).heap.size = W4.heap.size := rfl
                            have oq5 : ({ W4 with drawn := n5 } : World).ownsRow wc.heap.size 23 6 v4 (Y1.l ++ [e]).length (rowV (Y1.l ++ [e])) := o4
                            generalize ({ W4 with drawn := n5 } : World) = Q5 at *
                            refine does_append_ls (.tmp 84) (.tmp 87) 25 rfl rfl wc.heap.size v4 (Y1.l ++ [e]) (by simp [Act.eval, Act.put]) oq5 W0.heap.size Y2 (by rw [← HV2.out]; simp [Act.eval, Act.put]) (HY2.out _ bq5) hn2 (by simp only [List.length_append, List.length_cons, List.length_nil, List.nil_append]; omega) bq5.size ?_
                            intro v5 W5 o5 g5
                            refine turn_ (S1 := fun _ => False) hd5 (save_grown HSS.out g5 (fun j h => (oq5.lt j h).1)) (fun i hi h => h.elim) ?_
                            have b5 := bq5.grown g5 bq5.size (fun j h => (oq5.lt j h).1)
                            go_simp
                            refine seg_ [18] 0 _ (by kernel_rfl) (by kernel_rfl) (by kernel_rfl) (by simp only [pickOps, mask, plain, List.getElem?_toArray, List.getElem?_cons_zero, List.getElem?_cons_succ, if_true, Bool.false_eq_true, if_false]; rfl) ?_
                            repeat (go_big_quiet_step (fail))
                            refine wpQuiet_nil ?_
                            refine end_ (by kernel_rfl) ?_
                            intro wd sd
                            have hbf := b5.trans (sd.all.mono b5.size)
                            have hof := row_below o5 sd.all (Nat.le_refl _)
                            rw [HLY.out] at hof
                            obtain ⟨g9, c9, hv9, hat9⟩ := built_of_own hof (by rw [put_len]; omega)
                            have HF := Lib.hid (show Built w (P ++ x.l.take (m + 1)) v5 wd from ⟨put M e q, put_sorted HS.out HPA.out HZ0.out, (put_perm _ _ _).trans ((HP.out.append_right [e]).trans (by rw [HSN.out])), HBX.out.trans ((HBC.out.trans (hbf.mono hbcz)).mono hbsz), .inr ⟨g9, c9, hv9, by rw [put_len]; omega, hat9⟩⟩)
                            clear hof hv9 hat9 sd hbf
                            go_wp2_with fail
                            go_roundw
                            case rel => exact ⟨m + 1, by omega, by go_num, HF.out⟩
                            case measure => simp [intOf]; omega
                          · intro n6
                            have hd6 := Save.drawn S W1 n6
                            have bq6 : Below wc.heap.size wc { W1 with drawn := n6 } := b1.trans ((Save.drawn (fun _ => False) W1 n6).all.mono b1.size)
                            have sz6 : ({ W1 with drawn := n6 } : World).heap.size = W1.heap.size := rfl
                            have oq6 : ({ W1 with drawn := n6 } : World).ownsRow wc.heap.size 23 6 (.slice (some ⟨Q1.heap.size, 0, none⟩) 0 0) (([] : List Ev)).length (rowV (([] : List Ev))) := o1
                            generalize ({ W1 with drawn := n6 } : World) = Q6 at *
                            unfold Oper.does
                            go_simp
                            refine same_ hd6 (Save.of_below ((Below.refl _ _).alloc (Nat.le_refl _) (evO e))) ?_
                            have b6 := bq6.alloc bq6.size (evO e)
                            have e6 := one_ls Q6 e
                            have z6 : (Q6.alloc (evO e)).heap.size = Q6.heap.size + 1 := by simp
                            have o6 := oq6.alloc (evO e)
                            unfold evO at o6 b6 e6 z6
                            generalize Q6.alloc (.cells #[.int .i64 e.time, .int .i64 e.chip, .int .i64 e.seq, .int .i64 e.kind, .int .i64 e.a, .int .i64 e.b] 23) = W6 at *
                            refine callx_ (i := 4) rfl (by kernel_rfl) (by kernel_rfl) ?_
                            intro n7
                            have hd7 := Save.drawn S W6 n7
                            have bq7 : Below wc.heap.size wc { W6 with drawn := n7 } := b6.trans ((Save.drawn (fun _ => False) W6 n7).all.mono b6.size)
                            have sz7 : ({ W6 with drawn := n7 } : World).heap.size = W6.heap.size := rfl
                            have oq7 : ({ W6 with drawn := n7 } : World).ownsRow wc.heap.size 23 6 (.slice (some ⟨Q1.heap.size, 0, none⟩) 0 0) (([] : List Ev)).length (rowV (([] : List Ev))) := o6
                            have eq7 : LsAt ({ W6 with drawn := n7 } : World) (Q6.heap.size + 1) ⟨some ⟨Q6.heap.size, 0, none⟩, 1, [e]⟩ := e6.keep (fun _ _ => rfl)
                            generalize ({ W6 with drawn := n7 } : World) = Q7 at *
                            refine does_append_ls (.tmp 71) (.tmp 74) 25 rfl rfl wc.heap.size (.slice (some ⟨Q1.heap.size, 0, none⟩) 0 0) (([] : List Ev)) (by simp [Act.eval, Act.put]) oq7 W0.heap.size Y1 (by rw [← HV1.out]; simp [Act.eval, Act.put]) (HY1.out _ bq7) hn1 (by simp only [List.length_append, List.length_cons, List.length_nil, List.nil_append]; omega) bq7.size ?_
                            intro v7 W7 o7 g7
                            rw [List.nil_append] at o7
                            refine same_ hd7 (save_grown HSS.out g7 (fun j h => (oq7.lt j h).1)) ?_
                            have b7 := bq7.grown g7 bq7.size (fun j h => (oq7.lt j h).1)
                            have e7 : LsAt W7 (Q6.heap.size + 1) ⟨some ⟨Q6.heap.size, 0, none⟩, 1, [e]⟩ := ev_keep eq7 g7 (by intro h; have h9 : Q1.heap.size = Q6.heap.size := Option.some.inj h; omega) (by omega)
                            refine callx_ (i := 13) rfl (by kernel_rfl) (by kernel_rfl) ?_
                            intro n8
                            have hd8 := Save.drawn S W7 n8
                            have bq8 : Below wc.heap.size wc { W7 with drawn := n8 } := b7.trans ((Save.drawn (fun _ => False) W7 n8).all.mono b7.size)
                            have sz8 : ({ W7 with drawn := n8 } : World).heap.size = W7.heap.size := rfl
                            have oq8 : ({ W7 with drawn := n8 } : World).ownsRow wc.heap.size 23 6 v7 (Y1.l).length (rowV (Y1.l)) := o7
                            have eq8 : LsAt ({ W7 with drawn := n8 } : World) (Q6.heap.size + 1) ⟨some ⟨Q6.heap.size, 0, none⟩, 1, [e]⟩ := e7.keep (fun _ _ => rfl)
                            generalize ({ W7 with drawn := n8 } : World) = Q8 at *
                            refine does_append_ls (.tmp 75) (.tmp 83) 25 rfl rfl wc.heap.size v7 (Y1.l) (by simp [Act.eval, Act.put]) oq8 (Q6.heap.size + 1) ⟨some ⟨Q6.heap.size, 0, none⟩, 1, [e]⟩ (by simp [Act.eval, Act.put, Ls.val]) eq8 (fun h => by cases h) (by simp only [List.length_append, List.length_cons, List.length_nil, List.nil_append]; omega) bq8.size ?_
                            intro v8 W8 o8 g8
                            refine same_ hd8 (save_grown HSS.out g8 (fun j h => (oq8.lt j h).1)) ?_
                            have b8 := bq8.grown g8 bq8.size (fun j h => (oq8.lt j h).1)
                            refine callx_ (i := 17) rfl (by kernel_rfl) (by kernel_rfl) ?_
                            intro n9
                            have hd9 := Save.drawn S W8 n9
                            have bq9 : Below wc.heap.size wc { W8 with drawn := n9 } := b8.trans ((Save.drawn (fun _ => False) W8 n9).all.mono b8.size)
                            have sz9 : ({ W8 with drawn := n9 } : World).heap.size = W8.heap.size := rfl
                            have oq9 : ({ W8 with drawn := n9 } : World).ownsRow wc.heap.size 23 6 v8 (Y1.l ++ [e]).length (rowV (Y1.l ++ [e])) := o8
                            generalize ({ W8 with drawn := n9 } : World) = Q9 at *
                            refine does_append_ls (.tmp 84) (.tmp 87) 25 rfl rfl wc.heap.size v8 (Y1.l ++ [e]) (by simp [Act.eval, Act.put]) oq9 W0.heap.size Y2 (by rw [← HV2.out]; simp [Act.eval, Act.put]) (HY2.out _ bq9) hn2 (by simp only [List.length_append, List.length_cons, List.length_nil, List.nil_append]; omega) bq9.size ?_
                            intro v9 W9 o9 g9
                            refine turn_ (S1 := fun _ => False) hd9 (save_grown HSS.out g9 (fun j h => (oq9.lt j h).1)) (fun i hi h => h.elim) ?_
                            have b9 := bq9.grown g9 bq9.size (fun j h => (oq9.lt j h).1)
                            go_simp
                            refine seg_ [18] 0 _ (by kernel_rfl) (by kernel_rfl) (by kernel_rfl) (by simp only [pickOps, mask, plain, List.getElem?_toArray, List.getElem?_cons_zero, List.getElem?_cons_succ, if_true, Bool.false_eq_true, if_false]; rfl) ?_
                            repeat (go_big_quiet_step (fail))
                            refine wpQuiet_nil ?_
                            refine end_ (by kernel_rfl) ?_
                            intro wd sd
                            have hbf := b9.trans (sd.all.mono b9.size)
                            have hof := row_below o9 sd.all (Nat.le_refl _)
                            rw [HLY.out] at hof
                            obtain ⟨g9, c9, hv9, hat9⟩ := built_of_own hof (by rw [put_len]; omega)
                            have HF := Lib.hid (show Built w (P ++ x.l.take (m + 1)) v9 wd from ⟨put M e q, put_sorted HS.out HPA.out HZ0.out, (put_perm _ _ _).trans ((HP.out.append_right [e]).trans (by rw [HSN.out])), HBX.out.trans ((HBC.out.trans (hbf.mono hbcz)).mono hbsz), .inr ⟨g9, c9, hv9, by rw [put_len]; omega, hat9⟩⟩)
                            clear hof hv9 hat9 sd hbf
                            go_wp2_with fail
                            go_roundw
                            case rel => exact ⟨m + 1, by omega, by go_num, HF.out⟩
                            case measure => simp [intOf]; omega
                        · intro n10
                          have hd10 := Save.drawn S wc n10
                          have bq10 : Below wc.heap.size wc { wc with drawn := n10 } := bz0.trans ((Save.drawn (fun _ => False) wc n10).all.mono bz0.size)
                          have sz10 : ({ wc with drawn := n10 } : World).heap.size = wc.heap.size := rfl
                          generalize ({ wc with drawn := n10 } : World) = Q10 at *
                          unfold Oper.does
                          go_simp
                          refine same_ hd10 (Save.of_below ((Below.refl _ _).alloc (Nat.le_refl _) (evO e))) ?_
                          have b10 := bq10.alloc bq10.size (evO e)
                          have e10 := one_ls Q10 e
                          have z10 : (Q10.alloc (evO e)).heap.size = Q10.heap.size + 1 := by simp
                          unfold evO at b10 e10 z10
                          generalize Q10.alloc (.cells #[.int .i64 e.time, .int .i64 e.chip, .int .i64 e.seq, .int .i64 e.kind, .int .i64 e.a, .int .i64 e.b] 23) = W10 at *
                          refine callx_ (i := 0) rfl (by kernel_rfl) (by kernel_rfl) ?_
                          intro n11
                          have hd11 := Save.drawn S W10 n11
                          have bq11 : Below wc.heap.size wc { W10 with drawn := n11 } := b10.trans ((Save.drawn (fun _ => False) W10 n11).all.mono b10.size)
                          have sz11 : ({ W10 with drawn := n11 } : World).heap.size = W10.heap.size := rfl
                          have eq11 : LsAt ({ W10 with drawn := n11 } : World) (Q10.heap.size + 1) ⟨some ⟨Q10.heap.size, 0, none⟩, 1, [e]⟩ := e10.keep (fun _ _ => rfl)
                          generalize ({ W10 with drawn := n11 } : World) = Q11 at *
                          unfold Oper.does
                          go_simp
                          refine same_ hd11 (Save.of_below ((Below.refl _ _).alloc (Nat.le_refl _) (.cells #[] 23))) ?_
                          have o11 : (Q11.alloc (.cells #[] 23)).ownsRow wc.heap.size 23 6 (.slice (some ⟨Q11.heap.size, 0, none⟩) 0 0) ([] : List Ev).length (rowV []) := World.ownsRow_made Q11 #[] 0 bq11.size (by decide) rfl
                          have b11 := bq11.alloc bq11.size (.cells #[] 23)
                          have z11 : (Q11.alloc (.cells #[] 23)).heap.size = Q11.heap.size + 1 := by simp
                          have e11 := (eq11.keep (w' := Q11.alloc (.cells #[] 23)) ((Below.refl Q11.heap.size Q11).alloc (Nat.le_refl _) (.cells #[] 23) |>.mono (by omega)).block)
                          generalize Q11.alloc (.cells #[] 23) = W11 at *
                          refine callx_ (i := 4) rfl (by kernel_rfl) (by kernel_rfl) ?_
                          intro n12
                          have hd12 := Save.drawn S W11 n12
                          have bq12 : Below wc.heap.size wc { W11 with drawn := n12 } := b11.trans ((Save.drawn (fun _ => False) W11 n12).all.mono b11.size)
                          have sz12 : ({ W11 with drawn := n12 } : World).heap.size = W11.heap.size := rfl
                          have oq12 : ({ W11 with drawn := n12 } : World).ownsRow wc.heap.size 23 6 (.slice (some ⟨Q11.heap.size, 0, none⟩) 0 0) (([] : List Ev)).length (rowV (([] : List Ev))) := o11
                          have eq12 : LsAt ({ W11 with drawn := n12 } : World) (Q10.heap.size + 1) ⟨some ⟨Q10.heap.size, 0, none⟩, 1, [e]⟩ := e11.keep (fun _ _ => rfl)
                          generalize ({ W11 with drawn := n12 } : World) = Q12 at *
                          refine does_append_ls (.tmp 71) (.tmp 74) 25 rfl rfl wc.heap.size (.slice (some ⟨Q11.heap.size, 0, none⟩) 0 0) (([] : List Ev)) (by simp [Act.eval, Act.put]) oq12 W0.heap.size Y1 (by rw [← HV1.out]; simp [Act.eval, Act.put]) (HY1.out _ bq12) hn1 (by simp only [List.length_append, List.length_cons, List.length_nil, List.nil_append]; omega) bq12.size ?_
                          intro v12 W12 o12 g12
                          rw [List.nil_append] at o12
                          refine same_ hd12 (save_grown HSS.out g12 (fun j h => (oq12.lt j h).1)) ?_
                          have b12 := bq12.grown g12 bq12.size (fun j h => (oq12.lt j h).1)
                          have e12 : LsAt W12 (Q10.heap.size + 1) ⟨some ⟨Q10.heap.size, 0, none⟩, 1, [e]⟩ := ev_keep eq12 g12 (by intro h; have h9 : Q11.heap.size = Q10.heap.size := Option.some.inj h; omega) (by omega)
                          refine callx_ (i := 13) rfl (by kernel_rfl) (by kernel_rfl) ?_
                          intro n13
                          have hd13 := Save.drawn S W12 n13
                          have bq13 : Below wc.heap.size wc { W12 with drawn := n13 } := b12.trans ((Save.drawn (fun _ => False) W12 n13).all.mono b12.size)
                          have sz13 : ({ W12 with drawn := n13 } : World).heap.size = W12.heap.size := rfl
                          have oq13 : ({ W12 with drawn := n13 } : World).ownsRow wc.heap.size 23 6 v12 (Y1.l).length (rowV (Y1.l)) := o12
                          have eq13 : LsAt ({ W12 with drawn := n13 } : World) (Q10.heap.size + 1) ⟨some ⟨Q10.heap.size, 0, none⟩, 1, [e]⟩ := e12.keep (fun _ _ => rfl)
                          generalize ({ W12 with drawn := n13 } : World) = Q13 at *
                          refine does_append_ls (.tmp 75) (.tmp 83) 25 rfl rfl wc.heap.size v12 (Y1.l) (by simp [Act.eval, Act.put]) oq13 (Q10.heap.size + 1) ⟨some ⟨Q10.heap.size, 0, none⟩, 1, [e]⟩ (by simp [Act.eval, Act.put, Ls.val]) eq13 (fun h => by cases h) (by simp only [List.length_append, List.length_cons, List.length_nil, List.nil_append]; omega) bq13.size ?_
                          intro v13 W13 o13 g13
                          refine same_ hd13 (save_grown HSS.out g13 (fun j h => (oq13.lt j h).1)) ?_
                          have b13 := bq13.grown g13 bq13.size (fun j h => (oq13.lt j h).1)
                          refine callx_ (i := 17) rfl (by kernel_rfl) (by kernel_rfl) ?_
                          intro n14
                          have hd14 := Save.drawn S W13 n14
                          have bq14 : Below wc.heap.size wc { W13 with drawn := n14 } := b13.trans ((Save.drawn (fun _ => False) W13 n14).all.mono b13.size)
                          have sz14 : ({ W13 with drawn := n14 } : World).heap.size = W13.heap.size := rfl
                          have oq14 : ({ W13 with drawn := n14 } : World).ownsRow wc.heap.size 23 6 v13 (Y1.l ++ [e]).length (rowV (Y1.l ++ [e])) := o13
                          generalize ({ W13 with drawn := n14 } : World) = Q14 at *
                          refine does_append_ls (.tmp 84) (.tmp 87) 25 rfl rfl wc.heap.size v13 (Y1.l ++ [e]) (by simp [Act.eval, Act.put]) oq14 W0.heap.size Y2 (by rw [← HV2.out]; simp [Act.eval, Act.put]) (HY2.out _ bq14) hn2 (by simp only [List.length_append, List.length_cons, List.length_nil, List.nil_append]; omega) bq14.size ?_
                          intro v14 W14 o14 g14
                          refine turn_ (S1 := fun _ => False) hd14 (save_grown HSS.out g14 (fun j h => (oq14.lt j h).1)) (fun i hi h => h.elim) ?_
                          have b14 := bq14.grown g14 bq14.size (fun j h => (oq14.lt j h).1)
                          go_simp
                          refine seg_ [18] 0 _ (by kernel_rfl) (by kernel_rfl) (by kernel_rfl) (by simp only [pickOps, mask, plain, List.getElem?_toArray, List.getElem?_cons_zero, List.getElem?_cons_succ, if_true, Bool.false_eq_true, if_false]; rfl) ?_
                          repeat (go_big_quiet_step (fail))
                          refine wpQuiet_nil ?_
                          refine end_ (by kernel_rfl) ?_
                          intro wd sd
                          have hbf := b14.trans (sd.all.mono b14.size)
                          have hof := row_below o14 sd.all (Nat.le_refl _)
                          rw [HLY.out] at hof
                          obtain ⟨g9, c9, hv9, hat9⟩ := built_of_own hof (by rw [put_len]; omega)
                          have HF := Lib.hid (show Built w (P ++ x.l.take (m + 1)) v14 wd from ⟨put M e q, put_sorted HS.out HPA.out HZ0.out, (put_perm _ _ _).trans ((HP.out.append_right [e]).trans (by rw [HSN.out])), HBX.out.trans ((HBC.out.trans (hbf.mono hbcz)).mono hbsz), .inr ⟨g9, c9, hv9, by rw [put_len]; omega, hat9⟩⟩)
                          clear hof hv9 hat9 sd hbf
                          go_wp2_with fail
                          go_roundw
                          case rel => exact ⟨m + 1, by omega, by go_num, HF.out⟩
                          case measure => simp [intOf]; omega
              · obtain rfl : m = x.l.length := by omega
                rw [List.take_length, ← HTK.out] at hbu
                have HBU := Lib.hid hbu
                clear hbu hbw
                go_wp2_with fail
                go_roundw
                case rel => exact ⟨k + 1, by omega, by go_num, HBU.out⟩
                case measure => simp [intOf]; omega
          · obtain rfl : k = L.length := by omega
            rw [List.take_length] at hbu
            obtain ⟨M, hs, hp, hbx, hform⟩ := hbu
            obtain ⟨y, hyv, hyl, hya⟩ : ∃ y : Ls, u7 = y.val ∧ y.l = M ∧ LsAt wr wr.heap.size y := by
              rcases hform with ⟨rfl, rfl⟩ | ⟨g, c, rfl, _, hat⟩
              · exact ⟨Ls.none, rfl, rfl, Nat.le_refl _, by decide, fun h => absurd h (by decide)⟩
              · exact ⟨⟨some ⟨g, 0, none⟩, c, M⟩, rfl, rfl, hat⟩
            subst hyv
            have hm : ∀ e ∈ allOf L, e.May := all_may (fun i hi => HC.out i hi)
            obtain ⟨q1, q2⟩ := chk_sorted hs hp hm (by rw [HT.out]; omega)
            have hck := rmchk_any wr y hya
            rw [hyl] at hck
            obtain ⟨z, hz⟩ : ∃ z, chk M = z := ⟨_, rfl⟩
            rw [hz] at hck q1 q2
            have HZ := Lib.hid hz
            have HCK := Lib.hid hck
            have HYL := Lib.hid hyl
            have HYA := Lib.hid hya
            have HQ1 := Lib.hid q1
            have HQ2 := Lib.hid q2
            have HP := Lib.hid hp
            have HBX := Lib.hid hbx
            clear hz hck hyl hya q1 q2 hp hbx hs hm hform
            unfold Ls.val at HCK ⊢
            go_wp2_with fail
            refine HCK.out.mono ?_
            rintro e w9 ⟨rfl, hb9⟩
            have HB9 := Lib.hid (HBX.out.trans (hb9.mono HBX.out.size))
            have HY9 := Lib.hid ((HYA.out.keep hb9.block).more hb9.size)
            clear hb9
            by_cases hz0 : z = 0
            · have HZ0 := Lib.hid hz0
              subst hz0
              have hnd : (allOf L).Nodup := by
                by_cases hnd : (allOf L).Nodup
                · exact hnd
                · exact absurd rfl (HQ2.out hnd)
              have HF := Lib.hid (show RMergeTo w L (.returned (.tuple #[y.val, .int .i64 0])) w9 from ⟨HB9.out, .inr (.inr (.inr ⟨HE.out, by rw [HT.out]; exact hT, hnd, y, by rw [HYL.out]; exact (HQ1.out hnd).2, by rw [HYL.out]; exact HP.out, rfl, HY9.out⟩))⟩)
              unfold Ls.val at HF
              clear hnd
              go_wp2_with fail
              go_ret2
              exact HF.out
            · have hzb : (z != 0) = true := by simpa using hz0
              have hnd : ¬ (allOf L).Nodup := fun hnd => hz0 (HQ1.out hnd).1
              have HND := Lib.hid hnd
              clear hz0 hnd
              go_wp2_with fail
              go_ret2
              exact ⟨HB9.out, .inr (.inr (.inl ⟨HE.out, by rw [HT.out]; exact hT, HND.out, rfl⟩))⟩
end Go.Proofs.Ythnbpdcjooifbaa
