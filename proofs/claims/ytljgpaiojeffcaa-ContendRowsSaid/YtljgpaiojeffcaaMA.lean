
/- Package contend: Row. -/
import Derived.Test.YtljgpaiojeffcaaM9
namespace Go.Proofs.Ytljgpaiojeffcaa
open Go.RowKit
set_option linter.unusedSimpArgs false
set_option linter.unusedVariables false
set_option maxRecDepth 100000

/-- When the requests behind the first k of a row begin; when the k-th happens; all of these. -/
noncomputable def rowE (s : Scr) (l : List Rq) (m : List Bool) (t : Int) : Nat → Int
  | 0 => t
  | k + 1 => reqEnd s (l.getD k rqZ) (m.getD k false) (rowE s l m t k)
noncomputable def rowA (s : Scr) (l : List Rq) (m : List Bool) (t : Int) (k : Nat) : Int := reqAt s (l.getD k rqZ) (m.getD k false) (rowE s l m t k)
noncomputable def rowL (s : Scr) (l : List Rq) (m : List Bool) (t : Int) : Nat → List Int
  | 0 => []
  | k + 1 => rowL s l m t k ++ [rowA s l m t k]
theorem rowL_len (s : Scr) (l : List Rq) (m : List Bool) (t : Int) : ∀ k, (rowL s l m t k).length = k
  | 0 => rfl
  | k + 1 => by simp only [rowL]; rw [List.length_append, rowL_len s l m t k]; rfl
theorem rowL_at (s : Scr) (l : List Rq) (m : List Bool) (t : Int) : ∀ k i, i < k → (rowL s l m t k).getD i 0 = rowA s l m t i
  | 0, i, h => by omega
  | k + 1, i, h => by
    simp only [rowL]
    have hl := rowL_len s l m t k
    by_cases e : i = k
    · subst e
      simp only [List.getD_eq_getElem?_getD]
      rw [List.getElem?_append_right (by omega), hl]
      simp
    · have := rowL_at s l m t k i (by omega)
      simp only [List.getD_eq_getElem?_getD] at this ⊢
      rw [List.getElem?_append_left (by omega)]
      exact this
/-- Each of a row's requests may be, and is one of Go's. -/
def RowOk (l : List Rq) : Prop := ∀ k, k < l.length → (l.getD k rqZ).May ∧ (l.getD k rqZ).wf
theorem mostI_le (s : Scr) (q : Rq) : 0 ≤ mostI s q ∧ mostI s q ≤ 24 := by unfold mostI; (repeat' split) <;> omega
theorem rowE_le (s : Scr) (l : List Rq) (m : List Bool) (t : Int) (h : RowOk l) : ∀ k, k ≤ l.length → t + k ≤ rowE s l m t k ∧ rowE s l m t k ≤ t + 31 * k
  | 0, _ => by simp [rowE]
  | k + 1, hk => by
    have h1 := rowE_le s l m t h k (by omega)
    have hq := (h k (by omega)).1
    have h2 := req_in s (l.getD k rqZ) hq (m.getD k false) (rowE s l m t k)
    have h3 := mostI_le s (l.getD k rqZ)
    have h4 := hq.ts
    simp only [rowE]
    omega
theorem rowE_mono {s : Scr} (hm : s.May) (l : List Rq) (m : List Bool) {t u : Int} (h : RowOk l) (h0 : 0 ≤ t) (h1 : t ≤ u) : ∀ k, k ≤ l.length → rowE s l m t k ≤ rowE s l m u k
  | 0, _ => h1
  | k + 1, hk => by
    have h2 := rowE_mono hm l m h h0 h1 k (by omega)
    have h3 := rowE_le s l m t h k (by omega)
    exact reqEnd_mono hm _ _ (by omega) h2
theorem rowE_frame (s : Scr) (l : List Rq) (m : List Bool) (t : Int) : ∀ k, rowE s l m (t + s.len) k = rowE s l m t k + s.len
  | 0 => rfl
  | k + 1 => by
    simp only [rowE]
    rw [rowE_frame s l m t k, reqEnd_frame]

/-- Numbers in memory. -/
structure NsAt (w : World) (B : Nat) (A : Option Addr) (l : List Int) : Prop where
  at_ : 0 < l.length → ∃ b o, A = some ⟨b, o, Option.none⟩ ∧ b < B ∧ ∀ i, i < l.length → w.cell? ⟨b, o + i, none⟩ = some (.int .i64 (l.getD i 0))
theorem NsAt.below {w w' : World} {B : Nat} {A : Option Addr} {l : List Int} (h : NsAt w B A l) (hb : Below B w w') : NsAt w' B A l :=
  ⟨fun h0 => by
    obtain ⟨b, o, h1, h2, h3⟩ := h.at_ h0
    exact ⟨b, o, h1, h2, fun i hi => (hb.cell h2).trans (h3 i hi)⟩⟩
theorem NsAt.more {w : World} {B B' : Nat} {A : Option Addr} {l : List Int} (h : NsAt w B A l) (hB : B ≤ B') : NsAt w B' A l :=
  ⟨fun h0 => by
    obtain ⟨b, o, h1, h2, h3⟩ := h.at_ h0
    exact ⟨b, o, h1, by omega, h3⟩⟩
theorem NsAt.own {w : World} {base c : Nat} {A : Option Addr} {e : TypeId} {l : List Int} (h : w.ownsRow base e 1 (.slice A l.length c) l.length (l.map (Value.int .i64))) : NsAt w w.heap.size A l := by
  rcases h.2 with ⟨h1, h2⟩ | ⟨g, cap, cur, h1, hb, hg, hn, hm, hs⟩
  · injection h1 with h3 h4 h5
    exact ⟨fun h0 => absurd h0 (by omega)⟩
  · injection h1 with h3 h4 h5
    subst h3
    have hlt := (h.lt g rfl).2
    refine ⟨fun h0 => ⟨g, 0, rfl, hlt, fun i hi => ?_⟩⟩
    rw [h.cellAt _ (by omega), Nat.zero_add]
    simp [List.getD_eq_getElem?_getD, hi]
theorem own_below16 {B : Nat} {e : TypeId} {k : Nat} {v : Value} {n : Nat} {xs : List Value} {w w' : World} (h : w.ownsRow B e k v n xs) (hb : Below w.heap.size w w') : w'.ownsRow B e k v n xs :=
  h.kept (row := none) ⟨hb.os, hb.tape, hb.output, hb.size, fun j hj _ => hb.block j hj⟩ (by cases hv : v.ownBlock <;> simp)
theorem row_shape {w : World} {base n : Nat} {v : Value} {xs : List Value} {e : TypeId} (h : w.ownsRow base e 1 v n xs) : ∃ A c, v = .slice A n c := by
  rcases h.2 with ⟨h1, h2⟩ | ⟨g, cap, cur, h1, _⟩
  · exact ⟨none, 0, by rw [h1, h2]⟩
  · exact ⟨_, _, h1⟩
theorem info_i64 : (Try.prog.info? 2).map (fun i => (i.zero, i.size, i.bytes)) = some (some (.int .i64 0), 1, 8) := by kernel_rfl
theorem new_one16 (w : World) (v : Value) (t : TypeId) : ∀ j u, [v][j]? = some u → (w.alloc (.cells #[v] t)).cell? ((⟨w.heap.size, 0, none⟩ : Addr).add j) = some u := by
  intro j u hu
  cases j with
  | zero =>
    obtain rfl : v = u := by simpa using hu
    show (w.alloc (.cells #[v] t)).cell? ⟨w.heap.size, 0, none⟩ = some v
    rw [World.cell?_alloc_at _ _ _ _ rfl]
    first | done | rfl
  | succ j => simp at hu

/-- What Row answers of a row that may be. -/
def RowTo (s : Scr) (l : List Rq) (m : List Bool) (t : Int) (w : World) : Ending → World → Prop := fun e w' =>
  (∃ A c, e = .returned (.tuple #[.slice A l.length c, .int .i64 (rowE s l m t l.length), .int .i64 0]) ∧ NsAt w' w'.heap.size A (rowL s l m t l.length)) ∧ Below w.heap.size w w'

set_option maxHeartbeats 4000000 in
theorem row_yes (w : World) (s : Scr) (hm : s.May) (A : Option Addr) (c : Nat) (l : List Rq) (A2 : Option Addr) (c2 : Nat) (m : List Bool) (t : Int) (hl : QsAt w w.heap.size A l) (hb : BlAt w w.heap.size A2 m)
    (hc : l.length ≤ 1000) (hc2 : m.length ≤ 1000) (hr : RowOk l) (h0 : 0 ≤ t) (h1 : t ≤ 1099511000000) :
    Calls Try.prog 14 #[s.val, .slice A l.length c, .slice A2 m.length c2, .int .i64 t] w (RowTo s l m t w) := by
  obtain ⟨i1, hi, hz0, hz1, hz2⟩ := info_parts info_i64
  have HL := Lib.hid hl
  have HB := Lib.hid hb
  have HE := Lib.hid (rowE_le s l m t hr)
  have HR := Lib.hid (fun k (hk : k < l.length) (w : World) => request_yes w s (l.getD k rqZ) (m.getD k false) (rowE s l m t k) (hr k hk).2 ⟨hm, (hr k hk).1, by have := rowE_le s l m t hr k (by omega); omega, by have := rowE_le s l m t hr k (by omega); omega⟩)
  have hs0 : ∀ k, rowE s l m t (k + 1) = reqEnd s (l.getD k rqZ) (m.getD k false) (rowE s l m t k) := fun k => rfl
  have ha0 : ∀ k, rowA s l m t k = reqAt s (l.getD k rqZ) (m.getD k false) (rowE s l m t k) := fun k => rfl
  have HS := Lib.hid hs0
  have HA := Lib.hid ha0
  have hz0' : rowE s l m t 0 = t := rfl
  have hlz : rowL s l m t 0 = [] := rfl
  have hls : ∀ k, rowL s l m t (k + 1) = rowL s l m t k ++ [rowA s l m t k] := fun k => rfl
  have HZ := Lib.hid hz0'
  have HLz := Lib.hid hlz
  have HLs := Lib.hid hls
  have HLn := Lib.hid (rowL_len s l m t)
  clear hl hb hr hs0 ha0 hz0' hlz hls
  unfold RowTo
  generalize rowE s l m t = f at *
  generalize hga : rowA s l m t = ga at *
  generalize hgl : rowL s l m t = gl at *
  clear hga hgl
  unfold Scr.val at *
  go_enter Try.func14, Try.ntmps14
  go_wp2_with fail
  go_loopw [8, 9, 10, 17] (fun v x e i wr => ∃ k : Nat, k ≤ l.length ∧ i = .int .i64 k ∧ x = .int .i64 (f k) ∧ e = .int .i64 0 ∧ wr.ownsRow (w.heap.size + 1) 2 1 v k ((gl k).map (Value.int .i64)) ∧ SB wr w.heap.size s ∧ w.heap.size < wr.heap.size ∧ Below w.heap.size w wr) (fun _ _ _ i _ => l.length - (intOf i).toNat)
  case atStart =>
    exact ⟨0, Nat.zero_le _, rfl, by rw [HZ.out], rfl, by rw [HLz.out]; exact World.ownsRow_nil _ _ _ _, SB.laid s (Below.refl _ _), by simp, (Below.refl _ _).alloc (Nat.le_refl _) _⟩
  case round =>
    rename World => wr
    obtain ⟨k, hk, rfl, rfl, rfl, ho, hS, hlt, hB⟩ := hrel
    have HO := Lib.hid ho
    have HBl := Lib.hid hB
    clear ho hB
    by_cases hkl : k < l.length
    · obtain ⟨b, o, hA, hb1, hat⟩ := HL.out.at_ (by omega)
      have hq := (hat k hkl).below HBl.out hb1
      have hR := HR.out k hkl
      rw [← HA.out k, ← HS.out k] at hR
      have HH := Lib.hid hR
      obtain ⟨e0, e1⟩ := HE.out k hk
      have HLn1 := Lib.hid (HLn.out k)
      have HLs1 := Lib.hid (HLs.out k)
      clear hR hat HR HS HA
      generalize l.getD k rqZ = q at *
      obtain ⟨kd, ad, va, ts⟩ := q
      unfold Rq.val at HH
      simp only at HH
      obtain ⟨d0, d1, d2, d3⟩ := hq
      simp only at d0 d1 d2 d3
      subst hA
      have hbl : b < wr.heap.size := by have := HBl.out.size; omega
      go_upto_region 6 with fail
      have hBx0 : Below wr.heap.size wr (wr.alloc (.cells #[.int .i64 kd, .int .u16 ad, .int .u8 va, .int .i64 ts] 30)) := (Below.refl _ _).alloc (Nat.le_refl _) _
      have hQx : QB (wr.alloc (.cells #[.int .i64 kd, .int .u16 ad, .int .u8 va, .int .i64 ts] 30)) wr.heap.size 0 ⟨kd, ad, va, ts⟩ := QB.now wr ⟨kd, ad, va, ts⟩
      have hlq : wr.heap.size < (wr.alloc (.cells #[.int .i64 kd, .int .u16 ad, .int .u8 va, .int .i64 ts] 30)).heap.size := by simp
      generalize wr.alloc (.cells #[.int .i64 kd, .int .u16 ad, .int .u8 va, .int .i64 ts] 30) = wx at *
      have HOx := Lib.hid (own_below16 HO.out hBx0)
      have HBx := Lib.hid (HBl.out.trans (hBx0.mono HBl.out.size))
      have hSx := hS.below hBx0 hlt
      have hlx : w.heap.size < wx.heap.size := by omega
      have HM := Lib.hid (HB.out.below HBx.out)
      clear hBx0 HO HBl hS d0 d1 d2 d3 hbl hb1
      generalize ga k = ra at *
      generalize hre : f (k + 1) = re at *
      have HRe := Lib.hid hre
      generalize gl k = gk at *
      clear hre
      have x0 := fun p : M.Of (M.Base wx) => (hSx.below p.ok.2 hlx).c0
      have x1 := fun p : M.Of (M.Base wx) => (hSx.below p.ok.2 hlx).c1
      have x2 := fun p : M.Of (M.Base wx) => (hSx.below p.ok.2 hlx).c2
      have x3 := fun p : M.Of (M.Base wx) => (hSx.below p.ok.2 hlx).c3
      have x4 := fun p : M.Of (M.Base wx) => (hSx.below p.ok.2 hlx).c4
      have x5 := fun p : M.Of (M.Base wx) => (hSx.below p.ok.2 hlx).c5
      have x6 := fun p : M.Of (M.Base wx) => (hSx.below p.ok.2 hlx).c6
      have y0 := fun p : M.Of (M.Base wx) => (hQx.below p.ok.2 hlq).c0
      have y1 := fun p : M.Of (M.Base wx) => (hQx.below p.ok.2 hlq).c1
      have y2 := fun p : M.Of (M.Base wx) => (hQx.below p.ok.2 hlq).c2
      have y3 := fun p : M.Of (M.Base wx) => (hQx.below p.ok.2 hlq).c3
      simp only [Nat.zero_add] at y0 y1 y2 y3
      clear hQx
      by_cases hkm : k < m.length
      · obtain ⟨b2, o2, hA2, hb2, hat2⟩ := HM.out.at_ (by omega)
        have hl2 : b2 < wx.heap.size := by have := HBx.out.size; omega
        have z0 := fun p : M.Of (M.Base wx) => (p.ok.2.cell hl2).trans (hat2 k hkm)
        clear hat2
        generalize m.getD k false = mk at *
        subst hA2
        clear HB
        have hkd : decide (k < m.length) = true := decide_eq_true hkm
        refine M.region_ (by kernel_rfl) ?_
        refine M.seg_ [0, 1, 2, 3, 4, 5, 6, 7, 8, 9, 10, 11, 12] 8 _ _ (M.Base.refl _) (by kernel_rfl) (by kernel_rfl) (by kernel_rfl) (by simp only [pickOps, mask, plain, List.getElem?_toArray, List.getElem?_cons_zero, List.getElem?_cons_succ, if_true, Bool.false_eq_true, if_false]; rfl) ?_
        repeat (go_big_quiet_step (fail))
        refine wpQuiet_nil ?_
        refine M.calm_ (i := 13) (.tuple #[.int .i64 ra, .int .i64 re, .int .i64 0]) rfl (by kernel_rfl) (by kernel_rfl) (by kernel_rfl) (by kernel_rfl) ?_ ?_
        · intro wz sz
          unfold Oper.does
          go_simp
          exact (HH.out wz).mono fun e w' ⟨he, hw⟩ => ⟨_, he, rfl, Save.of_below hw⟩
        go_simp
        refine M.seg_ [14, 15, 16, 17, 18, 19, 20] 0 _ _ (M.Base.refl _) (by kernel_rfl) (by kernel_rfl) (by kernel_rfl) (by simp only [pickOps, mask, plain, List.getElem?_toArray, List.getElem?_cons_zero, List.getElem?_cons_succ, if_true, Bool.false_eq_true, if_false]; rfl) ?_
        repeat (go_big_quiet_step (fail))
        refine wpQuiet_nil ?_
        refine M.end_ (by kernel_rfl) ?_
        intro wc sc
        have hBc := sc.2
        have HOc := Lib.hid (own_below16 HOx.out hBc)
        have HBc := Lib.hid (HBx.out.trans (hBc.mono HBx.out.size))
        have hSc := hSx.below hBc hlx
        have hlc : w.heap.size < wc.heap.size := by have := hBc.size; omega
        clear hBc hSx x0 x1 x2 x3 x4 x5 x6 y0 y1 y2 y3 sc
        go_wp2_with (at_builtin; refine wpList_append_own _ rfl (.tmp 43) (.tmp 45) 38 rfl (w.heap.size + 1) 2 i1 (.int .i64 0) 1 8 Try.underlying38 hi hz0 hz1 hz2 rfl (by decide) _ k (gk.map (Value.int .i64)) rfl (HOc.out.alloc _) ⟨wc.heap.size, 0, none⟩ 1 1 [_] rfl rfl (new_one16 wc _ _) (fun u hu => by obtain rfl := List.mem_singleton.1 hu; rfl) (by unfold maxLen; omega) (by omega) (by have := HBc.out.size; simp; omega) ?_; intro v' w' hown hg5 _; have HO2 := Lib.hid hown; have HG2 := Lib.hid hg5; clear hown hg5)
        refine ⟨⟨k + 1, by omega, by go_num, by rw [HRe.out], rfl, ?_, ?_, ?_, ?_⟩, by simp [intOf]; omega⟩
        · rw [HLs1.out, List.map_append]; exact HO2.out
        · exact hSc.below (((Below.refl (w.heap.size + 1) wc).alloc (by omega) _).grown HG2.out (by simp; omega) (fun k hk => (HOc.out.lt k hk).1)) (by omega)
        · have := (((Below.refl (w.heap.size + 1) wc).alloc (by omega) _).grown HG2.out (by simp; omega) (fun k hk => (HOc.out.lt k hk).1)).size
          omega
        · exact HBc.out.trans ((((Below.refl (w.heap.size + 1) wc).alloc (by omega) _).grown HG2.out (by simp; omega) (fun k hk => (HOc.out.lt k hk).1)).mono (by omega))
      · have hmk : m.getD k false = false := by rw [List.getD_eq_getElem?_getD, List.getElem?_eq_none (by omega)]; rfl
        rw [hmk] at HH
        have hkd : decide (k < m.length) = false := decide_eq_false hkm
        refine M.region_ (by kernel_rfl) ?_
        refine M.seg_ [0, 1, 2, 3, 4, 5, 6, 7, 8, 9, 10, 11, 12] 8 _ _ (M.Base.refl _) (by kernel_rfl) (by kernel_rfl) (by kernel_rfl) (by simp only [pickOps, mask, plain, List.getElem?_toArray, List.getElem?_cons_zero, List.getElem?_cons_succ, if_true, Bool.false_eq_true, if_false]; rfl) ?_
        repeat (go_big_quiet_step (fail))
        refine wpQuiet_nil ?_
        refine M.calm_ (i := 13) (.tuple #[.int .i64 ra, .int .i64 re, .int .i64 0]) rfl (by kernel_rfl) (by kernel_rfl) (by kernel_rfl) (by kernel_rfl) ?_ ?_
        · intro wz sz
          unfold Oper.does
          go_simp
          exact (HH.out wz).mono fun e w' ⟨he, hw⟩ => ⟨_, he, rfl, Save.of_below hw⟩
        go_simp
        refine M.seg_ [14, 15, 16, 17, 18, 19, 20] 0 _ _ (M.Base.refl _) (by kernel_rfl) (by kernel_rfl) (by kernel_rfl) (by simp only [pickOps, mask, plain, List.getElem?_toArray, List.getElem?_cons_zero, List.getElem?_cons_succ, if_true, Bool.false_eq_true, if_false]; rfl) ?_
        repeat (go_big_quiet_step (fail))
        refine wpQuiet_nil ?_
        refine M.end_ (by kernel_rfl) ?_
        intro wc sc
        have hBc := sc.2
        have HOc := Lib.hid (own_below16 HOx.out hBc)
        have HBc := Lib.hid (HBx.out.trans (hBc.mono HBx.out.size))
        have hSc := hSx.below hBc hlx
        have hlc : w.heap.size < wc.heap.size := by have := hBc.size; omega
        clear hBc hSx x0 x1 x2 x3 x4 x5 x6 y0 y1 y2 y3 sc
        go_wp2_with (at_builtin; refine wpList_append_own _ rfl (.tmp 43) (.tmp 45) 38 rfl (w.heap.size + 1) 2 i1 (.int .i64 0) 1 8 Try.underlying38 hi hz0 hz1 hz2 rfl (by decide) _ k (gk.map (Value.int .i64)) rfl (HOc.out.alloc _) ⟨wc.heap.size, 0, none⟩ 1 1 [_] rfl rfl (new_one16 wc _ _) (fun u hu => by obtain rfl := List.mem_singleton.1 hu; rfl) (by unfold maxLen; omega) (by omega) (by have := HBc.out.size; simp; omega) ?_; intro v' w' hown hg5 _; have HO2 := Lib.hid hown; have HG2 := Lib.hid hg5; clear hown hg5)
        refine ⟨⟨k + 1, by omega, by go_num, by rw [HRe.out], rfl, ?_, ?_, ?_, ?_⟩, by simp [intOf]; omega⟩
        · rw [HLs1.out, List.map_append]; exact HO2.out
        · exact hSc.below (((Below.refl (w.heap.size + 1) wc).alloc (by omega) _).grown HG2.out (by simp; omega) (fun k hk => (HOc.out.lt k hk).1)) (by omega)
        · have := (((Below.refl (w.heap.size + 1) wc).alloc (by omega) _).grown HG2.out (by simp; omega) (fun k hk => (HOc.out.lt k hk).1)).size
          omega
        · exact HBc.out.trans ((((Below.refl (w.heap.size + 1) wc).alloc (by omega) _).grown HG2.out (by simp; omega) (fun k hk => (HOc.out.lt k hk).1)).mono (by omega))
    · obtain rfl : k = l.length := by omega
      obtain ⟨A3, c3, rfl⟩ := row_shape HO.out
      have hN : NsAt wr wr.heap.size A3 (gl l.length) := NsAt.own (by rw [HLn.out]; exact HO.out)
      have HN := Lib.hid hN
      clear hN HR HS HA HE HLs HLn HO HZ HLz HL HB
      go_wp2_with fail
      go_ret3
      exact ⟨⟨A3, c3, rfl, HN.out⟩, HBl.out⟩
end Go.Proofs.Ytljgpaiojeffcaa
