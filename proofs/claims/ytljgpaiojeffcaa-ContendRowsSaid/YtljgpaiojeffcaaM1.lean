
/- Package contend: waits, pure: how long they are, what comes later ends later, frames are alike. -/
import Derived.Test.YtljgpaiojeffcaaVG
namespace Go.Proofs.Ytljgpaiojeffcaa
open Go.RowKit
set_option linter.unusedSimpArgs false
set_option linter.unusedVariables false
set_option maxRecDepth 100000

/-- The wait at a column, counted from the picture's first one on. -/
def waitC (c : Int) : Int := if c % 8 < 6 then 6 - c % 8 else 0
/-- Is a line, and a column so counted, the picture's? -/
def InW16 (s : Scr) (l c : Int) : Prop := (s.top ≤ l ∧ l < s.top + s.rows) ∧ 0 ≤ c ∧ c < 4 * s.wide
instance (s : Scr) (l c : Int) : Decidable (InW16 s l c) := by unfold InW16; infer_instance
/-- The wait at a spot, and at a time. -/
def wAt (s : Scr) (l c : Int) : Int := if InW16 s l (c - (s.left - 1)) then waitC (c - (s.left - 1)) else 0
noncomputable def wF (s : Scr) (t : Int) : Int := wAt s (t % s.len / s.columns) (t % s.len % s.columns)

theorem waitC_le (c : Int) : 0 ≤ waitC c ∧ waitC c ≤ 6 := by unfold waitC; split <;> omega
theorem wAt_le (s : Scr) (l c : Int) : 0 ≤ wAt s l c ∧ wAt s l c ≤ 6 := by
  unfold wAt
  split
  · exact waitC_le _
  · omega
theorem wF_le (s : Scr) (t : Int) : 0 ≤ wF s t ∧ wF s t ≤ 6 := wAt_le s _ _

/-- A spot some T-states on, on the same line. -/
theorem spot_on {s : Scr} (hm : s.May) {t d : Int} (h0 : 0 ≤ t) (hd : 0 ≤ d) (hc : t % s.len % s.columns + d < s.columns) :
    (t + d) % s.len / s.columns = t % s.len / s.columns ∧ (t + d) % s.len % s.columns = t % s.len % s.columns + d := by
  obtain ⟨hl, hl0, hl1⟩ := Scr.len_may hm
  obtain ⟨⟨y0, y1⟩, x0, x1⟩ := spot_in hm h0
  have hC := hm.bnd.columns
  have hr0 : 0 ≤ t % s.len := Int.emod_nonneg t (by omega)
  have hr1 : t % s.len < s.len := Int.emod_lt_of_pos t (by omega)
  have he := Int.emod_add_mul_ediv (t % s.len) s.columns
  have hy : s.columns * (t % s.len / s.columns) + s.columns ≤ s.len := by
    have := Int.mul_le_mul_of_nonneg_left (show t % s.len / s.columns + 1 ≤ s.lines by omega) (show 0 ≤ s.columns by omega)
    rw [Int.mul_add, Int.mul_one] at this
    have e := Int.mul_comm s.lines s.columns
    omega
  have hin : t % s.len + d < s.len := by omega
  have e1 : (t + d) % s.len = t % s.len + d := by
    rw [← Int.emod_add_emod]
    exact Int.emod_eq_of_lt (by omega) hin
  have e2 : t % s.len + d = (t % s.len % s.columns + d) + s.columns * (t % s.len / s.columns) := by omega
  rw [e1, e2]
  constructor
  · rw [Int.add_mul_ediv_left _ _ (by omega), Int.ediv_eq_zero_of_lt (by omega) hc]; omega
  · rw [Int.add_mul_emod_self_left, Int.emod_eq_of_lt (by omega) hc]

/-- Where there is a wait: the spot, the picture. -/
theorem wF_pos {s : Scr} {t : Int} (h : 0 < wF s t) : InW16 s (t % s.len / s.columns) (t % s.len % s.columns - (s.left - 1)) ∧ (t % s.len % s.columns - (s.left - 1)) % 8 < 6 ∧ wF s t = 6 - (t % s.len % s.columns - (s.left - 1)) % 8 := by
  unfold wF wAt at h ⊢
  split at h
  · rename_i hp
    rw [if_pos hp]
    refine ⟨hp, ?_⟩
    unfold waitC at h ⊢
    split at h
    · rename_i hq
      rw [if_pos hq]
      exact ⟨hq, rfl⟩
    · omega
  · omega

/-- As long as a wait lasts, it ends at the same time. -/
theorem wF_on {s : Scr} (hm : s.May) {t d : Int} (h0 : 0 ≤ t) (hd : 0 ≤ d) (hw : d ≤ wF s t) : wF s (t + d) = wF s t - d := by
  by_cases hp : 0 < wF s t
  · obtain ⟨hin, hq, he⟩ := wF_pos hp
    have hb := hm.bnd
    obtain ⟨hy, hc0, hc1⟩ := hin
    have hw2 := hb.wide
    have hle := hb.left
    obtain ⟨e1, e2⟩ := spot_on hm h0 hd (by omega)
    have h2 : wF s (t + d) = wAt s (t % s.len / s.columns) (t % s.len % s.columns + d) := by
      unfold wF
      rw [e1, e2]
    rw [h2, he]
    unfold wAt
    rw [if_pos (show InW16 s _ _ from ⟨hy, by omega, by omega⟩)]
    unfold waitC
    generalize t % s.len % s.columns = c at *
    split <;> omega
  · have := wF_le s t
    obtain rfl : d = 0 := by omega
    rw [Int.add_zero]; omega

/-- Behind a wait there is none. -/
theorem wF_behind {s : Scr} (hm : s.May) {t : Int} (h0 : 0 ≤ t) : wF s (t + wF s t) = 0 := by
  rw [wF_on hm h0 (wF_le s t).1 (Int.le_refl _)]; omega

/-- The time behind the wait. -/
noncomputable def gF (s : Scr) (t : Int) : Int := t + wF s t
theorem gF_le (s : Scr) (t : Int) : t ≤ gF s t ∧ gF s t ≤ t + 6 := by have := wF_le s t; unfold gF; omega
/-- What comes later ends later. -/
theorem gF_mono {s : Scr} (hm : s.May) {t u : Int} (h0 : 0 ≤ t) (h : t ≤ u) : gF s t ≤ gF s u := by
  by_cases hu : u ≤ t + wF s t
  · have := wF_on hm h0 (show 0 ≤ u - t by omega) (by omega)
    rw [show t + (u - t) = u by omega] at this
    unfold gF
    omega
  · have := gF_le s u
    unfold gF at *
    omega
/-- Frames are alike. -/
theorem wF_frame (s : Scr) (t : Int) : wF s (t + s.len) = wF s t := by
  unfold wF
  rw [Int.add_emod_right]
theorem gF_frame (s : Scr) (t : Int) : gF s (t + s.len) = gF s t + s.len := by
  unfold gF
  rw [wF_frame]; omega
/-- A picture without bytes. -/
theorem wF_bare {s : Scr} (h : s.wide = 0) (t : Int) : wF s t = 0 := by
  unfold wF wAt
  rw [if_neg]
  intro hp
  have := hp.2
  omega
theorem wF_out {s : Scr} {t : Int} (h : ¬ (s.top ≤ t % s.len / s.columns ∧ t % s.len / s.columns < s.top + s.rows)) : wF s t = 0 := by
  unfold wF wAt
  rw [if_neg]
  exact fun hp => h hp.1

/-- A wait that may be, or may not. -/
noncomputable def stF (s : Scr) (p : Bool) (t : Int) : Int := if p = true then gF s t else t
theorem stF_le (s : Scr) (p : Bool) (t : Int) : t ≤ stF s p t ∧ stF s p t ≤ t + 6 := by
  unfold stF
  split
  · exact gF_le s t
  · omega
theorem stF_mono {s : Scr} (hm : s.May) (p : Bool) {t u : Int} (h0 : 0 ≤ t) (h : t ≤ u) : stF s p t ≤ stF s p u := by
  unfold stF
  split
  · exact gF_mono hm h0 h
  · exact h
theorem stF_frame (s : Scr) (p : Bool) (t : Int) : stF s p (t + s.len) = stF s p t + s.len := by
  unfold stF
  split
  · exact gF_frame s t
  · rfl
theorem stF_more {s : Scr} {p q : Bool} (h : p = true → q = true) (t : Int) : stF s p t ≤ stF s q t := by
  have hg := gF_le s t
  unfold stF
  cases p with
  | false => simp only [Bool.false_eq_true, if_false]; split <;> omega
  | true => rw [h rfl]; exact Int.le_refl _
theorem stF_bare {s : Scr} (h : s.wide = 0) (p : Bool) (t : Int) : stF s p t = t := by
  unfold stF gF
  rw [wF_bare h]
  split <;> omega
theorem stF_no (s : Scr) (t : Int) : stF s false t = t := by unfold stF; simp
theorem stF_yes (s : Scr) (t : Int) : stF s true t = gF s t := by unfold stF; simp

/-- Is there a wait ahead of the n-th T-state of a port's request? -/
def waitsP (n : Nat) (odd slow : Bool) : Bool := if odd = true then slow else (n == 1 || slow && n < 1)
/-- When the n-th of them begins, its waits not counted. -/
noncomputable def portT (s : Scr) (odd slow : Bool) (t : Int) : Nat → Int
  | 0 => t
  | n + 1 => stF s (waitsP n odd slow) (portT s odd slow t n) + 1
theorem portT_le (s : Scr) (odd slow : Bool) (t : Int) : ∀ n, t + n ≤ portT s odd slow t n ∧ portT s odd slow t n ≤ t + 7 * n
  | 0 => by simp [portT]
  | n + 1 => by
    have := portT_le s odd slow t n
    have := stF_le s (waitsP n odd slow) (portT s odd slow t n)
    simp only [portT]
    omega
theorem portT_mono {s : Scr} (hm : s.May) (odd slow : Bool) {t u : Int} (h0 : 0 ≤ t) (h : t ≤ u) : ∀ n, portT s odd slow t n ≤ portT s odd slow u n
  | 0 => h
  | n + 1 => by
    have h1 := portT_mono hm odd slow h0 h n
    have h2 := portT_le s odd slow t n
    have := stF_mono hm (waitsP n odd slow) (show 0 ≤ portT s odd slow t n by omega) h1
    simp only [portT]
    omega
theorem portT_frame (s : Scr) (odd slow : Bool) (t : Int) : ∀ n, portT s odd slow (t + s.len) n = portT s odd slow t n + s.len
  | 0 => rfl
  | n + 1 => by
    simp only [portT]
    rw [portT_frame s odd slow t n, stF_frame]
    omega
theorem portT_more {s : Scr} (hm : s.May) (odd : Bool) {t : Int} (h0 : 0 ≤ t) : ∀ n, portT s odd false t n ≤ portT s odd true t n
  | 0 => Int.le_refl _
  | n + 1 => by
    have h1 := portT_more hm odd h0 n
    have h2 := portT_le s odd false t n
    have h3 := stF_mono hm (waitsP n odd false) (show 0 ≤ portT s odd false t n by omega) h1
    have h4 : stF s (waitsP n odd false) (portT s odd true t n) ≤ stF s (waitsP n odd true) (portT s odd true t n) := stF_more (by unfold waitsP; cases odd <;> simp <;> intro h <;> simp [h]) _
    simp only [portT]
    omega
theorem portT_bare {s : Scr} (h : s.wide = 0) (odd slow : Bool) (t : Int) : ∀ n : Nat, portT s odd slow t n = t + n
  | 0 => by simp [portT]
  | n + 1 => by
    simp only [portT]
    rw [portT_bare h odd slow t n, stF_bare h]
    omega
theorem portT_odd (s : Scr) (t : Int) : ∀ n : Nat, portT s true false t n = t + n
  | 0 => by simp [portT]
  | n + 1 => by
    simp only [portT]
    rw [portT_odd s t n]
    unfold waitsP
    rw [if_pos rfl, stF_no]
    omega

/-- A request. -/
structure Rq where
  kind : Int
  addr : Int
  value : Int
  ts : Int
def Rq.val (q : Rq) : Value := .agg #[.int .i64 q.kind, .int .u16 q.addr, .int .u8 q.value, .int .i64 q.ts]
def Rq.cells (q : Rq) : List Value := [.int .i64 q.kind, .int .u16 q.addr, .int .u8 q.value, .int .i64 q.ts]
structure Rq.wf (q : Rq) : Prop where
  kind : -9223372036854775808 ≤ q.kind ∧ q.kind < 9223372036854775808
  addr : 0 ≤ q.addr ∧ q.addr < 65536
  value : 0 ≤ q.value ∧ q.value < 256
  ts : -9223372036854775808 ≤ q.ts ∧ q.ts < 9223372036854775808
/-- How long one lasts that may be, 0 of an idle one and of none. -/
def lastsI (k : Int) : Int := if k = 2 ∨ k = 3 then 3 else if k = 1 ∨ k = 4 ∨ k = 5 then 4 else if k = 7 then 7 else 0
/-- May it be? -/
def Rq.May (q : Rq) : Prop :=
  (if q.kind = 6 then 1 ≤ q.ts ∧ q.ts ≤ 7 else q.ts ≠ 0 ∧ q.ts = lastsI q.kind) ∧
  (if q.kind = 3 ∨ q.kind = 5 then True else if q.kind = 6 then q.addr = 0 ∧ q.value = 0 else q.value = 0)
instance (q : Rq) : Decidable q.May := by unfold Rq.May; infer_instance
theorem Rq.May.ts {q : Rq} (h : q.May) : 1 ≤ q.ts ∧ q.ts ≤ 7 := by
  have := h.1
  unfold lastsI at this
  split at this
  · exact this
  · split at this <;> (try split at this) <;> (try split at this) <;> omega
theorem Rq.May.four {q : Rq} (h : q.May) (hk : q.kind = 4 ∨ q.kind = 5) : q.ts = 4 := by
  have := h.1
  rw [if_neg (by omega)] at this
  unfold lastsI at this
  rw [if_neg (by omega), if_pos (by omega)] at this
  exact this.2

/-- Is it a port's? -/
def Rq.port (q : Rq) : Prop := q.kind = 4 ∨ q.kind = 5
instance (q : Rq) : Decidable q.port := by unfold Rq.port; infer_instance
/-- Is its port's lowest bit 1? -/
def Rq.odd (q : Rq) : Bool := decide (q.addr % 2 = 1)
/-- Of one that is none of a port: is there a wait ahead of it? -/
def Rq.waits (q : Rq) (slow : Bool) : Bool := slow && decide (q.kind ≠ 6)
/-- When a request happens, and when the next one begins. -/
noncomputable def reqAt (s : Scr) (q : Rq) (slow : Bool) (t : Int) : Int := if q.port then portT s q.odd slow t 2 - 1 else stF s (q.waits slow) t
noncomputable def reqEnd (s : Scr) (q : Rq) (slow : Bool) (t : Int) : Int := if q.port then portT s q.odd slow t 4 else stF s (q.waits slow) t + q.ts
/-- By how much it may be late. -/
def mostI (s : Scr) (q : Rq) : Int := if s.rows ≤ 0 ∨ s.wide ≤ 0 then 0 else if q.kind = 6 then 0 else if q.port then 24 else 6

theorem reqEnd_mono {s : Scr} (hm : s.May) (q : Rq) (slow : Bool) {t u : Int} (h0 : 0 ≤ t) (h : t ≤ u) : reqEnd s q slow t ≤ reqEnd s q slow u := by
  unfold reqEnd
  split
  · exact portT_mono hm _ _ h0 h 4
  · have := stF_mono hm (q.waits slow) h0 h
    omega
theorem reqEnd_frame (s : Scr) (q : Rq) (slow : Bool) (t : Int) : reqEnd s q slow (t + s.len) = reqEnd s q slow t + s.len := by
  unfold reqEnd
  split
  · exact portT_frame s _ _ t 4
  · rw [stF_frame]; omega
theorem reqEnd_more {s : Scr} (hm : s.May) (q : Rq) {t : Int} (h0 : 0 ≤ t) : reqEnd s q false t ≤ reqEnd s q true t := by
  unfold reqEnd
  split
  · exact portT_more hm _ h0 4
  · have : stF s (q.waits false) t ≤ stF s (q.waits true) t := stF_more (by unfold Rq.waits; simp) t
    omega
/-- Where nothing waits. -/
theorem wF_none {s : Scr} (h : s.rows ≤ 0 ∨ s.wide ≤ 0) (t : Int) : wF s t = 0 := by
  unfold wF wAt
  rw [if_neg]
  intro hp
  obtain ⟨h1, h2⟩ := hp
  omega
theorem stF_none {s : Scr} (h : s.rows ≤ 0 ∨ s.wide ≤ 0) (p : Bool) (t : Int) : stF s p t = t := by
  unfold stF gF
  rw [wF_none h]
  split <;> omega
theorem portT_none {s : Scr} (h : s.rows ≤ 0 ∨ s.wide ≤ 0) (odd slow : Bool) (t : Int) : ∀ n : Nat, portT s odd slow t n = t + n
  | 0 => by simp [portT]
  | n + 1 => by
    simp only [portT]
    rw [portT_none h odd slow t n, stF_none h]
    omega
/-- A request lies between its beginning and its end, which is T later at least, T and Most at most. -/
theorem req_in (s : Scr) (q : Rq) (hq : q.May) (slow : Bool) (t : Int) :
    t ≤ reqAt s q slow t ∧ reqAt s q slow t < reqEnd s q slow t ∧ t + q.ts ≤ reqEnd s q slow t ∧ reqEnd s q slow t ≤ t + q.ts + mostI s q := by
  have hts := hq.ts
  unfold reqAt reqEnd mostI
  by_cases hp : q.port
  · rw [if_pos hp, if_pos hp, if_pos hp, if_neg (show ¬ q.kind = 6 by unfold Rq.port at hp; omega)]
    have h4 := hq.four hp
    have a2 := portT_le s q.odd slow t 2
    have a4 := portT_le s q.odd slow t 4
    have b2 : portT s q.odd slow t 3 = stF s (waitsP 2 q.odd slow) (portT s q.odd slow t 2) + 1 := rfl
    have b3 : portT s q.odd slow t 4 = stF s (waitsP 3 q.odd slow) (portT s q.odd slow t 3) + 1 := rfl
    have c2 := stF_le s (waitsP 2 q.odd slow) (portT s q.odd slow t 2)
    have c3 := stF_le s (waitsP 3 q.odd slow) (portT s q.odd slow t 3)
    split
    · rename_i h
      have := portT_none h q.odd slow t 4
      omega
    · omega
  · rw [if_neg hp, if_neg hp, if_neg hp]
    have hs := stF_le s (q.waits slow) t
    split
    · rename_i h
      have := stF_none h (q.waits slow) t
      omega
    · split
      · rename_i h
        have : q.waits slow = false := by unfold Rq.waits; simp [h]
        rw [this, stF_no]
        omega
      · omega
theorem req_bare {s : Scr} (hw : s.wide = 0) (q : Rq) (hq : q.May) (slow : Bool) (t : Int) : reqEnd s q slow t = t + q.ts ∧ t ≤ reqAt s q slow t ∧ reqAt s q slow t ≤ t + 1 := by
  unfold reqAt reqEnd
  by_cases hp : q.port
  · rw [if_pos hp, if_pos hp, portT_bare hw, portT_bare hw, hq.four hp]
    omega
  · rw [if_neg hp, if_neg hp, stF_bare hw]
    omega
end Go.Proofs.Ytljgpaiojeffcaa
