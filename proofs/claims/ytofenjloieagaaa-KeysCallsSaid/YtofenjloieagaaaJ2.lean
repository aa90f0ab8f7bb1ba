/-    -/
import Derived.Test.YtofenjloieagaaaZS
import Derived.Test.YtofenjloieagaaaZD
import Derived.Deep.QuietTactic
import Derived.BigQuiet
import Derived.Lib.SlBytesConst
namespace Go.Proofs.Ytofenjloieagaaa
open Go.RowKit
set_option maxRecDepth 100000

/-- Block g is a reader of the bytes l, at place p, with the error e. -/
structure Rdr (w : World) (g : Nat) (A : Option Addr) (c : Nat) (l : List Int) (p : Nat) (e : Int) : Prop where
  blk : w.heap[g]? = some (.cells #[.bool true, .slice A l.length c, .int .i64 p, .int .i64 e] 86 (0, 0))
  rb : RB w g A c l
  plain : ∀ a, A = some a → a.spot = none
  le : p ≤ l.length
  len : l.length ≤ 1099511627776

section
variable {w w' : World} {g : Nat} {A : Option Addr} {c : Nat} {l : List Int} {p : Nat} {e : Int}

theorem Rdr.lt (h : Rdr w g A c l p e) : g < w.heap.size := (Array.getElem?_eq_some_iff.1 h.blk).1
theorem Rdr.c0 (h : Rdr w g A c l p e) : w.cell? ⟨g, 0, none⟩ = some (.bool true) := cell_of_row w g 0 _ _ _ h.blk
theorem Rdr.c1 (h : Rdr w g A c l p e) : w.cell? ⟨g, 1, none⟩ = some (.slice A l.length c) := cell_of_row w g 1 _ _ _ h.blk
theorem Rdr.c2 (h : Rdr w g A c l p e) : w.cell? ⟨g, 2, none⟩ = some (.int .i64 p) := cell_of_row w g 2 _ _ _ h.blk
theorem Rdr.c3 (h : Rdr w g A c l p e) : w.cell? ⟨g, 3, none⟩ = some (.int .i64 e) := cell_of_row w g 3 _ _ _ h.blk
theorem Rdr.frozen (h : Rdr w g A c l p e) (i : Nat) : w.frozen? ⟨g, i, none⟩ = false := frozen_of_row w g i _ _ h.blk

/-- Nothing of the heap has turned. -/
theorem Rdr.same (h : Rdr w g A c l p e) (hh : w'.heap = w.heap) : Rdr w' g A c l p e :=
  ⟨by rw [hh]; exact h.blk, h.rb.keep (fun q _ => World.cell?_of_block (by rw [hh])), h.plain, h.le, h.len⟩

theorem Rdr.drewN (h : Rdr w g A c l p e) (n : Nat) : Rdr (w.drewN n) g A c l p e := h.same (by simp)

/-- The error is set. -/
theorem Rdr.fail (h : Rdr w g A c l p e) (x : Int) : Rdr (w.setCell ⟨g, 3, none⟩ (.int .i64 x)) g A c l p x := by
  refine ⟨?_, h.rb.below ((Below.refl g w).setCell (p := ⟨g, 3, none⟩) (Nat.le_refl g) _), h.plain, h.le, h.len⟩
  rw [heap_setCell_same w g 3 _ _ _ h.blk]; rfl

/-- The place is moved. -/
theorem Rdr.move (h : Rdr w g A c l p e) (q : Nat) (hq : q ≤ l.length) : Rdr (w.setCell ⟨g, 2, none⟩ (.int .i64 q)) g A c l q e := by
  refine ⟨?_, h.rb.below ((Below.refl g w).setCell (p := ⟨g, 2, none⟩) (Nat.le_refl g) _), h.plain, hq, h.len⟩
  rw [heap_setCell_same w g 2 _ _ _ h.blk]; rfl

end

theorem grown_setCell (w : World) (g i : Nat) (u : Value) : w.grownBy (w.setCell ⟨g, i, none⟩ u) (some g) :=
  ⟨rfl, rfl, rfl, by simp [World.setCell], fun k _ hk => heap_setCell_other w ⟨g, i, none⟩ k u (fun e => hk (by rw [e]))⟩
theorem grown_drewN (w : World) (n : Nat) (row : Option Nat) : w.grownBy (w.drewN n) row :=
  ⟨rfl, rfl, rfl, Nat.le_refl _, fun _ _ _ => rfl⟩
theorem grown_trans {a b c : World} {row : Option Nat} (h : a.grownBy b row) (k : b.grownBy c row) : a.grownBy c row :=
  ⟨k.os.trans h.os, k.tape.trans h.tape, k.output.trans h.output, Nat.le_trans h.size k.size, fun i hi hne => (k.block i (Nat.lt_of_lt_of_le hi h.size) hne).trans (h.block i hi hne)⟩

set_option maxHeartbeats 400000 in
theorem err_nil (w : World) : Calls Try.prog 36 #[.pointer none] w fun e w' => e = .returned (.int .i64 1) ∧ w = w' := by
  go_enter Try.func36, Try.ntmps36
  go_wp2
  go_ret
  exact ⟨rfl, rfl⟩

set_option maxHeartbeats 400000 in
theorem err_any (g : Nat) (e : Int) (w : World) (h0 : w.cell? ⟨g, 0, none⟩ = some (.bool true)) (h3 : w.cell? ⟨g, 3, none⟩ = some (.int .i64 e)) :
    Calls Try.prog 36 #[.pointer (some ⟨g, 0, none⟩)] w fun r w' => r = .returned (.int .i64 e) ∧ w = w' := by
  go_enter Try.func36, Try.ntmps36
  go_wp2
  go_ret
  exact ⟨rfl, rfl⟩

set_option maxHeartbeats 400000 in
theorem left_nil (w : World) : Calls Try.prog 60 #[.pointer none] w fun e w' => e = .returned (.int .i64 0) ∧ w = w' := by
  go_enter Try.func60, Try.ntmps60
  go_wp2
  go_ret
  exact ⟨rfl, rfl⟩

/-- The answer is v; the world has been drawn upon. -/
def Drawn (w : World) (v : Value) (e : Ending) (w' : World) : Prop := e = .returned v ∧ ∃ n, w' = w.drewN n

set_option maxHeartbeats 400000 in
theorem left_any (g : Nat) (A : Option Addr) (c n p : Nat) (w : World) (h1 : w.cell? ⟨g, 1, none⟩ = some (.slice A n c)) (h2 : w.cell? ⟨g, 2, none⟩ = some (.int .i64 p)) (hp : p ≤ n) (hn : n ≤ 1099511627776) :
    Calls Try.prog 60 #[.pointer (some ⟨g, 0, none⟩)] w (Drawn w (.int .i64 ((n : Int) - (p : Int)))) := by
  go_enter Try.func60, Try.ntmps60
  go_wp2_with fail
  go_quiet (fail)
  go_wp2_with fail
  go_ret
  exact ⟨rfl, _, rfl⟩

set_option maxHeartbeats 400000 in
theorem fail_any (g : Nat) (x y : Int) (w : World) (h3 : w.cell? ⟨g, 3, none⟩ = some (.int .i64 y)) (hf : w.frozen? ⟨g, 3, none⟩ = false) :
    Calls Try.prog 59 #[.pointer (some ⟨g, 0, none⟩), .int .i64 x] w fun e w' => e = .returned (.tuple #[]) ∧ w' = w.setCell ⟨g, 3, none⟩ (.int .i64 x) := by
  go_enter Try.func59, Try.ntmps59
  go_wp2
  go_end0
  exact ⟨rfl, rfl⟩

/-- What take answers, and leaves. -/
def Took (w : World) (g : Nat) (A : Option Addr) (c : Nat) (l : List Int) (p n : Nat) (e : Ending) (w' : World) : Prop :=
  ∃ A' c', e = .returned (.tuple #[.slice A' n c', .bool true]) ∧ RB w' g A' c' ((l.drop p).take n) ∧ Rdr w' g A c l (p + n) 0 ∧ w.grownBy w' (some g)
def TookNot (w : World) (g : Nat) (A : Option Addr) (c : Nat) (l : List Int) (p : Nat) (x : Int) (e : Ending) (w' : World) : Prop :=
  e = .returned (.tuple #[.slice none 0 0, .bool false]) ∧ Rdr w' g A c l p x ∧ w.grownBy w' (some g)

set_option maxHeartbeats 400000 in
theorem take_nil (n : Int) (w : World) : Calls Try.prog 69 #[.pointer none, .int .i64 n] w fun e w' => e = .returned (.tuple #[.slice none 0 0, .bool false]) ∧ w = w' := by
  go_enter Try.func69, Try.ntmps69
  go_wp2_with (go_at_call 36; refine (err_nil _).mono ?_; rintro e w' ⟨rfl, rfl⟩)
  go_ret2
  exact ⟨rfl, rfl⟩

set_option maxHeartbeats 400000 in
theorem take_err (g : Nat) (A : Option Addr) (c : Nat) (l : List Int) (p : Nat) (e n : Int) (w : World) (h : Rdr w g A c l p e) (he : (e != 0) = true) :
    Calls Try.prog 69 #[.pointer (some ⟨g, 0, none⟩), .int .i64 n] w (TookNot w g A c l p e) := by
  have h0 := h.c0
  have h3 := h.c3
  go_enter Try.func69, Try.ntmps69
  go_wp2_with (go_at_call 36; refine (err_any g e _ h0 h3).mono ?_; rintro e w' ⟨rfl, rfl⟩)
  go_ret2
  exact ⟨rfl, h, World.grownBy.refl _ _⟩

set_option maxHeartbeats 400000 in
theorem take_more (g : Nat) (A : Option Addr) (c : Nat) (l : List Int) (p : Nat) (n : Nat) (w : World) (h : Rdr w g A c l p 0) (hn : l.length - p < n) :
    Calls Try.prog 69 #[.pointer (some ⟨g, 0, none⟩), .int .i64 n] w (TookNot w g A c l p 5) := by
  have h0 := h.c0
  have h1 := h.c1
  have h2 := h.c2
  have h3 := h.c3
  have hf := h.frozen 3
  have hle := h.le
  have hlen := h.len
  have hlt : (l.length : Int) - (p : Int) < (n : Int) := by omega
  go_enter Try.func69, Try.ntmps69
  go_wp2_with (first
    | (go_at_call 36; refine (err_any g 0 _ h0 h3).mono ?_; rintro e w' ⟨rfl, rfl⟩)
    | (go_at_call 60; refine (left_any g A c l.length p _ h1 h2 hle hlen).mono ?_; rintro e w' ⟨rfl, k, rfl⟩)
    | (go_at_call 59; refine (fail_any g 5 0 _ (by simpa using h3) (by simpa using hf)).mono ?_; rintro e w' ⟨rfl, rfl⟩))
  go_ret2
  exact ⟨rfl, (h.drewN k).fail 5, grown_trans (grown_drewN w k _) (grown_setCell _ _ _ _)⟩

set_option maxHeartbeats 400000 in
theorem take_some (g b off : Nat) (c : Nat) (l : List Int) (p : Nat) (n : Nat) (w : World) (h : Rdr w g (some ⟨b, off, none⟩) c l p 0) (hn : n ≤ l.length - p) :
    Calls Try.prog 69 #[.pointer (some ⟨g, 0, none⟩), .int .i64 n] w (Took w g (some ⟨b, off, none⟩) c l p n) := by
  have h0 := h.c0
  have h1 := h.c1
  have h2 := h.c2
  have h3 := h.c3
  have hf := h.frozen 2
  have hle := h.le
  have hlen := h.len
  have hlc := h.rb.le
  have hlt : ¬ ((l.length : Int) - (p : Int) < (n : Int)) := by omega
  have hcm := h.rb.cap
  unfold maxLen at hcm
  have fin : ∀ (A' : Option Addr) (c' k : Nat), RB w g A' c' ((l.drop p).take n) → Took w g (some ⟨b, off, none⟩) c l p n (.returned (.tuple #[.slice A' n c', .bool true])) ((w.drewN k).setCell ⟨g, 2, none⟩ (.int .i64 ((p : Int) + (n : Int)))) := by
    intro A' c' k hr
    have e : (p : Int) + (n : Int) = ((p + n : Nat) : Int) := by omega
    rw [e]
    have hr' : RB (w.drewN k) g A' c' ((l.drop p).take n) := hr.keep fun _ _ => rfl
    exact ⟨A', c', rfl, hr'.below ((Below.refl g _).setCell (p := ⟨g, 2, none⟩) (Nat.le_refl g) _), (h.drewN k).move _ (by omega), grown_trans (grown_drewN w k _) (grown_setCell _ _ _ _)⟩
  by_cases hcp : c = p
  · have hn0 : n = 0 := by omega
    have hfin := fun k => fin (some ⟨b, off, none⟩) 0 k (by rw [hn0]; simpa using RB.empty w g ⟨b, off, none⟩ 0 (Nat.zero_le _))
    have HF := Lib.hid hfin
    subst hn0
    clear hfin fin
    go_enter Try.func69, Try.ntmps69
    go_wp2_with (first
      | (go_at_call 36; refine (err_any g 0 _ h0 h3).mono ?_; rintro e w' ⟨rfl, rfl⟩)
      | (go_at_call 60; refine (left_any g _ c l.length p _ h1 h2 hle hlen).mono ?_; rintro e w' ⟨rfl, k, rfl⟩))
    go_quiet (fail)
    go_wp2_with fail
    go_ret2
    have := HF.out (k + nq)
    simpa using this
  · have hsub := h.rb.sub p n (by omega)
    have hfin := fun k => fin _ _ k hsub
    have HF := Lib.hid hfin
    clear hfin fin hsub
    go_enter Try.func69, Try.ntmps69
    go_wp2_with (first
      | (go_at_call 36; refine (err_any g 0 _ h0 h3).mono ?_; rintro e w' ⟨rfl, rfl⟩)
      | (go_at_call 60; refine (left_any g _ c l.length p _ h1 h2 hle hlen).mono ?_; rintro e w' ⟨rfl, k, rfl⟩))
    go_quiet (fail)
    go_wp2_with fail
    go_ret2
    have := HF.out (k + nq)
    simpa using this

set_option maxHeartbeats 400000 in
theorem take_none (g : Nat) (w : World) (h : Rdr w g none 0 [] 0 0) :
    Calls Try.prog 69 #[.pointer (some ⟨g, 0, none⟩), .int .i64 0] w (Took w g none 0 [] 0 0) := by
  have h0 := h.c0
  have h1 := h.c1
  have h2 := h.c2
  have h3 := h.c3
  have hf := h.frozen 2
  have hle := h.le
  have hlen := h.len
  go_enter Try.func69, Try.ntmps69
  go_wp2_with (first
    | (go_at_call 36; refine (err_any g 0 _ h0 h3).mono ?_; rintro e w' ⟨rfl, rfl⟩)
    | (go_at_call 60; refine (left_any g none 0 0 0 _ h1 h2 (Nat.le_refl _) (Nat.zero_le _)).mono ?_; rintro e w' ⟨rfl, k, rfl⟩))
  go_quiet (fail)
  go_wp2_with fail
  go_ret2
  exact ⟨none, 0, rfl, RB.nil _ _, (h.drewN (k + nq)).move 0 (Nat.le_refl _), grown_trans (grown_drewN w _ _) (grown_setCell _ _ _ _)⟩

theorem take_ok (g : Nat) (A : Option Addr) (c : Nat) (l : List Int) (p : Nat) (n : Nat) (w : World) (h : Rdr w g A c l p 0) (hn : n ≤ l.length - p) :
    Calls Try.prog 69 #[.pointer (some ⟨g, 0, none⟩), .int .i64 n] w (Took w g A c l p n) := by
  rcases h.rb.at_ with ⟨rfl, rfl⟩ | ⟨a, rfl, _⟩
  · obtain ⟨_, rfl⟩ := h.rb.none_nil
    have hp := h.le
    simp at hp hn
    subst hp hn
    exact take_none g w h
  · obtain ⟨b, off, sp⟩ := a
    obtain rfl : sp = none := h.plain _ rfl
    exact take_some g b off c l p n w h hn

theorem or_place (V k : Nat) (x : Int) (hk : k < 8) (hV : V < 256 ^ k) (h0 : 0 ≤ x) (h1 : x < 256) :
    bits .or .u64 (V : Int) (IntKind.u64.wrap (x * 2 ^ (8 * k))) = ((V + x.toNat * 256 ^ k : Nat) : Int) := by
  obtain ⟨d, rfl⟩ := Int.eq_ofNat_of_zero_le h0
  have e2 : (2 : Nat) ^ (8 * k) = 256 ^ k := by rw [Nat.pow_mul]
  have hd : d * 256 ^ k < 18446744073709551616 := by
    have h3 : d * 256 ^ k < 256 * 256 ^ k := Nat.mul_lt_mul_of_pos_right (by omega) (Nat.pow_pos (by decide))
    have h4 : 256 * 256 ^ k ≤ 256 ^ 8 := by rw [Nat.mul_comm, ← Nat.pow_succ]; exact Nat.pow_le_pow_right (by decide) (by omega)
    have h5 : (256 : Nat) ^ 8 = 18446744073709551616 := by decide
    omega
  have hVb : V < 18446744073709551616 := by
    have h4 : (256 : Nat) ^ k ≤ 256 ^ 8 := Nat.pow_le_pow_right (by decide) (by omega)
    have h5 : (256 : Nat) ^ 8 = 18446744073709551616 := by decide
    omega
  have ew : IntKind.u64.wrap ((d : Int) * 2 ^ (8 * k)) = ((d * 256 ^ k : Nat) : Int) := by
    rw [IntKind.wrap_u64]
    have : (d : Int) * 2 ^ (8 * k) = ((d * 256 ^ k : Nat) : Int) := by rw [← e2]; push_cast; rfl
    rw [this]; omega
  rw [ew, u64_or_nat _ _ hVb hd, Int.toNat_natCast, Nat.or_comm]
  congr 1
  rw [nat_join (8 * k) (d * 256 ^ k) V (by rw [e2]; exact Nat.mul_mod_left _ _) (by rw [e2]; exact hV)]
  omega

set_option maxHeartbeats 1000000 in
theorem lowest_any (b off c n : Nat) (m : List Int) (w : World) (B : Nat) (hn : n = m.length) (h : RB w B (some ⟨b, off, none⟩) c m) (hm : m.length ≤ 8) :
    Calls Try.prog 70 #[.slice (some ⟨b, off, none⟩) n c] w fun e w' => e = .returned (.int .u64 (leV m)) ∧ w = w' := by
  subst hn
  go_enter Try.func70, Try.ntmps70
  go_wp2_with fail
  go_loop [3, 8] (fun x i => ∃ k : Nat, k ≤ m.length ∧ i = .int .i64 k ∧ x = .int .u64 (leV (m.take k))) (fun _ i => m.length - (intOf i).toNat)
  case atStart => exact ⟨0, Nat.zero_le _, rfl, rfl⟩
  case round =>
    obtain ⟨k, hk, rfl, rfl⟩ := hrel
    by_cases hlt : k < m.length
    · obtain ⟨b', off', h1, hb, hcc⟩ := h.pos (by omega)
      · simp only [Option.some.injEq, Addr.mk.injEq, and_true] at h1
        obtain ⟨rfl, rfl⟩ := h1
        have hc := hcc k hlt
        have hgb := h.bytes.getD k
        have hsn := take_snoc m k hlt
        have hV := leV_lt _ (h.bytes.take k)
        have hlk : (m.take k).length = k := by rw [List.length_take]; omega
        rw [hlk] at hV
        generalize m.getD k 0 = x at *
        obtain ⟨hx0, hx1⟩ := hgb
        have hor := or_place _ k x (by omega) hV hx0 hx1
        have hnew : leV (m.take (k + 1)) = leV (m.take k) + x.toNat * 256 ^ k := by rw [hsn, leV_snoc, hlk]
        have HO := Lib.hid hor
        have HN := Lib.hid hnew
        clear hcc hsn hV hlk hor hnew
        go_wp2_with fail
        go_round
        case rel => exact ⟨k + 1, by omega, by go_num, by rw [HO.out, HN.out]⟩
        case measure => simp [intOf]; omega
    · obtain rfl : k = m.length := by omega
      rw [List.take_length]
      go_wp2_with fail
      go_ret
      exact ⟨rfl, rfl⟩

/-- The answer is v; the reader has gone on by k, its error is x. -/
def Read (w : World) (g : Nat) (A : Option Addr) (c : Nat) (l : List Int) (p : Nat) (x : Int) (v : Value) (e : Ending) (w' : World) : Prop :=
  e = .returned v ∧ Rdr w' g A c l p x ∧ w.grownBy w' (some g)

set_option maxHeartbeats 400000 in
theorem rnumber_nil (w : World) : Calls Try.prog 58 #[.pointer none] w fun e w' => e = .returned (.int .u64 0) ∧ w = w' := by
  go_enter Try.func58, Try.ntmps58
  go_wp2_with (go_at_call 69; refine (take_nil _ _).mono ?_; rintro e w' ⟨rfl, rfl⟩)
  go_ret
  exact ⟨rfl, rfl⟩

set_option maxHeartbeats 400000 in
theorem rnumber_err (g : Nat) (A : Option Addr) (c : Nat) (l : List Int) (p : Nat) (e : Int) (w : World) (h : Rdr w g A c l p e) (he : (e != 0) = true) :
    Calls Try.prog 58 #[.pointer (some ⟨g, 0, none⟩)] w (Read w g A c l p e (.int .u64 0)) := by
  go_enter Try.func58, Try.ntmps58
  go_wp2_with (go_at_call 69; refine (take_err g A c l p e _ _ h he).mono ?_; rintro e w' ⟨rfl, h', hg⟩)
  go_ret
  exact ⟨rfl, h', hg⟩

set_option maxHeartbeats 400000 in
theorem rnumber_end (g : Nat) (A : Option Addr) (c : Nat) (l : List Int) (p : Nat) (w : World) (h : Rdr w g A c l p 0) (hp : l.drop p = []) :
    Calls Try.prog 58 #[.pointer (some ⟨g, 0, none⟩)] w (Read w g A c l p 5 (.int .u64 0)) := by
  have hlt : l.length - p < 1 := by have := congrArg List.length hp; simp at this; omega
  clear hp
  go_enter Try.func58, Try.ntmps58
  go_wp2_with (go_at_call 69; refine (take_more g A c l p 1 _ h hlt).mono ?_; rintro e w' ⟨rfl, h', hg⟩)
  go_ret
  exact ⟨rfl, h', hg⟩

/-- One byte is taken: where it lies. -/
theorem take_one (g : Nat) (A : Option Addr) (c : Nat) (l : List Int) (p : Nat) (f : Int) (t : List Int) (w : World) (h : Rdr w g A c l p 0) (hp : l.drop p = f :: t) :
    Calls Try.prog 69 #[.pointer (some ⟨g, 0, none⟩), .int .i64 1] w fun e w' =>
      ∃ b off c', e = .returned (.tuple #[.slice (some ⟨b, off, none⟩) 1 c', .bool true]) ∧ w'.cell? ⟨b, off, none⟩ = some (.int .u8 f) ∧ Rdr w' g A c l (p + 1) 0 ∧ w.grownBy w' (some g) := by
  have hlen := congrArg List.length hp
  simp at hlen
  refine (take_ok g A c l p 1 w h (by omega)).mono ?_
  rintro e w' ⟨A', c', rfl, hr, h', hg⟩
  have hl : (List.take 1 (l.drop p)).length = 1 := by rw [hp]; simp
  obtain ⟨b, off, rfl, _, hc⟩ := hr.pos (by omega)
  have := hc 0 (by omega)
  rw [hp] at this
  exact ⟨b, off, c', rfl, by simpa using this, h', hg⟩

set_option maxHeartbeats 400000 in
theorem rnumber_small (g : Nat) (A : Option Addr) (c : Nat) (l : List Int) (p : Nat) (f : Int) (t : List Int) (w : World) (h : Rdr w g A c l p 0) (hp : l.drop p = f :: t) (hf : f ≤ 247) :
    Calls Try.prog 58 #[.pointer (some ⟨g, 0, none⟩)] w (Read w g A c l (p + 1) 0 (.int .u64 f)) := by
  have h0 : 0 ≤ f := (h.rb.bytes f (List.mem_of_mem_drop (i := p) (by rw [hp]; simp))).1
  have HP := Lib.hid hp
  clear hp
  go_enter Try.func58, Try.ntmps58
  go_wp2_with (go_at_call 69; refine (take_one g A c l p f t _ h HP.out).mono ?_; rintro e w1 ⟨b, off, c', rfl, hc, h', hg⟩)
  go_ret
  exact ⟨rfl, h', hg⟩

set_option maxHeartbeats 400000 in
theorem rnumber_more (g : Nat) (A : Option Addr) (c : Nat) (l : List Int) (p : Nat) (f : Int) (t : List Int) (w : World) (h : Rdr w g A c l p 0) (hp : l.drop p = f :: t) (hf : 247 < f) (ht : t.length < (f - 247).toNat) :
    Calls Try.prog 58 #[.pointer (some ⟨g, 0, none⟩)] w (Read w g A c l (p + 1) 5 (.int .u64 0)) := by
  have h1 : f < 256 := (h.rb.bytes f (List.mem_of_mem_drop (i := p) (by rw [hp]; simp))).2
  have hlen := congrArg List.length hp
  simp at hlen
  have hk : f - 247 = ((f - 247).toNat : Int) := by omega
  have hlt : l.length - (p + 1) < (f - 247).toNat := by omega
  have HP := Lib.hid hp
  have HK := Lib.hid hk
  have HL := Lib.hid hlt
  clear hp hk hlen hlt
  go_enter Try.func58, Try.ntmps58
  go_wp2_with fail
  refine (take_one g A c l p f t _ h HP.out).mono ?_
  rintro e w1 ⟨b, off, c', rfl, hc, h', hg⟩
  go_wp2_with fail
  rw [HK.out]
  refine (take_more g A c l (p + 1) _ _ h' HL.out).mono ?_
  rintro e w2 ⟨rfl, h2, hg2⟩
  go_wp2_with fail
  go_ret
  exact ⟨rfl, h2, grown_trans hg hg2⟩

theorem getLastD_getD : ∀ (m : List Int), m.getLastD 0 = m.getD (m.length - 1) 0
  | [] => rfl
  | [_] => rfl
  | a :: b :: m => by
    have := getLastD_getD (b :: m)
    simp only [List.getLastD_cons, List.length_cons] at this ⊢
    rw [this]
    simp

/-- n bytes are taken: where they lie. -/
theorem take_many (g : Nat) (A : Option Addr) (c : Nat) (l : List Int) (p n : Nat) (t : List Int) (w : World) (h : Rdr w g A c l p 0) (hp : l.drop p = t) (hn : n ≤ t.length) (h0 : 0 < n) :
    Calls Try.prog 69 #[.pointer (some ⟨g, 0, none⟩), .int .i64 n] w fun e w' =>
      ∃ b off c', e = .returned (.tuple #[.slice (some ⟨b, off, none⟩) n c', .bool true]) ∧ RB w' g (some ⟨b, off, none⟩) c' (t.take n) ∧ w'.cell? ⟨b, off + (n - 1), none⟩ = some (.int .u8 ((t.take n).getLastD 0)) ∧ Rdr w' g A c l (p + n) 0 ∧ w.grownBy w' (some g) := by
  have hlen := congrArg List.length hp
  simp at hlen
  refine (take_ok g A c l p n w h (by omega)).mono ?_
  rintro e w' ⟨A', c', rfl, hr, h', hg⟩
  rw [hp] at hr
  have hl : (t.take n).length = n := by rw [List.length_take]; omega
  obtain ⟨b, off, rfl, _, hc⟩ := hr.pos (by omega)
  have := hc (n - 1) (by omega)
  refine ⟨b, off, c', rfl, hr, ?_, h', hg⟩
  rw [this, getLastD_getD, hl]

set_option maxHeartbeats 1000000 in
theorem rnumber_taken (g : Nat) (A : Option Addr) (c : Nat) (l : List Int) (p : Nat) (f : Int) (t : List Int) (n : Nat) (w : World) (h : Rdr w g A c l p 0) (hp : l.drop p = f :: t) (hf : 247 < f) (hk : f - 247 = (n : Int)) (ht : n ≤ t.length) :
    Calls Try.prog 58 #[.pointer (some ⟨g, 0, none⟩)] w
      (if (t.take n).getLastD 0 = 0 ∨ leV (t.take n) ≤ 247 then Read w g A c l (p + 1 + n) 4 (.int .u64 0) else Read w g A c l (p + 1 + n) 0 (.int .u64 (leV (t.take n)))) := by
  have hall : AllB (f :: t) := by rw [← hp]; exact h.rb.bytes.drop p
  have h1 : f < 256 := (hall f (by simp)).2
  have hlen := congrArg List.length hp
  simp at hlen
  have hn0 : 0 < n := by omega
  have hn8 : n ≤ 8 := by omega
  have hp2 : l.drop (p + 1) = t := by rw [← List.drop_drop, hp]; rfl
  have hml : (t.take n).length = n := by rw [List.length_take]; omega
  have hbt : AllB t := fun x hx => hall x (by simp [hx])
  have hlv := leV_lt _ (hbt.take n)
  have hvb : leV (t.take n) < 18446744073709551616 := by
    refine Nat.lt_of_lt_of_le hlv ?_
    rw [hml]
    exact Nat.le_trans (Nat.pow_le_pow_right (by decide) hn8) (by decide)
  generalize hm : t.take n = m at *
  have HP := Lib.hid hp
  have HP2 := Lib.hid hp2
  have HK := Lib.hid hk
  have HM := Lib.hid hm
  have HML := Lib.hid hml
  have HT := Lib.hid ht
  clear hp hk hlen hp2 hm hml hlv hall hbt
  have hz0 : ∃ z, m.getLastD 0 = z := ⟨_, rfl⟩
  obtain ⟨z, hz⟩ := hz0
  rw [hz]
  have HZ := Lib.hid hz
  clear hz
  by_cases hz : z = 0
  · rw [if_pos (.inl hz)]
    have hzb : (z == 0) = true := by rw [beq_iff_eq]; exact hz
    clear hz
    go_enter Try.func58, Try.ntmps58
    go_wp2_with fail
    refine (take_one g A c l p f t _ h HP.out).mono ?_
    rintro e w1 ⟨b, off, c', rfl, hc, h', hg⟩
    go_wp2_with fail
    rw [HK.out]
    refine (take_many g A c l (p + 1) n t _ h' HP2.out HT.out hn0).mono ?_
    rintro e w2 ⟨b2, off2, c2, rfl, hr2, hcl, h2, hg2⟩
    rw [HM.out] at hr2 hcl
    rw [HZ.out] at hcl
    clear hc
    go_wp2_with fail
    refine (lowest_any b2 off2 c2 n m _ g HML.out.symm hr2 (by rw [HML.out]; exact hn8)).mono ?_
    rintro e w' ⟨rfl, rfl⟩
    go_wp2_with fail
    refine (fail_any g 4 0 _ h2.c3 (h2.frozen 3)).mono ?_
    rintro e w' ⟨rfl, rfl⟩
    go_wp2_with fail
    go_ret
    exact ⟨rfl, h2.fail 4, grown_trans (grown_trans hg hg2) (grown_setCell _ _ _ _)⟩
  by_cases hv : leV m ≤ 247
  · rw [if_pos (.inr hv)]
    have hzb : (z == 0) = false := by rw [beq_eq_false_iff_ne]; exact hz
    clear hz
    go_enter Try.func58, Try.ntmps58
    go_wp2_with fail
    refine (take_one g A c l p f t _ h HP.out).mono ?_
    rintro e w1 ⟨b, off, c', rfl, hc, h', hg⟩
    go_wp2_with fail
    rw [HK.out]
    refine (take_many g A c l (p + 1) n t _ h' HP2.out HT.out hn0).mono ?_
    rintro e w2 ⟨b2, off2, c2, rfl, hr2, hcl, h2, hg2⟩
    rw [HM.out] at hr2 hcl
    rw [HZ.out] at hcl
    clear hc
    go_wp2_with fail
    refine (lowest_any b2 off2 c2 n m _ g HML.out.symm hr2 (by rw [HML.out]; exact hn8)).mono ?_
    rintro e w' ⟨rfl, rfl⟩
    go_wp2_with fail
    refine (fail_any g 4 0 _ h2.c3 (h2.frozen 3)).mono ?_
    rintro e w' ⟨rfl, rfl⟩
    go_wp2_with fail
    go_ret
    exact ⟨rfl, h2.fail 4, grown_trans (grown_trans hg hg2) (grown_setCell _ _ _ _)⟩
  · rw [if_neg (by rintro (hc | hc); exact hz hc; exact hv hc)]
    have hzb : (z == 0) = false := by rw [beq_eq_false_iff_ne]; exact hz
    have hv' : ¬ ((leV m : Int) ≤ 247) := by omega
    clear hz hv
    go_enter Try.func58, Try.ntmps58
    go_wp2_with fail
    refine (take_one g A c l p f t _ h HP.out).mono ?_
    rintro e w1 ⟨b, off, c', rfl, hc, h', hg⟩
    go_wp2_with fail
    rw [HK.out]
    refine (take_many g A c l (p + 1) n t _ h' HP2.out HT.out hn0).mono ?_
    rintro e w2 ⟨b2, off2, c2, rfl, hr2, hcl, h2, hg2⟩
    rw [HM.out] at hr2 hcl
    rw [HZ.out] at hcl
    clear hc
    go_wp2_with fail
    refine (lowest_any b2 off2 c2 n m _ g HML.out.symm hr2 (by rw [HML.out]; exact hn8)).mono ?_
    rintro e w' ⟨rfl, rfl⟩
    go_wp2_with fail
    go_ret
    exact ⟨rfl, h2, grown_trans hg hg2⟩

end Go.Proofs.Ytofenjloieagaaa
namespace Go.Proofs.Ytofenjloieagaaa
open Go.RowKit
set_option maxRecDepth 100000

/-- What Number does in a state: the number, the place, the error. -/
def numSt (l : List Int) (p : Nat) (e : Int) : Nat × Nat × Int :=
  if e = 0 then ((numRd (l.drop p)).1, p + (numRd (l.drop p)).2.1, (numRd (l.drop p)).2.2) else (0, p, e)

theorem numSt_lt (l : List Int) (p : Nat) (e : Int) (h : AllB l) : (numSt l p e).1 < 18446744073709551616 := by
  unfold numSt; split
  · exact numRd_le _ (h.drop p)
  · simp

theorem rnumber_any (g : Nat) (A : Option Addr) (c : Nat) (l : List Int) (p : Nat) (e : Int) (w : World) (h : Rdr w g A c l p e) :
    Calls Try.prog 58 #[.pointer (some ⟨g, 0, none⟩)] w (Read w g A c l (numSt l p e).2.1 (numSt l p e).2.2 (.int .u64 (numSt l p e).1)) := by
  unfold numSt
  by_cases he : e = 0
  · subst he
    simp only [if_true]
    cases hp : l.drop p with
    | nil => exact rnumber_end g A c l p w h hp
    | cons f t =>
      have hf := h.rb.bytes f (List.mem_of_mem_drop (i := p) (by rw [hp]; simp))
      by_cases h1 : f ≤ 247
      · have hx : numRd (f :: t) = (f.toNat, 1, 0) := by simp [numRd, h1]
        rw [hx]
        have := rnumber_small g A c l p f t w h hp h1
        rw [show ((f.toNat : Nat) : Int) = f from Int.toNat_of_nonneg hf.1]
        exact this
      · by_cases h2 : t.length < (f - 247).toNat
        · have hx : numRd (f :: t) = (0, 1, 5) := by simp [numRd, h1, h2]
          rw [hx]
          exact rnumber_more g A c l p f t w h hp (by omega) h2
        · have h3 := rnumber_taken g A c l p f t (f - 247).toNat w h hp (by omega) (by omega) (by omega)
          by_cases h4 : (t.take (f - 247).toNat).getLastD 0 = 0 ∨ leV (t.take (f - 247).toNat) ≤ 247
          · rw [if_pos h4] at h3
            have hx : numRd (f :: t) = (0, 1 + (f - 247).toNat, 4) := by
              simp only [numRd]
              rw [if_neg h1, if_neg h2, if_pos h4]
            rw [hx, ← Nat.add_assoc]
            exact h3
          · rw [if_neg h4] at h3
            have hx : numRd (f :: t) = (leV (t.take (f - 247).toNat), 1 + (f - 247).toNat, 0) := by
              simp only [numRd]
              rw [if_neg h1, if_neg h2, if_neg h4]
            rw [hx, ← Nat.add_assoc]
            exact h3
  · simp only [he, if_false]
    exact rnumber_err g A c l p e w h (by rw [bne_iff_ne]; exact he)

/-- What Count does in a state. -/
def countSt (l : List Int) (p : Nat) (e : Int) (most : Int) : Nat × Nat × Int :=
  if ((numSt l p e).1 : Int) > max most 0 then (0, (numSt l p e).2.1, 3) else numSt l p e

set_option maxHeartbeats 400000 in
theorem rcount_nil (most : Int) (w : World) (hm : most < 9223372036854775808) : Calls Try.prog 34 #[.pointer none, .int .i64 most] w fun e w' => e = .returned (.int .i64 0) ∧ w = w' := by
  have h0 : 0 ≤ max most 0 := by omega
  have h1 : max most 0 < 9223372036854775808 := by omega
  go_enter Try.func34, Try.ntmps34
  go_wp2_with (go_at_call 58; refine (rnumber_nil _).mono ?_; rintro e w' ⟨rfl, rfl⟩)
  go_ret
  exact ⟨rfl, rfl⟩

set_option maxHeartbeats 400000 in
theorem rcount_any (g : Nat) (A : Option Addr) (c : Nat) (l : List Int) (p : Nat) (e most : Int) (w : World) (h : Rdr w g A c l p e) (hm : most < 9223372036854775808) :
    Calls Try.prog 34 #[.pointer (some ⟨g, 0, none⟩), .int .i64 most] w (Read w g A c l (countSt l p e most).2.1 (countSt l p e most).2.2 (.int .i64 (countSt l p e most).1)) := by
  have h0 : 0 ≤ max most 0 := by omega
  have h1 : max most 0 < 9223372036854775808 := by omega
  have hlt := numSt_lt l p e h.rb.bytes
  have hn := rnumber_any g A c l p e w h
  unfold countSt
  generalize numSt l p e = r at *
  obtain ⟨v, q, x⟩ := r
  simp only at *
  have HN := Lib.hid hn
  clear hn
  by_cases hv : (v : Int) > max most 0
  · rw [if_pos hv]
    go_enter Try.func34, Try.ntmps34
    go_wp2_with (first
      | (go_at_call 58; refine HN.out.mono ?_; rintro e w' ⟨rfl, h', hg⟩)
      | (go_at_call 59; refine (fail_any g 3 x _ h'.c3 (h'.frozen 3)).mono ?_; rintro e w'' ⟨rfl, rfl⟩))
    go_ret
    exact ⟨rfl, h'.fail 3, grown_trans hg (grown_setCell _ _ _ _)⟩
  · rw [if_neg hv]
    have hv63 : v < 9223372036854775808 := by omega
    go_enter Try.func34, Try.ntmps34
    go_wp2_with (go_at_call 58; refine HN.out.mono ?_; rintro e w' ⟨rfl, h', hg⟩)
    go_ret
    exact ⟨rfl, h', hg⟩

/-- What Block does in a state: the bytes, the place, the error. -/
def blockSt (l : List Int) (p : Nat) (e : Int) : List Int × Nat × Int :=
  if 1048576 < (numSt l p e).1 then ([], (numSt l p e).2.1, 3)
  else if (numSt l p e).2.2 ≠ 0 then ([], (numSt l p e).2.1, (numSt l p e).2.2)
  else if l.length - (numSt l p e).2.1 < (numSt l p e).1 then ([], (numSt l p e).2.1, 5)
  else ((l.drop (numSt l p e).2.1).take (numSt l p e).1, (numSt l p e).2.1 + (numSt l p e).1, 0)

/-- The answer is a slice of the call's own; the reader has gone on. -/
def ReadB (w : World) (g : Nat) (A : Option Addr) (c : Nat) (l : List Int) (p : Nat) (x : Int) (m : List Int) (e : Ending) (w' : World) : Prop :=
  ∃ A' c', e = .returned (.slice A' m.length c') ∧ OB w' w.heap.size A' c' m ∧ Rdr w' g A c l p x ∧ w.grownBy w' (some g)

theorem grown_below {w w' : World} (h : Below w.heap.size w w') (row : Option Nat) : w.grownBy w' row := ⟨h.os, h.tape, h.output, h.size, fun k hk _ => h.block k hk⟩
theorem Rdr.below {w w' : World} {g : Nat} {A : Option Addr} {c : Nat} {l : List Int} {p : Nat} {e : Int} {B : Nat} (h : Rdr w g A c l p e) (hb : Below B w w') (hg : g < B) : Rdr w' g A c l p e :=
  ⟨by rw [hb.block g hg]; exact h.blk, h.rb.below (hb.mono (by omega)), h.plain, h.le, h.len⟩
theorem Rdr.kept {w w' : World} {g : Nat} {A : Option Addr} {c : Nat} {l : List Int} {p : Nat} {e : Int} {row : Option Nat} (h : Rdr w g A c l p e) (hb : w.grownBy w' row) (hg : ∀ k, row = some k → g < k) : Rdr w' g A c l p e := by
  have hlt := h.lt
  refine ⟨?_, h.rb.keep (fun q hq => World.cell?_of_block (hb.block q.block (by omega) (fun e => by have := hg _ e.symm; omega))), h.plain, h.le, h.len⟩
  rw [hb.block g hlt (fun e => by have := hg _ e.symm; omega)]; exact h.blk

/-- What End does in a state. -/
def endSt (l : List Int) (p : Nat) (e : Int) : Int := if e = 0 ∧ p < l.length then 4 else e

set_option maxHeartbeats 1000000 in
theorem rend_any (g : Nat) (A : Option Addr) (c : Nat) (l : List Int) (p : Nat) (e : Int) (w : World) (h : Rdr w g A c l p e) :
    Calls Try.prog 37 #[.pointer (some ⟨g, 0, none⟩)] w (Read w g A c l p (endSt l p e) (.int .i64 (endSt l p e))) := by
  have h0 := h.c0
  have h1 := h.c1
  have h2 := h.c2
  have h3 := h.c3
  have hf := h.frozen 3
  have hle := h.le
  have hlen := h.len
  unfold endSt
  by_cases he : e = 0
  · subst he
    by_cases hp : p < l.length
    · rw [if_pos ⟨rfl, hp⟩]
      have hd : (0 : Int) < (l.length : Int) - (p : Int) := by omega
      go_enter Try.func37, Try.ntmps37
      go_wp2_with fail
      refine (err_any g 0 _ h0 h3).mono ?_
      rintro e w' ⟨rfl, rfl⟩
      go_wp2_with fail
      refine (left_any g A c l.length p _ h1 h2 hle hlen).mono ?_
      rintro e w' ⟨rfl, k, rfl⟩
      go_wp2_with fail
      refine (fail_any g 4 0 _ (by simpa using h3) (by simpa using hf)).mono ?_
      rintro e w' ⟨rfl, rfl⟩
      have h4 := (h.drewN k).fail 4
      go_wp2_with fail
      refine (err_any g 4 _ h4.c0 h4.c3).mono ?_
      rintro e w' ⟨rfl, rfl⟩
      go_wp2_with fail
      go_ret
      exact ⟨rfl, h4, grown_trans (grown_drewN w k _) (grown_setCell _ _ _ _)⟩
    · rw [if_neg (fun hc => hp hc.2)]
      have hd : ¬ (0 : Int) < (l.length : Int) - (p : Int) := by omega
      go_enter Try.func37, Try.ntmps37
      go_wp2_with fail
      refine (err_any g 0 _ h0 h3).mono ?_
      rintro e w' ⟨rfl, rfl⟩
      go_wp2_with fail
      refine (left_any g A c l.length p _ h1 h2 hle hlen).mono ?_
      rintro e w' ⟨rfl, k, rfl⟩
      go_wp2_with fail
      refine (err_any g 0 _ (by simpa using h0) (by simpa using h3)).mono ?_
      rintro e w' ⟨rfl, rfl⟩
      go_wp2_with fail
      go_ret
      exact ⟨rfl, h.drewN k, grown_drewN w k _⟩
  · rw [if_neg (fun hc => he hc.1)]
    have hd : (e == 0) = false := by rw [beq_eq_false_iff_ne]; exact he
    go_enter Try.func37, Try.ntmps37
    go_wp2_with fail
    refine (err_any g e _ h0 h3).mono ?_
    rintro r w' ⟨rfl, rfl⟩
    go_wp2_with fail
    refine (err_any g e _ h0 h3).mono ?_
    rintro r w' ⟨rfl, rfl⟩
    go_wp2_with fail
    go_ret
    exact ⟨rfl, h, World.grownBy.refl _ _⟩

theorem OB.from_ {w : World} {B : Nat} {A : Option Addr} {c : Nat} {l : List Int} (h : OB w B A c l) : ∀ a, A = some a → B ≤ a.block := by
  intro a ha
  rcases h.own.2 with ⟨h1, _⟩ | ⟨g, cap, cur, h1, hb, _⟩
  · injection h1 with h3; rw [h3] at ha; cases ha
  · injection h1 with h3; rw [h3] at ha; obtain rfl := Option.some.inj ha; exact hb

/-- Another reader goes on. -/
theorem Rdr.other {w w' : World} {g g' : Nat} {A : Option Addr} {c : Nat} {l : List Int} {p : Nat} {e : Int} (h : Rdr w g A c l p e) (hb : w.grownBy w' (some g')) (hg : g ≠ g') (ha : ∀ a, A = some a → a.block ≠ g') : Rdr w' g A c l p e := by
  have hlt := h.lt
  refine ⟨by rw [hb.block g hlt (fun e => hg (Option.some.inj e))]; exact h.blk, ⟨h.rb.le, h.rb.cap, h.rb.bytes, ?_⟩, h.plain, h.le, h.len⟩
  rcases h.rb.at_ with h1 | ⟨a, rfl, hc⟩
  · exact .inl h1
  · refine .inr ⟨a, rfl, fun h0 => ?_⟩
    obtain ⟨hs, hb', hc⟩ := hc h0
    exact ⟨hs, hb', fun i hi => by rw [World.cell?_of_block (w := w) (a := ⟨a.block, a.off + i, none⟩) (hb.block a.block (by omega) (fun e => ha a rfl (Option.some.inj e)))]; exact hc i hi⟩

/-- A reader whose blocks lie from lo on, up to its own. -/
structure RdrZ (w : World) (lo g : Nat) (A : Option Addr) (c : Nat) (l : List Int) (p : Nat) (e : Int) : Prop where
  rdr : Rdr w g A c l p e
  lo_le : lo ≤ g
  from_ : ∀ a, A = some a → lo ≤ a.block

section
variable {w w' : World} {lo g g' : Nat} {A : Option Addr} {c : Nat} {l : List Int} {p : Nat} {e : Int}
theorem RdrZ.other (h : RdrZ w lo g A c l p e) (hb : w.grownBy w' (some g')) (hg : g' < lo ∨ g < g') : RdrZ w' lo g A c l p e := by
  have hl := h.lo_le
  rcases hg with hg | hg
  · exact ⟨h.rdr.other hb (by omega) (fun a ha => by have := h.from_ a ha; omega), h.lo_le, h.from_⟩
  · exact ⟨h.rdr.kept hb (fun k hk => by cases hk; exact hg), h.lo_le, h.from_⟩
theorem RdrZ.below (h : RdrZ w lo g A c l p e) {B : Nat} (hb : Below B w w') (hg : g < B) : RdrZ w' lo g A c l p e := ⟨h.rdr.below hb hg, h.lo_le, h.from_⟩
theorem RdrZ.belowH (h : RdrZ w lo g A c l p e) (hb : Below w.heap.size w w') : RdrZ w' lo g A c l p e := h.below hb h.rdr.lt
theorem RdrZ.same (h : RdrZ w lo g A c l p e) (hh : w'.heap = w.heap) : RdrZ w' lo g A c l p e := ⟨h.rdr.same hh, h.lo_le, h.from_⟩
theorem RdrZ.to {p' : Nat} {e' : Int} (h : RdrZ w lo g A c l p e) (hr : Rdr w' g A c l p' e') : RdrZ w' lo g A c l p' e' := ⟨hr, h.lo_le, h.from_⟩
end

/-- New: a reader at the beginning of a copy. -/
def Newly (w : World) (l : List Int) (e : Ending) (w' : World) : Prop :=
  ∃ g A c, e = .returned (.pointer (some ⟨g, 0, none⟩)) ∧ Rdr w' g A c l 0 0 ∧ Below w.heap.size w w' ∧ w.heap.size ≤ g ∧ ∀ a, A = some a → w.heap.size ≤ a.block

set_option maxHeartbeats 1000000 in
theorem new_any (A : Option Addr) (c n : Nat) (l : List Int) (w : World) (B : Nat) (hn : n = l.length) (h : RB w B A c l) (hB : B ≤ w.heap.size) (hlen : l.length ≤ 1099511627776) :
    Calls Try.prog 33 #[.slice A n c] w (Newly w l) := by
  subst hn
  go_enter Try.func33, Try.ntmps33
  go_wp2_with (go_at_call 57; refine (clone_any A c _ l _ B rfl h hB (by omega)).mono ?_; rintro e w1 ⟨A1, c1, rfl, ho, hb⟩)
  go_ret
  refine ⟨w1.heap.size, A1, c1, rfl, ⟨?_, ?_, ho.plain, Nat.zero_le _, hlen⟩, hb.alloc hb.size _, hb.size, ho.from_⟩
  · rw [heap_alloc_new]; rfl
  · exact ho.rb.alloc (Nat.le_refl _) _

set_option maxHeartbeats 400000 in
theorem rend_nil (w : World) : Calls Try.prog 37 #[.pointer none] w fun e w' => e = .returned (.int .i64 1) ∧ w = w' := by
  go_enter Try.func37, Try.ntmps37
  go_wp2_with (first
    | (go_at_call 36; refine (err_nil _).mono ?_; rintro e w' ⟨rfl, rfl⟩))
  go_ret
  exact ⟨rfl, rfl⟩
end Go.Proofs.Ytofenjloieagaaa
namespace Go.Proofs.Ytofenjloieagaaa
open Go.RowKit

/-- The row of a literal, marked or not. -/
theorem RB.row (w : World) (l : List Int) (fr : Nat × Nat) (hb : AllB l) (hm : l.length ≤ maxLen) : RB (w.alloc (.cells (l.map (Value.int .u8)).toArray 5 fr)) (w.heap.size + 1) (some ⟨w.heap.size, 0, none⟩) l.length l := by
  refine RB.mk_ (Nat.le_refl _) hm hb (Nat.lt_succ_self _) fun i hi => ?_
  rw [cell_of_row _ _ _ _ _ _ (heap_alloc_new w _)]
  simp [hi]

theorem str_rb (w : World) (B : Nat) (A : Option Addr) (c n : Nat) (l : List Int) (h : RB w B A c l) (hn : n = l.length) :
    (convert 23 9 (.slice A n c)).run Try.prog w = .ok (.string (strOfNums l)) w := by subst hn; exact run_string_rb w B A c l h

theorem AllB.of {l : List Int} (h : l.all (fun n => decide (0 ≤ n) && decide (n < 256)) = true) : AllB l := fun n hn => by
  have := List.all_eq_true.1 h n hn
  simpa using this

theorem sum_nine : (sumL [49, 50, 51, 52, 53, 54, 55, 56, 57]).toNat = 10673 := by decide +kernel
theorem read1 : numSt [250, 0, 0, 1, 5] 0 0 = (65536, 4, 0) := by decide +kernel
theorem read2 : numSt [250, 0, 0, 1, 5] 4 0 = (5, 5, 0) := by decide +kernel
theorem read3 : endSt [250, 0, 0, 1, 5] 5 0 = 0 := by decide +kernel

theorem number_248 (w : World) : Calls Try.prog 30 #[.slice none 0 0, .int .u64 248] w fun e w' =>
    ∃ A c, e = .returned (.slice A 2 c) ∧ OB w' w.heap.size A c [248, 248] ∧ Below w.heap.size w w' := by
  refine (number_any none 0 0 [] 248 w 0 rfl (RB.nil _ _) (Nat.zero_le _) (by decide) (by decide)).mono ?_
  rintro e w1 ⟨A1, c1, he, ho1, hb1⟩
  exact ⟨A1, c1, he, ho1, hb1⟩

end Go.Proofs.Ytofenjloieagaaa
