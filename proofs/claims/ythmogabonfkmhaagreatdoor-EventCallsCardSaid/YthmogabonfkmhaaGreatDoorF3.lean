
/- What the listed variables hold; what digits, Name, kindOf, value and Text answer. -/
import Derived.Test.YthmogabonfkmhaaGreatDoorF2
import Derived.Test.YthmogabonfkmhaaGreatDoorShelf
import Derived.Lib.AppendIntMem
import Derived.Lib.SmallJoins
import Derived.Lib.AtoiErrMem
namespace Go.Proofs.YthmogabonfkmhaaGreatDoor
open Go.RowKit
set_option linter.unusedSimpArgs false
set_option maxRecDepth 100000

/-- The kinds' names. -/
def nameL : List (List UInt8) := [[], [102, 101, 116, 99, 104], [114, 101, 97, 100], [119, 114, 105, 116, 101], [105, 110], [111, 117, 116], [97, 99, 107], [112, 105, 120, 101, 108], [97, 116, 116, 114], [98, 111, 114, 100, 101, 114], [98, 101, 101, 112], [108, 101, 118, 101, 108], [115, 116, 97, 116, 117, 115]]
def nameB (k : Nat) : ByteArray := ⟨(nameL.getD k []).toArray⟩
def nameOf (k : Int) : ByteArray := if 0 ≤ k ∧ k < 13 then nameB k.toNat else ⟨#[]⟩

structure Vars (w : World) : Prop where
  names : ∀ k, k < 13 → w.cell? ⟨0, k, none⟩ = some (.string (nameB k))
  ml : ∃ m, w.cell? ⟨1, 0, none⟩ = some (.int .i64 m)
  es : ∃ ev, w.cell? ⟨2, 0, none⟩ = some ev ∧ (ev = .nilIface ∨ ∃ te pe, ev = .iface te pe)
  er : ∃ ev, w.cell? ⟨3, 0, none⟩ = some ev ∧ (ev = .nilIface ∨ ∃ te pe, ev = .iface te pe)
  tab : Lib.TabIs Tryz.prog w "internal/strconv.uint64pow10" .u64 Lib.pow10Tab
  size : 9 ≤ w.heap.size

theorem gTab : Tryz.prog.globalNamed "internal/strconv.uint64pow10" = some 4 := by kernel_rfl

theorem tab_below {w w' : World} {B : Nat} (h : Lib.TabIs Tryz.prog w "internal/strconv.uint64pow10" .u64 Lib.pow10Tab) (hb : Below B w w') (hB : 9 ≤ B) : Lib.TabIs Tryz.prog w' "internal/strconv.uint64pow10" .u64 Lib.pow10Tab := by
  unfold Lib.TabIs World.var? at *
  rw [gTab] at h ⊢
  simp only [Option.bind_some] at h ⊢
  rw [hb.block _ (by omega)]
  exact h

theorem Vars.below {w w' : World} {B : Nat} (h : Vars w) (hb : Below B w w') (hB : 9 ≤ B) : Vars w' where
  names := fun k hk => (hb.cell (Nat.lt_of_lt_of_le (show 0 < 9 by decide) hB)).trans (h.names k hk)
  ml := by obtain ⟨m, hm⟩ := h.ml; exact ⟨m, (hb.cell (Nat.lt_of_lt_of_le (show 1 < 9 by decide) hB)).trans hm⟩
  es := by obtain ⟨m, hm, h2⟩ := h.es; exact ⟨m, (hb.cell (Nat.lt_of_lt_of_le (show 2 < 9 by decide) hB)).trans hm, h2⟩
  er := by obtain ⟨m, hm, h2⟩ := h.er; exact ⟨m, (hb.cell (Nat.lt_of_lt_of_le (show 3 < 9 by decide) hB)).trans hm, h2⟩
  tab := tab_below h.tab hb hB
  size := Nat.le_trans h.size hb.size
theorem Vars.on {w w' : World} (h : Vars w) (hb : Below w.heap.size w w') : Vars w' := h.below hb h.size
theorem Vars.save {b w : World} (h : Vars b) (hs : Save (fun _ => False) b w) : Vars w := h.on hs.all

def str (l : List UInt8) : Value := .string ⟨l.toArray⟩

theorem digits_any (n : Int) (w : World) (hV : Vars w) (h0 : -9223372036854775808 ≤ n) (h1 : n ≤ 9223372036854775807) : Calls Tryz.prog 42 #[.int .i64 n] w fun e w' => e = .returned (.string ⟨(Lib.itoa n).toArray⟩) ∧ Below w.heap.size w w' := by
  go_enter Tryz.func42, Tryz.ntmps42
  go_wp2_with (go_at_call 60; refine (Tryz.strconv_FormatInt_10 n h0 h1 _ hV.tab).mono ?_; rintro e w' ⟨rfl, k, os, rfl⟩)
  go_ret
  exact ⟨rfl, Lib.below_grow _ _ (Nat.le_refl _) _ _⟩

theorem name_any (k : Int) (w : World) (hV : Vars w) : Calls Tryz.prog 14 #[.int .i64 k] w fun e w' => e = .returned (.string (nameOf k)) ∧ w = w' := by
  by_cases h : 0 ≤ k ∧ k < 13
  · obtain ⟨n, rfl⟩ : ∃ n : Nat, k = n := ⟨k.toNat, by omega⟩
    have hc := hV.names n (by omega)
    have hn : nameOf (n : Int) = nameB n := by unfold nameOf; rw [if_pos h]; rfl
    rw [hn]
    clear hn
    obtain ⟨h0, h1⟩ := h
    go_enter Tryz.func14, Tryz.ntmps14
    go_wp2
    go_ret
    exact ⟨rfl, rfl⟩
  · have hn : nameOf k = ⟨#[]⟩ := by unfold nameOf; rw [if_neg h]
    rw [hn]
    clear hn
    by_cases h2 : k < 0
    · go_enter Tryz.func14, Tryz.ntmps14
      go_wp2
      go_ret
      exact ⟨rfl, rfl⟩
    · have h3 : 0 ≤ k := by omega
      have h4 : 13 ≤ k := by omega
      clear h h2
      go_enter Tryz.func14, Tryz.ntmps14
      go_wp2
      go_ret
      exact ⟨rfl, rfl⟩

/-- The kind of a name. -/
def kindN (s : ByteArray) : Nat → Nat → Nat
  | _, 0 => 0
  | k, n + 1 => if nameB k = s then k else kindN s (k + 1) n
def kindO (s : ByteArray) : Int := (kindN s 0 13 : Nat)
theorem kindN_at (s : ByteArray) (k n : Nat) (h : nameB k = s) : kindN s k (n + 1) = k := by simp only [kindN]; rw [if_pos h]
theorem kindN_on (s : ByteArray) (k n : Nat) (h : nameB k ≠ s) : kindN s k (n + 1) = kindN s (k + 1) n := by simp only [kindN]; rw [if_neg h]

theorem tl_ne {a b : ByteArray} (h : a ≠ b) : (a.toList == b.toList) = false := by
  rw [ByteArray.toList_eq, ByteArray.toList_eq, beq_eq_false_iff_ne]; exact fun e => h (Go.WideShapes.bytes_inj e)

theorem names_index (k : Nat) (w : World) (hk : k < 13) : (Instr.index 56 (.agg #[.string (nameB 0), .string (nameB 1), .string (nameB 2), .string (nameB 3), .string (nameB 4), .string (nameB 5), .string (nameB 6), .string (nameB 7), .string (nameB 8), .string (nameB 9), .string (nameB 10), .string (nameB 11), .string (nameB 12)]) (.int .i64 (k : Int))).run Tryz.prog w = .ok (.string (nameB k)) w :=
  match k, hk with
  | 0, _ => by kernel_rfl
  | 1, _ => by kernel_rfl
  | 2, _ => by kernel_rfl
  | 3, _ => by kernel_rfl
  | 4, _ => by kernel_rfl
  | 5, _ => by kernel_rfl
  | 6, _ => by kernel_rfl
  | 7, _ => by kernel_rfl
  | 8, _ => by kernel_rfl
  | 9, _ => by kernel_rfl
  | 10, _ => by kernel_rfl
  | 11, _ => by kernel_rfl
  | 12, _ => by kernel_rfl

set_option maxHeartbeats 8000000 in
theorem kindOf_any (s : ByteArray) (w : World) (hV : Vars w) : Calls Tryz.prog 33 #[.string s] w fun e w' => e = .returned (.int .i64 (kindO s)) ∧ w = w' := by
  have n0 := hV.names 0 (by decide)
  have n1 := hV.names 1 (by decide)
  have n2 := hV.names 2 (by decide)
  have n3 := hV.names 3 (by decide)
  have n4 := hV.names 4 (by decide)
  have n5 := hV.names 5 (by decide)
  have n6 := hV.names 6 (by decide)
  have n7 := hV.names 7 (by decide)
  have n8 := hV.names 8 (by decide)
  have n9 := hV.names 9 (by decide)
  have n10 := hV.names 10 (by decide)
  have n11 := hV.names 11 (by decide)
  have n12 := hV.names 12 (by decide)
  go_enter Tryz.func33, Tryz.ntmps33
  go_wp2
  clear n0 n1 n2 n3 n4 n5 n6 n7 n8 n9 n10 n11 n12
  go_loop [6] (fun i => ∃ k : Nat, k ≤ 13 ∧ i = .int .i64 k ∧ Hid (kindO s = kindN s k (13 - k))) (fun i => 13 - (intOf i).toNat)
  case atStart => exact ⟨0, by omega, rfl, Lib.hid rfl⟩
  case round =>
    obtain ⟨k, hk, rfl, H0⟩ := hrel
    by_cases hlt : k < 13
    · have hrun := names_index k w hlt
      by_cases he : nameB k = s
      · have H1 := Lib.hid he
        have b2 : ((nameB k).toList == s.toList) = true := by rw [he]; exact beq_self_eq_true _
        clear he
        go_wp2
        go_ret
        exact ⟨ret_i64 (by rw [H0.out, show 13 - k = (12 - k) + 1 by omega]; exact (congrArg (Nat.cast (R := Int)) (kindN_at s k (12 - k) H1.out)).symm), rfl⟩
      · have H1 := Lib.hid he
        have b2 : ((nameB k).toList == s.toList) = false := tl_ne he
        clear he
        go_wp2
        go_round
        case rel => exact ⟨k + 1, by omega, by go_num, Lib.hid (by rw [H0.out, show 13 - k = (12 - k) + 1 by omega, kindN_on s k (12 - k) H1.out, show 13 - (k + 1) = 12 - k by omega])⟩
        case measure => simp [intOf]; omega
    · have : k = 13 := by omega
      subst this
      go_wp2
      go_ret
      exact ⟨ret_i64 (by rw [H0.out]; rfl), rfl⟩

/-- The number of a word; of a word that is none, some number. -/
def valOf (l : List UInt8) : Int := match Lib.parseIntB 64 l with
  | .ok v => v
  | .range => Lib.intSat 64 l
  | _ => 0

set_option maxHeartbeats 800000 in
theorem value_any (s : ByteArray) (w : World) (hV : Vars w) (hs : s.size ≤ 281474976710656) : Calls Tryz.prog 34 #[.string s] w fun e w' => e = .returned (.int .i64 (valOf s.data.toList)) ∧ Below w.heap.size w w' := by
  cases h : Lib.parseIntB 64 s.data.toList with
  | ok v =>
    have hv : valOf s.data.toList = v := by unfold valOf; rw [h]
    rw [hv]
    clear hv
    have H := Lib.hid h
    clear h
    go_enter Tryz.func34, Tryz.ntmps34
    go_wp2_with fail
    refine (Tryz.strconv_ParseInt_10_at64_ok s (by omega) v H.out _).mono ?_
    rintro e w' ⟨rfl, hw⟩
    have hb : Below w.heap.size w w' := by
      rcases hw with rfl | ⟨t, rfl⟩
      · exact Below.refl _ _
      · exact Lib.bytesWorld_below _ _ _
    clear hw
    go_wp2_with fail
    go_ret
    exact ⟨rfl, hb⟩
  | range =>
    have hv : valOf s.data.toList = Lib.intSat 64 s.data.toList := by unfold valOf; rw [h]
    rw [hv]
    clear hv
    have H := Lib.hid h
    clear h
    obtain ⟨ev, he, hev⟩ := hV.er
    have HE := Lib.hid he
    have HV := Lib.hid hev
    clear he hev
    obtain ⟨z, hz⟩ : ∃ z, Lib.intSat 64 s.data.toList = z := ⟨_, rfl⟩
    have HZ := Lib.hid hz
    rw [hz]
    clear hz
    go_enter Tryz.func34, Tryz.ntmps34
    go_wp2_with fail
    refine (Any.strconv_ParseInt_10_at64_range Tryz.laysC174 s hs H.out ev _ HE.out HV.out).mono ?_
    rintro e w' ⟨N, he, _, _, hb⟩
    rw [HZ.out] at he
    subst he
    go_wp2_with fail
    go_ret
    exact ⟨rfl, hb⟩
  | _ =>
    have hv : valOf s.data.toList = 0 := by unfold valOf; rw [h]
    rw [hv]
    clear hv
    have H := Lib.hid h
    clear h
    obtain ⟨ev, he, hev⟩ := hV.es
    have HE := Lib.hid he
    have HV := Lib.hid hev
    clear he hev
    go_enter Tryz.func34, Tryz.ntmps34
    go_wp2_with fail
    refine (Any.strconv_ParseInt_10_at64_syntax Tryz.laysC174 s hs H.out ev _ HE.out HV.out).mono ?_
    rintro e w' ⟨N, rfl, _, _, hb⟩
    go_wp2_with fail
    go_ret
    exact ⟨rfl, hb⟩

theorem nDigits_le : ∀ (k u : Nat), u < 10 ^ (k + 1) → Lib.nDigits u ≤ k + 1
  | 0, u, h => by rw [Lib.nDigits_small (by simpa using h)]; omega
  | k + 1, u, h => by
    by_cases h1 : u < 10
    · rw [Lib.nDigits_small h1]; omega
    · rw [Lib.nDigits_big h1]
      have := nDigits_le k (u / 10) (by rw [Nat.pow_succ] at h; omega)
      omega
theorem itoa_len (n : Int) (h0 : 0 ≤ n) (h1 : n < 100000000000000) : (Lib.itoa n).length ≤ 14 := by
  unfold Lib.itoa
  rw [if_neg (by omega), Lib.decDigits_length]
  exact nDigits_le 13 _ (by omega)

/-- An event's text. -/
def textE (x : Ev) : List UInt8 := Lib.join [Lib.itoa x.time, (nameOf x.kind).data.toList, Lib.itoa x.seq, Lib.itoa x.a, Lib.itoa x.b] [32]

theorem name_len (k : Int) : (nameOf k).data.toList.length ≤ 6 := by
  unfold nameOf
  split
  · rename_i h
    obtain ⟨n, rfl⟩ : ∃ n : Nat, k = n := ⟨k.toNat, by omega⟩
    have hn : n < 13 := by omega
    match n, hn with
    | 0, _ | 1, _ | 2, _ | 3, _ | 4, _ | 5, _ | 6, _ | 7, _ | 8, _ | 9, _ | 10, _ | 11, _ | 12, _ => decide
  · decide

theorem textE_len (x : Ev) (h : x.May) : (textE x).length ≤ 100 := by
  obtain ⟨_, _, h1, h2, h3, h4, h5, h6, h7, h8⟩ := h
  have a := itoa_len x.time h1 (by omega)
  have b := itoa_len x.seq h3 (by omega)
  have c := itoa_len x.a h5 (by omega)
  have d := itoa_len x.b h7 (by omega)
  have e := name_len x.kind
  unfold textE
  rw [Lib.join_length]
  simp only [Lib.lens, List.map_cons, List.map_nil, List.sum_cons, List.sum_nil, List.length_cons, List.length_nil]
  omega
end Go.Proofs.YthmogabonfkmhaaGreatDoor
