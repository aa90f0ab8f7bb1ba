/-  -/
import Derived.Test.YtofenjloieagaaaShelf
import Derived.Test.YtofenjloieagaaaZT3
import Derived.Test.YtofenjloieagaaaZT4
namespace Go.Proofs.Ytofenjloieagaaa
open Go.RowKit Go.Maps Go.Sort Go.Shelf
set_option linter.unusedSimpArgs false
set_option linter.unusedVariables false
set_option maxRecDepth 100000

/-- The keys that are down, rising. -/
def downs (l : List Tc) : List Int := ((List.range 40).map (fun i : Nat => (i : Int))).filter (downB l)
def AllFine (l : List Tc) : Prop := ∀ x ∈ l, x.Fine
theorem downB_fine : ∀ (l : List Tc) (b : Bool) (c : Int), (∀ x ∈ l, x.Fine) → l.foldl (fun b x => stepK x c b) b = true → b = true ∨ (0 ≤ c ∧ c ≤ 39)
  | [], b, c, _, h => .inl h
  | x :: l, b, c, hf, h => by
    rcases downB_fine l (stepK x c b) c (fun y hy => hf y (List.mem_cons_of_mem _ hy)) h with h1 | h1
    · unfold stepK at h1
      split at h1
      · rename_i h2
        rcases hf x (List.mem_cons_self ..) with ⟨_, _, h3, h4⟩ | ⟨h3, _⟩
        · right; omega
        · omega
      · exact .inl h1
    · exact .inr h1
theorem downB_in {l : List Tc} {c : Int} (hf : AllFine l) (h : downB l c = true) : 0 ≤ c ∧ c ≤ 39 := by
  rcases downB_fine l false c hf h with h | h
  · cases h
  · exact h
theorem mem_downs {l : List Tc} (hf : AllFine l) (c : Int) : c ∈ downs l ↔ downB l c = true := by
  unfold downs
  rw [List.mem_filter, List.mem_map]
  constructor
  · exact fun h => h.2
  · intro h
    have := downB_in hf h
    exact ⟨⟨c.toNat, by simp; omega, by omega⟩, h⟩
theorem downs_sorted (l : List Tc) : (downs l).Pairwise (fun a b => a < b) := by
  unfold downs
  refine List.Pairwise.filter _ ?_
  rw [List.pairwise_map]
  exact List.Pairwise.imp (fun h => by omega) (List.pairwise_lt_range (n := 40))
theorem downs_len (l : List Tc) : (downs l).length ≤ 40 := by
  unfold downs
  exact Nat.le_trans (List.length_filter_le _ _) (by simp)
theorem sort_downs (l : List Tc) : (downs l).mergeSort leI = downs l := by
  refine List.mergeSort_of_pairwise ((downs_sorted l).imp fun h => ?_)
  simp only [leI, decide_eq_true_eq]
  omega
theorem keys_downs {l : List Tc} {D : DataW Unit} {w : World} {b n : Nat} (hf : AllFine l) (hD : DownRel l D) (hm : w.ownsMap Try.prog 3 (unitElem (H := Unit)) b n D) {ss : List Int} (hp : ss.Perm (intKeys D)) : ss.mergeSort leI = downs l ∧ ss.length = (downs l).length := by
  have hc : CollectedI D (fun _ => false) (downs l) := by
    refine ⟨(downs_sorted l).imp (fun h => by omega), fun x => ?_⟩
    rw [mem_downs hf, hD.2]
    simp
  have h2 := hc.perm hm keyedI Try.underlying3 (fun _ => rfl)
  have h3 : ss.Perm (downs l) := hp.trans h2.symm
  exact ⟨by rw [mergeSort_of_perm_i h3, sort_downs], h3.length_eq⟩

/-- slices.Sort's two contracts. -/
theorem sortsA (m : Nat) : AnyZI.SortsIn Try.prog Try.sortedA_ren Fence.wide m :=
  ⟨fun blk off cap ss W hH hblk hsz => callsIn_wide.2 (AnyM.slices_Sort_int Try.sortA blk off cap ss W hH hblk hsz),
   fun p cap W => callsIn_wide.2 (AnyM.slices_Sort_int_none Try.sortA p cap W)⟩
theorem keys_any (mb : Option Nat) (W : World) : Calls Try.prog 45 #[.map mb] W fun e w' => e = .returned (.func (.func 63) #[] #[.pointer (some ⟨W.heap.size, 0, none⟩)]) ∧ w' = W.alloc (.cells #[.map mb] 69) :=
  (callsIn_wide (n := 5)).1 (AnyZI.keys_in Try.keysA Fence.wide 5 trivial rfl mb W)

set_option maxHeartbeats 1000000 in
theorem sorted_any {l : List Tc} {D : DataW Unit} {w : World} {b n : Nat} (hf : AllFine l) (hD : DownRel l D) (hm : w.ownsMap Try.prog 3 (unitElem (H := Unit)) b n D) (hn : n ≤ 65536) :
    Calls Try.prog 44 #[.func (.func 63) #[] #[.pointer (some ⟨w.heap.size, 0, none⟩)]] (w.alloc (.cells #[.map (some b)] 69)) fun e w' =>
      ∃ v, e = .returned v ∧ w'.ownsRow w.heap.size 3 1 v (downs l).length ((downs l).map (Value.int .i64)) ∧ Below w.heap.size w w' := by
  have hsz := hm.size_le
  have hmax : Maps.size D ≤ maxLen := by unfold maxLen; omega
  have hbytes : Maps.size D * 8 ≤ 140737488355328 := by omega
  have hseq : SeqGives Fence.wide 2 Try.prog 63 #[.pointer (some ⟨w.heap.size, 0, none⟩)] encZ (fun ss => ss.Perm (intKeys D)) (Maps.size D) (w.alloc (.cells #[.map (some b)] 69)) :=
    AnyZI.keys_gives (ρ := Try.keysA_ren) { Try.keysA with } Fence.wide _ trivial rfl (by omega) w.heap.size b n D _ (by simp) (by simp) (hm.alloc _)
  have cS := AnyZI.sorted_in Try.sortedA Fence.wide 5 trivial trivial trivial trivial rfl (by omega) (sortsA _) (enters_of Try.func62 (by kernel_rfl) rfl) 63 #[.pointer (some ⟨w.heap.size, 0, none⟩)] trivial (enters_of Try.func63 (by kernel_rfl) rfl) _ _ hmax hbytes _ hseq
  change CallsIn _ _ Try.prog 44 _ _ _ at cS
  refine ((callsIn_wide (n := 5)).1 cS).mono ?_
  rintro e w' ⟨v, ss, rfl, hS, hrow, hnil, hb⟩
  obtain ⟨h1, h2⟩ := keys_downs hf hD hm hS
  have h1' : ss.mergeSort (fun x y => decide (x ≤ y)) = downs l := h1
  rw [h1', h2] at hrow
  exact ⟨v, rfl, ownsRow_base_a hrow (by simp), ((Below.refl _ w).alloc (Nat.le_refl _) _).trans (hb.mono (by simp))⟩

theorem fine_take {l : List Tc} {t : Int} : AllFine (l.take (untilN l t)) := by
  intro x hx
  by_cases hg : Good l
  · have h2 := List.mem_of_mem_take hx
    obtain ⟨i, hi, rfl⟩ := List.mem_iff_getElem.1 h2
    have := (hg.2 i hi).1
    have e : l.getD i tcZ = l[i] := by simp [List.getD_eq_getElem?_getD, hi]
    rwa [e] at this
  · rw [untilN_no hg] at hx
    simp at hx
theorem take_len (l : List Tc) (t : Int) : (l.take (untilN l t)).length = untilN l t := by
  have := untilN_le l t
  simp only [List.length_take]
  omega
theorem until_long {l : List Tc} {t : Int} : untilN l t ≤ 65536 := by
  by_cases hg : Good l
  · exact Nat.le_trans (untilN_le l t) hg.1
  · rw [untilN_no hg]; omega

/-- What is down, the ear's bit, at a time. -/
def downAt (l : List Tc) (t : Int) : List Int := downs (l.take (untilN l t))
def earAt (l : List Tc) (t : Int) : Bool := earB (l.take (untilN l t))

set_option maxHeartbeats 2000000 in
theorem downAt_any (w : World) (A : Option Addr) (c : Nat) (l : List Tc) (t : Int) (hl : TsAt w w.heap.size A l) (hw : ∀ x ∈ l, x.wf) (hc : l.length ≤ c ∧ c ≤ maxLen) :
    Calls Try.prog 16 #[.slice A l.length c, .int .i64 t] w fun e w' => ∃ v, e = .returned v ∧ w'.ownsRow w.heap.size 3 1 v (downAt l t).length ((downAt l t).map (Value.int .i64)) ∧ Below w.heap.size w w' := by
  have HU := Lib.hid (until_any w A c l t hl hc)
  have HD := Lib.hid (fun w1 (hb : Below w.heap.size w w1) => down_any w1 w.heap.size A c (l.take (untilN l t)) hb.size ((hl.below hb).take _) (fun x hx => hw x (List.mem_of_mem_take hx)) (by rw [take_len]; exact until_long))
  have HS := Lib.hid (fun (D : DataW Unit) (w1 : World) (b n : Nat) (hD : DownRel (l.take (untilN l t)) D) (hm : w1.ownsMap Try.prog 3 (unitElem (H := Unit)) b n D) (hn : n ≤ 65536) => sorted_any (fine_take (t := t)) hD hm hn)
  unfold downAt
  rw [take_len] at HD
  have hN := untilN_le l t
  have hL : Hid ((l.take (untilN l t)).length ≤ 65536) := Lib.hid (by rw [take_len]; exact until_long)
  generalize l.take (untilN l t) = m at *
  generalize untilN l t = u at *
  clear hl hw
  unfold DownTo at HD
  obtain ⟨hc1, hc2⟩ := hc
  unfold maxLen at hc2
  go_enter Try.func16, Try.ntmps16
  go_wp2_with fail
  refine HU.out.mono ?_
  rintro e w1 ⟨rfl, hb⟩
  have HB1 := Lib.hid hb
  clear hb HU
  go_wp2_with fail
  refine (HD.out w1 HB1.out).mono ?_
  rintro e w2 ⟨⟨b, n, D, rfl, hm, hD, hn⟩, hb2⟩
  have HB2 := Lib.hid (HB1.out.trans (hb2.mono HB1.out.size))
  have HS2 := Lib.hid (HS.out _ _ _ _ hD hm (by have := hL.out; omega))
  clear hm hD hb2 HS HD HB1
  go_wp2_with fail
  refine (keys_any _ _).mono ?_
  rintro e w3 ⟨rfl, rfl⟩
  go_wp2_with fail
  refine HS2.out.mono ?_
  rintro e w4 ⟨v, rfl, hrow, hb4⟩
  have HR := Lib.hid (ownsRow_base_a hrow HB2.out.size)
  have HB4 := Lib.hid (HB2.out.trans (hb4.mono HB2.out.size))
  clear hrow hb4
  go_wp2_with fail
  go_ret
  exact ⟨v, rfl, HR.out, HB4.out⟩

set_option maxHeartbeats 2000000 in
theorem earAt_any (w : World) (A : Option Addr) (c : Nat) (l : List Tc) (t : Int) (hl : TsAt w w.heap.size A l) (hc : l.length ≤ c ∧ c ≤ maxLen) :
    Calls Try.prog 18 #[.slice A l.length c, .int .i64 t] w fun e w' => e = .returned (.bool (earAt l t)) ∧ Below w.heap.size w w' := by
  have HU := Lib.hid (until_any w A c l t hl hc)
  have HD := Lib.hid (fun w1 (hb : Below w.heap.size w w1) => ear_any w1 w.heap.size A c (l.take (untilN l t)) hb.size ((hl.below hb).take _) (by rw [take_len]; exact until_long))
  unfold earAt
  rw [take_len] at HD
  have hN := untilN_le l t
  generalize earB (l.take (untilN l t)) = m at *
  generalize untilN l t = u at *
  clear hl
  obtain ⟨hc1, hc2⟩ := hc
  unfold maxLen at hc2
  go_enter Try.func18, Try.ntmps18
  go_wp2_with fail
  refine HU.out.mono ?_
  rintro e w1 ⟨rfl, hb⟩
  have HB1 := Lib.hid hb
  clear hb HU
  go_wp2_with fail
  refine (HD.out w1 HB1.out).mono ?_
  rintro e w2 ⟨rfl, hb2⟩
  have HB2 := Lib.hid (HB1.out.trans (hb2.mono HB1.out.size))
  clear hb2
  go_wp2_with fail
  go_ret
  exact ⟨rfl, HB2.out⟩

/-- Is a row asked by a high byte? Is a bit's key down in one of the first rows that are asked? -/
def askB (h : Int) (r : Nat) : Bool := decide (h / 2 ^ r % 2 = 0)
def colB (f : Int → Bool) (h : Int) : Nat → Nat → Bool
  | 0, _ => false
  | r + 1, j => colB f h r j || (askB h r && f (5 * r + j))
theorem byte5_and : ∀ c0 c1 c2 c3 c4 e d0 d1 d2 d3 d4 : Bool, bits .and .u8 (byte5 c0 c1 c2 c3 c4 e) (byte5 d0 d1 d2 d3 d4 true) = byte5 (c0 || d0) (c1 || d1) (c2 || d2) (c3 || d3) (c4 || d4) e := by decide +kernel
theorem byteV_and (c d : Nat → Bool) (e : Bool) : bits .and .u8 (byteV c e) (byteV d true) = byteV (fun j => c j || d j) e := byte5_and _ _ _ _ _ _ _ _ _ _ _
/-- What a port's high byte reads at a time. -/
def byteAt17 (l : List Tc) (t h : Int) : Int := byteV (colB (downB (l.take (untilN l t))) h 8) (earAt l t)

theorem xor_fin : ∀ (x : Fin 256) (r : Fin 8), (bits .and .u8 (bits .xor .u8 (if IntKind.u8.signed = true then -1 else IntKind.u8.max) (x.1 : Int) / 2 ^ r.1) 1 == 1) = decide ((x.1 : Int) / 2 ^ r.1 % 2 = 0) := by decide +kernel
theorem xor_ask {h : Int} {r : Nat} (h0 : 0 ≤ h) (h1 : h < 256) (hr : r < 8) : (bits .and .u8 (bits .xor .u8 (if IntKind.u8.signed = true then -1 else IntKind.u8.max) h / 2 ^ r) 1 == 1) = askB h r := by
  have := xor_fin ⟨h.toNat, by omega⟩ ⟨r, hr⟩
  simp only [show ((h.toNat : Nat) : Int) = h by omega] at this
  exact this

set_option maxHeartbeats 4000000 in
theorem byteAt_any (w : World) (A : Option Addr) (c : Nat) (l : List Tc) (t h : Int) (hl : TsAt w w.heap.size A l) (hw : ∀ x ∈ l, x.wf) (hc : l.length ≤ c ∧ c ≤ maxLen) (hh : 0 ≤ h ∧ h < 256) :
    Calls Try.prog 20 #[.slice A l.length c, .int .i64 t, .int .u8 h] w fun e w' => e = .returned (.int .u8 (byteAt17 l t h)) ∧ Below w.heap.size w w' := by
  have HU := Lib.hid (until_any w A c l t hl hc)
  have HD := Lib.hid (fun w1 (hb : Below w.heap.size w w1) => down_any w1 w.heap.size A c (l.take (untilN l t)) hb.size ((hl.below hb).take _) (fun x hx => hw x (List.mem_of_mem_take hx)) (by rw [take_len]; exact until_long))
  have HE := Lib.hid (fun w1 (hb : Below w.heap.size w w1) => ear_any w1 w.heap.size A c (l.take (untilN l t)) hb.size ((hl.below hb).take _) (by rw [take_len]; exact until_long))
  have HR := Lib.hid (fun (D : DataW Unit) (w1 : World) (b n : Nat) (hD : DownRel (l.take (untilN l t)) D) (hm : w1.ownsMap Try.prog 3 (unitElem (H := Unit)) b n D) (r : Nat) (hr : r < 8) => rowbyte_any w1 b n _ D hm hD r hr)
  unfold byteAt17 earAt
  rw [take_len] at HD HE
  have hN := untilN_le l t
  generalize l.take (untilN l t) = m at *
  generalize untilN l t = u at *
  generalize earB m = er at *
  have H0 := Lib.hid (show colB (downB m) h 0 = fun _ => false from rfl)
  have HS := Lib.hid (show ∀ r, colB (downB m) h (r + 1) = fun j => colB (downB m) h r j || (askB h r && downB m (5 * r + j)) from fun r => rfl)
  clear hl hw
  unfold DownTo at HD
  obtain ⟨hc1, hc2⟩ := hc
  unfold maxLen at hc2
  obtain ⟨hh0, hh1⟩ := hh
  generalize downB m = f at *
  generalize colB f h = col at *
  go_enter Try.func20, Try.ntmps20
  go_wp2_with fail
  refine HU.out.mono ?_
  rintro e w1 ⟨rfl, hb⟩
  have HB1 := Lib.hid hb
  clear hb HU
  go_wp2_with fail
  refine (HD.out w1 HB1.out).mono ?_
  rintro e w2 ⟨⟨b, n, D, rfl, hm, hD, hn⟩, hb2⟩
  have HB2 := Lib.hid (HB1.out.trans (hb2.mono HB1.out.size))
  have HM2 := Lib.hid hm
  have HDR := Lib.hid hD
  clear hm hD hb2 HD HB1
  go_wp2_with fail
  refine (HE.out w2 HB2.out).mono ?_
  rintro e w3 ⟨rfl, hb3⟩
  have HB3 := Lib.hid (HB2.out.trans (hb3.mono HB2.out.size))
  have HM3 := Lib.hid (HM2.out.kept (below_grown hb3) (by simp))
  have HRow := Lib.hid (fun (w1 : World) (hm : w1.ownsMap Try.prog 3 (unitElem (H := Unit)) b n D) (r : Nat) (hr : r < 8) => HR.out D w1 b n HDR.out hm r hr)
  clear hb3 HE HR HDR HB2 HM2
  cases er with
  | true =>
    go_wp2_with fail
    go_loopw [9, 10, 23] (fun v row i wr => ∃ r : Nat, r ≤ 8 ∧ i = .int .i64 r ∧ v = .int .u8 (byteV (col r) true) ∧ wr.ownsMap Try.prog 3 (unitElem (H := Unit)) b n D ∧ Below w.heap.size w wr) (fun _ _ i _ => 8 - (intOf i).toNat)
    case atStart => exact ⟨0, by omega, rfl, by rw [H0.out]; rfl, HM3.out, HB3.out⟩
    case round =>
      rename World => wr
      obtain ⟨r, hr, rfl, rfl, hm, hb⟩ := hrel
      have HMr := Lib.hid hm
      have HB := Lib.hid hb
      clear hm hb
      by_cases hlt : r < 8
      · have HSr := Lib.hid (HS.out r)
        have HC := Lib.hid (HRow.out wr HMr.out r hlt)
        have hbits := xor_ask hh0 hh1 hlt
        have HA := Lib.hid (byteV_and (col r) (fun j => f (5 * r + j)) true)
        clear HS HRow H0
        generalize hask : askB h r = q at *
        clear hask
        generalize byteV (fun j : Nat => f (5 * r + j)) true = v2 at *
        cases q with
        | true =>
          go_wp2_with fail
          refine HC.out.mono ?_
          rintro e w4 ⟨rfl, hb⟩
          have HB4 := Lib.hid (HB.out.trans (hb.mono HB.out.size))
          have HM4 := Lib.hid (HMr.out.kept (below_grown hb) (by simp))
          clear hb HB HMr HC
          go_wp2_with fail
          exact ⟨⟨r + 1, by omega, by go_num, by rw [HA.out, HSr.out]; simp, HM4.out, HB4.out⟩, by simp [intOf]; omega⟩
        | false =>
          go_wp2_with fail
          exact ⟨⟨r + 1, by omega, by go_num, by rw [HSr.out]; simp, HMr.out, HB.out⟩, by simp [intOf]; omega⟩
      · obtain rfl : r = 8 := by omega
        clear HS HRow H0
        go_wp2_with fail
        go_ret
        exact ⟨rfl, HB.out⟩
  | false =>
    go_wp2_with fail
    go_loopw [9, 10, 23] (fun v row i wr => ∃ r : Nat, r ≤ 8 ∧ i = .int .i64 r ∧ v = .int .u8 (byteV (col r) false) ∧ wr.ownsMap Try.prog 3 (unitElem (H := Unit)) b n D ∧ Below w.heap.size w wr) (fun _ _ i _ => 8 - (intOf i).toNat)
    case atStart => exact ⟨0, by omega, rfl, by rw [H0.out]; rfl, HM3.out, HB3.out⟩
    case round =>
      rename World => wr
      obtain ⟨r, hr, rfl, rfl, hm, hb⟩ := hrel
      have HMr := Lib.hid hm
      have HB := Lib.hid hb
      clear hm hb
      by_cases hlt : r < 8
      · have HSr := Lib.hid (HS.out r)
        have HC := Lib.hid (HRow.out wr HMr.out r hlt)
        have hbits := xor_ask hh0 hh1 hlt
        have HA := Lib.hid (byteV_and (col r) (fun j => f (5 * r + j)) false)
        clear HS HRow H0
        generalize hask : askB h r = q at *
        clear hask
        generalize byteV (fun j : Nat => f (5 * r + j)) true = v2 at *
        cases q with
        | true =>
          go_wp2_with fail
          refine HC.out.mono ?_
          rintro e w4 ⟨rfl, hb⟩
          have HB4 := Lib.hid (HB.out.trans (hb.mono HB.out.size))
          have HM4 := Lib.hid (HMr.out.kept (below_grown hb) (by simp))
          clear hb HB HMr HC
          go_wp2_with fail
          exact ⟨⟨r + 1, by omega, by go_num, by rw [HA.out, HSr.out]; simp, HM4.out, HB4.out⟩, by simp [intOf]; omega⟩
        | false =>
          go_wp2_with fail
          exact ⟨⟨r + 1, by omega, by go_num, by rw [HSr.out]; simp, HMr.out, HB.out⟩, by simp [intOf]; omega⟩
      · obtain rfl : r = 8 := by omega
        clear HS HRow H0
        go_wp2_with fail
        go_ret
        exact ⟨rfl, HB.out⟩
end Go.Proofs.Ytofenjloieagaaa
