/-    -/
import Derived.Test.YtofenjloieagaaaZT15
import Derived.Test.YtofenjloieagaaaJ7
namespace Go.Proofs.Ytofenjloieagaaa
open Go.RowKit
set_option linter.unusedSimpArgs false
set_option linter.unusedVariables false
set_option maxRecDepth 100000

/-- The keys below k that are down. -/
def downK (f : Int → Bool) (k : Nat) : List Int := ((List.range k).map (fun i : Nat => (i : Int))).filter f
theorem downK_more (f : Int → Bool) (k : Nat) : downK f (k + 1) = if f k then downK f k ++ [(k : Int)] else downK f k := by
  unfold downK
  rw [List.range_succ, List.map_append, List.filter_append]
  by_cases h : f k <;> simp [h]
theorem downK_len (f : Int → Bool) (k : Nat) : (downK f k).length ≤ k := by
  unfold downK
  exact Nat.le_trans (List.length_filter_le _ _) (by simp)
theorem new_int (w : World) (y : Int) : ∀ j u, [Value.int .i64 y][j]? = some u → (w.alloc (.cells #[.int .i64 y] 3)).cell? ((⟨w.heap.size, 0, none⟩ : Addr).add j) = some u := by
  intro j u h
  match j, h with
  | 0, h => rw [show (⟨w.heap.size, 0, none⟩ : Addr).add 0 = ⟨w.heap.size, 0, none⟩ from rfl, World.cell?_alloc_at _ _ _ _ rfl]; exact h

set_option maxHeartbeats 4000000 in
theorem rdown_any (w : World) (A : Option Addr) (c : Nat) (l : List Tc) (t : Int) (hl : TsAt w w.heap.size A l) (hc : l.length ≤ maxLen) :
    Calls Try.prog 17 #[.slice A l.length c, .int .i64 t] w fun e w' => ∃ v, e = .returned v ∧ w'.ownsRow w.heap.size 3 1 v (downAt l t).length ((downAt l t).map (Value.int .i64)) ∧ Below w.heap.size w w' := by
  obtain ⟨i0, hi, hz0, hz1, hz2⟩ := info_parts info_int
  have HS := Lib.hid (rstate_any w A c l t hl hc)
  have hk := fun (i : Nat) (hi : i < 40) => stS_key (fine_until (l := l) t) i hi
  have hlen := stS_len (l.take (untilN l t))
  have hd : downAt l t = downK (downB (l.take (untilN l t))) 40 := rfl
  rw [hd]
  clear hd hl hc
  generalize stS (l.take (untilN l t)) = S at *
  generalize downB (l.take (untilN l t)) = f at *
  have HK := Lib.hid hk
  have HM := Lib.hid (downK_more f)
  have HL := Lib.hid (downK_len f)
  have H00 := Lib.hid (show downK f 0 = [] from rfl)
  have hin := ab_info S hlen
  have hon := ab_one S
  have hsz : (S.map Value.bool).toArray.size = 41 := by simp [hlen]
  have HAt := Lib.hid (fun (w1 : World) (g k : Nat) (h : AB w1 g S) (hk : k < 40) => h.at_ (k := k) (by omega))
  clear hk hlen
  unfold AB at HAt
  generalize (S.map Value.bool).toArray = cs at *
  go_enter Try.func17, Try.ntmps17
  go_wp2_with fail
  refine HS.out.mono ?_
  rintro e w1 ⟨rfl, hb⟩
  have HB := Lib.hid hb
  have h0 := heap_alloc_new w1 (.cells (zS.map Value.bool).toArray 72)
  clear hb HS
  have h2 := setRow_heap (w1.alloc (.cells (zS.map Value.bool).toArray 72)) w1.heap.size _ cs _ _ h0
  have HBW : Hid (Below w.heap.size w ((w1.alloc (.cells (zS.map Value.bool).toArray 72)).setRow w1.heap.size cs)) := Lib.hid (by
    have hx : Below w1.heap.size w1 ((w1.alloc (.cells (zS.map Value.bool).toArray 72)).setRow w1.heap.size cs) := below_row ((Below.refl _ _).alloc (Nat.le_refl _) _) cs
    exact HB.out.trans (hx.mono HB.out.size))
  have HSz : Hid (((w1.alloc (.cells (zS.map Value.bool).toArray 72)).setRow w1.heap.size cs).heap.size = w1.heap.size + 1) := Lib.hid (by simp)
  have hwg : w.heap.size ≤ w1.heap.size := HB.out.size
  go_wp2_with (refine wpList_store_row rfl 72 _ _ rfl w1.heap.size cs rfl rfl _ _ h0 hin (by rw [hsz]; rfl) hon ?_)
  obtain ⟨W1, hW1⟩ : ∃ W1, (w1.alloc (.cells (zS.map Value.bool).toArray 72)).setRow w1.heap.size cs = W1 := ⟨_, rfl⟩
  rw [hW1] at h2 HBW HSz
  have HW1 := Lib.hid hW1
  clear hW1
  obtain ⟨g, hgz⟩ : ∃ g, w1.heap.size = g := ⟨_, rfl⟩
  have H2 := Lib.hid h2
  have HGz := Lib.hid hgz
  rw [hgz] at HSz hwg
  clear h2 h0 HB hin hon hsz hgz
  go_loopw [5, 7] (fun v s wr => ∃ k : Nat, s = .int .i64 k ∧ k ≤ 40 ∧ wr.ownsRow (g + 1) 3 1 v (downK f k).length ((downK f k).map (Value.int .i64)) ∧ Below (g + 1) W1 wr) (fun _ s _ => 40 - (intOf s).toNat)
  case atStart => exact ⟨0, rfl, by omega, by rw [H00.out]; exact World.ownsRow_nil _ _ _ _, by rw [← HW1.out]; exact Below.refl _ _⟩
  case round =>
    rename World => wr
    obtain ⟨k, rfl, hk, ho, hb⟩ := hrel
    have HO := Lib.hid ho
    have HB := Lib.hid hb
    clear ho hb
    by_cases hlt : k < 40
    · obtain ⟨c0, -⟩ := HAt.out wr w1.heap.size k ((HB.out.block _ (by rw [HGz.out]; omega)).trans H2.out) hlt
      rw [HK.out k hlt] at c0
      have HMk := HM.out k
      have hLk := HL.out k
      have HMk := Lib.hid HMk
      have hbs : g + 1 ≤ wr.heap.size := by have := HB.out.size; rw [HSz.out] at this; exact this
      have HCl := Lib.hid hbs
      clear HAt HK HM HL
      cases hf : f (k : Int) with
      | true =>
        rw [hf] at c0 HMk
        clear hf
        rw [if_pos rfl] at HMk
        go_wp2_with (at_builtin; refine wpList_append_own _ rfl (.tmp 18) (.tmp 20) 35 rfl (g + 1) 3 i0 _ 1 8 Try.underlying35 hi hz0 hz1 hz2 rfl (by decide) _ (downK f k).length ((downK f k).map (Value.int .i64)) rfl (HO.out.alloc _) ⟨wr.heap.size, 0, none⟩ 1 1 [.int .i64 k] rfl rfl (new_int wr k) (by simp [Value.oneCell']) (by unfold maxLen; omega) (by omega) (by simp; omega) ?_; intro v' w' hown hg5 _; have HO2 := Lib.hid hown; have HG2 := Lib.hid hg5; clear hown hg5)
        refine ⟨⟨k + 1, by go_num, by omega, ?_, ?_⟩, by simp [intOf]; omega⟩
        · rw [HMk.out, List.map_append, List.length_append]
          exact HO2.out
        · exact HB.out.trans ((((Below.refl (g + 1) wr).alloc HCl.out _).grown HG2.out (by simp; omega) (fun j hj => (HO.out.lt j hj).1)))
      | false =>
        rw [hf] at c0 HMk
        clear hf
        rw [if_neg (by decide)] at HMk
        go_wp2_with fail
        refine ⟨⟨k + 1, by go_num, by omega, by rw [HMk.out]; exact HO.out, HB.out⟩, by simp [intOf]; omega⟩
    · obtain rfl : k = 40 := by omega
      have HF := Lib.hid (ownsRow_base_a HO.out (Nat.le_succ_of_le hwg))
      have HFB := Lib.hid (HBW.out.trans (HB.out.mono (Nat.le_succ_of_le hwg)))
      clear HO HB HAt HK HM HL
      go_wp2_with fail
      go_ret
      exact ⟨_, rfl, HF.out, HFB.out⟩
end Go.Proofs.Ytofenjloieagaaa
namespace Go.Proofs.Ytofenjloieagaaa
open Go.RowKit
set_option linter.unusedSimpArgs false
set_option linter.unusedVariables false
set_option maxRecDepth 100000

/-- A column's bit once the first k keys are done. -/
def ccB (f : Int → Bool) (h : Int) (k j : Nat) : Bool := colB f h (k / 5) j || (decide (j < k % 5) && (askB h (k / 5) && f (5 * (k / 5 : Nat) + j)))
theorem byteV_congr {c d : Nat → Bool} (e : Bool) (h : ∀ j, j < 5 → c j = d j) : byteV c e = byteV d e := by
  unfold byteV
  rw [h 0 (by omega), h 1 (by omega), h 2 (by omega), h 3 (by omega), h 4 (by omega)]
theorem byte5_clear : ∀ c0 c1 c2 c3 c4 e : Bool, bits .andNot .u8 (byte5 c0 c1 c2 c3 c4 e) 1 = byte5 true c1 c2 c3 c4 e ∧ bits .andNot .u8 (byte5 c0 c1 c2 c3 c4 e) 2 = byte5 c0 true c2 c3 c4 e ∧ bits .andNot .u8 (byte5 c0 c1 c2 c3 c4 e) 4 = byte5 c0 c1 true c3 c4 e ∧ bits .andNot .u8 (byte5 c0 c1 c2 c3 c4 e) 8 = byte5 c0 c1 c2 true c4 e ∧ bits .andNot .u8 (byte5 c0 c1 c2 c3 c4 e) 16 = byte5 c0 c1 c2 c3 true e := by decide +kernel
theorem byteV_clear (c : Nat → Bool) (e : Bool) (m : Nat) (hm : m < 5) : bits .andNot .u8 (byteV c e) (2 ^ m % 256) = byteV (fun j => c j || decide (j = m)) e := by
  have h := byte5_clear (c 0) (c 1) (c 2) (c 3) (c 4) e
  have h5 : m = 0 ∨ m = 1 ∨ m = 2 ∨ m = 3 ∨ m = 4 := by omega
  unfold byteV
  rcases h5 with rfl | rfl | rfl | rfl | rfl
  · simpa using h.1
  · simpa using h.2.1
  · simpa using h.2.2.1
  · simpa using h.2.2.2.1
  · simpa using h.2.2.2.2
theorem ccB_next (f : Int → Bool) (h : Int) (r m j : Nat) (hm : m < 5) (hj : j < 5) : ccB f h (5 * r + m + 1) j = (ccB f h (5 * r + m) j || (decide (j = m) && (askB h r && f (5 * r + m : Nat)))) := by
  have e1 : (5 * r + m) / 5 = r := by omega
  have e2 : (5 * r + m) % 5 = m := by omega
  unfold ccB
  rw [e1, e2]
  have key : f (5 * (r : Nat) + j) = f (5 * (r : Nat) + (j : Nat)) := rfl
  by_cases h4 : m < 4
  · rw [show (5 * r + m + 1) / 5 = r by omega, show (5 * r + m + 1) % 5 = m + 1 by omega]
    by_cases e : j = m
    · subst e
      simp
    · have e3 : decide (j < m + 1) = decide (j < m) := by by_cases q : j < m <;> simp <;> omega
      simp [e, e3]
  · obtain rfl : m = 4 := by omega
    rw [show (5 * r + 4 + 1) / 5 = r + 1 by omega, show (5 * r + 4 + 1) % 5 = 0 by omega]
    simp only [colB]
    by_cases e : j = 4
    · subst e
      simp
    · have e3 : j < 4 := by omega
      simp [e, e3]
def valB (f : Int → Bool) (h : Int) (e : Bool) (k : Nat) : Int := byteV (ccB f h k) e
theorem valB_zero (f : Int → Bool) (h : Int) (e : Bool) : valB f h e 0 = if e then 255 else 191 := by
  have : valB f h e 0 = byteV (fun _ => false) e := byteV_congr e (fun j _ => by simp [ccB, colB])
  rw [this]
  cases e <;> rfl
theorem valB_next (f : Int → Bool) (h : Int) (e : Bool) (r m : Nat) (hm : m < 5) : valB f h e (5 * r + m + 1) = if (f (5 * r + m : Nat) && askB h r) = true then bits .andNot .u8 (valB f h e (5 * r + m)) (2 ^ m % 256) else valB f h e (5 * r + m) := by
  unfold valB
  split
  · rename_i hq
    rw [byteV_clear _ _ _ hm]
    refine byteV_congr e fun j hj => ?_
    rw [ccB_next f h r m j hm hj]
    have hq2 : (askB h r && f (5 * r + m : Nat)) = true := by rw [Bool.and_comm]; exact hq
    rw [hq2, Bool.and_true]
  · rename_i hq
    refine byteV_congr e fun j hj => ?_
    rw [ccB_next f h r m j hm hj]
    have hq2 : (askB h r && f (5 * r + m : Nat)) = false := by rw [Bool.and_comm]; simpa using hq
    rw [hq2, Bool.and_false, Bool.or_false]
theorem valB_all (f : Int → Bool) (h : Int) (e : Bool) : valB f h e 40 = byteV (colB f h 8) e := byteV_congr e fun j hj => by
  unfold ccB
  simp
end Go.Proofs.Ytofenjloieagaaa
namespace Go.Proofs.Ytofenjloieagaaa
open Go.RowKit
set_option linter.unusedSimpArgs false
set_option linter.unusedVariables false
set_option maxRecDepth 100000

set_option maxHeartbeats 4000000 in
theorem rbyte_any (w : World) (A : Option Addr) (c : Nat) (l : List Tc) (t h : Int) (hl : TsAt w w.heap.size A l) (hc : l.length ≤ maxLen) (hh : 0 ≤ h ∧ h < 256) :
    Calls Try.prog 21 #[.slice A l.length c, .int .i64 t, .int .u8 h] w fun e w' => e = .returned (.int .u8 (byteAt17 l t h)) ∧ Below w.heap.size w w' := by
  have HS := Lib.hid (rstate_any w A c l t hl hc)
  have hk := fun (i : Nat) (hi : i < 40) => stS_key (fine_until (l := l) t) i hi
  have he := stS_ear (fine_until (l := l) t)
  have hlen := stS_len (l.take (untilN l t))
  have hd : byteAt17 l t h = valB (downB (l.take (untilN l t))) h (earAt l t) 40 := (valB_all _ _ _).symm
  rw [hd]
  clear hd hl hc
  change _ = earAt l t at he
  generalize stS (l.take (untilN l t)) = S at *
  generalize downB (l.take (untilN l t)) = f at *
  generalize earAt l t = er at *
  have HK := Lib.hid hk
  have HE := Lib.hid he
  have HZ := Lib.hid (valB_zero f h er)
  have HN := Lib.hid (valB_next f h er)
  have hin := ab_info S hlen
  have hon := ab_one S
  have hsz : (S.map Value.bool).toArray.size = 41 := by simp [hlen]
  have HAt := Lib.hid (fun (w1 : World) (g k : Nat) (h : AB w1 g S) (hk : k < 41) => h.at_ (k := k) (by omega))
  clear hk hlen he
  unfold AB at HAt
  generalize (S.map Value.bool).toArray = cs at *
  generalize valB f h er = V at *
  obtain ⟨hh0, hh1⟩ := hh
  go_enter Try.func21, Try.ntmps21
  go_wp2_with fail
  refine HS.out.mono ?_
  rintro e w1 ⟨rfl, hb⟩
  have HB := Lib.hid hb
  have hw0 : w.heap.size ≤ w1.heap.size := HB.out.size
  have h0 := heap_alloc_new w1 (.cells (zS.map Value.bool).toArray 72)
  clear hb HS
  have h2 := setRow_heap (w1.alloc (.cells (zS.map Value.bool).toArray 72)) w1.heap.size _ cs _ _ h0
  have HBW : Hid (Below w.heap.size w ((w1.alloc (.cells (zS.map Value.bool).toArray 72)).setRow w1.heap.size cs)) := Lib.hid (by
    have hx : Below w1.heap.size w1 ((w1.alloc (.cells (zS.map Value.bool).toArray 72)).setRow w1.heap.size cs) := below_row ((Below.refl _ _).alloc (Nat.le_refl _) _) cs
    exact HB.out.trans (hx.mono HB.out.size))
  go_upto_region 3 with (refine wpList_store_row rfl 72 _ _ rfl w1.heap.size cs rfl rfl _ _ h0 hin (by rw [hsz]; rfl) hon ?_)
  obtain ⟨W1, hW1⟩ : ∃ W1, (w1.alloc (.cells (zS.map Value.bool).toArray 72)).setRow w1.heap.size cs = W1 := ⟨_, rfl⟩
  rw [hW1] at h2 HBW
  change Code.wp _ _ _ _ ((w1.alloc (.cells (zS.map Value.bool).toArray 72)).setRow w1.heap.size cs)
  rw [hW1]
  have H2 := Lib.hid h2
  obtain ⟨c40, -⟩ := HAt.out W1 w1.heap.size 40 h2 (by omega)
  rw [HE.out] at c40
  clear hW1 h2 h0 HB hin hon hsz
  have HHk := Lib.hid (fun (wr : World) (hb : Below (w1.heap.size + 1) W1 wr) (k : Nat) (hk : k < 40) => by have := (HAt.out wr w1.heap.size k ((hb.block _ (by omega)).trans H2.out) (by omega)).1; rw [HK.out k hk] at this; exact this)
  have hwg : w.heap.size ≤ w1.heap.size + 1 := Nat.le_succ_of_le hw0
  clear HAt HK H2
  cases er
  all_goals
    have HV0 := Lib.hid HZ.out
    clear HZ HE
    go_wp2_with fail
    go_loopw [8, 9] (fun v s wr => ∃ k : Nat, s = .int .i64 k ∧ k ≤ 40 ∧ v = .int .u8 (V k) ∧ Below (w1.heap.size + 1) W1 wr) (fun _ s _ => 40 - (intOf s).toNat)
    case atStart => exact ⟨0, rfl, by omega, by rw [HV0.out]; rfl, Below.refl _ _⟩
    case round =>
      rename World => wr
      obtain ⟨k, rfl, hk, rfl, hb⟩ := hrel
      have HB := Lib.hid hb
      clear hb HV0
      by_cases hlt : k < 40
      · have hN := HN.out (k / 5) (k % 5) (by omega)
        rw [show 5 * (k / 5) + k % 5 = k by omega] at hN
        have c0 := HHk.out wr HB.out k hlt
        have hp : 0 ≤ h / 2 ^ (k / 5) := Int.ediv_nonneg hh0 (Int.le_of_lt (Int.pow_pos (by decide)))
        have ha : ((h / 2 ^ (k / 5)).tmod 2 == 0) = askB h (k / 5) := by
          rw [Int.tmod_eq_emod_of_nonneg hp]
          unfold askB
          rw [Bool.eq_iff_iff]
          simp
        have HN1 := Lib.hid hN
        clear hN HHk HN hp
        generalize askB h (k / 5) = q at *
        cases hf : f (k : Int) with
        | false =>
          rw [hf] at c0 HN1
          clear hf
          go_wp2_with fail
          exact ⟨⟨k + 1, by go_num, by omega, by rw [HN1.out]; rfl, HB.out⟩, by simp [intOf]; omega⟩
        | true =>
          rw [hf] at c0 HN1
          clear hf
          cases q with
          | true =>
            go_wp2_with fail
            exact ⟨⟨k + 1, by go_num, by omega, by rw [HN1.out]; rfl, HB.out⟩, by simp [intOf]; omega⟩
          | false =>
            go_wp2_with fail
            exact ⟨⟨k + 1, by go_num, by omega, by rw [HN1.out]; rfl, HB.out⟩, by simp [intOf]; omega⟩
      · obtain rfl : k = 40 := by omega
        have HF := Lib.hid (HBW.out.trans (HB.out.mono hwg))
        clear HB HHk HN HBW
        go_wp2_with fail
        go_ret
        exact ⟨rfl, HF.out⟩
end Go.Proofs.Ytofenjloieagaaa
