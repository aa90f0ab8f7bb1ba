
/- Registers: what is told as bytes is read again: the walk of RegsBack. -/
import Derived.Test.YtaabpeibaaakhaaYT
import Derived.Test.YtaabpeibaaakhaaYM
namespace Go.Proofs.Ytaabpeibaaakhaa
open Go.RowKit
set_option linter.unusedSimpArgs false
set_option linter.unusedVariables false
set_option maxRecDepth 100000

theorem OB.set8 {w : World} {B c g : Nat} {l : List Int} (h : OB w B (some ⟨g, 0, none⟩) c l) (j : Nat) (x : Int) (h0 : 0 ≤ x) (h1 : x < 256) :
    OB (w.setCell ⟨g, j, none⟩ (.int .u8 x)) B (some ⟨g, 0, none⟩) c (l.set j x) ∧ w.grownBy (w.setCell ⟨g, j, none⟩ (.int .u8 x)) (some g) := by
  have h2 := h.own.stored j (.int .u8 x)
  refine ⟨⟨?_, ?_⟩, h2.2⟩
  · have := h2.1
    rw [List.length_set, List.map_set]
    exact this
  · intro n hn
    rcases List.mem_or_eq_of_mem_set hn with h1' | rfl
    · exact h.bytes n h1'
    · exact ⟨h0, h1⟩
theorem OB.pos8 {w : World} {B c : Nat} {A : Option Addr} {l : List Int} (h : OB w B A c l) (hl : 0 < l.length) : ∃ g, A = some ⟨g, 0, none⟩ ∧ B ≤ g ∧ g < w.heap.size := by
  have hlt := h.own.lt
  rcases h.own.2 with ⟨_, h2⟩ | ⟨g, cap, cur, h1, hb, _⟩
  · omega
  · injection h1 with h3 h4 h5
    exact ⟨g, h3, hb, (hlt g (by rw [h3]; rfl)).2⟩
theorem wpList_load_want {P : Program} {ops : Array Oper} {rest : List Oper} {o : Oper} {a : Act} {w : World} {Q : Exit → Act → World → Prop} (hw : Region.wanted o (yielded ops a.tmps) = true) (ty : TypeId) (x : Operand) (ho : o.op = .load ty x) (g : Nat) (hx : a.eval x = .pointer (some ⟨g, 0, none⟩))
    (t : TypeId) (cs : Array Value) (fr : Nat × Nat) (d : TypeDesc) (hg : w.heap[g]? = some (.cells cs t fr)) (hu : P.underlying ty = some d) (hd : (match d with | .struct _ | .array _ _ => true | _ => false) = true) (hi : (P.info? ty).map (·.size) = some cs.size)
    (h : wpList P ops Q rest (a.put o.dst (.agg cs)) w) : wpList P ops Q (o :: rest) a w :=
  BigFrame.wpList_want hw fun K hK => Oper.wp_of_does (does_load_row ty x ho g hx t cs fr d hg hu hd hi (hK _ _ h))
theorem OB.row8 {w : World} {B b : Nat} {A : Option Addr} {c : Nat} {l : List Int} (h : OB w B A c l) (cs : Array Value) (hb : b < B) : OB (w.setRow b cs) B A c l := by
  refine ⟨⟨h.own.1, ?_⟩, h.bytes⟩
  rcases h.own.2 with h1 | ⟨g, cap, cur, h1, hg, hr, hx⟩
  · exact .inl h1
  · exact .inr ⟨g, cap, cur, h1, hg, (setRow_other w b g cs (by omega)).trans hr, hx⟩
def rdR (l : List Int) : Rg := if l.length = 32 then readR l else zeroR
def rdE (l : List Int) : Int := if l.length = 32 then readE l else 4
theorem c8_read_any (A : Option Addr) (c n : Nat) (l : List Int) (w : World) (hn : n = l.length) (h : RB w w.heap.size A c l) : Calls Try.prog 10 #[.slice A n c] w fun e w' => e = .returned (.tuple #[(rdR l).val, .int .i64 (rdE l)]) ∧ Below w.heap.size w w' := by
  subst hn
  unfold rdR rdE
  by_cases hl : l.length = 32
  · rw [if_pos hl, if_pos hl]
    have := c8_read A c l w h hl
    rw [← hl] at this
    exact this
  · rw [if_neg hl, if_neg hl]
    exact c8_read_len A l.length c hl w
theorem rd_good {l : List Int} (h : AllB l) (h0 : rdE l = 0) : (rdR l).Ok ∧ (rdR l).May ∧ bytesR (rdR l) = l := by
  unfold rdE at h0
  unfold rdR
  by_cases hl : l.length = 32
  · rw [if_pos hl] at h0 ⊢
    unfold readE at h0
    unfold readR
    by_cases hq : readOk l
    · rw [if_pos hq]
      exact ⟨tR_ok h, hq.1, hq.2⟩
    · rw [if_neg hq] at h0; omega
  · rw [if_neg hl] at h0; omega
theorem rd_two (l : List Int) : rdE l = 0 ∨ rdE l = 4 := by
  unfold rdE readE
  by_cases hl : l.length = 32
  · rw [if_pos hl]
    by_cases hq : readOk l
    · exact .inl (if_pos hq)
    · exact .inr (if_neg hq)
  · exact .inr (if_neg hl)
theorem rd_bytes {r : Rg} (hm : r.May) : rdR (bytesR r) = r ∧ rdE (bytesR r) = 0 := by
  unfold rdR rdE readR readE
  rw [if_pos (bytesR_len r), if_pos (bytesR_len r), if_pos (readOk_bytes hm), if_pos (readOk_bytes hm)]
  exact ⟨tR_bytes r, rfl⟩
theorem rd_burst {r : Rg} (h : r.Ok) (hm : r.May) (k ch : Nat) (hch : ch < 65536) (h0 : ch ≠ 0) (hk : k + 16 ≤ 256) : rdE (flips (bytesR r) k ch 16) = 4 := by
  unfold rdE readE
  rw [if_pos (by rw [flips_length, bytesR_len]), if_neg (burst_refused h hm k ch hch h0 hk)]

set_option maxHeartbeats 8000000 in
theorem back_long (w : World) (r : Rg) (a ch : Int) (A : Option Addr) (c n : Nat) (h1 : 100 < n) : Calls Try.prog 5 #[r.val, .int .i64 a, .int .u16 ch, .slice A n c] w fun e w' => e = .returned (.bool true) ∧ Below w.heap.size w w' := by
  have hB0 : Below w.heap.size w (w.alloc (rgO r)) := (Below.refl _ _).alloc (Nat.le_refl _) _
  have hval : r.val = .agg #[.int .u8 r.A, .int .u8 r.F, .int .u8 r.B, .int .u8 r.C, .int .u8 r.D, .int .u8 r.E, .int .u8 r.H, .int .u8 r.L, .int .u8 r.I, .int .u8 r.R, .int .u16 r.IX, .int .u16 r.IY, .int .u16 r.SP, .int .u16 r.PC, .int .u16 r.WZ, .int .u16 r.AF2, .int .u16 r.BC2, .int .u16 r.DE2, .int .u16 r.HL2, .bool r.IFF1, .bool r.IFF2, .int .i64 r.IM, .bool r.Halt, .bool r.Late] := rfl
  rw [hval]
  clear hval
  go_enter Try.func5, Try.ntmps5
  go_wp2_with fail
  refine (lives8_any _).mono ?_
  rintro e w1 ⟨rfl, hb⟩
  go_wp2_with fail
  go_ret
  exact ⟨rfl, hB0.trans (hb.mono hB0.size)⟩

set_option maxHeartbeats 16000000 in
theorem walk_RegsBack (w : World) (r : Rg) (hr : r.Ok) (a : Int) (wa : (Lit.int .i64 a).wf = true) (ch : Int) (wch : (Lit.int .u16 ch).wf = true) (A : Option Addr) (c n : Nat) (l : List Int) (hn : n = l.length) (h : RB w w.heap.size A c l) :
    Calls Try.prog 5 #[r.val, .int .i64 a, .int .u16 ch, .slice A n c] w fun e w' => e = .returned (.bool true) ∧ Below w.heap.size w w' := by
  subst hn
  by_cases h100 : 100 < l.length
  · exact back_long w r a ch A c _ h100
  have hch := bounds_u16 wch
  have HP := Lib.hid (fun w => pick_240 a w wa)
  have HR0 := Lib.hid (show RowW (w.alloc (rgO r)) w.heap.size r.cells from RgW.laid w r)
  have hB0 : Below w.heap.size w (w.alloc (rgO r)) := (Below.refl _ _).alloc (Nat.le_refl _) _
  have hby := h.bytes
  have hval : r.val = .agg #[.int .u8 r.A, .int .u8 r.F, .int .u8 r.B, .int .u8 r.C, .int .u8 r.D, .int .u8 r.E, .int .u8 r.H, .int .u8 r.L, .int .u8 r.I, .int .u8 r.R, .int .u16 r.IX, .int .u16 r.IY, .int .u16 r.SP, .int .u16 r.PC, .int .u16 r.WZ, .int .u16 r.AF2, .int .u16 r.BC2, .int .u16 r.DE2, .int .u16 r.HL2, .bool r.IFF1, .bool r.IFF2, .int .i64 r.IM, .bool r.Halt, .bool r.Late] := rfl
  rw [hval]
  clear hval wa wch
  obtain ⟨w0, hw0⟩ : ∃ w0, w.alloc (rgO r) = w0 := ⟨_, rfl⟩
  rw [hw0] at HR0 hB0
  unfold rgO at hw0
  go_enter Try.func5, Try.ntmps5
  go_wp2_with fail
  generalize (.agg #[.int .u8 r.A, .int .u8 r.F, .int .u8 r.B, .int .u8 r.C, .int .u8 r.D, .int .u8 r.E, .int .u8 r.H, .int .u8 r.L, .int .u8 r.I, .int .u8 r.R, .int .u16 r.IX, .int .u16 r.IY, .int .u16 r.SP, .int .u16 r.PC, .int .u16 r.WZ, .int .u16 r.AF2, .int .u16 r.BC2, .int .u16 r.DE2, .int .u16 r.HL2, .bool r.IFF1, .bool r.IFF2, .int .i64 r.IM, .bool r.Halt, .bool r.Late] : Value) = V0
  refine (lives8_any _).mono ?_
  rintro e w1 ⟨rfl, hb⟩
  have HR1 := Lib.hid (HR0.out.below hb HR0.out.lt)
  have hB1 := hB0.trans (hb.mono hB0.size)
  clear hb hB0 HR0 hw0
  have h1 := (h.below hB1).more hB1.size
  go_wp2_with fail
  refine (own_any A c _ l w1 _ rfl h1 (Nat.le_refl _) (by omega)).mono ?_
  rintro e w2 ⟨A2, c2, rfl, ho2, hb⟩
  have hR2 := HR1.out.below hb HR1.out.lt
  have hB2 := hB1.trans (hb.mono hB1.size)
  have hr2 := ho2.rb
  clear hb hB1 HR1 h1 ho2
  go_wp2_with fail
  refine (c8_read_any A2 c2 _ l w2 rfl hr2).mono ?_
  rintro e w3 ⟨rfl, hb⟩
  have hR3 := hR2.below hb hR2.lt
  have hB3 := hB2.trans (hb.mono hB2.size)
  clear hb hR2 hB2 hr2
  have E2 := Lib.hid (rd_two l)
  have EG := Lib.hid (fun h0 => rd_good hby h0)
  obtain ⟨s, hs⟩ : ∃ s, rdR l = s := ⟨_, rfl⟩
  obtain ⟨E, hE⟩ : ∃ E, rdE l = E := ⟨_, rfl⟩
  simp only [hs, hE] at EG
  rw [hE] at E2
  rw [hs, hE]
  clear hs hE
  rw [show s.val = .agg s.cells from rfl]
  obtain ⟨b2, hb2⟩ : ∃ b2, w3.heap.size = b2 := ⟨_, rfl⟩
  obtain ⟨wd, hwd⟩ : ∃ wd, w3.alloc (rgO zeroR) = wd := ⟨_, rfl⟩
  have hZ : RowW wd b2 zeroR.cells := by rw [← hwd, ← hb2]; exact RgW.laid w3 zeroR
  have hbd : Below w3.heap.size w3 wd := hwd ▸ (Below.refl _ _).alloc (Nat.le_refl _) _
  have hne : w.heap.size ≠ b2 := by have := hR3.lt; omega
  have hle : w.heap.size ≤ b2 := hb2 ▸ hB3.size
  have hRd := hR3.below hbd hR3.lt
  have hBd := hB3.trans (hbd.mono hB3.size)
  have HS4 := Lib.hid (show RowW (wd.setRow b2 s.cells) b2 s.cells from setRow_heap wd b2 _ s.cells _ _ hZ)
  have HR4 := Lib.hid (show RowW (wd.setRow b2 s.cells) w.heap.size r.cells from (setRow_other wd b2 w.heap.size s.cells hne).trans hRd)
  have HB4 := Lib.hid (below_setRow hBd hle s.cells)
  unfold rgO zeroR at hwd
  clear hRd hBd hbd hR3 hB3
  go_upto_if 29 with (refine wpList_store_row rfl 28 _ _ rfl b2 s.cells rfl rfl _ _ hZ rg_info rfl (rg_one _) ?_)
  clear hZ hwd hb2
  generalize wd.setRow b2 s.cells = w4 at *
  go_cut [] (fun wc => RowW wc w.heap.size r.cells ∧ RowW wc b2 s.cells ∧ Below w.heap.size w wc)
  case first =>
    have h4 := (h.below HB4.out).more HB4.out.size
    rcases E2.out with hE | hE
    · obtain ⟨sok, smay, sby⟩ := EG.out hE
      have SB := Lib.hid sby
      have hg : (E == 0) = true := by rw [hE]; rfl
      clear hE sby
      go_wp2_with (refine wpList_load_row rfl 28 _ rfl b2 rfl _ _ (0, 0) _ HS4.out Try.underlying28 rfl rg_info ?_)
      refine (c8_bytes_may s sok smay _).mono ?_
      rintro e w5 ⟨⟨A5, c5, rfl, ho5⟩, hb⟩
      have hR5 := HR4.out.below hb HR4.out.lt
      have hS5 := HS4.out.below hb HS4.out.lt
      have hB5 := HB4.out.trans (hb.mono HB4.out.size)
      rw [SB.out] at ho5
      have hl32 : l.length = 32 := by rw [← SB.out]; exact bytesR_len s
      have h5 := h4.below hb
      have s1 := run_string_rb w5 _ A5 c5 l ho5.rb
      have s2 := run_string_rb w5 _ A c l h5
      rw [hl32] at s1
      generalize strOfNums l = SS at s1 s2
      clear hb ho5 h5 h4 hl32
      go_wp2_with fail
      go_meet
      exact ⟨hR5, hS5, hB5⟩
    · have hg : (E == 0) = false := by rw [hE]; rfl
      clear hE h4
      go_wp2_with fail
      go_meet
      exact ⟨HR4.out, HS4.out, HB4.out⟩
  case rest =>
    obtain ⟨hR6, hS6, hB6⟩ := hcut
    clear HS4 HR4 HB4 E2 EG
    have HR6 := Lib.hid hR6
    have HS6 := Lib.hid hS6
    clear hR6 hS6
    go_wp2_with (refine wpList_load_row rfl 28 _ rfl w.heap.size rfl _ _ (0, 0) _ HR6.out Try.underlying28 rfl rg_info ?_)
    by_cases hm : r.May
    · refine (c8_bytes_may r hr hm _).mono ?_
      rintro e w7 ⟨⟨A7, c7, rfl, ho7⟩, hb⟩
      have hR7 := HR6.out.below hb HR6.out.lt
      have hS7 : RowW w7 b2 s.cells := RowW.below HS6.out hb (RowW.lt HS6.out)
      have hB7 := hB6.trans (hb.mono hB6.size)
      have hb2 : b2 < wc.heap.size := RowW.lt HS6.out
      clear HR6 HS6 hB6
      have hG7 := hb.size
      clear hb
      obtain ⟨g, rfl, hg0, hg1⟩ := ho7.pos8 (by rw [bytesR_len]; omega)
      go_wp2_with fail
      refine (own_any _ c7 32 (bytesR r) w7 _ (bytesR_len r).symm ho7.rb (Nat.le_refl _) (by rw [bytesR_len]; omega)).mono ?_
      rintro e w8 ⟨A8, c8, rfl, ho8, hb⟩
      have hR8 := hR7.below hb hR7.lt
      have hS8 := hS7.below hb hS7.lt
      have hB8 := hB7.trans (hb.mono hB7.size)
      have ho78 := ho7.below hb (Nat.le_refl _)
      have hG8 := Nat.le_trans hG7 hb.size
      have hr8 := ho8.rb
      rw [bytesR_len]
      clear hb ho8 hR7 hS7 hB7 ho7 hG7
      go_wp2_with fail
      refine (c8_read_any A8 c8 32 (bytesR r) w8 (bytesR_len r).symm hr8).mono ?_
      rintro e w9 ⟨rfl, hb⟩
      have hR9 := hR8.below hb hR8.lt
      have hS9 := hS8.below hb hS8.lt
      have hB9 := hB8.trans (hb.mono hB8.size)
      have ho9 := ho78.below hb (Nat.le_refl _)
      have hG9 := Nat.le_trans hG8 hb.size
      clear hb hR8 hS8 hB8 ho78 hG8 hr8
      rw [(rd_bytes hm).1, (rd_bytes hm).2]
      rw [show r.val = .agg r.cells from rfl]
      have HSa := Lib.hid (show RowW (w9.setRow b2 r.cells) b2 r.cells from setRow_heap w9 b2 _ r.cells _ _ hS9)
      have HRa := Lib.hid (show RowW (w9.setRow b2 r.cells) w.heap.size r.cells from (setRow_other w9 b2 w.heap.size r.cells hne).trans hR9)
      have HBa := Lib.hid (below_setRow hB9 hle r.cells)
      have HOa := Lib.hid (ho9.row8 (b := b2) r.cells hb2)
      have hGa : wc.heap.size ≤ (w9.setRow b2 r.cells).heap.size := Nat.le_trans hG9 (below_setRow (Below.refl b2 w9) (Nat.le_refl b2) r.cells).size
      have hq : ∀ w', (binOp .neq 28 (.agg r.cells) (.agg r.cells)).run Try.prog w' = .ok (.bool false) w' := fun w' => rg_neq r w'
      have hq2 : ∀ w', (binOp .eql 28 (.agg r.cells) (.agg r.cells)).run Try.prog w' = .ok (.bool true) w' := fun w' => rg_eql r w'
      clear hR9 hB9 ho9 hG9
      by_cases h0 : ch = 0
      · subst h0
        go_wp2_with (first | (refine wpList_store_row rfl 28 _ _ rfl b2 r.cells rfl rfl _ _ hS9 rg_info rfl (rg_one _) ?_) | (refine wpList_load_want (by kernel_rfl) 28 _ rfl b2 rfl _ _ (0, 0) _ HSa.out Try.underlying28 rfl rg_info ?_) | (refine wpList_load_want (by kernel_rfl) 28 _ rfl w.heap.size rfl _ _ (0, 0) _ HRa.out Try.underlying28 rfl rg_info ?_))
        go_ret
        exact ⟨rfl, HBa.out⟩
      · have hg9 : (ch == 0) = false := by rw [beq_eq_false_iff_ne]; exact h0
        obtain ⟨d, rfl⟩ : ∃ d : Nat, ch = d := ⟨ch.toNat, by omega⟩
        have hd : d < 65536 := by omega
        have hd0 : d ≠ 0 := by omega
        go_wp2_with (first | (refine wpList_store_row rfl 28 _ _ rfl b2 r.cells rfl rfl _ _ hS9 rg_info rfl (rg_one _) ?_) | (refine wpList_load_want (by kernel_rfl) 28 _ rfl b2 rfl _ _ (0, 0) _ HSa.out Try.underlying28 rfl rg_info ?_) | (refine wpList_load_want (by kernel_rfl) 28 _ rfl w.heap.size rfl _ _ (0, 0) _ HRa.out Try.underlying28 rfl rg_info ?_))
        refine (HP.out _).mono ?_
        rintro e w10 ⟨rfl, rfl⟩
        obtain ⟨k, hk⟩ : ∃ k : Nat, a % 240 = k := ⟨(a % 240).toNat, by omega⟩
        have hk240 : k < 240 := by omega
        rw [hk]
        clear hk HP hq hq2
        have hall := bytesR_all hr hm
        have HQ := Lib.hid (rd_burst hr hm k d hd hd0 (by omega))
        have hlen := bytesR_len r
        obtain ⟨l8, hl8⟩ : ∃ l, bytesR r = l := ⟨_, rfl⟩
        rw [hl8] at hall HQ hlen HOa
        clear hl8 HSa HRa hS9
        have hOx := HOa.out
        have hBx := HBa.out
        clear HOa HBa
        generalize w9.setRow b2 r.cells = wx at *
        go_wp2_with fail
        go_loopw [16] (fun i wr => ∃ j : Nat, j ≤ 16 ∧ i = .int .i64 j ∧ OB wr wc.heap.size (some ⟨g, 0, none⟩) c7 (flips l8 k d j) ∧ Below w.heap.size w wr ∧ wc.heap.size ≤ wr.heap.size) (fun i _ => 16 - (intOf i).toNat)
        case atStart => exact ⟨0, by omega, rfl, hOx, hBx, hGa⟩
        case round =>
          obtain ⟨j, hj, rfl, ho, hbl, hGr⟩ := hrel
          clear hOx hBx hGa
          by_cases hj16 : j < 16
          · have hfl := flips_length l8 k d j
            rw [hlen] at hfl
            have hxa := (flips_all l8 k d j hall).getD ((k + j) / 8)
            have hstep : flips l8 k d (j + 1) = if d / 2 ^ j % 2 = 1 then flip1 (flips l8 k d j) (k + j) else flips l8 k d j := rfl
            generalize flips l8 k d j = m at *
            have hql : (k + j) / 8 < m.length := by omega
            have hcell := ho.own.cellAt ((k + j) / 8) (by omega)
            have hfro := ho.own.frozenAt ((k + j) / 8)
            rw [List.getElem?_map, List.getElem?_eq_getElem hql] at hcell
            simp only [Option.map_some] at hcell
            rw [← getD_lt hql] at hcell
            generalize hx : m.getD ((k + j) / 8) 0 = x at *
            have HX := Lib.hid hx
            clear hx
            have hdj : ∀ z : Nat, z = d / 2 ^ j % 2 → ((((d : Int) / 2 ^ j).tmod 2) == 1) = ((z : Int) == 1) := fun z hz => by
              have e : ((d : Int) / 2 ^ j) = ((d / 2 ^ j : Nat) : Int) := by push_cast; rfl
              rw [e, Int.tmod_eq_emod_of_nonneg (Int.natCast_nonneg _), hz]; norm_cast
            by_cases hbit : d / 2 ^ j % 2 = 1
            · have hb1 : ((((d : Int) / 2 ^ j).tmod 2) == 1) = true := hdj 1 hbit.symm
              rw [if_pos hbit] at hstep
              have HS := Lib.hid hstep
              clear hstep hdj
              go_wp2_with fail
              have hm2 := bits_xor_u8 x (msk ((k + j) % 8)) hxa.1 hxa.2 (msk_lt _)
              have hmi : ((msk ((k + j) % 8) : Nat) : Int) = 128 / 2 ^ ((k + j) % 8) := by unfold msk; push_cast; rfl
              have hlt : x.toNat ^^^ msk ((k + j) % 8) < 256 := Nat.xor_lt_two_pow (n := 8) (by omega) (msk_lt _)
              have hst := ho.set8 ((k + j) / 8) (bits .xor .u8 x (msk ((k + j) % 8) : Nat)) (by omega) (by omega)
              rw [hmi] at hst
              go_roundw
              case rel =>
                refine ⟨j + 1, by omega, by go_num, ?_, hbl.grown hst.2 hbl.size (by rintro i ⟨⟩; omega), Nat.le_trans hGr (by simp)⟩
                rw [HS.out]
                unfold flip1
                rw [HX.out, hmi]
                exact hst.1
              case measure => simp [intOf]; omega
            · have hb1 : ((((d : Int) / 2 ^ j).tmod 2) == 1) = false := hdj 0 (by have := Nat.mod_lt (d / 2 ^ j) (show 2 > 0 by decide); omega)
              rw [if_neg hbit] at hstep
              have HS := Lib.hid hstep
              clear hstep hdj
              go_wp2_with fail
              go_roundw
              case rel => exact ⟨j + 1, by omega, by go_num, by rw [HS.out]; exact ho, hbl, hGr⟩
              case measure => simp [intOf]; omega
          · obtain rfl : j = 16 := by omega
            have hfl := flips_length l8 k d 16
            rw [hlen] at hfl
            have HRd := Lib.hid (c8_read_any (some ⟨g, 0, none⟩) c7 32 (flips l8 k d 16) wr hfl.symm ho.rb)
            rw [HQ.out] at HRd
            clear hfl HQ
            obtain ⟨Z, hZz⟩ : ∃ Z, (rdR (flips l8 k d 16)).val = Z := ⟨_, rfl⟩
            rw [hZz] at HRd
            clear hZz ho
            go_wp2_with fail
            refine (HRd.out).mono ?_
            rintro e w11 ⟨rfl, hb⟩
            go_wp2_with fail
            go_ret
            exact ⟨rfl, hbl.trans (hb.mono hbl.size)⟩
    · refine (c8_bytes_no r hm _).mono ?_
      rintro e w7 ⟨rfl, hb⟩
      have HR7 := Lib.hid (HR6.out.below hb HR6.out.lt)
      have hB7 := hB6.trans (hb.mono hB6.size)
      clear hb HR6 HS6 hB6
      go_wp2_with (refine wpList_load_row rfl 28 _ rfl w.heap.size rfl _ _ (0, 0) _ HR7.out Try.underlying28 rfl rg_info ?_)
      refine (c8_check r _).mono ?_
      rintro e w8 ⟨he, hb⟩
      rw [if_neg hm] at he
      subst he
      have HR8 := Lib.hid (HR7.out.below hb HR7.out.lt)
      have hB8 := hB7.trans (hb.mono hB7.size)
      clear hb HR7 hB7
      go_wp2_with (refine wpList_load_want (by kernel_rfl) 28 _ rfl w.heap.size rfl _ _ (0, 0) _ HR8.out Try.underlying28 rfl rg_info ?_)
      refine (text_no r hr hm _).mono ?_
      rintro e w9 ⟨rfl, hb⟩
      have hB9 := hB8.trans (hb.mono hB8.size)
      clear hb HR8 hB8
      go_wp2_with fail
      go_ret
      exact ⟨rfl, hB9⟩

end Go.Proofs.Ytaabpeibaaakhaa
