
/- Registers, the code: what Text tells of one word. -/
import Derived.Test.YtedlfcmlchjjlaaYF
import Derived.Lib.AppendStr
namespace Go.Proofs.Ytedlfcmlchjjlaa
open Go.RowKit
set_option linter.unusedSimpArgs false
set_option linter.unusedVariables false
set_option maxRecDepth 100000

def nmB (s : ByteArray) : List Int := s.data.toList.map (fun b => (b.toNat : Int))
theorem nmB_len (s : ByteArray) : (nmB s).length = s.size := by unfold nmB; rw [List.length_map, Array.length_toList]; rfl
theorem nmB_bytes (s : ByteArray) : AllB (nmB s) := fun n hn => by
  obtain ⟨b, -, rfl⟩ := List.mem_map.1 hn
  have := b.toNat_lt
  exact ⟨by omega, by omega⟩
theorem strCells_nmB (s : ByteArray) : Go.Lib.strCells s = (nmB s).map (Value.int .u8) := by
  unfold Go.Lib.strCells nmB
  rw [List.map_map]; rfl

theorem run_append_strob (w : World) (ty : TypeId) (base : Nat) (A : Option Addr) (c : Nat) (l : List Int) (ho : OB w base A c l) (s : ByteArray) (h0 : 0 < s.size)
    (hlen : l.length + s.size ≤ 140737488355328) (hbase : base ≤ w.heap.size) :
    ∃ A' c' w', (Builtin.append_ #[25, 9] ty #[.slice A l.length c, .string s]).run Try.prog w = .ok (.slice A' (l ++ nmB s).length c') w' ∧ OB w' base A' c' (l ++ nmB s) ∧ Below base w w' := by
  obtain ⟨i, hi, hz0, hz1, hz2⟩ := info_parts infoB
  obtain ⟨v', w', hr, h1, h2, h3⟩ := Go.Lib.run_append_own_string (P := Try.prog) w base 25 9 ty 5 i Try.underlying25 Try.underlying9 hi hz0 hz1 hz2 _ _ _ ho.own s (by unfold maxLen; omega) (by omega) hbase
  have hbel : Below base w w' := (Below.refl _ _).grown h2 hbase fun k hk => (ho.own.lt k hk).1
  rw [strCells_nmB, ← List.map_append] at h1
  have hll : l.length + s.size = (l ++ nmB s).length := by rw [List.length_append, nmB_len]
  rw [hll] at h1
  have hv : ∃ A' c', v' = .slice A' (l ++ nmB s).length c' := by
    rcases h1.2 with ⟨e1, e2⟩ | ⟨g, cap, cur, e1, _⟩
    · exact ⟨none, 0, by rw [e1, e2]⟩
    · exact ⟨_, _, e1⟩
  obtain ⟨A', c', rfl⟩ := hv
  exact ⟨A', c', w', hr, ⟨h1, ho.bytes.append (nmB_bytes s)⟩, hbel⟩
theorem wpList_append_strob (w : World) {ops : Array Oper} {rest : List Oper} {o : Oper} {a : Act} {Q : Exit → Act → World → Prop} (hgd : o.guard = none) (s x : Operand)
    (hop : o.op = .call { callee := .builtin .append, args := #[s, x], argTypes := #[25, 9] })
    (base : Nat) (A : Option Addr) (n c : Nat) (l : List Int) (hs : a.eval s = .slice A n c) (hn : n = l.length) (ho : OB w base A c l) (nm : ByteArray) (hv : a.eval x = .string nm) (h0 : 0 < nm.size)
    (hlen : l.length + nm.size ≤ 140737488355328) (hbase : base ≤ w.heap.size)
    (h : ∀ A' c' w', OB w' base A' c' (l ++ nmB nm) → Below base w w' → wpList Try.prog ops Q rest (a.put o.dst (.slice A' (l ++ nmB nm).length c')) w') : wpList Try.prog ops Q (o :: rest) a w := by
  subst hn
  obtain ⟨A', c', w', hr, h1, h2⟩ := run_append_strob w o.type base A c l ho nm h0 hlen hbase
  refine wpList_plain hgd fun K hK => ?_
  unfold Oper.wp execOp
  simp only [hop, resolve, invoke, builtin, Sem.run_bind, Sem.run_pure, Result.andThen_ok, List.map_toArray, List.map_cons, List.map_nil, hs, hv, hr]
  exact hK _ _ (h A' c' w' h1 h2)
theorem does_append_ob {P : Program} {o : Oper} {a : Act} {w w' : World} {next : Value → World → Prop} (s x : Operand) {ts : Array TypeId} {vs vx v : Value}
    (hop : o.op = .call { callee := .builtin .append, args := #[s, x], argTypes := ts }) (hs : a.eval s = vs) (hx : a.eval x = vx) (hr : (Builtin.append_ ts o.type #[vs, vx]).run P w = .ok v w') (h : next v w') : Oper.does P o a w next := by
  unfold Oper.does execOp
  simp only [hop, resolve, invoke, builtin, Sem.run_bind, Sem.run_pure, Result.andThen_ok, List.map_toArray, List.map_cons, List.map_nil, hs, hx, hr]
  exact h
theorem OB.other {w : World} {B : Nat} {A : Option Addr} {c : Nat} {l : List Int} (h : OB w B A c l) (a : Addr) (v : Value) (ha : a.block < B) : OB (w.setCell a v) B A c l := by
  refine ⟨⟨h.own.1, ?_⟩, h.bytes⟩
  rcases h.own.2 with h1 | ⟨g, cap, cur, h1, hb, hg, hr⟩
  · exact .inl h1
  · exact .inr ⟨g, cap, cur, h1, hb, (heap_setCell_other w a g v (by omega)).trans hg, hr⟩

theorem and15 (x : Int) (h0 : 0 ≤ x) (h1 : x < 65536) : bits .and .u16 x 15 = x % 16 := bits_mask .u16 16 (by decide) (fun n _ h => by rw [wrap_u16]; omega) 4 (by decide) x h0 h1
def hexd (d : Int) : Int := if d < 10 then 48 + d else 87 + d
theorem hexd_byte {d : Int} (h0 : 0 ≤ d) (h1 : d < 16) : 0 ≤ hexd d ∧ hexd d < 256 := by unfold hexd; split <;> omega
abbrev digitsS : ByteArray := { data := #[48, 49, 50, 51, 52, 53, 54, 55, 56, 57, 97, 98, 99, 100, 101, 102] }
theorem hex_0 (w : World) : (Instr.index 9 (.string { data := #[48, 49, 50, 51, 52, 53, 54, 55, 56, 57, 97, 98, 99, 100, 101, 102] }) (.int .u16 0)).run Try.prog w = .ok (.int .u8 48) w := by kernel_rfl
theorem hex_1 (w : World) : (Instr.index 9 (.string { data := #[48, 49, 50, 51, 52, 53, 54, 55, 56, 57, 97, 98, 99, 100, 101, 102] }) (.int .u16 1)).run Try.prog w = .ok (.int .u8 49) w := by kernel_rfl
theorem hex_2 (w : World) : (Instr.index 9 (.string { data := #[48, 49, 50, 51, 52, 53, 54, 55, 56, 57, 97, 98, 99, 100, 101, 102] }) (.int .u16 2)).run Try.prog w = .ok (.int .u8 50) w := by kernel_rfl
theorem hex_3 (w : World) : (Instr.index 9 (.string { data := #[48, 49, 50, 51, 52, 53, 54, 55, 56, 57, 97, 98, 99, 100, 101, 102] }) (.int .u16 3)).run Try.prog w = .ok (.int .u8 51) w := by kernel_rfl
theorem hex_4 (w : World) : (Instr.index 9 (.string { data := #[48, 49, 50, 51, 52, 53, 54, 55, 56, 57, 97, 98, 99, 100, 101, 102] }) (.int .u16 4)).run Try.prog w = .ok (.int .u8 52) w := by kernel_rfl
theorem hex_5 (w : World) : (Instr.index 9 (.string { data := #[48, 49, 50, 51, 52, 53, 54, 55, 56, 57, 97, 98, 99, 100, 101, 102] }) (.int .u16 5)).run Try.prog w = .ok (.int .u8 53) w := by kernel_rfl
theorem hex_6 (w : World) : (Instr.index 9 (.string { data := #[48, 49, 50, 51, 52, 53, 54, 55, 56, 57, 97, 98, 99, 100, 101, 102] }) (.int .u16 6)).run Try.prog w = .ok (.int .u8 54) w := by kernel_rfl
theorem hex_7 (w : World) : (Instr.index 9 (.string { data := #[48, 49, 50, 51, 52, 53, 54, 55, 56, 57, 97, 98, 99, 100, 101, 102] }) (.int .u16 7)).run Try.prog w = .ok (.int .u8 55) w := by kernel_rfl
theorem hex_8 (w : World) : (Instr.index 9 (.string { data := #[48, 49, 50, 51, 52, 53, 54, 55, 56, 57, 97, 98, 99, 100, 101, 102] }) (.int .u16 8)).run Try.prog w = .ok (.int .u8 56) w := by kernel_rfl
theorem hex_9 (w : World) : (Instr.index 9 (.string { data := #[48, 49, 50, 51, 52, 53, 54, 55, 56, 57, 97, 98, 99, 100, 101, 102] }) (.int .u16 9)).run Try.prog w = .ok (.int .u8 57) w := by kernel_rfl
theorem hex_10 (w : World) : (Instr.index 9 (.string { data := #[48, 49, 50, 51, 52, 53, 54, 55, 56, 57, 97, 98, 99, 100, 101, 102] }) (.int .u16 10)).run Try.prog w = .ok (.int .u8 97) w := by kernel_rfl
theorem hex_11 (w : World) : (Instr.index 9 (.string { data := #[48, 49, 50, 51, 52, 53, 54, 55, 56, 57, 97, 98, 99, 100, 101, 102] }) (.int .u16 11)).run Try.prog w = .ok (.int .u8 98) w := by kernel_rfl
theorem hex_12 (w : World) : (Instr.index 9 (.string { data := #[48, 49, 50, 51, 52, 53, 54, 55, 56, 57, 97, 98, 99, 100, 101, 102] }) (.int .u16 12)).run Try.prog w = .ok (.int .u8 99) w := by kernel_rfl
theorem hex_13 (w : World) : (Instr.index 9 (.string { data := #[48, 49, 50, 51, 52, 53, 54, 55, 56, 57, 97, 98, 99, 100, 101, 102] }) (.int .u16 13)).run Try.prog w = .ok (.int .u8 100) w := by kernel_rfl
theorem hex_14 (w : World) : (Instr.index 9 (.string { data := #[48, 49, 50, 51, 52, 53, 54, 55, 56, 57, 97, 98, 99, 100, 101, 102] }) (.int .u16 14)).run Try.prog w = .ok (.int .u8 101) w := by kernel_rfl
theorem hex_15 (w : World) : (Instr.index 9 (.string { data := #[48, 49, 50, 51, 52, 53, 54, 55, 56, 57, 97, 98, 99, 100, 101, 102] }) (.int .u16 15)).run Try.prog w = .ok (.int .u8 102) w := by kernel_rfl
theorem hex_idx (d : Int) (h0 : 0 ≤ d) (h1 : d < 16) (w : World) : (Instr.index 9 (.string { data := #[48, 49, 50, 51, 52, 53, 54, 55, 56, 57, 97, 98, 99, 100, 101, 102] }) (.int .u16 d)).run Try.prog w = .ok (.int .u8 (hexd d)) w := by
  have : d = 0 ∨ d = 1 ∨ d = 2 ∨ d = 3 ∨ d = 4 ∨ d = 5 ∨ d = 6 ∨ d = 7 ∨ d = 8 ∨ d = 9 ∨ d = 10 ∨ d = 11 ∨ d = 12 ∨ d = 13 ∨ d = 14 ∨ d = 15 := by omega
  rcases this with rfl | rfl | rfl | rfl | rfl | rfl | rfl | rfl | rfl | rfl | rfl | rfl | rfl | rfl | rfl | rfl
  · exact hex_0 w
  · exact hex_1 w
  · exact hex_2 w
  · exact hex_3 w
  · exact hex_4 w
  · exact hex_5 w
  · exact hex_6 w
  · exact hex_7 w
  · exact hex_8 w
  · exact hex_9 w
  · exact hex_10 w
  · exact hex_11 w
  · exact hex_12 w
  · exact hex_13 w
  · exact hex_14 w
  · exact hex_15 w
def fourB (v : Int) : List Int := [hexd (v / 4096), hexd (v / 256 % 16), hexd (v / 16 % 16), hexd (v % 16)]
def tellB (l nm : List Int) (v : Int) : List Int := (if l = [] then [] else l ++ [32]) ++ nm ++ 61 :: fourB v
/-- The variable V holds the bytes l, which are the call's own from block B on. -/
def TellW (w : World) (V B : Nat) (l : List Int) : Prop := ∃ A c, w.heap[V]? = some (.cells #[.slice A l.length c] 25 (0, 0)) ∧ OB w B A c l

set_option maxHeartbeats 2000000 in
theorem tell_any (V B : Nat) (l : List Int) (nm : ByteArray) (v : Int) (w : World) (hT : TellW w V B l) (hVB : V < B) (hB : B ≤ w.heap.size) (hn : nm.size = 2) (hl : l.length ≤ 100) (hv : isW v) :
    Calls Try.prog 62 #[.string nm, .int .u16 v, .pointer (some ⟨V, 0, none⟩)] w fun e w' => e = .returned (.tuple #[]) ∧ TellW w' V B (tellB l (nmB nm) v) ∧ Save (fun k => k = V ∨ B ≤ k) w w' := by
  obtain ⟨v0, v1⟩ := hv
  have hn0 : 0 < nm.size := by omega
  obtain ⟨A, c, hV, hO⟩ := hT
  have d0 : v / 4096 < 16 := by omega
  have d1 : 0 ≤ v / 4096 := by omega
  by_cases hl0 : l = []
  · subst hl0
    have x0 : w.cell? ⟨V, 0, none⟩ = some (.slice A 0 c) := by rw [cell_of_row _ _ _ _ _ _ hV]; rfl
    have HO := Lib.hid hO
    have HV := Lib.hid hV
    clear hV hO
    go_enter Try.func62, Try.ntmps62
    go_upto_region 3 with (at_builtin; refine wpList_append_strob _ rfl _ _ rfl B _ _ _ [] rfl rfl HO.out nm rfl hn0 (by rw [hn]; simp) hB ?_; intro A2 c2 w4 hO4 hb4; rw [List.nil_append] at hO4 ⊢; obtain ⟨m, hm⟩ : ∃ m, nmB nm = m := ⟨_, rfl⟩; rw [hm] at hO4 ⊢; have hV4 := (hb4.block V hVB).trans HV.out; have hS4 : Save (fun k => k = V ∨ B ≤ k) w w4 := ⟨hb4.os, hb4.tape, hb4.output, hb4.size, fun k hk hs => hb4.block k (by omega)⟩; have hx4 : w4.cell? ⟨V, 0, none⟩ = some (.slice A 0 c) := (cell_of_row _ _ _ _ _ _ hV4).trans rfl; have hf4 := frozen_of_row w4 V 0 _ _ hV4; clear hb4)
    generalize hw5 : w4.setCell ⟨V, 0, none⟩ (.slice A2 m.length c2) = w5 at *
    have hml : m.length ≤ 103 := by rw [← hm, nmB_len, hn]; omega
    have HQ := Lib.hid (show m ++ 61 :: fourB v = tellB [] (nmB nm) v by rw [← hm]; rfl)
    clear hm
    clear x0
    have hV5 : w5.heap[V]? = some (.cells #[.slice A2 m.length c2] 25 (0, 0)) := by rw [← hw5, heap_setCell_same w4 V 0 _ _ _ hV4]; rfl
    have hO5 : OB w5 B A2 c2 m := by rw [← hw5]; exact hO4.other ⟨V, 0, none⟩ _ hVB
    have hS5 : Save (fun k => k = V ∨ B ≤ k) w w5 := by rw [← hw5]; exact save_cell hS4 V 0 _ (.inl rfl)
    have hB5 : B ≤ w5.heap.size := Nat.le_trans hB hS5.size
    clear hw5 hV4 hO4 hS4 hx4 hf4
    obtain ⟨S, hS⟩ : ∃ S : Nat → Prop, ∀ k, S k ↔ (k = V ∨ B ≤ k) := ⟨fun k => k = V ∨ B ≤ k, fun _ => Iff.rfl⟩
    have b1 := and15 (v / 256) (by omega) (by omega)
    have b2 := and15 (v / 16) (by omega) (by omega)
    have b3 := and15 v v0 v1
    have i0 := fun w' => hex_idx (v / 4096) d1 d0 w'
    have i1 := fun w' => hex_idx (v / 256 % 16) (by omega) (by omega) w'
    have i2 := fun w' => hex_idx (v / 16 % 16) (by omega) (by omega) w'
    have i3 := fun w' => hex_idx (v % 16) (by omega) (by omega) w'
    have HV := Lib.hid hV5
    have HO := Lib.hid hO5
    have HS := Lib.hid hS5
    have HSS := Lib.hid hS
    clear hV5 hO5 hS5 hS
    refine region_ S (by kernel_rfl) ?_
    refine seg_ [1, 2, 3, 4, 5, 6, 7, 8, 9, 10, 11, 12, 13, 14] 4 _ (by kernel_rfl) (by kernel_rfl) (by kernel_rfl) (by simp only [pickOps, mask, plain, List.getElem?_toArray, List.getElem?_cons_zero, List.getElem?_cons_succ, if_true]; rfl) ?_
    repeat (go_big_quiet_step (fail))
    refine wpQuiet_nil ?_
    clear i0 i1 i2 i3 b1 b2 b3
    have hV_w5 := HV.out
    have hO_w5 := HO.out
    have hS_w5 := HS.out
    have hB_w5 := hB5
    have e0 := hexd_byte d1 d0
    have e1 := hexd_byte (d := v / 256 % 16) (by omega) (by omega)
    have e2 := hexd_byte (d := v / 16 % 16) (by omega) (by omega)
    have e3 := hexd_byte (d := v % 16) (by omega) (by omega)
    clear HV HO HS hB5
    refine fork_ (i := 0) (j := 15) rfl rfl (by kernel_rfl) (by kernel_rfl) (by kernel_rfl) ?_ ?_
    · intro nn
      have hV := Save.drawn S w5 nn
      have hV_w6 : ({ w5 with drawn := nn } : World).heap[V]? = some (.cells #[.slice A2 m.length c2] 25 (0, 0)) := hV_w5
      have hO_w6 : OB { w5 with drawn := nn } B A2 c2 m := ⟨hO_w5.own, hO_w5.bytes⟩
      have hS_w6 : Save (fun k => k = V ∨ B ≤ k) w { w5 with drawn := nn } := hS_w5.trans (Save.drawn _ w5 nn)
      have hB_w6 : B ≤ ({ w5 with drawn := nn } : World).heap.size := hB_w5
      generalize hw : ({ w5 with drawn := nn } : World) = w6 at *
      clear hw hV_w5 hO_w5 hS_w5 hB_w5
      have x6 : w6.cell? ⟨V, 0, none⟩ = some (.slice A2 m.length c2) := (cell_of_row _ _ _ _ _ _ hV_w6).trans rfl
      unfold Oper.does
      go_simp
      clear x6
      refine same_ hV (Save.refl S w6) ?_
      clear hV
      refine callx_ (i := 15) rfl (by kernel_rfl) (by kernel_rfl) ?_
      intro nn2
      have hV := Save.drawn S w6 nn2
      have hV_w6d : ({ w6 with drawn := nn2 } : World).heap[V]? = some (.cells #[.slice A2 m.length c2] 25 (0, 0)) := hV_w6
      have hO_w6d : OB { w6 with drawn := nn2 } B A2 c2 m := ⟨hO_w6.own, hO_w6.bytes⟩
      have hS_w6d : Save (fun k => k = V ∨ B ≤ k) w { w6 with drawn := nn2 } := hS_w6.trans (Save.drawn _ w6 nn2)
      have hB_w6d : B ≤ ({ w6 with drawn := nn2 } : World).heap.size := hB_w6
      generalize hw : ({ w6 with drawn := nn2 } : World) = w6d at *
      clear hw hV_w6 hO_w6 hS_w6 hB_w6
      unfold Oper.does
      go_simp
      have hL : OB (w6d.alloc (.cells #[.int .u8 61, .int .u8 (hexd (v / 4096)), .int .u8 (hexd (v / 256 % 16)), .int .u8 (hexd (v / 16 % 16)), .int .u8 (hexd (v % 16))] 5)) w6d.heap.size (some ⟨w6d.heap.size, 0, none⟩) 5 (61 :: fourB v) :=
        OB.lit w6d (61 :: fourB v) (AllB.cons (by omega) (by omega) (AllB.cons e0.1 e0.2 (AllB.cons e1.1 e1.2 (AllB.cons e2.1 e2.2 (AllB.cons e3.1 e3.2 AllB.nil))))) (by unfold maxLen fourB; simp)
      have hb := (Below.refl w6d.heap.size w6d).alloc (Nat.le_refl _) (.cells #[.int .u8 61, .int .u8 (hexd (v / 4096)), .int .u8 (hexd (v / 256 % 16)), .int .u8 (hexd (v / 16 % 16)), .int .u8 (hexd (v % 16))] 5)
      have hO_w8 := hO_w6d.alloc (.cells #[.int .u8 61, .int .u8 (hexd (v / 4096)), .int .u8 (hexd (v / 256 % 16)), .int .u8 (hexd (v / 16 % 16)), .int .u8 (hexd (v % 16))] 5)
      have hV_w8 := (hb.block V (by have := (Array.getElem?_eq_some_iff.1 hV_w6d).1; omega)).trans hV_w6d
      have hS_w8 := hS_w6d.trans (below_save hb (Nat.le_refl _) _)
      refine same_ hV (below_save hb (Nat.le_refl _) S) ?_
      have hL_w8 := hL.rb
      have hB_w8 : B ≤ (w6d.alloc (.cells #[.int .u8 61, .int .u8 (hexd (v / 4096)), .int .u8 (hexd (v / 256 % 16)), .int .u8 (hexd (v / 16 % 16)), .int .u8 (hexd (v % 16))] 5)).heap.size := Nat.le_trans hB_w6d hb.size
      obtain ⟨G, hG⟩ : ∃ G, w6d.heap.size = G := ⟨_, rfl⟩
      generalize hw : w6d.alloc (.cells #[.int .u8 61, .int .u8 (hexd (v / 4096)), .int .u8 (hexd (v / 256 % 16)), .int .u8 (hexd (v / 16 % 16)), .int .u8 (hexd (v % 16))] 5) = w8 at *
      rw [hG] at hL_w8
      simp only [hG]
      clear hw hL hb hV_w6d hO_w6d hS_w6d hV hG hB_w6d
      refine callx_ (i := 16) rfl (by kernel_rfl) (by kernel_rfl) ?_
      intro nn3
      have hV := Save.drawn S w8 nn3
      have hV_w9 : ({ w8 with drawn := nn3 } : World).heap[V]? = some (.cells #[.slice A2 m.length c2] 25 (0, 0)) := hV_w8
      have hO_w9 : OB { w8 with drawn := nn3 } B A2 c2 m := ⟨hO_w8.own, hO_w8.bytes⟩
      have hS_w9 : Save (fun k => k = V ∨ B ≤ k) w { w8 with drawn := nn3 } := hS_w8.trans (Save.drawn _ w8 nn3)
      have hB_w9 : B ≤ ({ w8 with drawn := nn3 } : World).heap.size := hB_w8
      have hL9 : RB { w8 with drawn := nn3 } ({ w8 with drawn := nn3 } : World).heap.size (some ⟨G, 0, none⟩) 5 (61 :: fourB v) := ⟨hL_w8.le, hL_w8.cap, hL_w8.bytes, hL_w8.at_⟩
      clear hL_w8
      generalize hw : ({ w8 with drawn := nn3 } : World) = w9 at *
      clear hw hV_w8 hO_w8 hS_w8 hB_w8
      obtain ⟨A3, c3, w10, hrun, hO10, hb10, -, -⟩ := run_append_rb w9 25 B _ A2 c2 m hO_w9 _ 5 (61 :: fourB v) hL9 (by simp [fourB]; omega) hB_w9
      have h5 : (61 :: fourB v).length = 5 := rfl
      rw [h5] at hrun
      refine does_append_ob _ _ rfl rfl rfl hrun ?_
      have hV10 := (hb10.block V hVB).trans hV_w9
      have hS10 : Save (fun k => k = V ∨ B ≤ k) w9 w10 := ⟨hb10.os, hb10.tape, hb10.output, hb10.size, fun k hk hs => hb10.block k (by omega)⟩
      refine same_ hV (⟨hb10.os, hb10.tape, hb10.output, hb10.size, fun k hk hs => hb10.block k (Nat.lt_of_not_le (fun h => hs ((HSS.out k).2 (.inr h))))⟩ : Save S w9 w10) ?_
      have hS11 := hS_w9.trans hS10
      clear hV hrun hL9 hV_w9 hO_w9 hS_w9 hb10 hS10 h5
      obtain ⟨q, hq⟩ : ∃ q, m ++ 61 :: fourB v = q := ⟨_, rfl⟩
      rw [hq] at hO10 ⊢
      refine callx_ (i := 17) rfl (by kernel_rfl) (by kernel_rfl) ?_
      intro nn4
      have hV := Save.drawn S w10 nn4
      have hV11 : ({ w10 with drawn := nn4 } : World).heap[V]? = some (.cells #[.slice A2 m.length c2] 25 (0, 0)) := hV10
      have hO11 : OB { w10 with drawn := nn4 } B A3 c3 q := ⟨hO10.own, hO10.bytes⟩
      have hS12 : Save (fun k => k = V ∨ B ≤ k) w { w10 with drawn := nn4 } := hS11.trans (Save.drawn _ w10 nn4)
      generalize hw : ({ w10 with drawn := nn4 } : World) = w11 at *
      clear hw hV10 hO10 hS11
      have x6 : w11.cell? ⟨V, 0, none⟩ = some (.slice A2 m.length c2) := (cell_of_row _ _ _ _ _ _ hV11).trans rfl
      have f6 := frozen_of_row w11 V 0 _ _ hV11
      unfold Oper.does
      go_simp
      clear x6 f6
      refine turn_ (S1 := fun _ => False) hV (save_cell (Save.refl S w11) V 0 (.slice A3 q.length c3) ((HSS.out V).2 (.inl rfl))) (fun k hk h => h.elim) ?_
      have hV12 : (w11.setCell ⟨V, 0, none⟩ (.slice A3 q.length c3)).heap[V]? = some (.cells #[.slice A3 q.length c3] 25 (0, 0)) := by rw [heap_setCell_same w11 V 0 _ _ _ hV11]; rfl
      have hO12 := hO11.other ⟨V, 0, none⟩ (.slice A3 q.length c3) hVB
      have hS13 := save_cell hS12 V 0 (.slice A3 q.length c3) (.inl rfl)
      generalize hw : w11.setCell ⟨V, 0, none⟩ (.slice A3 q.length c3) = w12 at *
      clear hw hV11 hO11 hS12 hV
      refine end_ (by kernel_rfl) ?_
      intro wc sc
      have hb := sc.below (B := w12.heap.size) (Nat.le_refl _) (fun _ h => h.elim)
      have hfin : TellW wc V B q := ⟨A3, c3, (hb.block V (Array.getElem?_eq_some_iff.1 hV12).1).trans hV12, hO12.below hb (Nat.le_refl _)⟩
      have hsav := hS13.trans (⟨sc.os, sc.tape, sc.output, sc.size, fun k hk _ => sc.block k hk (fun h => h)⟩ : Save (fun k => k = V ∨ B ≤ k) w12 wc)
      clear hV12 hO12 hS13 hb sc
      go_wp2_with fail
      go_end0
      exact ⟨rfl, by rw [← HQ.out, hq]; exact hfin, hsav⟩
    · intro nn
      have hV := Save.drawn S w5 nn
      have hV_w5d : ({ w5 with drawn := nn } : World).heap[V]? = some (.cells #[.slice A2 m.length c2] 25 (0, 0)) := hV_w5
      have hO_w5d : OB { w5 with drawn := nn } B A2 c2 m := ⟨hO_w5.own, hO_w5.bytes⟩
      have hS_w5d : Save (fun k => k = V ∨ B ≤ k) w { w5 with drawn := nn } := hS_w5.trans (Save.drawn _ w5 nn)
      have hB_w5d : B ≤ ({ w5 with drawn := nn } : World).heap.size := hB_w5
      generalize hw : ({ w5 with drawn := nn } : World) = w5d at *
      clear hw hV_w5 hO_w5 hS_w5 hB_w5
      unfold Oper.does
      go_simp
      have hL : OB (w5d.alloc (.cells #[.int .u8 61, .int .u8 (hexd (v / 4096)), .int .u8 (hexd (v / 256 % 16)), .int .u8 (hexd (v / 16 % 16)), .int .u8 (hexd (v % 16))] 5)) w5d.heap.size (some ⟨w5d.heap.size, 0, none⟩) 5 (61 :: fourB v) :=
        OB.lit w5d (61 :: fourB v) (AllB.cons (by omega) (by omega) (AllB.cons e0.1 e0.2 (AllB.cons e1.1 e1.2 (AllB.cons e2.1 e2.2 (AllB.cons e3.1 e3.2 AllB.nil))))) (by unfold maxLen fourB; simp)
      have hb := (Below.refl w5d.heap.size w5d).alloc (Nat.le_refl _) (.cells #[.int .u8 61, .int .u8 (hexd (v / 4096)), .int .u8 (hexd (v / 256 % 16)), .int .u8 (hexd (v / 16 % 16)), .int .u8 (hexd (v % 16))] 5)
      have hO_w7 := hO_w5d.alloc (.cells #[.int .u8 61, .int .u8 (hexd (v / 4096)), .int .u8 (hexd (v / 256 % 16)), .int .u8 (hexd (v / 16 % 16)), .int .u8 (hexd (v % 16))] 5)
      have hV_w7 := (hb.block V (by have := (Array.getElem?_eq_some_iff.1 hV_w5d).1; omega)).trans hV_w5d
      have hS_w7 := hS_w5d.trans (below_save hb (Nat.le_refl _) _)
      refine same_ hV (below_save hb (Nat.le_refl _) S) ?_
      have hL_w7 := hL.rb
      have hB_w7 : B ≤ (w5d.alloc (.cells #[.int .u8 61, .int .u8 (hexd (v / 4096)), .int .u8 (hexd (v / 256 % 16)), .int .u8 (hexd (v / 16 % 16)), .int .u8 (hexd (v % 16))] 5)).heap.size := Nat.le_trans hB_w5d hb.size
      obtain ⟨G, hG⟩ : ∃ G, w5d.heap.size = G := ⟨_, rfl⟩
      generalize hw : w5d.alloc (.cells #[.int .u8 61, .int .u8 (hexd (v / 4096)), .int .u8 (hexd (v / 256 % 16)), .int .u8 (hexd (v / 16 % 16)), .int .u8 (hexd (v % 16))] 5) = w7 at *
      rw [hG] at hL_w7
      simp only [hG]
      clear hw hL hb hV_w5d hO_w5d hS_w5d hV hG hB_w5d
      refine callx_ (i := 0) rfl (by kernel_rfl) (by kernel_rfl) ?_
      intro nn2
      have hV := Save.drawn S w7 nn2
      have hV_w8 : ({ w7 with drawn := nn2 } : World).heap[V]? = some (.cells #[.slice A2 m.length c2] 25 (0, 0)) := hV_w7
      have hO_w8 : OB { w7 with drawn := nn2 } B A2 c2 m := ⟨hO_w7.own, hO_w7.bytes⟩
      have hS_w8 : Save (fun k => k = V ∨ B ≤ k) w { w7 with drawn := nn2 } := hS_w7.trans (Save.drawn _ w7 nn2)
      have hB_w8 : B ≤ ({ w7 with drawn := nn2 } : World).heap.size := hB_w7
      have hL_w8 : RB { w7 with drawn := nn2 } ({ w7 with drawn := nn2 } : World).heap.size (some ⟨G, 0, none⟩) 5 (61 :: fourB v) := ⟨hL_w7.le, hL_w7.cap, hL_w7.bytes, hL_w7.at_⟩
      clear hL_w7
      generalize hw : ({ w7 with drawn := nn2 } : World) = w8 at *
      clear hw hV_w7 hO_w7 hS_w7 hB_w7
      have x6 : w8.cell? ⟨V, 0, none⟩ = some (.slice A2 m.length c2) := (cell_of_row _ _ _ _ _ _ hV_w8).trans rfl
      unfold Oper.does
      go_simp
      clear x6
      refine same_ hV (Save.refl S w8) ?_
      clear hV
      refine callx_ (i := 16) rfl (by kernel_rfl) (by kernel_rfl) ?_
      intro nn3
      have hV := Save.drawn S w8 nn3
      have hV_w9 : ({ w8 with drawn := nn3 } : World).heap[V]? = some (.cells #[.slice A2 m.length c2] 25 (0, 0)) := hV_w8
      have hO_w9 : OB { w8 with drawn := nn3 } B A2 c2 m := ⟨hO_w8.own, hO_w8.bytes⟩
      have hS_w9 : Save (fun k => k = V ∨ B ≤ k) w { w8 with drawn := nn3 } := hS_w8.trans (Save.drawn _ w8 nn3)
      have hB_w9 : B ≤ ({ w8 with drawn := nn3 } : World).heap.size := hB_w8
      have hL9 : RB { w8 with drawn := nn3 } ({ w8 with drawn := nn3 } : World).heap.size (some ⟨G, 0, none⟩) 5 (61 :: fourB v) := ⟨hL_w8.le, hL_w8.cap, hL_w8.bytes, hL_w8.at_⟩
      clear hL_w8
      generalize hw : ({ w8 with drawn := nn3 } : World) = w9 at *
      clear hw hV_w8 hO_w8 hS_w8 hB_w8
      obtain ⟨A3, c3, w10, hrun, hO10, hb10, -, -⟩ := run_append_rb w9 25 B _ A2 c2 m hO_w9 _ 5 (61 :: fourB v) hL9 (by simp [fourB]; omega) hB_w9
      have h5 : (61 :: fourB v).length = 5 := rfl
      rw [h5] at hrun
      refine does_append_ob _ _ rfl rfl rfl hrun ?_
      have hV10 := (hb10.block V hVB).trans hV_w9
      have hS10 : Save (fun k => k = V ∨ B ≤ k) w9 w10 := ⟨hb10.os, hb10.tape, hb10.output, hb10.size, fun k hk hs => hb10.block k (by omega)⟩
      refine same_ hV (⟨hb10.os, hb10.tape, hb10.output, hb10.size, fun k hk hs => hb10.block k (Nat.lt_of_not_le (fun h => hs ((HSS.out k).2 (.inr h))))⟩ : Save S w9 w10) ?_
      have hS11 := hS_w9.trans hS10
      clear hV hrun hL9 hV_w9 hO_w9 hS_w9 hb10 hS10 h5
      obtain ⟨q, hq⟩ : ∃ q, m ++ 61 :: fourB v = q := ⟨_, rfl⟩
      rw [hq] at hO10 ⊢
      refine callx_ (i := 17) rfl (by kernel_rfl) (by kernel_rfl) ?_
      intro nn4
      have hV := Save.drawn S w10 nn4
      have hV11 : ({ w10 with drawn := nn4 } : World).heap[V]? = some (.cells #[.slice A2 m.length c2] 25 (0, 0)) := hV10
      have hO11 : OB { w10 with drawn := nn4 } B A3 c3 q := ⟨hO10.own, hO10.bytes⟩
      have hS12 : Save (fun k => k = V ∨ B ≤ k) w { w10 with drawn := nn4 } := hS11.trans (Save.drawn _ w10 nn4)
      generalize hw : ({ w10 with drawn := nn4 } : World) = w11 at *
      clear hw hV10 hO10 hS11
      have x6 : w11.cell? ⟨V, 0, none⟩ = some (.slice A2 m.length c2) := (cell_of_row _ _ _ _ _ _ hV11).trans rfl
      have f6 := frozen_of_row w11 V 0 _ _ hV11
      unfold Oper.does
      go_simp
      clear x6 f6
      refine turn_ (S1 := fun _ => False) hV (save_cell (Save.refl S w11) V 0 (.slice A3 q.length c3) ((HSS.out V).2 (.inl rfl))) (fun k hk h => h.elim) ?_
      have hV12 : (w11.setCell ⟨V, 0, none⟩ (.slice A3 q.length c3)).heap[V]? = some (.cells #[.slice A3 q.length c3] 25 (0, 0)) := by rw [heap_setCell_same w11 V 0 _ _ _ hV11]; rfl
      have hO12 := hO11.other ⟨V, 0, none⟩ (.slice A3 q.length c3) hVB
      have hS13 := save_cell hS12 V 0 (.slice A3 q.length c3) (.inl rfl)
      generalize hw : w11.setCell ⟨V, 0, none⟩ (.slice A3 q.length c3) = w12 at *
      clear hw hV11 hO11 hS12 hV
      refine end_ (by kernel_rfl) ?_
      intro wc sc
      have hb := sc.below (B := w12.heap.size) (Nat.le_refl _) (fun _ h => h.elim)
      have hfin : TellW wc V B q := ⟨A3, c3, (hb.block V (Array.getElem?_eq_some_iff.1 hV12).1).trans hV12, hO12.below hb (Nat.le_refl _)⟩
      have hsav := hS13.trans (⟨sc.os, sc.tape, sc.output, sc.size, fun k hk _ => sc.block k hk (fun h => h)⟩ : Save (fun k => k = V ∨ B ≤ k) w12 wc)
      clear hV12 hO12 hS13 hb sc
      go_wp2_with fail
      go_end0
      exact ⟨rfl, by rw [← HQ.out, hq]; exact hfin, hsav⟩
  · have hp : 0 < l.length := List.length_pos_iff.2 hl0
    have x0 : w.cell? ⟨V, 0, none⟩ = some (.slice A l.length c) := by rw [cell_of_row _ _ _ _ _ _ hV]; rfl
    have HO := Lib.hid hO
    have HV := Lib.hid hV
    have HB := Lib.hid hB
    clear hV hO
    go_enter Try.func62, Try.ntmps62
    go_upto_region 2 with (at_builtin; refine wpList_append_rb _ rfl _ _ rfl B _ _ _ _ l rfl rfl (HO.out.alloc _) _ _ _ [32] rfl rfl (RB.lit1 _ _ (by omega) (by omega)) (by simp; omega) (by simp; omega) ?_; intro A1 c1 w3 hO3 hb3 hne; obtain ⟨l2, hl2⟩ : ∃ l2, l ++ [32] = l2 := ⟨_, rfl⟩; rw [hl2] at hO3 ⊢; have hb0 : Below B w w3 := ((Below.refl B w).alloc HB.out _).trans hb3; have hV3 := (hb0.block V hVB).trans HV.out; have hS3 : Save (fun k => k = V ∨ B ≤ k) w w3 := ⟨hb0.os, hb0.tape, hb0.output, hb0.size, fun k hk hs => hb0.block k (by omega)⟩; have hx3 : w3.cell? ⟨V, 0, none⟩ = some (.slice A l.length c) := (cell_of_row _ _ _ _ _ _ hV3).trans rfl; have hf3 := frozen_of_row w3 V 0 _ _ hV3; clear hb3 hb0 hne)
    generalize hw : w3.setCell ⟨V, 0, none⟩ (.slice A1 l2.length c1) = w3b at *
    have hV3b : w3b.heap[V]? = some (.cells #[.slice A1 l2.length c1] 25 (0, 0)) := by rw [← hw, heap_setCell_same w3 V 0 _ _ _ hV3]; rfl
    have hO3b : OB w3b B A1 c1 l2 := by rw [← hw]; exact hO3.other ⟨V, 0, none⟩ _ hVB
    have hS3b : Save (fun k => k = V ∨ B ≤ k) w w3b := by rw [← hw]; exact save_cell hS3 V 0 _ (.inl rfl)
    have hB3b : B ≤ w3b.heap.size := Nat.le_trans hB hS3b.size
    have hl3 : l2.length ≤ 101 := by rw [← hl2, List.length_append]; simp; omega
    have x0b : w3b.cell? ⟨V, 0, none⟩ = some (.slice A1 l2.length c1) := (cell_of_row _ _ _ _ _ _ hV3b).trans rfl
    clear hw hV3 hO3 hS3 hx3 hf3 x0 HO HV HB
    have HO := Lib.hid hO3b
    have HV := Lib.hid hV3b
    have HSb := Lib.hid hS3b
    clear hO3b hV3b hS3b
    go_upto_region 3 with (at_builtin; refine wpList_append_strob _ rfl _ _ rfl B _ _ _ l2 rfl rfl HO.out nm rfl hn0 (by rw [hn]; omega) hB3b ?_; intro A2 c2 w4 hO4 hb4; obtain ⟨m, hm⟩ : ∃ m, l2 ++ nmB nm = m := ⟨_, rfl⟩; rw [hm] at hO4 ⊢; have hV4 := (hb4.block V hVB).trans HV.out; have hS4 : Save (fun k => k = V ∨ B ≤ k) w w4 := HSb.out.trans ⟨hb4.os, hb4.tape, hb4.output, hb4.size, fun k hk hs => hb4.block k (by omega)⟩; have hx4 : w4.cell? ⟨V, 0, none⟩ = some (.slice A1 l2.length c1) := (cell_of_row _ _ _ _ _ _ hV4).trans rfl; have hf4 := frozen_of_row w4 V 0 _ _ hV4; clear hb4)
    generalize hw5 : w4.setCell ⟨V, 0, none⟩ (.slice A2 m.length c2) = w5 at *
    have hml : m.length ≤ 103 := by rw [← hm, List.length_append, nmB_len, hn]; omega
    have HQ := Lib.hid (show m ++ 61 :: fourB v = tellB l (nmB nm) v by (rw [← hm, ← hl2]; unfold tellB; rw [if_neg hl0]))
    clear hm hl2
    clear x0b
    have hV5 : w5.heap[V]? = some (.cells #[.slice A2 m.length c2] 25 (0, 0)) := by rw [← hw5, heap_setCell_same w4 V 0 _ _ _ hV4]; rfl
    have hO5 : OB w5 B A2 c2 m := by rw [← hw5]; exact hO4.other ⟨V, 0, none⟩ _ hVB
    have hS5 : Save (fun k => k = V ∨ B ≤ k) w w5 := by rw [← hw5]; exact save_cell hS4 V 0 _ (.inl rfl)
    have hB5 : B ≤ w5.heap.size := Nat.le_trans hB hS5.size
    clear hw5 hV4 hO4 hS4 hx4 hf4
    obtain ⟨S, hS⟩ : ∃ S : Nat → Prop, ∀ k, S k ↔ (k = V ∨ B ≤ k) := ⟨fun k => k = V ∨ B ≤ k, fun _ => Iff.rfl⟩
    have b1 := and15 (v / 256) (by omega) (by omega)
    have b2 := and15 (v / 16) (by omega) (by omega)
    have b3 := and15 v v0 v1
    have i0 := fun w' => hex_idx (v / 4096) d1 d0 w'
    have i1 := fun w' => hex_idx (v / 256 % 16) (by omega) (by omega) w'
    have i2 := fun w' => hex_idx (v / 16 % 16) (by omega) (by omega) w'
    have i3 := fun w' => hex_idx (v % 16) (by omega) (by omega) w'
    have HV := Lib.hid hV5
    have HO := Lib.hid hO5
    have HS := Lib.hid hS5
    have HSS := Lib.hid hS
    clear hV5 hO5 hS5 hS
    refine region_ S (by kernel_rfl) ?_
    refine seg_ [1, 2, 3, 4, 5, 6, 7, 8, 9, 10, 11, 12, 13, 14] 4 _ (by kernel_rfl) (by kernel_rfl) (by kernel_rfl) (by simp only [pickOps, mask, plain, List.getElem?_toArray, List.getElem?_cons_zero, List.getElem?_cons_succ, if_true]; rfl) ?_
    repeat (go_big_quiet_step (fail))
    refine wpQuiet_nil ?_
    clear i0 i1 i2 i3 b1 b2 b3
    have hV_w5 := HV.out
    have hO_w5 := HO.out
    have hS_w5 := HS.out
    have hB_w5 := hB5
    have e0 := hexd_byte d1 d0
    have e1 := hexd_byte (d := v / 256 % 16) (by omega) (by omega)
    have e2 := hexd_byte (d := v / 16 % 16) (by omega) (by omega)
    have e3 := hexd_byte (d := v % 16) (by omega) (by omega)
    clear HV HO HS hB5
    refine fork_ (i := 0) (j := 15) rfl rfl (by kernel_rfl) (by kernel_rfl) (by kernel_rfl) ?_ ?_
    · intro nn
      have hV := Save.drawn S w5 nn
      have hV_w6 : ({ w5 with drawn := nn } : World).heap[V]? = some (.cells #[.slice A2 m.length c2] 25 (0, 0)) := hV_w5
      have hO_w6 : OB { w5 with drawn := nn } B A2 c2 m := ⟨hO_w5.own, hO_w5.bytes⟩
      have hS_w6 : Save (fun k => k = V ∨ B ≤ k) w { w5 with drawn := nn } := hS_w5.trans (Save.drawn _ w5 nn)
      have hB_w6 : B ≤ ({ w5 with drawn := nn } : World).heap.size := hB_w5
      generalize hw : ({ w5 with drawn := nn } : World) = w6 at *
      clear hw hV_w5 hO_w5 hS_w5 hB_w5
      have x6 : w6.cell? ⟨V, 0, none⟩ = some (.slice A2 m.length c2) := (cell_of_row _ _ _ _ _ _ hV_w6).trans rfl
      unfold Oper.does
      go_simp
      clear x6
      refine same_ hV (Save.refl S w6) ?_
      clear hV
      refine callx_ (i := 15) rfl (by kernel_rfl) (by kernel_rfl) ?_
      intro nn2
      have hV := Save.drawn S w6 nn2
      have hV_w6d : ({ w6 with drawn := nn2 } : World).heap[V]? = some (.cells #[.slice A2 m.length c2] 25 (0, 0)) := hV_w6
      have hO_w6d : OB { w6 with drawn := nn2 } B A2 c2 m := ⟨hO_w6.own, hO_w6.bytes⟩
      have hS_w6d : Save (fun k => k = V ∨ B ≤ k) w { w6 with drawn := nn2 } := hS_w6.trans (Save.drawn _ w6 nn2)
      have hB_w6d : B ≤ ({ w6 with drawn := nn2 } : World).heap.size := hB_w6
      generalize hw : ({ w6 with drawn := nn2 } : World) = w6d at *
      clear hw hV_w6 hO_w6 hS_w6 hB_w6
      unfold Oper.does
      go_simp
      have hL : OB (w6d.alloc (.cells #[.int .u8 61, .int .u8 (hexd (v / 4096)), .int .u8 (hexd (v / 256 % 16)), .int .u8 (hexd (v / 16 % 16)), .int .u8 (hexd (v % 16))] 5)) w6d.heap.size (some ⟨w6d.heap.size, 0, none⟩) 5 (61 :: fourB v) :=
        OB.lit w6d (61 :: fourB v) (AllB.cons (by omega) (by omega) (AllB.cons e0.1 e0.2 (AllB.cons e1.1 e1.2 (AllB.cons e2.1 e2.2 (AllB.cons e3.1 e3.2 AllB.nil))))) (by unfold maxLen fourB; simp)
      have hb := (Below.refl w6d.heap.size w6d).alloc (Nat.le_refl _) (.cells #[.int .u8 61, .int .u8 (hexd (v / 4096)), .int .u8 (hexd (v / 256 % 16)), .int .u8 (hexd (v / 16 % 16)), .int .u8 (hexd (v % 16))] 5)
      have hO_w8 := hO_w6d.alloc (.cells #[.int .u8 61, .int .u8 (hexd (v / 4096)), .int .u8 (hexd (v / 256 % 16)), .int .u8 (hexd (v / 16 % 16)), .int .u8 (hexd (v % 16))] 5)
      have hV_w8 := (hb.block V (by have := (Array.getElem?_eq_some_iff.1 hV_w6d).1; omega)).trans hV_w6d
      have hS_w8 := hS_w6d.trans (below_save hb (Nat.le_refl _) _)
      refine same_ hV (below_save hb (Nat.le_refl _) S) ?_
      have hL_w8 := hL.rb
      have hB_w8 : B ≤ (w6d.alloc (.cells #[.int .u8 61, .int .u8 (hexd (v / 4096)), .int .u8 (hexd (v / 256 % 16)), .int .u8 (hexd (v / 16 % 16)), .int .u8 (hexd (v % 16))] 5)).heap.size := Nat.le_trans hB_w6d hb.size
      obtain ⟨G, hG⟩ : ∃ G, w6d.heap.size = G := ⟨_, rfl⟩
      generalize hw : w6d.alloc (.cells #[.int .u8 61, .int .u8 (hexd (v / 4096)), .int .u8 (hexd (v / 256 % 16)), .int .u8 (hexd (v / 16 % 16)), .int .u8 (hexd (v % 16))] 5) = w8 at *
      rw [hG] at hL_w8
      simp only [hG]
      clear hw hL hb hV_w6d hO_w6d hS_w6d hV hG hB_w6d
      refine callx_ (i := 16) rfl (by kernel_rfl) (by kernel_rfl) ?_
      intro nn3
      have hV := Save.drawn S w8 nn3
      have hV_w9 : ({ w8 with drawn := nn3 } : World).heap[V]? = some (.cells #[.slice A2 m.length c2] 25 (0, 0)) := hV_w8
      have hO_w9 : OB { w8 with drawn := nn3 } B A2 c2 m := ⟨hO_w8.own, hO_w8.bytes⟩
      have hS_w9 : Save (fun k => k = V ∨ B ≤ k) w { w8 with drawn := nn3 } := hS_w8.trans (Save.drawn _ w8 nn3)
      have hB_w9 : B ≤ ({ w8 with drawn := nn3 } : World).heap.size := hB_w8
      have hL9 : RB { w8 with drawn := nn3 } ({ w8 with drawn := nn3 } : World).heap.size (some ⟨G, 0, none⟩) 5 (61 :: fourB v) := ⟨hL_w8.le, hL_w8.cap, hL_w8.bytes, hL_w8.at_⟩
      clear hL_w8
      generalize hw : ({ w8 with drawn := nn3 } : World) = w9 at *
      clear hw hV_w8 hO_w8 hS_w8 hB_w8
      obtain ⟨A3, c3, w10, hrun, hO10, hb10, -, -⟩ := run_append_rb w9 25 B _ A2 c2 m hO_w9 _ 5 (61 :: fourB v) hL9 (by simp [fourB]; omega) hB_w9
      have h5 : (61 :: fourB v).length = 5 := rfl
      rw [h5] at hrun
      refine does_append_ob _ _ rfl rfl rfl hrun ?_
      have hV10 := (hb10.block V hVB).trans hV_w9
      have hS10 : Save (fun k => k = V ∨ B ≤ k) w9 w10 := ⟨hb10.os, hb10.tape, hb10.output, hb10.size, fun k hk hs => hb10.block k (by omega)⟩
      refine same_ hV (⟨hb10.os, hb10.tape, hb10.output, hb10.size, fun k hk hs => hb10.block k (Nat.lt_of_not_le (fun h => hs ((HSS.out k).2 (.inr h))))⟩ : Save S w9 w10) ?_
      have hS11 := hS_w9.trans hS10
      clear hV hrun hL9 hV_w9 hO_w9 hS_w9 hb10 hS10 h5
      obtain ⟨q, hq⟩ : ∃ q, m ++ 61 :: fourB v = q := ⟨_, rfl⟩
      rw [hq] at hO10 ⊢
      refine callx_ (i := 17) rfl (by kernel_rfl) (by kernel_rfl) ?_
      intro nn4
      have hV := Save.drawn S w10 nn4
      have hV11 : ({ w10 with drawn := nn4 } : World).heap[V]? = some (.cells #[.slice A2 m.length c2] 25 (0, 0)) := hV10
      have hO11 : OB { w10 with drawn := nn4 } B A3 c3 q := ⟨hO10.own, hO10.bytes⟩
      have hS12 : Save (fun k => k = V ∨ B ≤ k) w { w10 with drawn := nn4 } := hS11.trans (Save.drawn _ w10 nn4)
      generalize hw : ({ w10 with drawn := nn4 } : World) = w11 at *
      clear hw hV10 hO10 hS11
      have x6 : w11.cell? ⟨V, 0, none⟩ = some (.slice A2 m.length c2) := (cell_of_row _ _ _ _ _ _ hV11).trans rfl
      have f6 := frozen_of_row w11 V 0 _ _ hV11
      unfold Oper.does
      go_simp
      clear x6 f6
      refine turn_ (S1 := fun _ => False) hV (save_cell (Save.refl S w11) V 0 (.slice A3 q.length c3) ((HSS.out V).2 (.inl rfl))) (fun k hk h => h.elim) ?_
      have hV12 : (w11.setCell ⟨V, 0, none⟩ (.slice A3 q.length c3)).heap[V]? = some (.cells #[.slice A3 q.length c3] 25 (0, 0)) := by rw [heap_setCell_same w11 V 0 _ _ _ hV11]; rfl
      have hO12 := hO11.other ⟨V, 0, none⟩ (.slice A3 q.length c3) hVB
      have hS13 := save_cell hS12 V 0 (.slice A3 q.length c3) (.inl rfl)
      generalize hw : w11.setCell ⟨V, 0, none⟩ (.slice A3 q.length c3) = w12 at *
      clear hw hV11 hO11 hS12 hV
      refine end_ (by kernel_rfl) ?_
      intro wc sc
      have hb := sc.below (B := w12.heap.size) (Nat.le_refl _) (fun _ h => h.elim)
      have hfin : TellW wc V B q := ⟨A3, c3, (hb.block V (Array.getElem?_eq_some_iff.1 hV12).1).trans hV12, hO12.below hb (Nat.le_refl _)⟩
      have hsav := hS13.trans (⟨sc.os, sc.tape, sc.output, sc.size, fun k hk _ => sc.block k hk (fun h => h)⟩ : Save (fun k => k = V ∨ B ≤ k) w12 wc)
      clear hV12 hO12 hS13 hb sc
      go_wp2_with fail
      go_end0
      exact ⟨rfl, by rw [← HQ.out, hq]; exact hfin, hsav⟩
    · intro nn
      have hV := Save.drawn S w5 nn
      have hV_w5d : ({ w5 with drawn := nn } : World).heap[V]? = some (.cells #[.slice A2 m.length c2] 25 (0, 0)) := hV_w5
      have hO_w5d : OB { w5 with drawn := nn } B A2 c2 m := ⟨hO_w5.own, hO_w5.bytes⟩
      have hS_w5d : Save (fun k => k = V ∨ B ≤ k) w { w5 with drawn := nn } := hS_w5.trans (Save.drawn _ w5 nn)
      have hB_w5d : B ≤ ({ w5 with drawn := nn } : World).heap.size := hB_w5
      generalize hw : ({ w5 with drawn := nn } : World) = w5d at *
      clear hw hV_w5 hO_w5 hS_w5 hB_w5
      unfold Oper.does
      go_simp
      have hL : OB (w5d.alloc (.cells #[.int .u8 61, .int .u8 (hexd (v / 4096)), .int .u8 (hexd (v / 256 % 16)), .int .u8 (hexd (v / 16 % 16)), .int .u8 (hexd (v % 16))] 5)) w5d.heap.size (some ⟨w5d.heap.size, 0, none⟩) 5 (61 :: fourB v) :=
        OB.lit w5d (61 :: fourB v) (AllB.cons (by omega) (by omega) (AllB.cons e0.1 e0.2 (AllB.cons e1.1 e1.2 (AllB.cons e2.1 e2.2 (AllB.cons e3.1 e3.2 AllB.nil))))) (by unfold maxLen fourB; simp)
      have hb := (Below.refl w5d.heap.size w5d).alloc (Nat.le_refl _) (.cells #[.int .u8 61, .int .u8 (hexd (v / 4096)), .int .u8 (hexd (v / 256 % 16)), .int .u8 (hexd (v / 16 % 16)), .int .u8 (hexd (v % 16))] 5)
      have hO_w7 := hO_w5d.alloc (.cells #[.int .u8 61, .int .u8 (hexd (v / 4096)), .int .u8 (hexd (v / 256 % 16)), .int .u8 (hexd (v / 16 % 16)), .int .u8 (hexd (v % 16))] 5)
      have hV_w7 := (hb.block V (by have := (Array.getElem?_eq_some_iff.1 hV_w5d).1; omega)).trans hV_w5d
      have hS_w7 := hS_w5d.trans (below_save hb (Nat.le_refl _) _)
      refine same_ hV (below_save hb (Nat.le_refl _) S) ?_
      have hL_w7 := hL.rb
      have hB_w7 : B ≤ (w5d.alloc (.cells #[.int .u8 61, .int .u8 (hexd (v / 4096)), .int .u8 (hexd (v / 256 % 16)), .int .u8 (hexd (v / 16 % 16)), .int .u8 (hexd (v % 16))] 5)).heap.size := Nat.le_trans hB_w5d hb.size
      obtain ⟨G, hG⟩ : ∃ G, w5d.heap.size = G := ⟨_, rfl⟩
      generalize hw : w5d.alloc (.cells #[.int .u8 61, .int .u8 (hexd (v / 4096)), .int .u8 (hexd (v / 256 % 16)), .int .u8 (hexd (v / 16 % 16)), .int .u8 (hexd (v % 16))] 5) = w7 at *
      rw [hG] at hL_w7
      simp only [hG]
      clear hw hL hb hV_w5d hO_w5d hS_w5d hV hG hB_w5d
      refine callx_ (i := 0) rfl (by kernel_rfl) (by kernel_rfl) ?_
      intro nn2
      have hV := Save.drawn S w7 nn2
      have hV_w8 : ({ w7 with drawn := nn2 } : World).heap[V]? = some (.cells #[.slice A2 m.length c2] 25 (0, 0)) := hV_w7
      have hO_w8 : OB { w7 with drawn := nn2 } B A2 c2 m := ⟨hO_w7.own, hO_w7.bytes⟩
      have hS_w8 : Save (fun k => k = V ∨ B ≤ k) w { w7 with drawn := nn2 } := hS_w7.trans (Save.drawn _ w7 nn2)
      have hB_w8 : B ≤ ({ w7 with drawn := nn2 } : World).heap.size := hB_w7
      have hL_w8 : RB { w7 with drawn := nn2 } ({ w7 with drawn := nn2 } : World).heap.size (some ⟨G, 0, none⟩) 5 (61 :: fourB v) := ⟨hL_w7.le, hL_w7.cap, hL_w7.bytes, hL_w7.at_⟩
      clear hL_w7
      generalize hw : ({ w7 with drawn := nn2 } : World) = w8 at *
      clear hw hV_w7 hO_w7 hS_w7 hB_w7
      have x6 : w8.cell? ⟨V, 0, none⟩ = some (.slice A2 m.length c2) := (cell_of_row _ _ _ _ _ _ hV_w8).trans rfl
      unfold Oper.does
      go_simp
      clear x6
      refine same_ hV (Save.refl S w8) ?_
      clear hV
      refine callx_ (i := 16) rfl (by kernel_rfl) (by kernel_rfl) ?_
      intro nn3
      have hV := Save.drawn S w8 nn3
      have hV_w9 : ({ w8 with drawn := nn3 } : World).heap[V]? = some (.cells #[.slice A2 m.length c2] 25 (0, 0)) := hV_w8
      have hO_w9 : OB { w8 with drawn := nn3 } B A2 c2 m := ⟨hO_w8.own, hO_w8.bytes⟩
      have hS_w9 : Save (fun k => k = V ∨ B ≤ k) w { w8 with drawn := nn3 } := hS_w8.trans (Save.drawn _ w8 nn3)
      have hB_w9 : B ≤ ({ w8 with drawn := nn3 } : World).heap.size := hB_w8
      have hL9 : RB { w8 with drawn := nn3 } ({ w8 with drawn := nn3 } : World).heap.size (some ⟨G, 0, none⟩) 5 (61 :: fourB v) := ⟨hL_w8.le, hL_w8.cap, hL_w8.bytes, hL_w8.at_⟩
      clear hL_w8
      generalize hw : ({ w8 with drawn := nn3 } : World) = w9 at *
      clear hw hV_w8 hO_w8 hS_w8 hB_w8
      obtain ⟨A3, c3, w10, hrun, hO10, hb10, -, -⟩ := run_append_rb w9 25 B _ A2 c2 m hO_w9 _ 5 (61 :: fourB v) hL9 (by simp [fourB]; omega) hB_w9
      have h5 : (61 :: fourB v).length = 5 := rfl
      rw [h5] at hrun
      refine does_append_ob _ _ rfl rfl rfl hrun ?_
      have hV10 := (hb10.block V hVB).trans hV_w9
      have hS10 : Save (fun k => k = V ∨ B ≤ k) w9 w10 := ⟨hb10.os, hb10.tape, hb10.output, hb10.size, fun k hk hs => hb10.block k (by omega)⟩
      refine same_ hV (⟨hb10.os, hb10.tape, hb10.output, hb10.size, fun k hk hs => hb10.block k (Nat.lt_of_not_le (fun h => hs ((HSS.out k).2 (.inr h))))⟩ : Save S w9 w10) ?_
      have hS11 := hS_w9.trans hS10
      clear hV hrun hL9 hV_w9 hO_w9 hS_w9 hb10 hS10 h5
      obtain ⟨q, hq⟩ : ∃ q, m ++ 61 :: fourB v = q := ⟨_, rfl⟩
      rw [hq] at hO10 ⊢
      refine callx_ (i := 17) rfl (by kernel_rfl) (by kernel_rfl) ?_
      intro nn4
      have hV := Save.drawn S w10 nn4
      have hV11 : ({ w10 with drawn := nn4 } : World).heap[V]? = some (.cells #[.slice A2 m.length c2] 25 (0, 0)) := hV10
      have hO11 : OB { w10 with drawn := nn4 } B A3 c3 q := ⟨hO10.own, hO10.bytes⟩
      have hS12 : Save (fun k => k = V ∨ B ≤ k) w { w10 with drawn := nn4 } := hS11.trans (Save.drawn _ w10 nn4)
      generalize hw : ({ w10 with drawn := nn4 } : World) = w11 at *
      clear hw hV10 hO10 hS11
      have x6 : w11.cell? ⟨V, 0, none⟩ = some (.slice A2 m.length c2) := (cell_of_row _ _ _ _ _ _ hV11).trans rfl
      have f6 := frozen_of_row w11 V 0 _ _ hV11
      unfold Oper.does
      go_simp
      clear x6 f6
      refine turn_ (S1 := fun _ => False) hV (save_cell (Save.refl S w11) V 0 (.slice A3 q.length c3) ((HSS.out V).2 (.inl rfl))) (fun k hk h => h.elim) ?_
      have hV12 : (w11.setCell ⟨V, 0, none⟩ (.slice A3 q.length c3)).heap[V]? = some (.cells #[.slice A3 q.length c3] 25 (0, 0)) := by rw [heap_setCell_same w11 V 0 _ _ _ hV11]; rfl
      have hO12 := hO11.other ⟨V, 0, none⟩ (.slice A3 q.length c3) hVB
      have hS13 := save_cell hS12 V 0 (.slice A3 q.length c3) (.inl rfl)
      generalize hw : w11.setCell ⟨V, 0, none⟩ (.slice A3 q.length c3) = w12 at *
      clear hw hV11 hO11 hS12 hV
      refine end_ (by kernel_rfl) ?_
      intro wc sc
      have hb := sc.below (B := w12.heap.size) (Nat.le_refl _) (fun _ h => h.elim)
      have hfin : TellW wc V B q := ⟨A3, c3, (hb.block V (Array.getElem?_eq_some_iff.1 hV12).1).trans hV12, hO12.below hb (Nat.le_refl _)⟩
      have hsav := hS13.trans (⟨sc.os, sc.tape, sc.output, sc.size, fun k hk _ => sc.block k hk (fun h => h)⟩ : Save (fun k => k = V ∨ B ≤ k) w12 wc)
      clear hV12 hO12 hS13 hb sc
      go_wp2_with fail
      go_end0
      exact ⟨rfl, by rw [← HQ.out, hq]; exact hfin, hsav⟩


end Go.Proofs.Ytedlfcmlchjjlaa
